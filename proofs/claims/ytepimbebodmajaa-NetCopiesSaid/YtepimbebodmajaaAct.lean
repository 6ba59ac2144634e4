/-
  Layer 9: act of the statements: a call by both: walks. Written by gen_act.py.
-/
import Derived.Test.YtepimbebodmajaaRef2
import Derived.Test.YtepimbebodmajaaCut
import Derived.Test.YtepimbebodmajaaArgs
namespace Go.Proofs.Ytepimbebodmajaa
open Go.RowKit
set_option maxHeartbeats 8000000
set_option linter.unusedVariables false
set_option linter.unusedSimpArgs false

/-- Bytes, however many, are appended to none. -/
theorem run_append_e {w : World} {g : Nat} {vx : Value} {ys : List Int} (hx : NumsIn .u8 w vx ys) (hm : ys.length ≤ 140737488355328) (ty : TypeId) :
    ∃ v' w', (Builtin.append_ #[32, 32] ty #[.slice (some ⟨g, 0, none⟩) 0 0, vx]).run Try.prog w = .ok v' w' ∧ Gs 5 1 w' v' ys.length (bv ys) ∧ Below w.heap.size w w' ∧ (∀ k, blkOf v' = some k → w.heap.size ≤ k) := by
  obtain ⟨i0, hi, hz0, hz1, hz2⟩ := info_parts infoU8
  have hs := hx.src
  rw [← hz1] at hs
  rcases Nat.eq_zero_or_pos ys.length with h0 | h0
  · obtain rfl : ys = [] := List.eq_nil_of_length_eq_zero h0
    have hrun : (Builtin.append_ #[32, 32] ty #[.slice (some ⟨g, 0, none⟩) 0 0, vx]).run Try.prog w = .ok (.slice (some ⟨g, 0, none⟩) 0 0) w := by
      have hk := hs.cells
      simp only [List.length_nil] at hk
      have hn := hs.len
      simp [Builtin.append_, run_underlying Try.underlying32, sizeOf, typeInfo, hi, hn, hk, storeCells, bv]
    exact ⟨_, w, hrun, Gs.empty 5 1 w _, Below.refl _ _, fun k hk => by simp [blkOf] at hk⟩
  · have hold : (Builtin.firstCells i0.size 0 (.slice (some ⟨g, 0, none⟩) 0 0)).run Try.prog w.drew = .ok ([] : List Value).toArray w.drew := run_firstCells_some w.drew i0.size 0 _ 0 0 [] (by simp) (by intro _ _ h'; simp at h')
    have hrun := run_append_grow_src (P := Try.prog) w 32 32 ty 5 i0 (.int .u8 0) Try.underlying32 hi hz0 (some ⟨g, 0, none⟩) 0 0 [] hold vx ys.length (bv ys) hs (by omega) (by omega) (growslice_fits (by omega) (by rw [hz2]; omega))
    simp only [Nat.zero_add] at hrun
    have hge := grownCap_ge w ys.length 0 5
    have hcm := grownCap_le_maxLen w ys.length 0 5 (by unfold maxLen; omega)
    refine ⟨_, _, hrun, ⟨by simp [bv], _, _, rfl, hge, hcm, fun _ => ⟨w.heap.size, 0, _, rfl, blk_new w.drew _ _, ?_, ?_⟩⟩, ((Below.refl _ _).drew).alloc (Nat.le_refl _) _, fun k hk => ?_⟩
    · simp [size_zeroCells, bv_length, Value.cells]; omega
    · simp only [bv, List.drop_zero, Array.toList_append, List.nil_append]
      rw [List.take_append_of_le_length (by simp), List.take_of_length_le (by simp)]
    · unfold blkOf at hk
      simp only at hk
      split at hk
      · cases hk
      · simp at hk; omega
theorem wp_append_e {ops : Array Oper} {rest : List Oper} {o : Oper} {a : Act} {Q : Exit → Act → World → Prop} {w : World} (hgd : o.guard = none) (s x : Operand)
    (ho : o.op = .call { callee := .builtin .append, args := #[s, x], argTypes := #[32, 32] })
    {g : Nat} {vx : Value} {ys : List Int} (hs : a.eval s = .slice (some ⟨g, 0, none⟩) 0 0) (hv : a.eval x = vx) (hx : NumsIn .u8 w vx ys) (hm : ys.length ≤ 140737488355328)
    (hK : ∀ v' w', Gs 5 1 w' v' ys.length (bv ys) → Below w.heap.size w w' → (∀ k, blkOf v' = some k → w.heap.size ≤ k) → wpList Try.prog ops Q rest (a.put o.dst v') w') : wpList Try.prog ops Q (o :: rest) a w := by
  refine wpList_plain hgd fun K hK' => ?_
  obtain ⟨v', w', hrun, r1, r2, r3⟩ := run_append_e (g := g) hx hm o.type
  unfold Oper.wp
  simp [execOp, ho, resolve, invoke, builtin, hs, hv, hrun, Result.andThen]
  exact hK' _ _ (hK v' w' r1 r2 r3)
/-- A net and the document's, apart. -/
structure AB (w : World) (S : Nat) (n : Nt) (cv sv : Value) (cl sl : List Pk) (F : Nat → Prop) : Prop where
  at_ : At w S n F
  r : RvIs w n cv sv cl sl
  sep : ∀ k, F k → ¬ rvG cv sv cl sl k
  ok : n.Ok
  sz : n.sz ≤ 80000
/-- What a call by both makes. -/
structure ActP (w : World) (S : Nat) (n' : Nt) (F F' G G' : Nat → Prop) (pv : Value) (c' : Array Value) (w' : World) : Prop where
  at_ : At w' S n' F'
  rv : Rv w' n' c' G'
  sep : ∀ k, F' k → ¬ G' k
  fF : ∀ k, F' k → F k ∨ w.heap.size ≤ k
  gG : ∀ k, G' k → G k ∨ rdBlk pv = some k ∨ w.heap.size ≤ k
  t : Turned F w w'
def ActC (w : World) (S : Nat) (n' : Nt) (F G : Nat → Prop) (pv : Value) (c' : Array Value) (w' : World) : Prop := ∃ F' G', ActP w S n' F F' G G' pv c' w'
/-- The three boxes: the document's, the call, the result. -/
structure B3 (w : World) (c xc : Array Value) (F : Nat → Prop) (W : World) : Prop where
  a : Rf 28 3 W w.heap.size c
  x : Rf 36 2 W (w.heap.size + 1) xc
  r : Rf 28 3 W (w.heap.size + 1 + 1) zR
  t : Turned F w W
theorem b3_start (w : World) (c xc : Array Value) (F : Nat → Prop) (hc : Ok1 3 c) (hx : Ok1 2 xc) : B3 w c xc F (((w.alloc (.cells c 28)).alloc (.cells xc 36)).alloc (.cells zR 28)) := by
  have h2 := hx.new 36 (w.alloc (.cells c 28))
  have h3 := zR_ok.new 28 ((w.alloc (.cells c 28)).alloc (.cells xc 36))
  simp only [World.size_alloc] at h2 h3
  exact ⟨((hc.new _ _).alloc _).alloc _, h2.alloc _, h3, (((Turned.refl _ _).alloc _).alloc _).alloc _⟩
theorem B3.after {w W W' : World} {c xc : Array Value} {F : Nat → Prop} (h : B3 w c xc F W) (hb : Below W.heap.size W W') : B3 w c xc F W' := ⟨h.a.below hb, h.x.below hb, h.r.below hb, h.t.trans (Turned.of_below hb F) (fun x hx => .inl hx)⟩
theorem B3.turned {w W W' : World} {c xc : Array Value} {F K : Nat → Prop} (h : B3 w c xc F W) (ht : Turned K W W') (hK : ∀ k, K k → F k ∨ w.heap.size + 1 + 1 + 1 ≤ k) (hF : ∀ k, F k → k < w.heap.size) : B3 w c xc F W' :=
  ⟨h.a.turned ht (fun e => by rcases hK _ e with e | e; have := hF _ e; omega; omega), h.x.turned ht (fun e => by rcases hK _ e with e | e; have := hF _ e; omega; omega), h.r.turned ht (fun e => by rcases hK _ e with e | e; have := hF _ e; omega; omega),
    h.t.trans ht (fun k hk => by rcases hK k hk with e | e; exact .inl e; exact .inr (by omega))⟩
theorem B3.lt {w W : World} {c xc : Array Value} {F : Nat → Prop} (h : B3 w c xc F W) : w.heap.size + 1 + 1 < W.heap.size := h.r.lt
theorem wrap_u8 (x : Int) : ∃ y, IntKind.u8.wrap x = y ∧ 0 ≤ y ∧ y < 256 := ⟨IntKind.u8.wrap x, rfl, by rw [IntKind.wrap_u8]; omega, by rw [IntKind.wrap_u8]; omega⟩
/-- A byte of one's own is written. -/
theorem Qs.poke {w : World} {v : Value} {xs : List Int} (h : Qs w v xs) {k : Nat} (hk : k < xs.length) : ∃ g o c, v = .slice (some ⟨g, o, none⟩) xs.length c ∧ blkOf v = some g ∧ w.cell? ⟨g, o + k, none⟩ = some (.int .u8 (at0 xs k)) ∧ w.frozen? ⟨g, o + k, none⟩ = false ∧
    ∀ y : Int, 0 ≤ y ∧ y < 256 → Qs (w.setCell ⟨g, o + k, none⟩ (.int .u8 y)) v (xs.set k y) := by
  obtain ⟨h0, h1, ao, c, rfl, h2, h3, h4⟩ := h
  obtain ⟨g, o, cur, rfl, e2, e3, e4⟩ := h4 (by omega)
  have hb : (bv xs)[k]? = some (.int .u8 (at0 xs k)) := by rw [bv_at, at0_lt hk]; rfl
  refine ⟨g, o, c, rfl, by simp [blkOf]; omega, ?_, e2.frozen _, fun y hy => ⟨h0.set k hy, by simp [bv], _, c, by simp, by simpa using h2, h3, fun hc => ⟨g, o, _, rfl, e2.setCell (o + k) _, by simpa using e3, ?_⟩⟩⟩
  · rw [e2.cell]
    rw [← e4, List.getElem?_take, if_pos (by omega), List.getElem?_drop] at hb
    simpa using hb
  · have e5 : (cur.setIfInBounds (o + k) (.int .u8 y)).toList = cur.toList.set (o + k) (.int .u8 y) := by simp
    rw [e5, List.drop_set, if_neg (by omega), List.take_set, show o + k - o = k by omega]
    have e6 : bv (xs.set k y) = (bv xs).set k (.int .u8 y) := by simp [bv, List.map_set]
    rw [e6, List.length_set, e4]
/-- Behind the writes to one's own bytes. -/
structure Ps (v : Value) (n : Nat) (W0 W : World) : Prop where
  q : ∃ xs, xs.length = n ∧ Qs W v xs
  t : Turned (fun k => blkOf v = some k) W0 W
theorem act_end {w W1 W2 W2' W3 : World} {S : Nat} {n n' : Nt} {cv sv pv : Value} {cl sl : List Pk} {F : Nat → Prop} {c' : Array Value} (h : AB w S n cv sv cl sl F) (sepp : ∀ k, rdBlk pv = some k → k < w.heap.size ∧ ¬ F k)
    (hz1 : w.heap.size ≤ W1.heap.size) (hr : RvC W1 n' (rvG cv sv cl sl) pv c' W2) (hk : ∀ k, (k < w.heap.size ∨ W1.heap.size ≤ k) → k < W2.heap.size → W2'.heap[k]? = W2.heap[k]?) (hz : W2.heap.size ≤ W2'.heap.size) (hc : Chg W2' S n' F W3) (ht : Turned F w W2') :
    ∃ F' G', ActP w S n' F F' (rvG cv sv cl sl) G' pv c' W3 ∧ ∀ k, w.heap.size ≤ k → k < W1.heap.size → ¬ F' k ∧ ¬ G' k := by
  obtain ⟨G', hrv, hg, hb⟩ := hr
  obtain ⟨F', ha, hf, htt⟩ := hc
  have hz2 := hb.size
  have hgc : ∀ k, G' k → k < w.heap.size ∨ W1.heap.size ≤ k := fun k hk => by
    rcases hg k hk with e | e | e
    · exact .inl (h.r.lt k e)
    · exact .inl (sepp k e).1
    · exact .inr e
  have hrv2 := hrv.keep (w' := W2') (fun k hG => hk k (hgc k hG) (hrv.lt k hG))
  refine ⟨F', G', ⟨ha, hrv2.turned htt (fun k hk hF => ?_), fun k hF hG => ?_, fun k hk => ?_, fun k hk => ?_, ht.trans htt (fun x hx => .inl hx)⟩, fun k h1 h2 => ⟨fun hF => ?_, fun hG => ?_⟩⟩
  · rcases hg k hk with e | e | e
    · exact h.sep k hF e
    · exact (sepp k e).2 hF
    · have := h.at_.lt k hF; omega
  · rcases hf k hF with e | e
    · rcases hg k hG with e' | e' | e'
      · exact h.sep k e e'
      · exact (sepp k e').2 e
      · have := h.at_.lt k e; omega
    · have := hrv.lt k hG; omega
  · rcases hf k hk with e | e
    · exact .inl e
    · right; have := ht.size; omega
  · rcases hg k hk with e | e | e
    · exact .inl e
    · exact .inr (.inl e)
    · exact .inr (.inr (by omega))
  · rcases hf k hF with e | e
    · have := h.at_.lt k e; omega
    · omega
  · rcases hgc k hG with e | e <;> omega
theorem ActP.turned {w W W' : World} {S : Nat} {n' : Nt} {F F' G G' : Nat → Prop} {pv : Value} {c' : Array Value} {K : Nat → Prop} (h : ActP w S n' F F' G G' pv c' W) (ht : Turned K W W') (hK : ∀ k, K k → w.heap.size ≤ k ∧ ¬ F' k ∧ ¬ G' k) : ActP w S n' F F' G G' pv c' W' :=
  ⟨h.at_.turned ht (fun k hk e => (hK k e).2.1 hk), h.rv.turned ht (fun k hk e => (hK k e).2.2 hk), h.sep, h.fF, h.gG, h.t.trans ht (fun x hx => .inr (hK x hx).1)⟩
theorem RvC.ok {w w' : World} {n : Nt} {G : Nat → Prop} {pv : Value} {c' : Array Value} (h : RvC w n G pv c' w') : Ok1 3 c' := by
  obtain ⟨G', ⟨cv, sv, cl, sl, rfl, _, hr⟩, _⟩ := h
  exact hr.ok n
theorem RvC.below {w w' : World} {n : Nt} {G : Nat → Prop} {pv : Value} {c' : Array Value} (h : RvC w n G pv c' w') : Below w.heap.size w w' := by
  obtain ⟨G', _, _, hb⟩ := h
  exact hb
/-- The box of the document's new value, the result's box: at the end. -/
structure AcI (N z : Nat) (c' : Array Value) (W : World) : Prop where
  nb : Rf 28 3 W N c'
  r : ∃ c0, Rf 28 3 W (z + 1 + 1) c0
  ne : N ≠ z + 1 + 1
set_option maxRecDepth 100000 in
theorem act0 {w : World} {S : Nat} {n : Nt} {cv sv : Value} {cl sl : List Pk} {F : Nat → Prop} (h : AB w S n cv sv cl sl F) (bv : Value) (b : List Int) (hbv : NumsIn .u8 w bv b) (hbl : b.length ≤ 140737488355328) (sepb : ∀ k, rdBlk bv = some k → ¬ F k) :
    Calls Try.prog 13 #[.pointer (some ⟨S, 0, none⟩), .agg (rcL n cv sv), .agg #[.int .i64 0, bv]] w fun e w' => ∃ c', e = .returned (.tuple #[.agg c', .bool true]) ∧ ActC w S (n.pushed b) F (rvG cv sv cl sl) bv c' w' := by
  have hx1 : Ok1 2 #[.int .i64 0, bv] := ⟨rfl, by simp [hbv.one]; rfl⟩
  have HB0 := Lib.hid (b3_start w (rcL n cv sv) #[.int .i64 0, bv] F (h.r.ok n) hx1)
  have HH := Lib.hid h
  have HBV := Lib.hid hbv
  have HSP := Lib.hid (show ∀ k, rdBlk bv = some k → k < w.heap.size ∧ ¬ F k from fun k hk => ⟨hbv.lt hk, sepb k hk⟩)
  have HOC := Lib.hid (show Ok1 3 (rcL n cv sv) from h.r.ok n)
  have HFl := Lib.hid h.at_.lt
  obtain ⟨W0, hW0⟩ : ∃ W0, ((w.alloc (.cells (rcL n cv sv) 28)).alloc (.cells #[.int .i64 0, bv] 36)).alloc (.cells zR 28) = W0 := ⟨_, rfl⟩
  have hz0 : W0.heap.size = w.heap.size + 1 + 1 + 1 := by rw [← hW0]; simp
  have hbw0 : Below w.heap.size w W0 := by rw [← hW0]; exact (((Below.refl _ _).alloc (Nat.le_refl _) _).alloc (by simp) _).alloc (by simp; omega) _
  have hba : Below W0.heap.size W0 (W0.alloc (.cells #[] 5)) := (Below.refl _ _).alloc (Nat.le_refl _) _
  have HX := Lib.hid ((hbv.below hbw0).below hba)
  have HW0 := Lib.hid hbw0
  have HZ0 := Lib.hid hz0
  obtain ⟨bo, bc, rfl, -, hbm, -⟩ := hbv.form
  unfold maxLen at hbm
  rw [hW0] at HB0
  have HEq := Lib.hid hW0
  subst hW0
  clear h hbv sepb hx1 hbw0 hba hz0
  go_enter Try.func13, Try.ntmps13
  go_wp2_with (at_builtin; refine wp_append_e rfl _ _ rfl rfl rfl HX.out hbl ?_)
  intro v1 w1 hq ht hn
  have hba : Below _ (((w.alloc (.cells (rcL n cv sv) 28)).alloc (.cells #[.int .i64 0, .slice bo b.length bc] 36)).alloc (.cells zR 28)) (_) := (Below.refl _ _).alloc (Nat.le_refl _) (.cells #[] 5)
  have hb1 := hba.trans (ht.mono (by simp))
  have HB1 := Lib.hid (HB0.out.after hb1)
  have HW1 := Lib.hid (HW0.out.trans (hb1.mono HW0.out.size))
  have HQ1 : Hid (Qs w1 v1 b) := ⟨HBV.out.byt, hq⟩
  have HL1 : Hid (∀ k, blkOf v1 = some k → w.heap.size + 1 + 1 + 1 ≤ k) := fun k hk => by
    have e := hn k hk
    have := HZ0.out
    first | omega | (simp at e; omega)
  obtain ⟨ao1, c1, e1, -, -⟩ := HQ1.out.shape
  subst e1
  clear hq ht hn hba hb1 HX HB0 HW0 HEq HZ0
  have hbn : Below w1.heap.size w1 (w1.alloc (.cells (rcL n cv sv) 28)) := (Below.refl _ _).alloc (Nat.le_refl _) _
  have HB2 := Lib.hid (HB1.out.after hbn)
  have HW2 := Lib.hid (HW1.out.trans (hbn.mono HW1.out.size))
  have HN2 := Lib.hid (HOC.out.new 28 w1)
  have HQ2 := Lib.hid (HQ1.out.below hbn)
  have k0 := HB2.out.x.cell 0
  have k1 := HB2.out.x.cell 1
  simp only [List.getElem?_toArray, List.getElem?_cons_zero, List.getElem?_cons_succ] at k0 k1
  have HRN := Lib.hid (show zR.size = 3 ∧ Ok1 3 (rcL n cv sv) from ⟨rfl, HOC.out⟩)
  clear hbn
  go_wp2_with (first | ((with_reducible apply wp_load_R rowR); (exact HB1.out.a); (rfl)) | ((with_reducible apply wp_load_R rowR); (exact HB2.out.a); (rfl)) | ((with_reducible apply wp_store_Rn _ rowR); (exact HRN.out); (rfl); (rfl)))
  refine (RPush_any (HH.out.r.below HW2.out) HH.out.ok (by have := HH.out.sz; omega) _ b (HBV.out.below HW2.out)).mono ?_
  rintro e w2 ⟨c', rfl, hr⟩
  have HR := Lib.hid hr
  have HOk := Lib.hid hr.ok
  have hb2 := hr.below
  have HW3 := Lib.hid (HW2.out.trans (hb2.mono HW2.out.size))
  have HSt := Lib.hid (show Rf 28 3 w2 w1.heap.size (rcL n cv sv) ∧ Ok1 3 c' from ⟨HN2.out.below hb2, hr.ok⟩)
  have hzN : w.heap.size + 1 + 1 < w1.heap.size := HB1.out.lt
  have hz12 : w1.heap.size + 1 ≤ w2.heap.size := by have := hb2.size; simpa using this
  have tN : Turned (fun k => k = w1.heap.size) w2 (w2.setRow w1.heap.size c') := turned_setRow _ _ _
  have HBl := Lib.hid (show Below w.heap.size w (w2.setRow w1.heap.size c') from below_setRow HW3.out (by omega) _)
  have HAt := Lib.hid (HH.out.at_.below HBl.out)
  have HB3 := Lib.hid (((HB2.out.after hb2).turned tN (fun k hk => by omega) HFl.out))
  have HQ3 := Lib.hid ((HQ2.out.below hb2).turned tN (fun k hk e => by have := HQ1.out.lt hk; omega))
  have HN3 := Lib.hid (HSt.out.1.set HSt.out.2)
  have HKp : Hid (∀ k, (k < w.heap.size ∨ (w1.alloc (.cells (rcL n cv sv) 28)).heap.size ≤ k) → k < w2.heap.size → (w2.setRow w1.heap.size c').heap[k]? = w2.heap[k]?) := fun k hk _ => setRow_other _ _ _ _ (by simp at hk; omega)
  have HZs : Hid (w2.heap.size ≤ (w2.setRow w1.heap.size c').heap.size) := by show _ ≤ _; simp
  clear hr hb2 tN HB1 HB2 HQ2 HN2 k0 k1 HRN
  go_wp2_with ((with_reducible apply wp_store_R _ rowR); (exact HSt.out); (rfl); (rfl))
  generalize w2.setRow w1.heap.size c' = w2' at *
  refine (Push_any HAt.out HH.out.ok (by have := HH.out.sz; omega) _ b HQ3.out.nums).mono ?_
  rintro e w3 ⟨rfl, hc⟩
  obtain ⟨F', G', hact, hfree⟩ := act_end HH.out HSP.out (by simp; omega) HR.out HKp.out HZs.out hc (Turned.of_below HBl.out F)
  have HAct := Lib.hid hact
  have HFr := Lib.hid hfree
  obtain ⟨F2, -, -, htt⟩ := hc
  have HB4 := Lib.hid (HB3.out.turned htt (fun k hk => .inl hk) HFl.out)
  have hvF : ∀ k, blkOf (.slice ao1 b.length c1) = some k → ¬ F k := fun k hk hF => by have := HL1.out k hk; have := HFl.out k hF; omega
  have hq4 := HQ3.out.turned htt hvF
  have HN4 := Lib.hid (HN3.out.turned htt (fun hF => by have := HFl.out _ hF; omega))
  have hcv1 := str_conv hq4.nums
  have hcv2 := str_conv (((HBV.out.below HBl.out)).turned htt (fun k hk => (HSP.out k hk).2))
  have hse : ((strOfNums b).toList == (strOfNums b).toList) = true := by simp
  have k1 := HB4.out.x.cell 1
  simp only [List.getElem?_toArray, List.getElem?_cons_zero, List.getElem?_cons_succ] at k1
  have HP0 : Hid (Ps (.slice ao1 b.length c1) b.length w3 w3) := ⟨⟨b, rfl, hq4⟩, Turned.refl _ _⟩
  clear hact hfree htt hvF hq4 HB3 HQ3 HN3 HAt HSt HR HKp HZs
  go_wp2
  go_loopw [17] (fun q wr => ∃ k : Nat, k ≤ b.length ∧ q = .int .i64 (k : Int) ∧ Hid (Ps (.slice ao1 b.length c1) b.length w3 wr)) (fun q _ => b.length + 1 - (intOf q).toNat)
  case atStart => exact ⟨0, by omega, rfl, HP0.out⟩
  case round =>
    obtain ⟨k, hk, rfl, HPs⟩ := hrel
    clear hcv1 hcv2 hse k1
    by_cases hlt : k < b.length
    · obtain ⟨⟨xs, hxl, hq⟩, ht⟩ := HPs.out
      obtain ⟨g, o, c, e, hbk, r1, f1, hpoke⟩ := hq.poke (k := k) (by omega)
      rw [hxl] at e
      simp at e
      obtain ⟨rfl, rfl⟩ := e
      have hi : (k : Int) < (b.length : Int) := by omega
      generalize at0 xs k = x at r1
      obtain ⟨y, hy, hy0, hy1⟩ := wrap_u8 (x + 1)
      have HP1 : Hid (Ps (.slice (some ⟨g, o, none⟩) b.length c1) b.length w3 (wr.setCell ⟨g, o + k, none⟩ (.int .u8 y))) := ⟨⟨_, by simpa using hxl, hpoke y ⟨hy0, hy1⟩⟩, ht.setCell (.inl hbk) _⟩
      clear hq ht hpoke hbk hxl HPs
      go_wp2
      go_roundw
      case rel => exact ⟨k + 1, by omega, by go_num, HP1.out⟩
      case measure => simp [intOf]; omega
    · obtain rfl : k = b.length := by omega
      have hnF : ∀ k, blkOf (.slice ao1 b.length c1) = some k → w.heap.size + 1 + 1 + 1 ≤ k ∧ k < w1.heap.size ∧ ¬ F' k ∧ ¬ G' k := fun k hk => by
        have h1 := HL1.out k hk
        have h2 := HQ1.out.lt hk
        have := HFr.out k (by omega) (by simp; omega)
        exact ⟨h1, h2, this.1, this.2⟩
      have HAct2 := Lib.hid (HAct.out.turned HPs.out.t (fun k hk => ⟨by have := (hnF k hk).1; omega, (hnF k hk).2.2⟩))
      have HK : Hid (AcI w1.heap.size w.heap.size c' wr.drew) := ⟨(HN4.out.turned HPs.out.t (fun hk => by have := (hnF _ hk).2.1; omega)).drew, ⟨_, (HB4.out.r.turned HPs.out.t (fun hk => by have := (hnF _ hk).1; omega)).drew⟩, by omega⟩
      have hnz := HFr.out (w.heap.size + 1 + 1) (by omega) (by simp; omega)
      have HE := Lib.hid (show ActC w S (n.pushed b) F (rvG cv sv cl sl) (.slice bo b.length bc) c' (wr.drew.setRow (w.heap.size + 1 + 1) c') from ⟨F', G', (HAct2.out.turned (Turned.refl (fun _ => False) wr).drew (fun _ h => h.elim)).turned (turned_setRow wr.drew (w.heap.size + 1 + 1) c') (fun k hk => by subst hk; exact ⟨by omega, hnz⟩)⟩)
      clear hnF hnz HAct HAct2 HFr HPs HB4 HN4 HP0
      go_wp2
      have hK0 := HK.out
      refine wp_region_held_drew (S := AcI w1.heap.size w.heap.size c') (by kernel_rfl) hK0 (fun _ => ?_)
      have hS := hK0
      refine take_d (i := 0) (d := some 87) (v := .agg c') rfl rfl (by kernel_rfl) (by kernel_rfl) (by kernel_rfl) (fun _ _ _ h => h) (y_R rowR (by kernel_rfl) rfl rfl (fun W hW => hW.nb)) hS ?_
      try simp only [Act.put, List.setIfInBounds_toArray, List.set_cons_zero, List.set_cons_succ]
      refine take_d (i := 1) (d := some 88) (v := ?_) rfl rfl (by kernel_rfl) (by kernel_rfl) (by kernel_rfl) (fun _ _ _ h => h) (.inl ⟨by rfl, ?_⟩) hS ?_
      rotate_left
      · intro W hW
        go_simp
        try with_reducible rfl
      try simp only [Act.put, List.setIfInBounds_toArray, List.set_cons_zero, List.set_cons_succ]
      refine take_d (i := 2) (d := some 89) (v := ?_) rfl rfl (by kernel_rfl) (by kernel_rfl) (by kernel_rfl) (fun _ _ _ h => h) (.inl ⟨by rfl, ?_⟩) hS ?_
      rotate_left
      · intro W hW
        go_simp
        try with_reducible rfl
      try simp only [Act.put, List.setIfInBounds_toArray, List.set_cons_zero, List.set_cons_succ]
      refine take_d (i := 3) (d := some 90) (v := ?_) rfl rfl (by kernel_rfl) (by kernel_rfl) (by kernel_rfl) (fun _ _ _ h => h) (.inl ⟨by rfl, ?_⟩) hS ?_
      rotate_left
      · intro W hW
        go_simp
        try with_reducible rfl
      try simp only [Act.put, List.setIfInBounds_toArray, List.set_cons_zero, List.set_cons_succ]
      refine take_d (i := 4) (d := some 91) (v := ?_) rfl rfl (by kernel_rfl) (by kernel_rfl) (by kernel_rfl) (fun _ _ _ h => h) (.inl ⟨by rfl, ?_⟩) hS ?_
      rotate_left
      · intro W hW
        go_simp
        try with_reducible rfl
      try simp only [Act.put, List.setIfInBounds_toArray, List.set_cons_zero, List.set_cons_succ]
      refine take_d (i := 5) (d := some 92) (v := ?_) rfl rfl (by kernel_rfl) (by kernel_rfl) (by kernel_rfl) (fun _ _ _ h => h) (.inl ⟨by rfl, ?_⟩) hS ?_
      rotate_left
      · intro W hW
        go_simp
        try with_reducible rfl
      try simp only [Act.put, List.setIfInBounds_toArray, List.set_cons_zero, List.set_cons_succ]
      refine take_d (i := 7) (d := some 94) (v := ?_) rfl rfl (by kernel_rfl) (by kernel_rfl) (by kernel_rfl) (fun _ _ _ h => h) (.inl ⟨by rfl, ?_⟩) hS ?_
      rotate_left
      · intro W hW
        go_simp
        try with_reducible rfl
      try simp only [Act.put, List.setIfInBounds_toArray, List.set_cons_zero, List.set_cons_succ]
      refine wpAnyH_all (rs := [6]) (by kernel_rfl) (by simp) (fun i hi => ?_)
      simp only [List.mem_cons, List.not_mem_nil, or_false] at hi
      subst hi
      refine .inl ?_
      go_simp
      refine (num_any _ _).mono ?_
      rintro e wc ⟨rfl, rfl⟩
      refine ⟨hS, ?_⟩
      try simp only [Act.put, List.setIfInBounds_toArray, List.set_cons_zero, List.set_cons_succ]
      refine take_d (i := 8) (d := some 95) (v := ?_) rfl rfl (by kernel_rfl) (by kernel_rfl) (by kernel_rfl) (fun _ _ _ h => h) (.inl ⟨by rfl, ?_⟩) hS ?_
      rotate_left
      · intro W hW
        go_simp
        try with_reducible rfl
      try simp only [Act.put, List.setIfInBounds_toArray, List.set_cons_zero, List.set_cons_succ]
      refine take_d (i := 9) (d := some 96) (v := ?_) rfl rfl (by kernel_rfl) (by kernel_rfl) (by kernel_rfl) (fun _ _ _ h => h) (.inl ⟨by rfl, ?_⟩) hS ?_
      rotate_left
      · intro W hW
        go_simp
        try with_reducible rfl
      try simp only [Act.put, List.setIfInBounds_toArray, List.set_cons_zero, List.set_cons_succ]
      refine take_d (i := 10) (d := some 97) (v := ?_) rfl rfl (by kernel_rfl) (by kernel_rfl) (by kernel_rfl) (fun _ _ _ h => h) (.inl ⟨by rfl, ?_⟩) hS ?_
      rotate_left
      · intro W hW
        go_simp
        try with_reducible rfl
      try simp only [Act.put, List.setIfInBounds_toArray, List.set_cons_zero, List.set_cons_succ]
      refine take_d (i := 11) (d := some 98) (v := ?_) rfl rfl (by kernel_rfl) (by kernel_rfl) (by kernel_rfl) (fun _ _ _ h => h) (.inl ⟨by rfl, ?_⟩) hS ?_
      rotate_left
      · intro W hW
        go_simp
        try with_reducible rfl
      try simp only [Act.put, List.setIfInBounds_toArray, List.set_cons_zero, List.set_cons_succ]
      refine take_d (i := 12) (d := some 99) (v := ?_) rfl rfl (by kernel_rfl) (by kernel_rfl) (by kernel_rfl) (fun _ _ _ h => h) (.inl ⟨by rfl, ?_⟩) hS ?_
      rotate_left
      · intro W hW
        go_simp
        try with_reducible rfl
      try simp only [Act.put, List.setIfInBounds_toArray, List.set_cons_zero, List.set_cons_succ]
      refine wpAnyH_all (rs := [13]) (by kernel_rfl) (by simp) (fun i hi => ?_)
      simp only [List.mem_cons, List.not_mem_nil, or_false] at hi
      subst hi
      refine .inl ?_
      obtain ⟨c0, hr⟩ := hS.r
      refine o_store_R (d := none) rfl c' rowR hr HOk.out rfl rfl rfl ?_
      have hres := hr.set HOk.out
      have hS2 : AcI w1.heap.size w.heap.size c' (wr.drew.setRow (w.heap.size + 1 + 1) c') := ⟨hS.nb.setOther hS.ne _, ⟨_, hres⟩, hS.ne⟩
      refine ⟨hS2, ?_⟩
      have hS := hS2
      try simp only [Act.put, List.setIfInBounds_toArray, List.set_cons_zero, List.set_cons_succ]
      refine take_d (i := 14) (d := some 7) (v := ?_) rfl rfl (by kernel_rfl) (by kernel_rfl) (by kernel_rfl) (fun _ _ _ h => h) (.inl ⟨by rfl, ?_⟩) hS ?_
      rotate_left
      · intro W hW
        go_simp
        try with_reducible rfl
      try simp only [Act.put, List.setIfInBounds_toArray, List.set_cons_zero, List.set_cons_succ]
      refine wpAnyH_done (by kernel_rfl) ?_ _
      have HRes := Lib.hid hres
      clear hS hK0 HK hres
      go_wp2
      refine bodyPost_ret (res_R_tmp rowR (fn := Try.f13) rfl _ HRes.out rfl) rfl ⟨c', by first | rfl | (simp; done), HE.out⟩
set_option maxRecDepth 100000 in
theorem act2 {w : World} {S : Nat} {n : Nt} {cv sv : Value} {cl sl : List Pk} {F : Nat → Prop} (h : AB w S n cv sv cl sl F) (k : Int) (hk0 : ¬ k = 0) (hk1 : ¬ k = 1) (bv : Value) (b : List Int) (hbv : NumsIn .u8 w bv b) (hbl : b.length ≤ 140737488355328) (sepb : ∀ k, rdBlk bv = some k → ¬ F k) :
    Calls Try.prog 13 #[.pointer (some ⟨S, 0, none⟩), .agg (rcL n cv sv), .agg #[.int .i64 k, bv]] w fun e w' => ∃ c', e = .returned (.tuple #[.agg c', .bool true]) ∧ ActC w S (n.sent b) F (rvG cv sv cl sl) bv c' w' := by
  have hx1 : Ok1 2 #[.int .i64 k, bv] := ⟨rfl, by simp [hbv.one]; rfl⟩
  have HB0 := Lib.hid (b3_start w (rcL n cv sv) #[.int .i64 k, bv] F (h.r.ok n) hx1)
  have HH := Lib.hid h
  have HBV := Lib.hid hbv
  have HSP := Lib.hid (show ∀ k, rdBlk bv = some k → k < w.heap.size ∧ ¬ F k from fun k hk => ⟨hbv.lt hk, sepb k hk⟩)
  have HOC := Lib.hid (show Ok1 3 (rcL n cv sv) from h.r.ok n)
  have HFl := Lib.hid h.at_.lt
  obtain ⟨W0, hW0⟩ : ∃ W0, ((w.alloc (.cells (rcL n cv sv) 28)).alloc (.cells #[.int .i64 k, bv] 36)).alloc (.cells zR 28) = W0 := ⟨_, rfl⟩
  have hz0 : W0.heap.size = w.heap.size + 1 + 1 + 1 := by rw [← hW0]; simp
  have hbw0 : Below w.heap.size w W0 := by rw [← hW0]; exact (((Below.refl _ _).alloc (Nat.le_refl _) _).alloc (by simp) _).alloc (by simp; omega) _
  have hba : Below W0.heap.size W0 (W0.alloc (.cells #[] 5)) := (Below.refl _ _).alloc (Nat.le_refl _) _
  have HX := Lib.hid ((hbv.below hbw0).below hba)
  have HW0 := Lib.hid hbw0
  have HZ0 := Lib.hid hz0
  obtain ⟨bo, bc, rfl, -, hbm, -⟩ := hbv.form
  unfold maxLen at hbm
  rw [hW0] at HB0
  have HEq := Lib.hid hW0
  subst hW0
  clear h hbv sepb hx1 hbw0 hba hz0
  go_enter Try.func13, Try.ntmps13
  go_wp2_with (at_builtin; refine wp_append_e rfl _ _ rfl rfl rfl HX.out hbl ?_)
  intro v1 w1 hq ht hn
  have hba : Below _ (((w.alloc (.cells (rcL n cv sv) 28)).alloc (.cells #[.int .i64 k, .slice bo b.length bc] 36)).alloc (.cells zR 28)) (_) := (Below.refl _ _).alloc (Nat.le_refl _) (.cells #[] 5)
  have hb1 := hba.trans (ht.mono (by simp))
  have HB1 := Lib.hid (HB0.out.after hb1)
  have HW1 := Lib.hid (HW0.out.trans (hb1.mono HW0.out.size))
  have HQ1 : Hid (Qs w1 v1 b) := ⟨HBV.out.byt, hq⟩
  have HL1 : Hid (∀ k, blkOf v1 = some k → w.heap.size + 1 + 1 + 1 ≤ k) := fun k hk => by
    have e := hn k hk
    have := HZ0.out
    first | omega | (simp at e; omega)
  obtain ⟨ao1, c1, e1, -, -⟩ := HQ1.out.shape
  subst e1
  clear hq ht hn hba hb1 HX HB0 HW0 HEq HZ0
  have hbn : Below w1.heap.size w1 (w1.alloc (.cells (rcL n cv sv) 28)) := (Below.refl _ _).alloc (Nat.le_refl _) _
  have HB2 := Lib.hid (HB1.out.after hbn)
  have HW2 := Lib.hid (HW1.out.trans (hbn.mono HW1.out.size))
  have HN2 := Lib.hid (HOC.out.new 28 w1)
  have HQ2 := Lib.hid (HQ1.out.below hbn)
  have k0 := HB2.out.x.cell 0
  have k1 := HB2.out.x.cell 1
  simp only [List.getElem?_toArray, List.getElem?_cons_zero, List.getElem?_cons_succ] at k0 k1
  have HRN := Lib.hid (show zR.size = 3 ∧ Ok1 3 (rcL n cv sv) from ⟨rfl, HOC.out⟩)
  clear hbn
  go_wp2_with (first | ((with_reducible apply wp_load_R rowR); (exact HB1.out.a); (rfl)) | ((with_reducible apply wp_load_R rowR); (exact HB2.out.a); (rfl)) | ((with_reducible apply wp_store_Rn _ rowR); (exact HRN.out); (rfl); (rfl)))
  refine (RSend_any (HH.out.r.below HW2.out) HH.out.ok (by have := HH.out.sz; omega) _ b (HBV.out.below HW2.out)).mono ?_
  rintro e w2 ⟨c', rfl, hr⟩
  have HR := Lib.hid hr
  have HOk := Lib.hid hr.ok
  have hb2 := hr.below
  have HW3 := Lib.hid (HW2.out.trans (hb2.mono HW2.out.size))
  have HSt := Lib.hid (show Rf 28 3 w2 w1.heap.size (rcL n cv sv) ∧ Ok1 3 c' from ⟨HN2.out.below hb2, hr.ok⟩)
  have hzN : w.heap.size + 1 + 1 < w1.heap.size := HB1.out.lt
  have hz12 : w1.heap.size + 1 ≤ w2.heap.size := by have := hb2.size; simpa using this
  have tN : Turned (fun k => k = w1.heap.size) w2 (w2.setRow w1.heap.size c') := turned_setRow _ _ _
  have HBl := Lib.hid (show Below w.heap.size w (w2.setRow w1.heap.size c') from below_setRow HW3.out (by omega) _)
  have HAt := Lib.hid (HH.out.at_.below HBl.out)
  have HB3 := Lib.hid (((HB2.out.after hb2).turned tN (fun k hk => by omega) HFl.out))
  have HQ3 := Lib.hid ((HQ2.out.below hb2).turned tN (fun k hk e => by have := HQ1.out.lt hk; omega))
  have HN3 := Lib.hid (HSt.out.1.set HSt.out.2)
  have HKp : Hid (∀ k, (k < w.heap.size ∨ (w1.alloc (.cells (rcL n cv sv) 28)).heap.size ≤ k) → k < w2.heap.size → (w2.setRow w1.heap.size c').heap[k]? = w2.heap[k]?) := fun k hk _ => setRow_other _ _ _ _ (by simp at hk; omega)
  have HZs : Hid (w2.heap.size ≤ (w2.setRow w1.heap.size c').heap.size) := by show _ ≤ _; simp
  clear hr hb2 tN HB1 HB2 HQ2 HN2 k0 k1 HRN
  go_wp2_with ((with_reducible apply wp_store_R _ rowR); (exact HSt.out); (rfl); (rfl))
  generalize w2.setRow w1.heap.size c' = w2' at *
  refine (Send_any HAt.out HH.out.ok (by have := HH.out.sz; omega) _ b HQ3.out.nums).mono ?_
  rintro e w3 ⟨rfl, hc⟩
  obtain ⟨F', G', hact, hfree⟩ := act_end HH.out HSP.out (by simp; omega) HR.out HKp.out HZs.out hc (Turned.of_below HBl.out F)
  have HAct := Lib.hid hact
  have HFr := Lib.hid hfree
  obtain ⟨F2, -, -, htt⟩ := hc
  have HB4 := Lib.hid (HB3.out.turned htt (fun k hk => .inl hk) HFl.out)
  have hvF : ∀ k, blkOf (.slice ao1 b.length c1) = some k → ¬ F k := fun k hk hF => by have := HL1.out k hk; have := HFl.out k hF; omega
  have hq4 := HQ3.out.turned htt hvF
  have HN4 := Lib.hid (HN3.out.turned htt (fun hF => by have := HFl.out _ hF; omega))
  have hcv1 := str_conv hq4.nums
  have hcv2 := str_conv (((HBV.out.below HBl.out)).turned htt (fun k hk => (HSP.out k hk).2))
  have hse : ((strOfNums b).toList == (strOfNums b).toList) = true := by simp
  have k1 := HB4.out.x.cell 1
  simp only [List.getElem?_toArray, List.getElem?_cons_zero, List.getElem?_cons_succ] at k1
  have HP0 : Hid (Ps (.slice ao1 b.length c1) b.length w3 w3) := ⟨⟨b, rfl, hq4⟩, Turned.refl _ _⟩
  clear hact hfree htt hvF hq4 HB3 HQ3 HN3 HAt HSt HR HKp HZs
  go_wp2
  go_loopw [17] (fun q wr => ∃ k : Nat, k ≤ b.length ∧ q = .int .i64 (k : Int) ∧ Hid (Ps (.slice ao1 b.length c1) b.length w3 wr)) (fun q _ => b.length + 1 - (intOf q).toNat)
  case atStart => exact ⟨0, by omega, rfl, HP0.out⟩
  case round =>
    obtain ⟨k, hk, rfl, HPs⟩ := hrel
    clear hcv1 hcv2 hse k1
    by_cases hlt : k < b.length
    · obtain ⟨⟨xs, hxl, hq⟩, ht⟩ := HPs.out
      obtain ⟨g, o, c, e, hbk, r1, f1, hpoke⟩ := hq.poke (k := k) (by omega)
      rw [hxl] at e
      simp at e
      obtain ⟨rfl, rfl⟩ := e
      have hi : (k : Int) < (b.length : Int) := by omega
      generalize at0 xs k = x at r1
      obtain ⟨y, hy, hy0, hy1⟩ := wrap_u8 (x + 1)
      have HP1 : Hid (Ps (.slice (some ⟨g, o, none⟩) b.length c1) b.length w3 (wr.setCell ⟨g, o + k, none⟩ (.int .u8 y))) := ⟨⟨_, by simpa using hxl, hpoke y ⟨hy0, hy1⟩⟩, ht.setCell (.inl hbk) _⟩
      clear hq ht hpoke hbk hxl HPs
      go_wp2
      go_roundw
      case rel => exact ⟨k + 1, by omega, by go_num, HP1.out⟩
      case measure => simp [intOf]; omega
    · obtain rfl : k = b.length := by omega
      have hnF : ∀ k, blkOf (.slice ao1 b.length c1) = some k → w.heap.size + 1 + 1 + 1 ≤ k ∧ k < w1.heap.size ∧ ¬ F' k ∧ ¬ G' k := fun k hk => by
        have h1 := HL1.out k hk
        have h2 := HQ1.out.lt hk
        have := HFr.out k (by omega) (by simp; omega)
        exact ⟨h1, h2, this.1, this.2⟩
      have HAct2 := Lib.hid (HAct.out.turned HPs.out.t (fun k hk => ⟨by have := (hnF k hk).1; omega, (hnF k hk).2.2⟩))
      have HK : Hid (AcI w1.heap.size w.heap.size c' wr.drew) := ⟨(HN4.out.turned HPs.out.t (fun hk => by have := (hnF _ hk).2.1; omega)).drew, ⟨_, (HB4.out.r.turned HPs.out.t (fun hk => by have := (hnF _ hk).1; omega)).drew⟩, by omega⟩
      have hnz := HFr.out (w.heap.size + 1 + 1) (by omega) (by simp; omega)
      have HE := Lib.hid (show ActC w S (n.sent b) F (rvG cv sv cl sl) (.slice bo b.length bc) c' (wr.drew.setRow (w.heap.size + 1 + 1) c') from ⟨F', G', (HAct2.out.turned (Turned.refl (fun _ => False) wr).drew (fun _ h => h.elim)).turned (turned_setRow wr.drew (w.heap.size + 1 + 1) c') (fun k hk => by subst hk; exact ⟨by omega, hnz⟩)⟩)
      clear hnF hnz HAct HAct2 HFr HPs HB4 HN4 HP0
      go_wp2
      have hK0 := HK.out
      refine wp_region_held_drew (S := AcI w1.heap.size w.heap.size c') (by kernel_rfl) hK0 (fun _ => ?_)
      have hS := hK0
      refine take_d (i := 0) (d := some 87) (v := .agg c') rfl rfl (by kernel_rfl) (by kernel_rfl) (by kernel_rfl) (fun _ _ _ h => h) (y_R rowR (by kernel_rfl) rfl rfl (fun W hW => hW.nb)) hS ?_
      try simp only [Act.put, List.setIfInBounds_toArray, List.set_cons_zero, List.set_cons_succ]
      refine take_d (i := 1) (d := some 88) (v := ?_) rfl rfl (by kernel_rfl) (by kernel_rfl) (by kernel_rfl) (fun _ _ _ h => h) (.inl ⟨by rfl, ?_⟩) hS ?_
      rotate_left
      · intro W hW
        go_simp
        try with_reducible rfl
      try simp only [Act.put, List.setIfInBounds_toArray, List.set_cons_zero, List.set_cons_succ]
      refine take_d (i := 2) (d := some 89) (v := ?_) rfl rfl (by kernel_rfl) (by kernel_rfl) (by kernel_rfl) (fun _ _ _ h => h) (.inl ⟨by rfl, ?_⟩) hS ?_
      rotate_left
      · intro W hW
        go_simp
        try with_reducible rfl
      try simp only [Act.put, List.setIfInBounds_toArray, List.set_cons_zero, List.set_cons_succ]
      refine take_d (i := 3) (d := some 90) (v := ?_) rfl rfl (by kernel_rfl) (by kernel_rfl) (by kernel_rfl) (fun _ _ _ h => h) (.inl ⟨by rfl, ?_⟩) hS ?_
      rotate_left
      · intro W hW
        go_simp
        try with_reducible rfl
      try simp only [Act.put, List.setIfInBounds_toArray, List.set_cons_zero, List.set_cons_succ]
      refine take_d (i := 4) (d := some 91) (v := ?_) rfl rfl (by kernel_rfl) (by kernel_rfl) (by kernel_rfl) (fun _ _ _ h => h) (.inl ⟨by rfl, ?_⟩) hS ?_
      rotate_left
      · intro W hW
        go_simp
        try with_reducible rfl
      try simp only [Act.put, List.setIfInBounds_toArray, List.set_cons_zero, List.set_cons_succ]
      refine take_d (i := 5) (d := some 92) (v := ?_) rfl rfl (by kernel_rfl) (by kernel_rfl) (by kernel_rfl) (fun _ _ _ h => h) (.inl ⟨by rfl, ?_⟩) hS ?_
      rotate_left
      · intro W hW
        go_simp
        try with_reducible rfl
      try simp only [Act.put, List.setIfInBounds_toArray, List.set_cons_zero, List.set_cons_succ]
      refine take_d (i := 7) (d := some 94) (v := ?_) rfl rfl (by kernel_rfl) (by kernel_rfl) (by kernel_rfl) (fun _ _ _ h => h) (.inl ⟨by rfl, ?_⟩) hS ?_
      rotate_left
      · intro W hW
        go_simp
        try with_reducible rfl
      try simp only [Act.put, List.setIfInBounds_toArray, List.set_cons_zero, List.set_cons_succ]
      refine wpAnyH_all (rs := [6]) (by kernel_rfl) (by simp) (fun i hi => ?_)
      simp only [List.mem_cons, List.not_mem_nil, or_false] at hi
      subst hi
      refine .inl ?_
      go_simp
      refine (num_any _ _).mono ?_
      rintro e wc ⟨rfl, rfl⟩
      refine ⟨hS, ?_⟩
      try simp only [Act.put, List.setIfInBounds_toArray, List.set_cons_zero, List.set_cons_succ]
      refine take_d (i := 8) (d := some 95) (v := ?_) rfl rfl (by kernel_rfl) (by kernel_rfl) (by kernel_rfl) (fun _ _ _ h => h) (.inl ⟨by rfl, ?_⟩) hS ?_
      rotate_left
      · intro W hW
        go_simp
        try with_reducible rfl
      try simp only [Act.put, List.setIfInBounds_toArray, List.set_cons_zero, List.set_cons_succ]
      refine take_d (i := 9) (d := some 96) (v := ?_) rfl rfl (by kernel_rfl) (by kernel_rfl) (by kernel_rfl) (fun _ _ _ h => h) (.inl ⟨by rfl, ?_⟩) hS ?_
      rotate_left
      · intro W hW
        go_simp
        try with_reducible rfl
      try simp only [Act.put, List.setIfInBounds_toArray, List.set_cons_zero, List.set_cons_succ]
      refine take_d (i := 10) (d := some 97) (v := ?_) rfl rfl (by kernel_rfl) (by kernel_rfl) (by kernel_rfl) (fun _ _ _ h => h) (.inl ⟨by rfl, ?_⟩) hS ?_
      rotate_left
      · intro W hW
        go_simp
        try with_reducible rfl
      try simp only [Act.put, List.setIfInBounds_toArray, List.set_cons_zero, List.set_cons_succ]
      refine take_d (i := 11) (d := some 98) (v := ?_) rfl rfl (by kernel_rfl) (by kernel_rfl) (by kernel_rfl) (fun _ _ _ h => h) (.inl ⟨by rfl, ?_⟩) hS ?_
      rotate_left
      · intro W hW
        go_simp
        try with_reducible rfl
      try simp only [Act.put, List.setIfInBounds_toArray, List.set_cons_zero, List.set_cons_succ]
      refine take_d (i := 12) (d := some 99) (v := ?_) rfl rfl (by kernel_rfl) (by kernel_rfl) (by kernel_rfl) (fun _ _ _ h => h) (.inl ⟨by rfl, ?_⟩) hS ?_
      rotate_left
      · intro W hW
        go_simp
        try with_reducible rfl
      try simp only [Act.put, List.setIfInBounds_toArray, List.set_cons_zero, List.set_cons_succ]
      refine wpAnyH_all (rs := [13]) (by kernel_rfl) (by simp) (fun i hi => ?_)
      simp only [List.mem_cons, List.not_mem_nil, or_false] at hi
      subst hi
      refine .inl ?_
      obtain ⟨c0, hr⟩ := hS.r
      refine o_store_R (d := none) rfl c' rowR hr HOk.out rfl rfl rfl ?_
      have hres := hr.set HOk.out
      have hS2 : AcI w1.heap.size w.heap.size c' (wr.drew.setRow (w.heap.size + 1 + 1) c') := ⟨hS.nb.setOther hS.ne _, ⟨_, hres⟩, hS.ne⟩
      refine ⟨hS2, ?_⟩
      have hS := hS2
      try simp only [Act.put, List.setIfInBounds_toArray, List.set_cons_zero, List.set_cons_succ]
      refine take_d (i := 14) (d := some 7) (v := ?_) rfl rfl (by kernel_rfl) (by kernel_rfl) (by kernel_rfl) (fun _ _ _ h => h) (.inl ⟨by rfl, ?_⟩) hS ?_
      rotate_left
      · intro W hW
        go_simp
        try with_reducible rfl
      try simp only [Act.put, List.setIfInBounds_toArray, List.set_cons_zero, List.set_cons_succ]
      refine wpAnyH_done (by kernel_rfl) ?_ _
      have HRes := Lib.hid hres
      clear hS hK0 HK hres
      go_wp2
      refine bodyPost_ret (res_R_tmp rowR (fn := Try.f13) rfl _ HRes.out rfl) rfl ⟨c', by first | rfl | (simp; done), HE.out⟩
end Go.Proofs.Ytepimbebodmajaa
