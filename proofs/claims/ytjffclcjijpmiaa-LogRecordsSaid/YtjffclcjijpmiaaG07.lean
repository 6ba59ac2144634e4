/-
  Layer 16: elements appended behind a slice that is read and has no room: a new row. No walk. Layer 16: the document's Encode: walk.
-/
import Derived.Test.YtjffclcjijpmiaaG06
import Derived.Lib.SmallJoins
set_option linter.unusedVariables false
set_option linter.unusedSimpArgs false
namespace Go.Proofs.Ytjffclcjijpmiaa.LG
open Go.RowKit
set_option linter.unusedVariables false

theorem run_append_new {P : Program} {sl sl2 e : TypeId} {sz bz : Nat} {z : Value} (hu : P.underlying sl = some (.slice e)) (hinf : (P.info? e).map (fun i => (i.zero, i.size, i.bytes)) = some (some z, sz, bz)) (hz : z.cells.size = sz) (hsz : 0 < sz) (hbz : bz ≤ 64)
    {w : World} {vx : Value} {n m c g o : Nat} {cs ys : List Value} (h : w.rangeAt g o cs) (h0 : cs.length = n * sz) (hfit : c < n + m) (hs : Src P sz sl2 vx m ys w) (hm : n + m ≤ 1000000) (ty : TypeId) :
    ∃ v' w', (Builtin.append_ #[sl, sl2] ty #[.slice (some ⟨g, o, none⟩) n c, vx]).run P w = .ok v' w' ∧ Gs e sz w' v' (n + m) (cs ++ ys) ∧ Below w.heap.size w w' ∧ (∀ k, blkOf v' = some k → w.heap.size ≤ k) := by
  obtain ⟨i0, hi, hz0, hz1, hz2⟩ := info_parts hinf
  have hyl := hs.newsLen
  rw [← hz1] at hs
  have hold : (Builtin.firstCells i0.size n (.slice (some ⟨g, o, none⟩) n c)).run P w.drew = .ok cs.toArray w.drew := by
    refine run_firstCells_some w.drew i0.size n ⟨g, o, none⟩ n c cs (by rw [hz1]; exact h0) (fun j u hu => ?_)
    rw [add_lit]
    show w.cell? _ = _
    exact h j u hu
  have hb64 : (n + m) * bz ≤ (n + m) * 64 := Nat.mul_le_mul_left _ hbz
  have hrun := run_append_grow_src (P := P) w sl sl2 ty e i0 z hu hi hz0 (some ⟨g, o, none⟩) n c cs hold vx m ys hs (by omega) (by omega) (growslice_fits (by omega) (by rw [hz2]; omega))
  have hge := grownCap_ge w (n + m) c e
  have hcm := grownCap_le_maxLen w (n + m) c e (by unfold maxLen; omega)
  refine ⟨_, _, hrun, ⟨by rw [List.length_append, h0, hyl, Nat.add_mul], _, _, rfl, hge, hcm, fun _ => ⟨w.heap.size, 0, _, rfl, blk_new w.drew _ _, ?_, ?_⟩⟩, (Below.refl _ w).drew.alloc (Nat.le_refl _) _, fun k hk => ?_⟩
  · have hmul : (n + m) * sz ≤ grownCap w (n + m) c e * sz := Nat.mul_le_mul_right _ hge
    rw [Array.size_append, size_zeroCells, hz, List.size_toArray, List.length_append, h0, hyl, Nat.sub_mul, ← Nat.add_mul]; omega
  · simp only [List.drop_zero, Array.toList_append]
    rw [List.take_append_of_le_length (by rw [List.length_append, h0, hyl, Nat.add_mul]; omega), List.take_of_length_le (by rw [List.length_append, h0, hyl, Nat.add_mul]; omega)]
  · unfold blkOf at hk
    simp only at hk
    split at hk
    · cases hk
    · simp at hk; omega
theorem wp_append_new {P : Program} {sl sl2 e : TypeId} {sz bz : Nat} {z : Value} {ops : Array Oper} {rest : List Oper} {op : Oper} {a : Act} {Q : Exit → Act → World → Prop} {w : World} (hgd : op.guard = none) (s x : Operand)
    (ho : op.op = .call { callee := .builtin .append, args := #[s, x], argTypes := #[sl, sl2] })
    (hu : P.underlying sl = some (.slice e)) (hinf : (P.info? e).map (fun i => (i.zero, i.size, i.bytes)) = some (some z, sz, bz)) (hz : z.cells.size = sz) (hsz : 0 < sz) (hbz : bz ≤ 64)
    {vx : Value} {n m c g o : Nat} {cs ys : List Value} (hs : a.eval s = .slice (some ⟨g, o, none⟩) n c) (hv : a.eval x = vx) (h : w.rangeAt g o cs) (h0 : cs.length = n * sz) (hfit : c < n + m) (hx : Src P sz sl2 vx m ys w) (hm : n + m ≤ 1000000)
    (hK : ∀ v' w', Gs e sz w' v' (n + m) (cs ++ ys) → Below w.heap.size w w' → (∀ k, blkOf v' = some k → w.heap.size ≤ k) → wpList P ops Q rest (a.put op.dst v') w') : wpList P ops Q (op :: rest) a w := by
  refine wpList_plain hgd fun K hK' => ?_
  obtain ⟨v', w', hrun, r1, r2, r3⟩ := run_append_new hu hinf hz hsz hbz h h0 hfit hx hm op.type
  unfold Oper.wp
  simp [execOp, ho, resolve, invoke, builtin, hs, hv, hrun, Result.andThen]
  exact hK' _ _ (hK v' w' r1 r2 r3)
/-- A literal's conversion to bytes. -/
theorem conv_lit (w : World) (C : Array Value) (n c : Nat) : (convert 34 34 (.slice (some ⟨w.heap.size, 0, none⟩) n c)).run Try.prog (w.alloc (.cells C 5)) = .ok (.slice (some ⟨w.heap.size, 0, none⟩) n c) (w.alloc (.cells C 5 (C.size, C.size + 1))) :=
  Lib.run_convert_bytes_const (P := Try.prog) w 34 5 C n c Try.underlying34 Try.underlying5
theorem rng_lit (w : World) (fr : Nat × Nat) (xs : List Int) : (w.alloc (.cells (u8s xs).toArray 5 fr)).rangeAt w.heap.size 0 (u8s xs) := fun j u hj => by
  rw [World.cell?_alloc_mark w (u8s xs).toArray 5 fr (0 + j), List.getElem?_toArray, Nat.zero_add]; exact hj
end Go.Proofs.Ytjffclcjijpmiaa.LG
namespace Go.Proofs.Ytjffclcjijpmiaa.LG
open Go.RowKit
set_option maxHeartbeats 4000000
set_option maxRecDepth 100000
set_option linter.unusedVariables false
set_option linter.unusedSimpArgs false

theorem o_callb {P : Program} {op : Oper} {a : Act} {b : Value → Act} {w : World} {K : Act → World → Prop} {Q : Exit → Act → World → Prop} {F : FuncId} {args : Array Value} (d : Option Tmp) (he : (execOp a.eval op).run P w = .ok (.enter F args) w)
    (hc : Calls P F args w fun e w' => ∃ v, e = .returned v ∧ K (b v) w') (hd : op.dst = d := by rfl) (ha : ∀ v, a.put d v = b v := by intro v; (simp only [Act.put, List.setIfInBounds_toArray, List.set_cons_zero, List.set_cons_succ]; rfl)) : op.wp P a w K Q := by
  subst hd
  unfold Oper.wp
  rw [he]
  refine Calls.mono hc ?_
  rintro e w' ⟨v, rfl, hk⟩
  rw [← ha v] at hk
  exact hk
theorem encR_app : ∀ (l m : List Rc) (last : Int), encR last (l ++ m) = encR last l ++ encR (lastOf last l) m
  | [], _, _ => rfl
  | r :: t, m, last => by
    show rb r last ++ encR r.tm (t ++ m) = (rb r last ++ encR r.tm t) ++ encR (lastOf r.tm t) m
    rw [encR_app t, List.append_assoc]
theorem chain_app : ∀ (l m : List Rc) (last : Int), Chain last (l ++ m) → Chain last l ∧ Chain (lastOf last l) m
  | [], _, _, h => ⟨trivial, h⟩
  | r :: t, m, last, h => by
    obtain ⟨h1, h2⟩ := chain_app t m r.tm h.2.2
    exact ⟨⟨h.1, h.2.1, h1⟩, h2⟩
theorem encR_succ {l : List Rc} {k : Nat} {r : Rc} (h : l[k]? = some r) : encR 0 (l.take (k + 1)) = encR 0 (l.take k) ++ rb r (lastOf 0 (l.take k)) := by
  rw [List.take_add_one, h]
  exact encR_snoc _ _ _
theorem last_succ' {l : List Rc} {k : Nat} {r : Rc} (h : l[k]? = some r) : lastOf 0 (l.take (k + 1)) = r.tm := by
  rw [List.take_add_one, h]
  exact lastOf_snoc _ _ _
theorem chain_at {l : List Rc} {k : Nat} {r : Rc} (h : l[k]? = some r) (hc : Chain 0 l) : 0 ≤ lastOf 0 (l.take k) ∧ lastOf 0 (l.take k) ≤ r.tm ∧ r.tm ≤ two62 ∧ rOk r.kind r.n r.bs.length = true := by
  obtain ⟨h1, h2⟩ := List.getElem?_eq_some_iff.1 h
  have e : l = l.take k ++ (r :: l.drop (k + 1)) := by
    conv => lhs; rw [← List.take_append_drop k l, List.drop_eq_getElem_cons h1, h2]
  rw [e] at hc
  obtain ⟨c1, c2⟩ := chain_app _ _ _ hc
  exact ⟨(chain_last _ 0 c1 (by decide)).1, c2.2.1, c2.1.1, c2.1.2.2.1⟩
theorem RsIn.by8 {w : World} {v : Value} {l : List Rc} (h : RsIn w v l) : ∀ r ∈ l, ∀ x ∈ r.bs, 0 ≤ x ∧ x < 256 := by
  obtain ⟨cs, _, h2, _⟩ := h
  have key : ∀ (l : List Rc) (cs : List Value), RcC w l cs → ∀ r ∈ l, ∀ x ∈ r.bs, 0 ≤ x ∧ x < 256 := by
    intro l
    induction l with
    | nil => intro cs _; simp
    | cons y t ih =>
      rintro cs ⟨v, cs', _, hp, hr⟩ r hm
      rcases List.mem_cons.1 hm with rfl | hm
      · exact hp.2
      · exact ih cs' hr r hm
  exact key l cs h2
theorem NuI.lit4 (w : World) (a b c d : Int) : NuI w (.slice (some ⟨w.heap.size, 0, none⟩) 4 4) [a, b, c, d] (w.alloc (.cells #[.int .u8 a, .int .u8 b, .int .u8 c, .int .u8 d] 5)) := by
  refine ⟨bel1 w _, ?_, fun k hk => by simp [blkOf] at hk; omega⟩
  exact Gs.lit (n := 4) (sz := 1) w 5 (cs := #[.int .u8 a, .int .u8 b, .int .u8 c, .int .u8 d]) rfl (by simp [maxLen])
/-- The log's box, at a world that came of w. -/
structure LgS (w : World) (R : Nat) (c0 c1 c2 c3 c4 c5 : Value) (W : World) : Prop where
  b : Below w.heap.size w W
  c0 : W.cell? ⟨R, 0, none⟩ = some c0
  c1 : W.cell? ⟨R, 1, none⟩ = some c1
  c2 : W.cell? ⟨R, 2, none⟩ = some c2
  c3 : W.cell? ⟨R, 3, none⟩ = some c3
  c4 : W.cell? ⟨R, 4, none⟩ = some c4
  c5 : W.cell? ⟨R, 5, none⟩ = some c5
theorem LgS.stb (w : World) (R : Nat) (c0 c1 c2 c3 c4 c5 : Value) : Free.Stb (LgS w R c0 c1 c2 c3 c4 c5) := fun W W' h hb => ⟨h.b.trans (hb.mono h.b.size), cell_below h.c0 hb, cell_below h.c1 hb, cell_below h.c2 hb, cell_below h.c3 hb, cell_below h.c4 hb, cell_below h.c5 hb⟩
theorem LgS.make (w : World) (c0 c1 c2 c3 c4 c5 : Value) {W : World} (hb : Below (w.alloc (.cells #[c0, c1, c2, c3, c4, c5] 26)).heap.size (w.alloc (.cells #[c0, c1, c2, c3, c4, c5] 26)) W) : LgS (w.alloc (.cells #[c0, c1, c2, c3, c4, c5] 26)) w.heap.size c0 c1 c2 c3 c4 c5 W := by
  have h := blk_new w #[c0, c1, c2, c3, c4, c5] 26
  exact ⟨hb, cell_below (h.cell 0) hb, cell_below (h.cell 1) hb, cell_below (h.cell 2) hb, cell_below (h.cell 3) hb, cell_below (h.cell 4) hb, cell_below (h.cell 5) hb⟩
theorem rowRec : RowT 42 4 := ⟨⟨_, Try.underlying42⟩, by kernel_rfl⟩
theorem rcl_ok (r : Rc) {bv : Value} (h : bv.oneCell' = true) : Ok1 4 #[.int .i64 r.tm, .int .i64 r.kind, .int .i64 r.n, bv] := ⟨rfl, by simp [h]; exact ⟨rfl, rfl, rfl⟩⟩
theorem Encode_any {w : World} {l : Lg} {rv : Value} (h : LgIn w rv l) (hok : l.ok = true) (hl : l.bound ≤ 500000) : Calls Try.prog 18 #[.agg (lgc l rv)] w fun e w' => ∃ v, e = .returned v ∧ Og w' v l.enc ∧ Below w.heap.size w w' := by
  have hby : l.By := h.r.by8
  have HE := Lib.hid (enc_bound hok hby)
  obtain ⟨h1, hch, hwe, hwz⟩ := Lg.ok_b hok hby
  have hh := headOk_b h1
  obtain ⟨fr, se, mo, rs, wh, en⟩ := l
  simp only at h1 hch hwe hwz hh
  have HA := Lib.hid (fun W (hb : Below w.heap.size w W) => (show RsIn W rv rs from h.r.below hb))
  obtain ⟨ao, ca, rfl, _, hla⟩ := h.r.shape
  unfold maxLen at hla
  simp only at hla
  have N1 := Lib.hid (fun W => number_any fr.toNat (by omega) W)
  have N2 := Lib.hid (fun W => number_any se.toNat (by omega) W)
  have N3 := Lib.hid (fun W => number_any mo.toNat (by omega) W)
  rw [show ((fr.toNat : Nat) : Int) = fr by omega] at N1
  rw [show ((se.toNat : Nat) : Int) = se by omega] at N2
  rw [show ((mo.toNat : Nat) : Int) = mo by omega] at N3
  have L1 := num_len 8 (n := fr.toNat) (by omega)
  have L2 := num_len 8 (n := se.toNat) (by omega)
  have L3 := num_len 8 (n := mo.toNat) (by omega)
  have HH : Hid (encH fr se mo = (([80, 77, 68, 82] ++ num fr.toNat) ++ num se.toNat) ++ num mo.toNat) := Lib.hid (by unfold encH pmdr; simp [List.append_assoc])
  have HF : Hid (Lg.enc ⟨fr, se, mo, rs, wh, en⟩ = encH fr se mo ++ (encR 0 rs ++ encE (lastOf 0 rs) wh en)) := Lib.hid rfl
  have HM := Lib.hid (fun W hb => LgS.make w (.int .i64 fr) (.int .i64 se) (.int .i64 mo) (.slice ao rs.length ca) (.bool wh) (.int .i64 en) (W := W) hb)
  have HB1 := Lib.hid (bel1 w (.cells #[.int .i64 fr, .int .i64 se, .int .i64 mo, .slice ao rs.length ca, .bool wh, .int .i64 en] 26))
  have HC := Lib.hid hch
  have HW := Lib.hid (And.intro hwe hwz)
  simp only [lgc]
  have P1 := num_pos fr.toNat
  generalize num fr.toNat = q1 at *
  generalize num se.toNat = q2 at *
  generalize num mo.toNat = q3 at *
  clear h hok hby hch hwe hwz
  have hcv := conv_lit (w.alloc (.cells #[.int .i64 fr, .int .i64 se, .int .i64 mo, .slice ao rs.length ca, .bool wh, .int .i64 en] 26)) #[.int .u8 80, .int .u8 77, .int .u8 68, .int .u8 82] 4 4
  have hrn := rng_lit (w.alloc (.cells #[.int .i64 fr, .int .i64 se, .int .i64 mo, .slice ao rs.length ca, .bool wh, .int .i64 en] 26)) (4, 5) [80, 77, 68, 82]
  have hb2 := bel1 (w.alloc (.cells #[.int .i64 fr, .int .i64 se, .int .i64 mo, .slice ao rs.length ca, .bool wh, .int .i64 en] 26)) (.cells #[.int .u8 80, .int .u8 77, .int .u8 68, .int .u8 82] 5 (4, 5))
  have HRn := Lib.hid (fun W hb j u hj => cell_below (w' := W) (hrn j u hj) hb)
  have HB2 := Lib.hid hb2
  simp only [World.size_alloc] at hcv
  clear hrn hb2
  go_enter Try.func18, Try.ntmps18
  go_wp2_with fail
  refine (N1.out _).mono ?_
  rintro e w3 ⟨v12, rfl, g12, b12, l12⟩
  have HR3 : Hid (w3.rangeAt (w.heap.size + 1) 0 (u8s [80, 77, 68, 82])) := Lib.hid (by
    have := HRn.out w3 b12
    simp only [World.size_alloc] at this
    exact this)
  have S3 := Lib.hid g12.src
  have HB3 := Lib.hid (belT HB2.out b12)
  clear g12 b12 l12 HRn hcv HB2
  go_wp2_with (refine wp_append_new rfl _ _ rfl Try.underlying34 infoU8 rfl (by omega) (by omega) rfl rfl HR3.out rfl (by omega) S3.out (by omega) ?_)
  intro v13 w4 hg hb hn
  generalize w.alloc (.cells #[.int .i64 fr, .int .i64 se, .int .i64 mo, .slice ao rs.length ca, .bool wh, .int .i64 en] 26) = W1 at *
  have H4 : Hid (NuI W1 v13 ([80, 77, 68, 82] ++ q1) w4) := Lib.hid (NuI.of (W := W1) (by show Gs _ _ _ _ _ _; rw [List.length_append, u8s, List.map_append]; exact hg) (belT HB3.out hb) (fun k hk => by have := hn k hk; have := HB3.out.size; omega) (Below.refl _ _))
  clear hg hb hn S3 HR3 HB3
  have O1 : ([80, 77, 68, 82] ++ q1).length ≤ 13 := by simp; omega
  generalize [80, 77, 68, 82] ++ q1 = o1 at *
  have HS : Hid (LgS W1 w.heap.size (.int .i64 fr) (.int .i64 se) (.int .i64 mo) (.slice ao rs.length ca) (.bool wh) (.int .i64 en) w4.drew) := Lib.hid (LgS.stb _ _ _ _ _ _ _ _ _ _ (HM.out _ H4.out.b) (Below.refl _ _).drew)
  have H4 := Lib.hid (H4.out.after (Below.refl w4.heap.size w4).drew)
  go_wp2_with fail
  refine Free.any (LgS W1 w.heap.size (.int .i64 fr) (.int .i64 se) (.int .i64 mo) (.slice ao rs.length ca) (.bool wh) (.int .i64 en)) (LgS.stb _ _ _ _ _ _ _ _) HS.out (fun st => ?_)
  refine Free.tk 0 (some 14) (v := v13) ?_ (hy := by intro W hW; go_simp; try with_reducible rfl)
  refine Free.tk 1 (some 15) (v := .pointer (some ⟨w.heap.size, 0, none⟩)) ?_ (hy := by intro W hW; go_simp; try with_reducible rfl)
  refine Free.tk 2 (some 16) (v := .pointer (some ⟨w.heap.size, 1, none⟩)) ?_ (hy := by intro W hW; go_simp; try with_reducible rfl)
  refine Free.tk 3 (some 17) (v := .int .i64 se) ?_ (hy := by intro W hW; have c0 := hW.c1; go_simp; try with_reducible rfl)
  refine Free.tk 6 (some 20) (v := .pointer (some ⟨w.heap.size, 2, none⟩)) ?_ (hy := by intro W hW; go_simp; try with_reducible rfl)
  refine Free.tk 7 (some 21) (v := .int .i64 mo) ?_ (hy := by intro W hW; have c0 := hW.c2; go_simp; try with_reducible rfl)
  refine Free.one 4 (fun Wa hba hWa => ?_)
  refine o_callb (some 18) (by go_simp; try rfl) ((N2.out Wa).mono ?_)
  rintro e Wb ⟨v18, rfl, g18, b18, l18⟩
  refine ⟨v18, rfl, st _ _ hWa b18, ?_⟩
  have H5 := Lib.hid ((H4.out.after hba).after b18)
  have S5 := Lib.hid g18
  clear hba hWa g18 b18 l18 H4 HS
  refine Free.one 5 (fun Wc hbc hWc => ?_)
  have H6 := H5.out.after hbc
  have S6 := (S5.out.below hbc).src
  refine o_append_g (d := some 19) _ _ rfl rfl Try.underlying34 infoU8 rfl (by omega) (by omega) rfl rfl H6.g S6 (by omega) ?_
  intro v19 Wd hg ht hn
  have H7 := Lib.hid (H6.more hg ht hn)
  refine ⟨HM.out _ H7.out.b, ?_⟩
  clear hbc hWc H6 S6 hg ht hn H5 S5
  have O2 : (o1 ++ q2).length ≤ 30 := by simp; omega
  generalize o1 ++ q2 = o2 at *
  refine Free.one 8 (fun We hbe hWe => ?_)
  refine o_callb (some 22) (by go_simp; try rfl) ((N3.out We).mono ?_)
  rintro e Wf ⟨v22, rfl, g22, b22, l22⟩
  refine ⟨v22, rfl, st _ _ hWe b22, ?_⟩
  have H8 := Lib.hid ((H7.out.after hbe).after b22)
  have S8 := Lib.hid g22
  clear hbe hWe g22 b22 l22 H7
  refine Free.one 9 (fun Wg hbg hWg => ?_)
  have H9 := H8.out.after hbg
  have S9 := (S8.out.below hbg).src
  refine o_append_g (d := some 23) _ _ rfl rfl Try.underlying34 infoU8 rfl (by omega) (by omega) rfl rfl H9.g S9 (by omega) ?_
  intro v23 Wh hg ht hn
  have H10 := Lib.hid (H9.more hg ht hn)
  refine ⟨HM.out _ H10.out.b, ?_⟩
  clear hbg hWg H9 S9 hg ht hn H8 S8
  rw [← HH.out] at H10
  refine Free.tk 10 (some 3) (v := v23) ?_ (hy := by intro W hW; go_simp; try with_reducible rfl)
  refine Free.done (fun W5 hb5 hW5 => ?_)
  have H11 := Lib.hid (H10.out.after hb5)
  clear hb5 hW5 H10 st
  have HLim : Hid (∀ k, k ≤ rs.length → (encH fr se mo ++ encR 0 (rs.take k)).length ≤ 500000) := Lib.hid (fun k hk => by
    have e := HE.out
    rw [HF.out] at e
    have e2 : encR 0 rs = encR 0 (rs.take k) ++ encR (lastOf 0 (rs.take k)) (rs.drop k) := by
      rw [← encR_app, List.take_append_drop]
    rw [e2] at e
    simp only [List.length_append] at e ⊢
    omega)
  clear HE N1 N2 N3
  go_wp2
  go_loopw [3, 4, 5] (fun ov lv iv wr => ∃ (k : Nat), k ≤ rs.length ∧ lv = .int .i64 (lastOf 0 (rs.take k)) ∧ iv = .int .i64 (k : Int) ∧ Hid (NuI W1 ov (encH fr se mo ++ encR 0 (rs.take k)) wr)) (fun _ _ iv _ => rs.length + 1 - (intOf iv).toNat)
  case atStart => exact ⟨0, by omega, rfl, rfl, by rw [List.take_zero]; show Hid (NuI W1 v23 (encH fr se mo ++ []) W5); rw [List.append_nil]; exact H11⟩
  case round =>
    obtain ⟨k, hk, rfl, rfl, HP⟩ := hrel
    have c3 := (HM.out _ HP.out.b).c3
    by_cases hlt : k < rs.length
    · have hi : (k : Int) < (rs.length : Int) := by omega
      obtain ⟨g1, p1, cc1, x, bv, e1, l1, hx, hxb, q⟩ := (HA.out _ (belT HB1.out HP.out.b)).at_ hlt
      simp only [Value.slice.injEq] at e1
      obtain ⟨rfl, _, rfl⟩ := e1
      obtain ⟨y0, y1, y2, y3⟩ := rng4 q
      obtain ⟨z0, z1, z2, z3⟩ := chain_at l1 HC.out
      have zb := rOk_b z3
      have hl1 := HLim.out k hk
      have hl2 := HLim.out (k + 1) (by omega)
      have HLs := Lib.hid (last_succ' l1)
      have HEn : Hid (encH fr se mo ++ encR 0 (rs.take (k + 1)) = (encH fr se mo ++ encR 0 (rs.take k)) ++ rb x (lastOf 0 (rs.take k))) := Lib.hid (by rw [encR_succ l1, List.append_assoc])
      rw [HEn.out, List.length_append] at hl2
      generalize hla : lastOf 0 (rs.take k) = la at *
      generalize encH fr se mo ++ encR 0 (rs.take k) = oo at *
      have HREC := Lib.hid (fun W (hb : Bs W bv x.bs) => record_any (kind := x.kind) (last := la) (at_ := x.tm) (n := x.n) (by omega) z0 z1 z2 ⟨by omega, by omega⟩ hb (by omega))
      have HXB := Lib.hid hxb
      have hbx := rcl_ok x hxb.1.one
      obtain ⟨bo, cb, rfl, _, hlb⟩ := hxb.shape
      unfold maxLen at hlb
      have HBox := Lib.hid (hbx.new 42 wr)
      have HBb := Lib.hid (bel1 wr (.cells #[.int .i64 x.tm, .int .i64 x.kind, .int .i64 x.n, .slice bo x.bs.length cb] 42))
      clear l1 q hx hla
      go_wp2_with (first | ((with_reducible refine wp_store_Rn rowRec _ ?_ ?_ ?_ ?_); (exact ⟨rfl, hbx⟩); (kernel_rfl); (kernel_rfl)) | fail)
      refine (HREC.out _ (HXB.out.below HBb.out)).mono ?_
      rintro e w2 ⟨v46, rfl, g46, b46, l46⟩
      have H2 := Lib.hid ((HP.out.after HBb.out).after b46)
      have S2 := Lib.hid g46.src
      have HBox2 := Lib.hid (HBox.out.below b46)
      have hrl : (rb ⟨x.tm, x.kind, x.n, x.bs⟩ la).length ≤ 500000 := by
        have : (rb ⟨x.tm, x.kind, x.n, x.bs⟩ la) = rb x la := rfl
        rw [this]; omega
      clear g46 b46 l46 HREC HXB HBb HBox hbx
      go_wp2_with (refine wp_append_g rfl _ _ rfl Try.underlying34 infoU8 rfl (by omega) (by omega) rfl rfl H2.out.g S2.out (by omega) ?_)
      intro v47 w3 hg ht hn
      have H3 := Lib.hid (H2.out.more hg ht hn)
      have HBox3 := HBox2.out.turned ht (fun e => (Gs.ne H2.out.g HBox2.out.blk (by decide)) e rfl)
      have x0 := HBox3.blk.cell 0
      simp only [List.getElem?_toArray, List.getElem?_cons_zero, List.getElem?_cons_succ] at x0
      clear hg ht hn H2 S2 HBox2 HBox3 HP y0 y1 y2 y3 c3
      go_wp2
      refine ⟨⟨k + 1, by omega, by rw [HLs.out], by first | rfl | go_num, by rw [HEn.out]; exact H3⟩, ?_⟩
      simp [intOf]; omega
    · obtain rfl : k = rs.length := by omega
      rw [List.take_length] at HP ⊢
      have hl1 := HLim.out rs.length (by omega)
      rw [List.take_length] at hl1
      have z0 := chain_last rs 0 HC.out (by decide)
      have c4 := (HM.out _ HP.out.b).c4
      have c5 := (HM.out _ HP.out.b).c5
      obtain ⟨hw1, hw2⟩ := HW.out
      cases wh with
      | false =>
        have HF2 : Hid (Lg.enc ⟨fr, se, mo, rs, false, en⟩ = encH fr se mo ++ encR 0 rs) := Lib.hid (by rw [HF.out]; simp [encE])
        clear hw1 hw2
        go_wp2
        go_ret
        exact ⟨_, rfl, by rw [HF2.out]; exact HP.out.g, belT HB1.out HP.out.b⟩
      | true =>
        have hen := hw1 rfl
        have HF2 : Hid (Lg.enc ⟨fr, se, mo, rs, true, en⟩ = (encH fr se mo ++ encR 0 rs) ++ rb (endR en) (lastOf 0 rs)) := Lib.hid (by rw [HF.out]; simp [encE, List.append_assoc])
        have hrl := (rb_len (endR_may (t := en) (by omega) hen.2) z0.1).2
        have he0 : (endR en).bs.length = 0 := rfl
        have HREC := Lib.hid (fun W => record_any (w := W) (kind := 8) (last := lastOf 0 rs) (at_ := en) (n := 0) (bv := .slice none 0 0) (bs := []) (by omega) z0.1 hen.1 hen.2 (by omega) ⟨Rd.nil 1 W none 0, by simp [By8]⟩ (by simp))
        clear hw1 hw2
        generalize lastOf 0 rs = la at *
        generalize encH fr se mo ++ encR 0 rs = oo at *
        go_wp2_with fail
        refine (HREC.out _).mono ?_
        rintro e w2 ⟨v46, rfl, g46, b46, l46⟩
        have H2 := Lib.hid (HP.out.after b46)
        have S2 := Lib.hid g46.src
        clear g46 b46 l46 HREC
        go_wp2_with (refine wp_append_g rfl _ _ rfl Try.underlying34 infoU8 rfl (by omega) (by omega) rfl rfl H2.out.g S2.out (by show oo.length + (rb (endR en) la).length ≤ 1000000; omega) ?_)
        intro v47 w3 hg ht hn
        have H3 := Lib.hid (H2.out.more hg ht hn)
        clear hg ht hn H2 S2
        go_wp2
        go_ret
        exact ⟨_, rfl, by rw [HF2.out]; exact H3.out.g, belT HB1.out H3.out.b⟩
end Go.Proofs.Ytjffclcjijpmiaa.LG
