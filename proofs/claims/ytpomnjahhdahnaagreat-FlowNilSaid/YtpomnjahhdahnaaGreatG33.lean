/-
  Layer 12: a flow that is not there: walks. Layer 12: the statement FlowNil: a walk.
-/
import Derived.Test.YtpomnjahhdahnaaGreatG24
import Derived.Test.YtpomnjahhdahnaaGreatG23
import Derived.Test.YtpomnjahhdahnaaGreatG27
set_option linter.unusedVariables false
set_option linter.unusedSimpArgs false
namespace Go.Proofs.YtpomnjahhdahnaaGreat
open Go.RowKit
set_option maxHeartbeats 8000000
set_option maxRecDepth 100000
set_option linter.unusedVariables false
set_option linter.unusedSimpArgs false

/-- There is no flow at p, whatever is made. -/
def NoAt (p : Option Addr) (w : World) : Prop := ∀ W, Below w.heap.size w W → Calls Tryz.prog 42 #[.pointer p] W fun e w' => e = .returned (.bool true) ∧ W = w'
theorem NoAt.nil (w : World) : NoAt none w := fun W _ => none_nil W
theorem NoAt.zero {w : World} {S : Nat} {v : Value} (h : Blk w S #[.pointer none, v] 70) : NoAt (some ⟨S, 0, none⟩) w := fun W hb => none_zero S W ((h.below hb).cell 0)
theorem NoAt.below {p : Option Addr} {w W : World} (h : NoAt p w) (hb : Below w.heap.size w W) : NoAt p W := fun V hV => h V (hb.trans (hV.mono hb.size))
section
variable {p : Option Addr} {w : World}
theorem Get_none (h : NoAt p w) (q : T.Pl) : Calls Tryz.prog 19 #[.pointer p, .agg (pla q)] w fun e w' => e = .returned (.tuple #[.int .u32 0, .int .i64 1]) ∧ Below w.heap.size w w' := by
  have HB := Lib.hid (bel1 w (.cells #[.int .i64 q.1, .int .i64 q.2] 44))
  have HN := Lib.hid (h _ HB.out)
  clear h
  go_enter Tryz.func19, Tryz.ntmps19
  go_wp2
  refine L2.wp_scope_fwd 0 rfl ?_
  go_wp2_with (go_at_call 42; refine HN.out.mono ?_; rintro e w' ⟨rfl, rfl⟩)
  go_step3
  refine ⟨rfl, ?_⟩
  go_wp2
  rw [Exit.noGoto_ret]
  go_ret2
  exact ⟨rfl, HB.out⟩
theorem refM_none (h : NoAt p w) (q : T.Pl) (n s : Int) : Calls Tryz.prog 37 #[.pointer p, .agg (pla q), .int .i64 n, .int .u32 s] w fun e w' => e = .returned (.int .i64 1) ∧ Below w.heap.size w w' := by
  have HB := Lib.hid (bel1 w (.cells #[.int .i64 q.1, .int .i64 q.2] 44))
  have HN := Lib.hid (h _ HB.out)
  clear h
  go_enter Tryz.func37, Tryz.ntmps37
  go_wp2_with (go_at_call 42; refine HN.out.mono ?_; rintro e w' ⟨rfl, rfl⟩)
  go_ret
  exact ⟨rfl, HB.out⟩
theorem Mark_none (h : NoAt p w) (q : T.Pl) (n s : Int) : Calls Tryz.prog 16 #[.pointer p, .agg (pla q), .int .i64 n, .int .u32 s] w fun e w' => e = .returned (.int .i64 1) ∧ Below w.heap.size w w' := by
  have HB := Lib.hid (bel1 w (.cells #[.int .i64 q.1, .int .i64 q.2] 44))
  have HN := Lib.hid (refM_none (h.below HB.out) q n s)
  clear h
  unfold pla at HN ⊢
  go_enter Tryz.func16, Tryz.ntmps16
  go_wp2
  refine L2.wp_scope_fwd 0 rfl ?_
  go_wp2_with (go_at_call 37; refine HN.out.mono ?_; rintro e w' ⟨rfl, hb⟩)
  go_step3
  refine ⟨rfl, ?_⟩
  go_wp2
  rw [Exit.noGoto_ret]
  go_ret
  exact ⟨rfl, HB.out.trans (hb.mono HB.out.size)⟩
theorem ref_none (h : NoAt p w) (v : Value) : Calls Tryz.prog 40 #[.pointer p, v] w fun e w' => e = .returned (.int .i64 1) ∧ Below w.heap.size w w' := by
  have HN := Lib.hid (h w (Below.refl _ _))
  clear h
  go_enter Tryz.func40, Tryz.ntmps40
  go_wp2_with (go_at_call 42; refine HN.out.mono ?_; rintro e w' ⟨rfl, rfl⟩)
  go_ret
  exact ⟨rfl, Below.refl _ _⟩
theorem Apply_none (h : NoAt p w) (v : Value) : Calls Tryz.prog 17 #[.pointer p, v] w fun e w' => e = .returned (.int .i64 1) ∧ Below w.heap.size w w' := by
  have HN := Lib.hid (ref_none h v)
  clear h
  go_enter Tryz.func17, Tryz.ntmps17
  go_wp2
  refine L2.wp_scope_fwd 0 rfl ?_
  go_wp2_with (go_at_call 40; refine HN.out.mono ?_; rintro e w1 ⟨rfl, hb⟩)
  go_step3
  refine ⟨rfl, ?_⟩
  go_wp2
  rw [Exit.noGoto_ret]
  go_ret
  exact ⟨rfl, hb⟩
theorem Decides_none (h : NoAt p w) (v : Value) : Calls Tryz.prog 25 #[.pointer p, v] w fun e w' => e = .returned (.tuple #[.int .u32 0, .int .i64 1]) ∧ Below w.heap.size w w' := by
  have HN := Lib.hid (ref_none h v)
  clear h
  go_enter Tryz.func25, Tryz.ntmps25
  go_wp2
  refine L2.wp_scope_fwd 0 rfl ?_
  go_wp2_with (go_at_call 40; refine HN.out.mono ?_; rintro e w1 ⟨rfl, hb⟩)
  go_step3
  refine ⟨rfl, ?_⟩
  go_wp2
  rw [Exit.noGoto_ret]
  go_ret2
  exact ⟨rfl, hb⟩
theorem Pages_none (h : NoAt p w) : Calls Tryz.prog 23 #[.pointer p] w fun e w' => e = .returned (.tuple #[.int .i64 0, .int .i64 0]) ∧ w = w' := by
  have HN := Lib.hid (h w (Below.refl _ _))
  clear h
  go_enter Tryz.func23, Tryz.ntmps23
  go_wp2_with (go_at_call 42; refine HN.out.mono ?_; rintro e w' ⟨rfl, rfl⟩)
  go_ret2
  exact ⟨rfl, rfl⟩
theorem Sets_none (h : NoAt p w) : Calls Tryz.prog 21 #[.pointer p] w fun e w' => e = .returned (.slice none 0 0) ∧ w = w' := by
  have HN := Lib.hid (h w (Below.refl _ _))
  clear h
  go_enter Tryz.func21, Tryz.ntmps21
  go_wp2_with (go_at_call 42; refine HN.out.mono ?_; rintro e w' ⟨rfl, rfl⟩)
  go_ret
  exact ⟨rfl, rfl⟩
theorem Copy_none (h : NoAt p w) : Calls Tryz.prog 20 #[.pointer p] w fun e w' => e = .returned (.pointer none) ∧ w = w' := by
  have HN := Lib.hid (h w (Below.refl _ _))
  clear h
  go_enter Tryz.func20, Tryz.ntmps20
  go_wp2_with (go_at_call 42; refine HN.out.mono ?_; rintro e w' ⟨rfl, rfl⟩)
  go_ret
  exact ⟨rfl, rfl⟩
theorem Same_no (q : Option Addr) (va vb : Bool) (hor : (va || vb) = true) (ha : Calls Tryz.prog 42 #[.pointer p] w fun e w' => e = .returned (.bool va) ∧ w = w') (hb : Calls Tryz.prog 42 #[.pointer q] w fun e w' => e = .returned (.bool vb) ∧ w = w') :
    Calls Tryz.prog 22 #[.pointer p, .pointer q] w fun e w' => e = .returned (.bool (va && vb)) ∧ w = w' := by
  have HA := Lib.hid ha
  have HB := Lib.hid hb
  clear ha hb
  cases va <;> cases vb
  · simp at hor
  · go_enter Tryz.func22, Tryz.ntmps22
    go_wp2_with fail
    refine HA.out.mono ?_; rintro e w' ⟨rfl, rfl⟩
    go_wp2_with fail
    refine HB.out.mono ?_; rintro e w' ⟨rfl, rfl⟩
    go_wp2_with fail
    refine HA.out.mono ?_; rintro e w' ⟨rfl, rfl⟩
    go_wp2_with fail
    go_ret
    exact ⟨rfl, rfl⟩
  all_goals
    go_enter Tryz.func22, Tryz.ntmps22
    go_wp2_with fail
    refine HA.out.mono ?_; rintro e w' ⟨rfl, rfl⟩
    go_wp2_with fail
    refine HA.out.mono ?_; rintro e w' ⟨rfl, rfl⟩
    go_wp2_with fail
    refine HB.out.mono ?_; rintro e w' ⟨rfl, rfl⟩
    go_wp2_with fail
    go_ret
    exact ⟨rfl, rfl⟩
end
end Go.Proofs.YtpomnjahhdahnaaGreat
namespace Go.Proofs.YtpomnjahhdahnaaGreat
open Go.RowKit Go.Shelf
set_option maxHeartbeats 8000000
set_option maxRecDepth 100000
set_option linter.unusedVariables false
set_option linter.unusedSimpArgs false
attribute [local go_sem] Oper.semAt_some

theorem ActsIn.lit {w : World} {g : Nat} {a : Ac} {tv : Value} (h : Blk w g (acc a tv) 48) (ha : a.Ok) (ht : TsIn w tv a.ts) : ActsIn w (.slice (some ⟨g, 0, none⟩) 1 1) [a] := by
  refine ⟨(acc a tv).toList, ⟨by simp [acc], _, _, rfl, Nat.le_refl _, by simp [maxLen], fun _ => ⟨g, 0, rfl, fun j u hj => ?_⟩⟩, ⟨tv, [], by simp, ht, rfl⟩, fun x hx => by simp at hx; subst hx; exact ha⟩
  rw [h.cell, Nat.zero_add]
  simpa using hj
theorem fun_nilN (w : World) (f : Nat) (cap : Array Value) : (binOp .eql 54 (.func (.func f) #[] cap) .nilFunc).run Tryz.prog w = .ok (.bool false) w := by
  have h1 : (Op.equalIn 10000 54 (.func (.func f) #[] cap) .nilFunc).run Tryz.prog w = .ok false w := by
    rw [show (10000 : Nat) = 9999 + 1 from rfl, Op.equalIn]
    simp [Sem.run_bind, run_underlying Tryz.underlying54, Result.andThen_ok]
  simp [binOp, Op.equal, Op.maxDepth, h1, Sem.run_bind, Result.andThen]
/-- What the walk knows: the call's box, an empty flow. -/
structure NiS (w : World) (a : Ac) (tv : Value) (S : Nat) (W : World) : Prop where
  b : Below w.heap.size w W
  x : Blk W w.heap.size (acc a tv) 48
  z : Blk W S #[.pointer none, .pointer none] 70
theorem NiS.after {w : World} {a : Ac} {tv : Value} {S : Nat} {W W' : World} (h : NiS w a tv S W) (hb : Below W.heap.size W W') : NiS w a tv S W' := ⟨h.b.trans (hb.mono h.b.size), h.x.below hb, h.z.below hb⟩
theorem NiS.no {w : World} {a : Ac} {tv : Value} {S : Nat} {W : World} (h : NiS w a tv S W) : NoAt (some ⟨S, 0, none⟩) W := NoAt.zero h.z
theorem NiS.cells {w : World} {a : Ac} {tv : Value} {S : Nat} {W : World} (h : NiS w a tv S W) : W.cell? ⟨w.heap.size, 1, none⟩ = some (.int .i64 a.n) ∧ W.cell? ⟨w.heap.size, 2, none⟩ = some (.int .i64 a.p.1) ∧ W.cell? ⟨w.heap.size, 3, none⟩ = some (.int .i64 a.p.2) ∧ W.cell? ⟨w.heap.size, 4, none⟩ = some (.int .u32 a.s) ∧ W.cell? ⟨w.heap.size, 5, none⟩ = some tv :=
  ⟨h.x.cell 1, h.x.cell 2, h.x.cell 3, h.x.cell 4, h.x.cell 5⟩
theorem At.none {w : World} {S : Nat} {f : T.Fl} {F : Nat → Prop} (h : At w S f F) : Calls Tryz.prog 42 #[.pointer (some ⟨S, 0, none⟩)] w fun e w' => e = .returned (.bool false) ∧ w = w' := by
  obtain ⟨Tb, P, m, FT, M, D, C, FM, FD, rfl, h⟩ := h
  exact none_some S Tb w h.s0
theorem wp_over_none {α : Type} {P : Program} {n : Nat} {g : Operand} {ps : Array Tmp} {body : Code} {Q : Exit → Act → World → Prop} {a : Act} {w : World}
    {gf : Nat} {lb : Array Value} (hg : a.eval g = .func (.func gf) #[] lb) (eg : ∀ args w, (callFunc gf args).run P w = .ok (.enter gf args) w)
    {encs : α → Array Value} {M : Nat → Prop} (hseq : Gives P gf lb encs M [] w) (hM : ∀ k, M k → k < w.heap.size) (hps : ∀ x, (encs x).size = ps.size)
    (I : World → Prop) (hI : OwnFrom w.heap.size (fun (_ : List α) => I)) (h0 : I w)
    (hdone : ∀ (D : Nat) (W : World), w.heap.size ≤ D → I W → W.heap[D]? = some (.deferred (some [])) → Q .normal { a with defers := { target := .collected D, args := #[] } :: a.defers } W) :
    (Code.rangeFunc g ps Code.skip body).wpIn Fence.wide n P Q a w :=
  wp_over hg eg hseq hM hps (fun _ => I) (fun _ _ _ => False) hI (fun _ _ _ _ _ hs _ _ => hs) h0 (fun x => { tmps := (ps.zip (encs x)).foldl (fun t (p, v) => t.setIfInBounds p v) a.tmps, defers := [] })
    (fun l m x W K hK => by gi_wp2; simpa [hps] using hK) (fun l m pre x rest W hf _ => by simp at hf) (fun D W hD hI hK => hdone D W hD hI hK) (fun _ _ _ _ _ _ _ hx _ => hx.elim)
theorem ni_cells {w W : World} {a : Ac} {tv : Value} (h : Blk W w.heap.size (acc a tv) 48) : W.cell? ⟨w.heap.size, 1, none⟩ = some (.int .i64 a.n) ∧ W.cell? ⟨w.heap.size, 2, none⟩ = some (.int .i64 a.p.1) ∧ W.cell? ⟨w.heap.size, 3, none⟩ = some (.int .i64 a.p.2) ∧ W.cell? ⟨w.heap.size, 4, none⟩ = some (.int .u32 a.s) ∧ W.cell? ⟨w.heap.size, 5, none⟩ = some tv :=
  ⟨h.cell 1, h.cell 2, h.cell 3, h.cell 4, h.cell 5⟩
theorem FlowNil_walk (a : Ac) {tv : Value} {w : World} (ha : a.Ok) (ht : TsIn w tv a.ts) : Calls Tryz.prog 7 #[.agg (acc a tv)] w fun e w' => e = .returned (.bool true) ∧ Below w.heap.size w w' := by
  obtain ⟨ot, ct, rfl, _, _⟩ := ht.shape
  have hx := (acc_ok a (v := .slice ot a.ts.length ct) rfl).new 48 w
  have HX := Lib.hid hx
  have HT := Lib.hid ht
  have HA := Lib.hid ha
  have hfn := fun_nilN
  have hb2 := bel2 w (.cells (acc a (.slice ot a.ts.length ct)) 48) (.cells (acc a (.slice ot a.ts.length ct)) 48)
  have HV : Hid (Calls Tryz.prog 9 #[.slice (some ⟨w.heap.size + 1, 0, none⟩) 1 1] ((w.alloc (.cells (acc a (.slice ot a.ts.length ct)) 48)).alloc (.cells (acc a (.slice ot a.ts.length ct)) 48)) fun e w' => e = .returned (.bool (vastS [a])) ∧ Below ((w.alloc (.cells (acc a (.slice ot a.ts.length ct)) 48)).alloc (.cells (acc a (.slice ot a.ts.length ct)) 48)).heap.size ((w.alloc (.cells (acc a (.slice ot a.ts.length ct)) 48)).alloc (.cells (acc a (.slice ot a.ts.length ct)) 48)) w') := by
    have hb3 := blk_new (w.alloc (.cells (acc a (.slice ot a.ts.length ct)) 48)) (acc a (.slice ot a.ts.length ct)) 48
    rw [World.size_alloc] at hb3
    exact vast_any (ActsIn.lit hb3 ha (ht.below hb2))
  have HB2 := Lib.hid hb2
  have HX2 : Hid (Blk ((w.alloc (.cells (acc a (.slice ot a.ts.length ct)) 48)).alloc (.cells (acc a (.slice ot a.ts.length ct)) 48)) w.heap.size (acc a (.slice ot a.ts.length ct)) 48) := (blk_new w _ _).alloc _
  clear hx ht ha hb2
  refine (callsIn_wide (n := 5)).1 ?_
  refine callsIn_of_wp_marks Tryz.func7 rfl trivial ?_ rfl
  refine wpIn_wide.2 ?_
  simp only [Tryz.ntmps7, List.size_toArray, List.length_cons, List.length_nil, Nat.reduceAdd, Nat.reduceSub, Array.replicate_succ, Array.replicate_zero, List.push_toArray, List.append_toArray, List.nil_append, List.cons_append]
  unfold acc at HV HB2 HX2 ⊢
  go_wp2_with fail
  refine HV.out.mono ?_
  rintro e w1 ⟨rfl, hb⟩
  have HB1 := Lib.hid (HB2.out.trans (hb.mono HB2.out.size))
  have HX1 := Lib.hid (HX2.out.below hb)
  clear hb HV HB2 HX2 HX
  cases hv : vastS [a] with
  | true =>
    clear hv
    go_wp2_with fail
    refine (known_any _).mono ?_
    rintro e w2 ⟨rfl, hb⟩
    have HBe := Lib.hid (HB1.out.trans (hb.mono HB1.out.size))
    clear hb
    go_wp2
    exact ⟨_, results_tmp rfl _ _ _, rfl, HBe.out⟩
  | false =>
  clear hv
  have N0 : Hid (Bxs w [(w1.heap.size, #[.pointer none, .pointer none], 70), (w.heap.size, acc a (.slice ot a.ts.length ct), 48)] (w1.alloc (.cells #[.pointer none, .pointer none] 70))) :=
    (show Bxs w [(w.heap.size, acc a (.slice ot a.ts.length ct), 48)] w1 from ⟨HB1.out, fun p hp => by simp at hp; subst hp; exact HX1.out⟩).alloc _ _
  clear HB1 HX1
  obtain ⟨d1, d2, d3, d4, d5⟩ := ni_cells (w := w) (a := a) (tv := .slice ot a.ts.length ct) (N0.out.get w.heap.size (by simp))
  go_wp2_with fail
  refine (Get_none (NoAt.nil _) a.p).mono ?_
  rintro e w2 ⟨rfl, hb⟩
  have N1 := Lib.hid (N0.out.after hb)
  clear hb N0 d1 d2 d3 d4 d5
  obtain ⟨d1, d2, d3, d4, d5⟩ := ni_cells (w := w) (a := a) (tv := .slice ot a.ts.length ct) (N1.out.get w.heap.size (by simp))
  go_wp2_with fail
  refine (Mark_none (NoAt.zero (S := w1.heap.size) (v := .pointer none) (N1.out.get w1.heap.size (by simp))) a.p a.n a.s).mono ?_
  rintro e w3 ⟨rfl, hb⟩
  have N2 := Lib.hid (N1.out.after hb)
  clear hb N1 d1 d2 d3 d4 d5
  obtain ⟨d1, d2, d3, d4, d5⟩ := ni_cells (w := w) (a := a) (tv := .slice ot a.ts.length ct) (N2.out.get w.heap.size (by simp))
  go_wp2_with fail
  refine (Apply_none (NoAt.nil _) _).mono ?_
  rintro e w4 ⟨rfl, hb⟩
  have N3 := Lib.hid (N2.out.after hb)
  clear hb N2 d1 d2 d3 d4 d5
  obtain ⟨d1, d2, d3, d4, d5⟩ := ni_cells (w := w) (a := a) (tv := .slice ot a.ts.length ct) (N3.out.get w.heap.size (by simp))
  go_wp2_with fail
  refine (Decides_none (NoAt.zero (S := w1.heap.size) (v := .pointer none) (N3.out.get w1.heap.size (by simp))) _).mono ?_
  rintro e w5 ⟨rfl, hb⟩
  have N4 := Lib.hid (N3.out.after hb)
  clear hb N3 d1 d2 d3 d4 d5
  go_wp2_with fail
  refine (Pages_none (NoAt.nil _)).mono ?_
  rintro e w6 ⟨rfl, rfl⟩
  have N5 := Lib.hid (N4.out.alloc #[.int .i64 0] 3)
  have hz5 : w5.heap.size < w5.heap.size + 1 := by omega
  clear N4
  go_wp2_with fail
  refine (All_none _ _ (NoAt.zero (S := w1.heap.size) (v := .pointer none) (N5.out.get w1.heap.size (by simp)) _ (Below.refl _ _))).mono ?_
  rintro e w7 ⟨v1, rfl, fn1, lb1, rfl, _, _, hb⟩
  have N6 := Lib.hid (N5.out.after hb)
  have hz6 := hb.size
  simp only [World.size_alloc] at hz6
  clear hb N5
  go_wp2_with fail
  refine (All_none _ _ (NoAt.zero (S := w1.heap.size) (v := .pointer none) (N6.out.get w1.heap.size (by simp)) _ (Below.refl _ _))).mono ?_
  rintro e w8 ⟨v2, rfl, fn, lb, rfl, heg, hgv, hb⟩
  have N7 := Lib.hid (N6.out.after hb)
  have hgv2 := hgv (fun _ => False) (fun k hk => hk.elim) w8 (Below.refl _ _)
  have hw8 : w.heap.size ≤ w8.heap.size := N7.out.below.size
  clear hb N6 hgv hfn
  go_wp2_with fail
  refine (wpIn_wide (n := 5)).1 (wp_over_none (gf := fn) (lb := lb) rfl heg hgv2 (fun k hk => hk.elim) (fun _ => rfl)
    (fun W => ∃ _x : Unit, True ∧ Bxs w [(w5.heap.size, #[.int .i64 0], 3), (w1.heap.size, #[.pointer none, .pointer none], 70), (w.heap.size, acc a (.slice ot a.ts.length ct), 48)] W)
    (bxs_own w (fun (_ : List T.Pr) (_ : Unit) => True) (fun _ _ => [(w5.heap.size, #[.int .i64 0], 3), (w1.heap.size, #[.pointer none, .pointer none], 70), (w.heap.size, acc a (.slice ot a.ts.length ct), 48)]) hw8) ⟨(), trivial, N7.out⟩ ?_)
  rintro D0 W9 hD0 ⟨_, _, hX9⟩ hK
  have N8 := Lib.hid hX9
  have HK := Lib.hid hK
  clear hX9 hK N7 heg hgv2
  go_wp2_with fail
  refine (New_any 1 1 1 (by omega) _).mono ?_
  rintro e w9 ⟨S', F', rfl, hat, hF, hb⟩
  have N9 := Lib.hid (N8.out.after hb)
  have HK9 := Lib.hid ((hb.block _ (Array.getElem?_eq_some_iff.1 HK.out).1).trans HK.out)
  have HA := Lib.hid hat
  clear hb hat hF N8 HK
  have cN := (N9.out.get w5.heap.size (cs := #[.int .i64 0]) (ty := 3) (by simp)).cell 0
  go_wp2_with fail
  refine (Sets_none (NoAt.nil _)).mono ?_
  rintro e w10 ⟨rfl, rfl⟩
  go_wp2_with fail
  refine (Copy_none (NoAt.zero (S := w1.heap.size) (v := .pointer none) (N9.out.get w1.heap.size (by simp)))).mono ?_
  rintro e w11 ⟨rfl, rfl⟩
  go_wp2_with fail
  refine (Same_no _ true true rfl (none_nil _) (NoAt.zero (S := w1.heap.size) (v := .pointer none) (N9.out.get w1.heap.size (by simp)) _ (Below.refl _ _))).mono ?_
  rintro e w12 ⟨rfl, rfl⟩
  go_wp2_with fail
  refine (Same_no _ true false rfl (none_nil _) HA.out.none).mono ?_
  rintro e w13 ⟨rfl, rfl⟩
  go_wp2_with fail
  refine (Same_no _ false true rfl HA.out.none (NoAt.zero (S := w1.heap.size) (v := .pointer none) (N9.out.get w1.heap.size (by simp)) _ (Below.refl _ _))).mono ?_
  rintro e w14 ⟨rfl, rfl⟩
  go_wp2_with fail
  refine (known_any _).mono ?_
  rintro e w15 ⟨rfl, hb⟩
  have HBe := Lib.hid (N9.out.below.trans (hb.mono N9.out.below.size))
  have HK10 := Lib.hid ((hb.block _ (Array.getElem?_eq_some_iff.1 HK9.out).1).trans HK9.out)
  clear hb
  go_wp2
  refine ⟨by simp, .inl ⟨_, _, rfl, run_takeDeferred HK10.out, ?_⟩⟩
  exact ⟨_, results_tmp rfl _ _ _, rfl, HBe.out.trans (belowK_b (w := w) (Nat.le_refl _) _ D0 _ _ (by omega) HK10.out rfl rfl)⟩
end Go.Proofs.YtpomnjahhdahnaaGreat
