/-
  Layer 3: the walk of ShadowMakes.
-/
import Derived.Test.YtepmndadbikijaaLaws1
namespace Go.Proofs.Ytepmndadbikijaa
open Go.RowKit Go.Shelf
set_option maxHeartbeats 1000000
set_option linter.unusedSimpArgs false
attribute [local go_sem] Oper.semAt_some

theorem own_below {β : Type} (w : World) {B : Nat} (hB : w.heap.size ≤ B) : OwnFrom B (fun (_ : β) W => Below w.heap.size w W) := fun _ W W' row hs hg hr =>
  hs.grown hg hs.size (fun k e => by have := (hr k e).1; omega)
/-- A loop over an iterator that gives nothing. -/
theorem wp_over_nil {α : Type} {P : Program} {n : Nat} {g : Operand} {ps : Array Tmp} {body : Code} {Q : Exit → Act → World → Prop} {a : Act} {w : World}
    {gf : Nat} {lb : Array Value} (hg : a.eval g = .func (.func gf) #[] lb) (eg : ∀ args w, (callFunc gf args).run P w = .ok (.enter gf args) w)
    {encs : α → Array Value} (hseq : Gives P gf lb encs (fun _ => False) ([] : List α) w) (hps : ∀ x, (encs x).size = ps.size)
    (hdone : ∀ (D : Nat) (W : World), w.heap.size ≤ D → Below w.heap.size w W → W.heap[D]? = some (.deferred (some [])) → Q .normal { a with defers := { target := .collected D, args := #[] } :: a.defers } W) :
    (Code.rangeFunc g ps .skip body).wpIn Fence.wide n P Q a w :=
  wp_over hg eg hseq (fun _ h => h.elim) hps (fun _ W => Below w.heap.size w W) (fun _ _ _ => False) (own_below w (Nat.le_refl _)) (fun _ _ _ _ _ hs _ _ => hs) (Below.refl _ _)
    (fun x => { tmps := (ps.zip (encs x)).foldl (fun t (p, v) => t.setIfInBounds p v) a.tmps, defers := [] })
    (fun l m x W K hK => wpIn_skip hK) (fun l m pre x rest W hf => by simp at hf) (fun D W hD hI hK => hdone D W hD hI hK) (fun D c pre rest W _ _ hx _ => hx.elim)

/-- What lies behind the loop: the result's variable, the deferred calls' block. -/
structure MkS (w : World) (D0 : Nat) (W : World) : Prop where
  res : W.heap[w.heap.size]? = some (.cells #[.bool false] 4 (0, 0))
  dc : W.heap[D0]? = some (.deferred (some []))
  far : w.heap.size < D0
  below : Below w.heap.size w W
section
variable {w W W' : World} {D0 : Nat}
theorem MkS.after (h : MkS w D0 W) (hb : Below W.heap.size W W') : MkS w D0 W' :=
  ⟨(hb.block _ (Array.getElem?_eq_some_iff.1 h.res).1).trans h.res, (hb.block _ (Array.getElem?_eq_some_iff.1 h.dc).1).trans h.dc, h.far, h.below.trans (hb.mono h.below.size)⟩
/-- The result is stored, the deferred calls are taken. -/
theorem MkS.fin (h : MkS w D0 W) : ((W.setCell ⟨w.heap.size, 0, none⟩ (.bool true)).heap[D0]? = some (.deferred (some []))) ∧ ((W.setCell ⟨w.heap.size, 0, none⟩ (.bool true)).putObj D0 (.deferred none)).cell? ⟨w.heap.size, 0, none⟩ = some (.bool true) ∧ Below w.heap.size w ((W.setCell ⟨w.heap.size, 0, none⟩ (.bool true)).putObj D0 (.deferred none)) := by
  have h1 := boxed_set h.res (.bool true)
  have h2 : (W.setCell ⟨w.heap.size, 0, none⟩ (.bool true)).heap[D0]? = some (.deferred (some [])) := (Below.heap_setCell _ _ _ _ (show D0 ≠ w.heap.size by have := h.far; omega)).trans h.dc
  refine ⟨h2, ?_, ?_⟩
  · rw [cell_putObj (show w.heap.size ≠ D0 by have := h.far; omega)]; exact (boxed_cell h1).1
  · exact (h.below.setCell (p := ⟨w.heap.size, 0, none⟩) (Nat.le_refl _) _).trans (belowK_b (w := w) (Nat.le_refl _) _ D0 _ _ (Nat.le_of_lt h.far) h2 rfl rfl)
end
/-- How ShadowMakes begins: for any pages. -/
theorem mkS_start {w W1 W3 W : World} {D0 : Nat} (h1 : Below (w.alloc (.cells #[.bool false] 4)).heap.size (w.alloc (.cells #[.bool false] 4)) W1) (h3 : Below W1.heap.size W1 W3)
    (hD : ((W3.alloc (.cells #[.pointer none] 22)).alloc (.cells #[.pointer none] 22)).heap.size ≤ D0) (hB : Below ((W3.alloc (.cells #[.pointer none] 22)).alloc (.cells #[.pointer none] 22)).heap.size ((W3.alloc (.cells #[.pointer none] 22)).alloc (.cells #[.pointer none] 22)) W)
    (hK : W.heap[D0]? = some (.deferred (some []))) : MkS w D0 W ∧ Below W1.heap.size W1 W := by
  have z1 := h1.size
  have z3 := h3.size
  have e := heap_alloc_new w (.cells #[.bool false] 4)
  have ha : Below w.heap.size w (w.alloc (.cells #[.bool false] 4)) := (Below.refl _ _).alloc (Nat.le_refl _) _
  simp at z1 hD
  have b1W : Below W1.heap.size W1 W := ((h3.alloc z3 _).alloc (by simp; omega) _).trans (hB.mono (by simp; omega))
  have b0W : Below (w.alloc (.cells #[.bool false] 4)).heap.size (w.alloc (.cells #[.bool false] 4)) W := h1.trans (b1W.mono (by simp; omega))
  exact ⟨⟨(b0W.block _ (by simp)).trans e, hK, by omega, ha.trans (b0W.mono (by simp))⟩, b1W⟩

theorem ShadowMakes_walk (a : Int) (_ha : (Lit.int .i64 a).wf = true) (w : World) :
    Calls Try.prog 3 #[.int .i64 a] w fun e w' => e = .returned (.bool true) ∧ Below w.heap.size w w' := by
  have hfn := fun_nil
  by_cases hbad : a < 1 ∨ 32 < a
  · by_cases hlow : a < 1
    all_goals
      refine (callsIn_wide (n := 5)).1 ?_
      refine callsIn_of_wp_marks Try.func3 rfl trivial ?_ rfl
      refine wpIn_wide.2 ?_
      simp only [Try.ntmps3, List.size_toArray, List.length_cons, List.length_nil, Nat.reduceAdd, Nat.reduceSub, Array.replicate_succ, Array.replicate_zero, List.push_toArray, List.append_toArray, List.nil_append, List.cons_append]
      go_wp2_with fail
      refine (New_bad a hbad _).mono ?_; rintro e W1 ⟨rfl, rfl⟩
      go_wp2_with fail
      refine (Get_nil _ _).mono ?_; rintro e W2 ⟨rfl, hb2⟩
      go_wp2_with fail
      refine (Union_nil _ _ _).mono ?_; rintro e W3 ⟨rfl, hb3⟩
      go_wp2_with fail
      refine (All_nil _).mono ?_; rintro e W4 ⟨rfl, rfl⟩
      go_wp2_with fail
      refine (All_nil _).mono ?_; rintro e W5 ⟨rfl, rfl⟩
      go_wp2_with fail
      refine (wpIn_wide (n := 5)).1 (wp_over_nil (gf := 37) (lb := #[.pointer (some ⟨W3.heap.size + 1, 0, none⟩)]) rfl (enters_of Try.func37 (by kernel_rfl) rfl)
        (All1_nil (W3.heap.size + 1) _ (by have := heap_alloc_new (W3.alloc (.cells #[.pointer none] 22)) (.cells #[.pointer none] 22); simpa using this) _ []) (fun _ => rfl) ?_)
      intro D0 W hD0 hB hK
      obtain ⟨hM, hW1⟩ := mkS_start (Below.refl _ _) (hb2.trans (hb3.mono hb2.size)) hD0 hB hK
      have HM := Lib.hid hM
      clear hM hW1 hb2 hb3 hB hK
      go_wp2_with (first
        | (go_at_call 15; refine (num_any _ _).mono ?_; rintro e w' ⟨rfl, rfl⟩)
        | (go_at_call 16; refine (Set_nil _ _ _).mono ?_; rintro e W5 ⟨rfl, hb⟩; have HM := Lib.hid (HM.out.after hb); clear hb)
        | (go_at_call 17; refine (Fill_nil _ _ _ _).mono ?_; rintro e W6 ⟨rfl, hb⟩; have HM := Lib.hid (HM.out.after hb); clear hb)
        | (go_at_call 18; refine (Size_nil _).mono ?_; rintro e w' ⟨rfl, rfl⟩)
        | (go_at_call 19; refine (Pages_nil _).mono ?_; rintro e w' ⟨rfl, rfl⟩)
        | (go_at_call 20; refine (Private_nil _ _).mono ?_; rintro e w' ⟨rfl, rfl⟩)
        | (go_at_call 21; refine (Copy_nil _).mono ?_; rintro e w' ⟨rfl, rfl⟩)
        | (go_at_call 22; refine (Same_nils _).mono ?_; rintro e w' ⟨rfl, rfl⟩)
        | (go_at_call 23; refine (works_any _).mono ?_; rintro e W9 ⟨rfl, hb⟩; have HM := Lib.hid (HM.out.after hb); clear hb; obtain ⟨cb, fb⟩ := boxed_cell HM.out.res))
      obtain ⟨f1, f2, f3⟩ := HM.out.fin
      refine ⟨by simp, .inl ⟨_, _, rfl, run_takeDeferred f1, ?_⟩⟩
      exact ⟨.bool true, by simp [results, Try.results3, go_sem, f2], rfl, f3⟩
  · obtain ⟨P, rfl⟩ := Int.eq_ofNat_of_zero_le (show 0 ≤ a by omega)
    have h1 : ¬ (P : Int) < 1 := by omega
    have h2 : ¬ 32 < (P : Int) := by omega
    refine (callsIn_wide (n := 5)).1 ?_
    refine callsIn_of_wp_marks Try.func3 rfl trivial ?_ rfl
    refine wpIn_wide.2 ?_
    simp only [Try.ntmps3, List.size_toArray, List.length_cons, List.length_nil, Nat.reduceAdd, Nat.reduceSub, Array.replicate_succ, Array.replicate_zero, List.push_toArray, List.append_toArray, List.nil_append, List.cons_append]
    go_wp2_with fail
    refine (New_any P (by omega) (by omega) _).mono ?_; rintro e W1 ⟨F, rfl, hs, hF, hb1⟩
    simp only [World.size_alloc] at hs
    have HS := Lib.hid hs
    have HF := Lib.hid hF
    clear hs hF
    go_wp2_with fail
    refine (Get_nil _ _).mono ?_; rintro e W2 ⟨rfl, hb2⟩
    go_wp2_with fail
    refine (Union_nil _ _ _).mono ?_; rintro e W3 ⟨rfl, hb3⟩
    go_wp2_with fail
    refine (All_nil _).mono ?_; rintro e W4 ⟨rfl, rfl⟩
    go_wp2_with fail
    refine (All_nil _).mono ?_; rintro e W5 ⟨rfl, rfl⟩
    go_wp2_with fail
    refine (wpIn_wide (n := 5)).1 (wp_over_nil (gf := 37) (lb := #[.pointer (some ⟨W3.heap.size + 1, 0, none⟩)]) rfl (enters_of Try.func37 (by kernel_rfl) rfl)
      (All1_nil (W3.heap.size + 1) _ (by have := heap_alloc_new (W3.alloc (.cells #[.pointer none] 22)) (.cells #[.pointer none] 22); simpa using this) _ []) (fun _ => rfl) ?_)
    intro D0 W hD0 hB hK
    obtain ⟨hM, hW1⟩ := mkS_start hb1 (hb2.trans (hb3.mono hb2.size)) hD0 hB hK
    have HM := Lib.hid hM
    have HSW := Lib.hid (HS.out.below hW1)
    clear hM hW1 hb1 hb2 hb3 HS hB hK HF
    go_wp2_with (first
      | (go_at_call 15; refine (num_any _ _).mono ?_; rintro e w' ⟨rfl, rfl⟩)
      | (go_at_call 16; refine (Set_nil _ _ _).mono ?_; rintro e W5 ⟨rfl, hb⟩; have HM := Lib.hid (HM.out.after hb); have HSW := Lib.hid (HSW.out.below hb); clear hb)
      | (go_at_call 17; refine (Fill_nil _ _ _ _).mono ?_; rintro e W6 ⟨rfl, hb⟩; have HM := Lib.hid (HM.out.after hb); have HSW := Lib.hid (HSW.out.below hb); clear hb)
      | (go_at_call 18; refine (Size_nil _).mono ?_; rintro e w' ⟨rfl, rfl⟩)
      | (go_at_call 19; refine (Pages_nil _).mono ?_; rintro e w' ⟨rfl, rfl⟩)
      | (go_at_call 20; refine (Private_nil _ _).mono ?_; rintro e w' ⟨rfl, rfl⟩)
      | (go_at_call 21; refine (Copy_nil _).mono ?_; rintro e w' ⟨rfl, rfl⟩)
      | (go_at_call 22; first
          | (with_reducible refine (Same_nils _).mono ?_; rintro e w' ⟨rfl, rfl⟩)
          | (with_reducible refine (Same_nil1 HSW.out).mono ?_; rintro e w' ⟨rfl, rfl⟩)
          | (with_reducible refine (Same_nil2 HSW.out).mono ?_; rintro e w' ⟨rfl, rfl⟩))
      | (go_at_call 25; refine (RNew_any P (by omega) (by omega) _).mono ?_; rintro e W7 ⟨g, c, rfl, hr, _, hb⟩; have HR := Lib.hid hr; have HM := Lib.hid (HM.out.after hb); have HSW := Lib.hid (HSW.out.below hb); clear hb hr)
      | (go_at_call 24; refine (is_any HSW.out HR.out).mono ?_; rintro e W8 ⟨rfl, hb⟩; have HM := Lib.hid (HM.out.after hb); clear hb)
      | (go_at_call 23; refine (works_any _).mono ?_; rintro e W9 ⟨rfl, hb⟩; have HM := Lib.hid (HM.out.after hb); clear hb; obtain ⟨cb, fb⟩ := boxed_cell HM.out.res))
    obtain ⟨f1, f2, f3⟩ := HM.out.fin
    refine ⟨by simp, .inl ⟨_, _, rfl, run_takeDeferred f1, ?_⟩⟩
    exact ⟨.bool true, by simp [results, Try.results3, go_sem, f2], rfl, f3⟩
end Go.Proofs.Ytepmndadbikijaa
