/-
  Layer 12: the statement FlowFull, its early ends: a walk.
-/
import Derived.Test.YtdpdoclhdjhjkaaGreatG49
import Derived.Test.YtdpdoclhdjhjkaaGreatG44
import Derived.Test.YtdpdoclhdjhjkaaGreatG27
import Derived.Test.YtdpdoclhdjhjkaaGreatG46
set_option linter.unusedVariables false
set_option linter.unusedSimpArgs false
namespace Go.Proofs.YtdpdoclhdjhjkaaGreat
open Go.RowKit Go.Shelf
set_option maxHeartbeats 8000000
set_option maxRecDepth 100000
set_option linter.unusedVariables false
set_option linter.unusedSimpArgs false
attribute [local go_sem] Oper.semAt_some

theorem Full_few (bd : Int) {v : Value} {xs : List Ac} {w : World} (h : ActsIn w v xs) (hq : vastS xs = true ∨ bd < 1 ∨ 40 < bd) : Calls Tryz.prog 4 #[.int .i64 bd, v] w fun e w' => e = .returned (.bool true) ∧ Below w.heap.size w w' := by
  have H0 := Lib.hid ((Bxs.nil w).alloc #[.bool false] 4)
  have HV := Lib.hid (vast_any (h.below (bel1 w (.cells #[.bool false] 4))))
  have HQ := Lib.hid hq
  clear h hq
  go_enter Tryz.func4, Tryz.ntmps4
  go_wp2_with fail
  refine HV.out.mono ?_
  rintro e w1 ⟨rfl, hb⟩
  have H1 := Lib.hid (H0.out.after hb)
  clear hb HV H0
  have hcase : vastS xs = true ∨ (vastS xs = false ∧ bd < 1) ∨ (vastS xs = false ∧ ¬ bd < 1 ∧ 40 < bd) := by
    have := HQ.out
    cases e : vastS xs with
    | true => exact .inl rfl
    | false =>
      simp only [e, Bool.false_eq_true, false_or] at this
      by_cases h : bd < 1
      · exact .inr (.inl ⟨rfl, h⟩)
      · exact .inr (.inr ⟨rfl, h, by omega⟩)
  have hbx := H1.out.get w.heap.size (cs := #[.bool false]) (ty := 4) (by simp)
  have c0 := hbx.cell 0
  have z0 := hbx.frozen 0
  rcases hcase with hv | ⟨hv, hl0⟩ | ⟨hv, hl0, hl16⟩
  all_goals
    rw [hv]
    go_wp2_with fail
    refine (known_any _).mono ?_
    rintro e w2 ⟨rfl, hb2⟩
    have H2 := Lib.hid (H1.out.after hb2)
    have hbx2 := H2.out.get w.heap.size (cs := #[.bool false]) (ty := 4) (by simp)
    clear c0 z0 hbx
    have c0 := hbx2.cell 0
    have z0 := hbx2.frozen 0
    have HC := Lib.hid ((hbx2.setCell 0 (.bool true)).cell 0)
    have HB := Lib.hid (H2.out.below.setCell (p := ⟨w.heap.size, 0, none⟩) (Nat.le_refl _) (.bool true))
    clear hb2 hbx2
    go_wp2_with fail
    have hc : (w2.setCell ⟨w.heap.size, 0, none⟩ (.bool true)).cell? ⟨w.heap.size, 0, none⟩ = some (.bool true) := HC.out
    exact ⟨rfl, .bool true, by simp [results, Tryz.results4, go_sem, hc], rfl, HB.out⟩
end Go.Proofs.YtdpdoclhdjhjkaaGreat
