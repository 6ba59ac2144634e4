/-
  Layer 14: alike of the statements, of a note and itself: walk.
-/
import Derived.Test.YtiohlmccnllklaaGreatDoorG21
import Derived.Test.YtiohlmccnllklaaGreatDoorG06
set_option linter.unusedVariables false
set_option linter.unusedSimpArgs false
namespace Go.Proofs.YtiohlmccnllklaaGreatDoor.Q
open Go.RowKit
set_option maxHeartbeats 8000000
set_option maxRecDepth 100000
set_option linter.unusedVariables false
set_option linter.unusedSimpArgs false

theorem alike_any {w : World} {n : T.No} {fv gv : Value} (h1 : PlsIn w fv n.fr) (h2 : PlsIn w gv n.fr) : Calls Tryz.prog 19 #[.agg (noc n fv).toArray, .agg (noc n gv).toArray] w fun e w' => e = .returned (.bool true) ∧ Below w.heap.size w w' := by
  have hb := belT (bel1 w (.cells (noc n fv).toArray 63)) (bel1 _ (.cells (noc n gv).toArray 63))
  have HS := Lib.hid (same_any (h1.below hb) (h2.below hb))
  have HB := Lib.hid hb
  have he := fun w => eql_place n.pl n.pl w
  simp only [decide_true] at he HS
  obtain ⟨of, cf, rfl, _, _⟩ := h1.shape
  obtain ⟨og, cg, rfl, _, _⟩ := h2.shape
  clear h1 h2 hb
  unfold noc at *
  go_enter Tryz.func19, Tryz.ntmps19
  go_wp2_with fail
  refine HS.out.mono ?_
  rintro e w' ⟨rfl, hb⟩
  have HB2 := Lib.hid (belT HB.out hb)
  clear hb
  go_wp2
  go_ret
  exact ⟨rfl, HB2.out⟩
end Go.Proofs.YtiohlmccnllklaaGreatDoor.Q
