/-
  Layer 12: the statement FlowCopies, its early ends: a walk.
-/
import Derived.Test.YtdpdoclhdjhjkaaGreatG26
import Derived.Test.YtdpdoclhdjhjkaaGreatG27
import Derived.Test.YtdpdoclhdjhjkaaGreatG46
import Derived.Test.YtdpdoclhdjhjkaaGreatG53
set_option linter.unusedVariables false
set_option linter.unusedSimpArgs false
namespace Go.Proofs.YtdpdoclhdjhjkaaGreat
open Go.RowKit Go.Shelf
set_option maxHeartbeats 8000000
set_option maxRecDepth 100000
set_option linter.unusedVariables false
set_option linter.unusedSimpArgs false
attribute [local go_sem] Oper.semAt_some

theorem Copies_few (bd : Int) {v v' : Value} {xs ys : List Ac} {w : World} (h : ActsIn w v xs) (h' : ActsIn w v' ys) (hq : vastS xs = true ∨ vastS ys = true ∨ 30 < xs.length + ys.length) : Calls Tryz.prog 5 #[v, v', .int .i64 bd] w fun e w' => e = .returned (.bool true) ∧ Below w.heap.size w w' := by
  have HB := Lib.hid (bel1 w (.cells #[.int .i64 bd] 3))
  have HA := Lib.hid (fun W (hb : Below w.heap.size w W) => (show ActsIn W v xs from h.below hb))
  have HA' := Lib.hid (fun W (hb : Below w.heap.size w W) => (show ActsIn W v' ys from h'.below hb))
  obtain ⟨oa, ca, rfl, _, hla⟩ := h.shape
  obtain ⟨ob, cb, rfl, _, hlb⟩ := h'.shape
  unfold maxLen at hla hlb
  have HQ := Lib.hid hq
  clear h h' hq
  go_enter Tryz.func5, Tryz.ntmps5
  go_wp2_with fail
  refine (vast_any (HA.out _ HB.out)).mono ?_
  rintro e w1 ⟨rfl, hb⟩
  have HB1 := Lib.hid (HB.out.trans (hb.mono HB.out.size))
  clear hb HB
  cases hv : vastS xs with
  | true =>
    clear hv
    go_wp2_with fail
    refine (known_any _).mono ?_
    rintro e w2 ⟨rfl, hb⟩
    have HB2 := Lib.hid (HB1.out.trans (hb.mono HB1.out.size))
    clear hb
    go_wp2
    go_ret
    exact ⟨rfl, HB2.out⟩
  | false =>
    go_wp2_with fail
    refine (vast_any (HA'.out _ HB1.out)).mono ?_
    rintro e w2 ⟨rfl, hb⟩
    have HB2 := Lib.hid (HB1.out.trans (hb.mono HB1.out.size))
    clear hb
    cases hv' : vastS ys with
    | true =>
      clear hv hv'
      go_wp2_with fail
      refine (known_any _).mono ?_
      rintro e w3 ⟨rfl, hb⟩
      have HB3 := Lib.hid (HB2.out.trans (hb.mono HB2.out.size))
      clear hb
      go_wp2
      go_ret
      exact ⟨rfl, HB3.out⟩
    | false =>
      have hx := (vast_no hv).1
      have hy := (vast_no hv').1
      have hs : (30 : Int) < (xs.length : Int) + (ys.length : Int) := by
        rcases HQ.out with e | e | e
        · rw [hv] at e; cases e
        · rw [hv'] at e; cases e
        · omega
      clear hv hv'
      go_wp2_with fail
      refine (known_any _).mono ?_
      rintro e w3 ⟨rfl, hb⟩
      have HB3 := Lib.hid (HB2.out.trans (hb.mono HB2.out.size))
      clear hb
      go_wp2
      go_ret
      exact ⟨rfl, HB3.out⟩
end Go.Proofs.YtdpdoclhdjhjkaaGreat
