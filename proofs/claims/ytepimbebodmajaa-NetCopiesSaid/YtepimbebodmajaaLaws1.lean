/-
  Layer 9: the walk of NetPlays.
-/
import Derived.Test.YtepimbebodmajaaPlayed
import Derived.Test.YtepimbebodmajaaWorks
namespace Go.Proofs.Ytepimbebodmajaa
open Go.RowKit
set_option maxHeartbeats 4000000
set_option linter.unusedVariables false

theorem NetPlays_walk (v : Value) (xs : List Ac) (w : World) (h : ActsIn w v xs) : Calls Try.prog 3 #[v] w fun e w' => e = .returned (.bool true) ∧ Below w.heap.size w w' := by
  have HI := Lib.hid h
  have HF := Lib.hid (few_any h)
  clear h
  go_enter Try.func3, Try.ntmps3
  go_wp2_with fail
  refine HF.out.mono ?_
  rintro e w1 ⟨q, rfl, rfl, hq⟩
  cases q with
  | false =>
    clear hq
    go_wp2_with (go_at_call 10; refine (works_any _).mono ?_; rintro e w' ⟨rfl, hb⟩)
    go_ret
    exact ⟨rfl, hb⟩
  | true =>
    have HC := Lib.hid (hq rfl)
    clear hq
    go_wp2_with fail
    refine (played_any HI.out HC.out).mono ?_
    rintro e w2 ⟨c, rfl, cv, sv, cl, sl, F, rfl, hP⟩
    have HN := Lib.hid (show zR.size = 3 ∧ Ok1 3 (rcL (plN xs) cv sv) from ⟨rfl, hP.r.ok _⟩)
    have HB := Lib.hid (hP.below.alloc hP.below.size (.cells (rcL (plN xs) cv sv) 28))
    clear hP
    go_wp2_with ((with_reducible apply wp_store_Rn _ rowR); (exact HN.out); (rfl); (rfl))
    refine (works_any _).mono ?_
    rintro e w3 ⟨rfl, hb⟩
    have HB2 := Lib.hid (HB.out.trans (hb.mono HB.out.size))
    clear hb
    go_wp2
    go_ret
    exact ⟨rfl, HB2.out⟩
end Go.Proofs.Ytepimbebodmajaa
