/-
  Layer 6: the walks of TlbPlays and TlbLooks.
-/
import Derived.Test.YtafkjokbidkkhaaPlayed
import Derived.Test.YtafkjokbidkkhaaIs
namespace Go.Proofs.Ytafkjokbidkkhaa
open Go.RowKit
set_option maxHeartbeats 1000000
set_option linter.unusedVariables false

theorem Own.is {w W : World} {S : Nat} {t : Tl} (h : Own w S t W) : Calls Try.prog 11 #[.pointer (some ⟨S, 0, none⟩), .agg (rc t)] W fun e w' => e = .returned (.bool true) ∧ Own w S t w' :=
  (is_any h.at_).mono fun e w' hq => ⟨hq.1, h.after hq.2⟩
theorem TlbPlays_walk (v : Value) (xs : List Act5) (w : World) (h : ActsIn w v xs) : Calls Try.prog 3 #[v] w fun e w' => e = .returned (.bool true) ∧ Below w.heap.size w w' := by
  obtain ⟨o, c, rfl, hc, hm⟩ := h.form
  unfold maxLen at hm
  have HI := Lib.hid h
  clear h
  by_cases hlen : (60 : Int) < xs.length
  · go_enter Try.func3, Try.ntmps3
    go_wp2_with (go_at_call 9; refine (works_any _).mono ?_; rintro e w' ⟨rfl, hb⟩)
    go_ret
    exact ⟨rfl, hb⟩
  · go_enter Try.func3, Try.ntmps3
    go_wp2_with fail
    refine (played_any w _ xs HI.out).mono ?_
    rintro e w1 ⟨S, rfl, hO⟩
    have H2 := Lib.hid (hO.after ((Below.refl _ _).alloc (Nat.le_refl _) (.cells (rc (plT xs)) 30)))
    have R2 := Lib.hid (show Rf (w1.alloc (.cells (rc (plT xs)) 30)) w1.heap.size (plT xs) from blk_new _ _ _)
    clear hO
    go_wp2_with (first | ((with_reducible apply wp_store_Rn (plT xs)); (rfl); (rfl); (rfl)) | ((with_reducible apply wp_load_Rg); (kernel_rfl); (exact R2.out); (rfl)))
    refine H2.out.is.mono ?_
    rintro e w3 ⟨rfl, hO⟩
    have H3 := Lib.hid hO
    clear hO H2 R2
    go_wp2_with fail
    refine (works_any _).mono ?_
    rintro e w4 ⟨rfl, hb⟩
    have H4 := Lib.hid (H3.out.after hb)
    clear hb H3
    go_wp2
    go_ret
    exact ⟨rfl, H4.out.below⟩
end Go.Proofs.Ytafkjokbidkkhaa
