/-
  Layer 2: the law's own known answers.
-/
import Derived.Test.YtafnclkkncokpaaDoorText
import Derived.Test.YtafnclkkncokpaaDoorMake
import Derived.Test.YtafnclkkncokpaaDoorJoin
namespace Go.Proofs.YtafnclkkncokpaaDoor
open Go.RowKit
set_option maxHeartbeats 1000000
theorem lab5 : labN 5 16 = [0, 2] := by decide
theorem txt5 : txt (labN 5 16) = ⟨#[48, 32, 50]⟩ := by
  rw [lab5]; unfold txt; rw [if_neg (by decide)]
  simp [Lib.decDigits_one, Lib.join_cons, Lib.joinTail]
theorem keep5 : keepR 2 [0] 5 = ([0, 5], 1, 0) := by decide
theorem Keep5 (T : Nat) (F : List Nat) (w : World) (h : Tab w T 2 [0] 0 F) : Calls Tryd.prog 14 #[.pointer (some ⟨T, 0, none⟩), .int .u32 5] w fun e w' => e = .returned (.tuple #[.int .i64 1, .int .i64 0]) ∧ TabTo w w' T 2 [0, 5] 0 F := by
  have := Keep_any T 2 [0] 0 F 5 (by unfold W32; omega) w h
  rw [keep5] at this
  exact this
theorem keep6 : keepR 2 [0, 5] 6 = ([0, 5], 0, 120) := by decide

theorem Keep6 (T : Nat) (F : List Nat) (w : World) (h : Tab w T 2 [0, 5] 0 F) : Calls Tryd.prog 14 #[.pointer (some ⟨T, 0, none⟩), .int .u32 6] w fun e w' => e = .returned (.tuple #[.int .i64 0, .int .i64 120]) ∧ TabTo w w' T 2 [0, 5] 0 F := by
  have := Keep_any T 2 [0, 5] 0 F 6 (by unfold W32; omega) w h
  rw [keep6] at this
  exact this
theorem Text5 (w : World) : Calls Tryd.prog 23 #[.int .u32 5] w fun e w' => e = .returned (.string ⟨#[48, 32, 50]⟩) ∧ Below w.heap.size w w' := by
  have := Text_any 5 (by unfold W32; omega) w
  rw [txt5] at this
  exact this

set_option maxRecDepth 100000 in
theorem known_any (w : World) : Calls Tryd.prog 9 #[] w fun e w' => e = .returned (.bool true) ∧ Below w.heap.size w w' := by
  go_enter Tryd.func9, Tryd.ntmps9
  go_wp2_with (first
    | (go_at_call 10; (with_reducible refine (New_good 2 (by decide) (by decide) _).mono ?_); rintro e w1 ⟨rfl, hT, hb1⟩)
    | (go_at_call 14; (with_reducible refine (Keep5 _ _ _ hT).mono ?_); rintro e w2 ⟨rfl, F2, hT2, ht2, hn2⟩)
    | (go_at_call 14; (with_reducible refine (Keep6 _ _ _ hT2).mono ?_); rintro e w3 ⟨rfl, F3, hT3, ht3, hn3⟩)
    | (go_at_call 23; (with_reducible refine (Text5 _).mono ?_); rintro e w4 ⟨rfl, hb4⟩))
  go_ret
  refine ⟨rfl, ?_⟩
  have hs1 := hb1.size
  have hs2 := ht2.size
  have k2 : ∀ k ∈ F2, w.heap.size ≤ k := fun k hk => by
    rcases hn2 k hk with h | h
    · simp at h; omega
    · omega
  have B2 := hb1.trans (ht2.below (B := w.heap.size) (by omega) (fun k hk => by simp at hk; omega))
  have B3 := B2.trans (ht3.below (B := w.heap.size) (by have := B2.size; omega) k2)
  exact B3.trans (hb4.mono B3.size)
end Go.Proofs.YtafnclkkncokpaaDoor
