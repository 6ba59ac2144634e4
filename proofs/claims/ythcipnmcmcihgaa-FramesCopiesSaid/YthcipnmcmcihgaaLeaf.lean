/-
  Layer 5: the small functions: none, Size, mayBe, has, cut, num, dividers, Clone, New, Of: walks.
-/
import Derived.Test.YthcipnmcmcihgaaRows
import Derived.Test.YthcipnmcmcihgaaTab
import Derived.WalkKit
import Derived.WalkSpells
import Derived.WalkLawsBesides
import Derived.Lib.Hide
import Derived.Maps.OwnIn
import Derived.Maps.AppendAt
import Derived.BigQuiet
namespace Go.Proofs.Ythcipnmcmcihgaa
open Go.RowKit
set_option maxHeartbeats 400000

theorem num_any (x : Int) (w : World) : Calls Try.prog 13 #[.int .i64 x] w fun e w' => e = .returned (.int .i64 x) ∧ w = w' := by
  go_enter Try.func13, Try.ntmps13
  go_wp2
  go_ret
  exact ⟨rfl, rfl⟩
theorem none_nil (w : World) : Calls Try.prog 31 #[.pointer none] w fun e w' => e = .returned (.bool true) ∧ w = w' := by
  go_enter Try.func31, Try.ntmps31
  go_wp2
  go_ret
  exact ⟨rfl, rfl⟩
theorem none_some (S : Nat) (o : Option Addr) (n c : Nat) (w : World) (hc : w.cell? ⟨S, 0, none⟩ = some (.slice o n c)) (h1 : 1 ≤ n) :
    Calls Try.prog 31 #[.pointer (some ⟨S, 0, none⟩)] w fun e w' => e = .returned (.bool false) ∧ w = w' := by
  go_enter Try.func31, Try.ntmps31
  go_wp2
  go_ret
  exact ⟨by simp; omega, rfl⟩
theorem Size_nil (w : World) : Calls Try.prog 16 #[.pointer none] w fun e w' => e = .returned (.int .i64 0) ∧ w = w' := by
  go_enter Try.func16, Try.ntmps16
  go_wp2_with (go_at_call 31; refine (none_nil _).mono ?_; rintro e w' ⟨rfl, rfl⟩)
  go_ret
  exact ⟨rfl, rfl⟩
theorem Size_cell (S : Nat) (o : Option Addr) (n c : Nat) (w : World) (hc : w.cell? ⟨S, 0, none⟩ = some (.slice o n c)) (h1 : 1 ≤ n) :
    Calls Try.prog 16 #[.pointer (some ⟨S, 0, none⟩)] w fun e w' => e = .returned (.int .i64 (n : Int)) ∧ w = w' := by
  go_enter Try.func16, Try.ntmps16
  go_wp2_with (go_at_call 31; refine (none_some S _ _ _ _ hc h1).mono ?_; rintro e w' ⟨rfl, rfl⟩)
  go_ret
  exact ⟨rfl, rfl⟩
theorem Size_any {w : World} {S : Nat} {l : List Int} {F : Nat → Prop} (h : Fr w S l F) : Calls Try.prog 16 #[.pointer (some ⟨S, 0, none⟩)] w fun e w' => e = .returned (.int .i64 (l.length : Int)) ∧ w = w' := by
  obtain ⟨g, c, rfl, h⟩ := h
  have := h.lo
  exact Size_cell S _ _ _ w h.cell (by omega)
theorem mayBe_any (n : Int) (w : World) : Calls Try.prog 27 #[.int .i64 n] w fun e w' => e = .returned (.bool (decide (1 ≤ n) && decide (n ≤ 32))) ∧ w = w' := by
  by_cases h : 1 ≤ n
  · go_enter Try.func27, Try.ntmps27
    go_wp2
    go_ret
    exact ⟨by simp [h], rfl⟩
  · go_enter Try.func27, Try.ntmps27
    go_wp2
    go_ret
    exact ⟨by simp; omega, rfl⟩
theorem RSize_any (n : Int) (w : World) : Calls Try.prog 14 #[.int .i64 n] w fun e w' => e = .returned (.bool (decide (64 ≤ n) && decide (n ≤ 2048) && decide (n % 64 = 0))) ∧ w = w' := by
  by_cases h : 64 ≤ n
  · by_cases h2 : n ≤ 2048
    · have ht : n.tmod 64 = n % 64 := Int.tmod_eq_emod_of_nonneg (by omega)
      go_enter Try.func14, Try.ntmps14
      go_wp2
      go_ret
      exact ⟨by by_cases e : n % 64 = 0 <;> simp [h, h2, e], rfl⟩
    · go_enter Try.func14, Try.ntmps14
      go_wp2
      go_ret
      exact ⟨by simp; omega, rfl⟩
  · go_enter Try.func14, Try.ntmps14
    go_wp2
    go_ret
    exact ⟨by simp; omega, rfl⟩

/-! ### what an access reaches -/
theorem has_any (S : Nat) (o : Option Addr) (n c : Nat) (a m : Int) (ha : W32 a) (hm : 0 ≤ m) (hm2 : m < 9223372036854775808) (w : World) (hc : w.cell? ⟨S, 0, none⟩ = some (.slice o n c)) (hn : n ≤ 2048) :
    Calls Try.prog 41 #[.pointer (some ⟨S, 0, none⟩), .int .u32 a, .int .i64 m] w fun e w' => e = .returned (.bool (decide (a + m ≤ n))) ∧ w = w' := by
  obtain ⟨ha0, ha1⟩ := ha
  by_cases h : a ≤ n
  · go_enter Try.func41, Try.ntmps41
    go_wp2
    go_ret
    exact ⟨by simp <;> omega, rfl⟩
  · go_enter Try.func41, Try.ntmps41
    go_wp2
    go_ret
    exact ⟨by simp <;> omega, rfl⟩
theorem cut_pos {w : World} {S g c : Nat} {l : List Int} (h : FrIs w S g c l) (a n : Nat) (hn : 0 < n) (han : a + n ≤ l.length) :
    Calls Try.prog 40 #[.pointer (some ⟨S, 0, none⟩), .int .i64 (a : Int), .int .i64 (n : Int)] w fun e w' => e = .returned (.slice (some ⟨g, a, none⟩) n n) ∧ w = w' := by
  have hc := h.cell
  have h1 := h.hi
  have h2 := h.cap
  have h3 := h.capM
  clear h
  go_enter Try.func40, Try.ntmps40
  go_wp2
  go_ret
  exact ⟨by simp, rfl⟩
theorem cut_zero {w : World} {S g c : Nat} {l : List Int} (h : FrIs w S g c l) (a : Nat) (han : a ≤ l.length) :
    Calls Try.prog 40 #[.pointer (some ⟨S, 0, none⟩), .int .i64 (a : Int), .int .i64 0] w fun e w' => e = .returned (.slice (some ⟨g, 0, none⟩) 0 0) ∧ w = w' := by
  have hc := h.cell
  have h1 := h.hi
  have h2 := h.cap
  have h3 := h.capM
  clear h
  go_enter Try.func40, Try.ntmps40
  go_wp2
  go_ret
  exact ⟨by simp, rfl⟩
end Go.Proofs.Ythcipnmcmcihgaa
