/-
  Layer 10: what the document's answers of layer 1 give that its answers of layer 10 call: walks (as in layer 1).
-/
import Derived.Test.YthjdfneibogcgaaDoorRows
import Derived.Test.YthjdfneibogcgaaDoorMath
import Derived.WalkKit
import Derived.WalkSpells
import Derived.WalkLawsBesides
import Derived.Lib.Hide
namespace Go.Proofs.YthjdfneibogcgaaDoor
open Go.RowKit
set_option maxHeartbeats 400000

theorem word_pos (x : Int) (h0 : 0 ≤ x) (h1 : x < 9223372036854775808) (w : World) :
    Calls Tryd.prog 59 #[.int .i64 x] w fun e w' => e = .returned (.int .u32 (x % 4294967296)) ∧ w = w' := by
  go_enter Tryd.func59, Tryd.ntmps59
  go_wp2
  go_ret
  exact ⟨by simp, rfl⟩
theorem tmod_neg (x : Int) (h0 : x < 0) : x.tmod 4294967296 = - ((-x) % 4294967296) := by
  rw [← Int.tmod_eq_emod_of_nonneg (by omega : 0 ≤ -x), Int.neg_tmod]; omega
theorem word_neg (x : Int) (h0 : x < 0) (w : World) :
    Calls Tryd.prog 59 #[.int .i64 x] w fun e w' => e = .returned (.int .u32 (x % 4294967296)) ∧ w = w' := by
  have ht := Lib.hid (tmod_neg x h0)
  go_enter Tryd.func59, Tryd.ntmps59
  go_wp2
  all_goals go_ret
  all_goals refine ⟨?_, rfl⟩
  · have h := ht.out
    simp only [go_sem]
    rw [h]
    unfold wrap64
    simp
    omega
  · have h := ht.out
    simp
    rw [h]
    omega
theorem word_any (x : Int) (h0 : -9223372036854775808 ≤ x) (h1 : x < 9223372036854775808) (w : World) :
    Calls Tryd.prog 59 #[.int .i64 x] w fun e w' => e = .returned (.int .u32 (x % 4294967296)) ∧ w = w' := by
  by_cases h : 0 ≤ x
  · exact word_pos x h h1 w
  · exact word_neg x (by omega) w

theorem RAdd_any (a b : Int) (ha : W32 a) (hb : W32 b) (w : World) :
    Calls Tryd.prog 36 #[.int .u32 a, .int .u32 b] w fun e w' => e = .returned (.int .u32 ((a + b) % 4294967296)) ∧ w = w' := by
  obtain ⟨ha0, ha1⟩ := ha
  obtain ⟨hb0, hb1⟩ := hb
  go_enter Tryd.func36, Tryd.ntmps36
  go_wp2_with (go_at_call 59; refine (word_any _ (by omega) (by omega) _).mono ?_; rintro e w' ⟨rfl, rfl⟩)
  go_ret
  exact ⟨rfl, rfl⟩
theorem RSub_any (a b : Int) (ha : W32 a) (hb : W32 b) (w : World) :
    Calls Tryd.prog 60 #[.int .u32 a, .int .u32 b] w fun e w' => e = .returned (.int .u32 ((a - b) % 4294967296)) ∧ w = w' := by
  obtain ⟨ha0, ha1⟩ := ha
  obtain ⟨hb0, hb1⟩ := hb
  go_enter Tryd.func60, Tryd.ntmps60
  go_wp2_with (go_at_call 59; refine (word_any _ (by omega) (by omega) _).mono ?_; rintro e w' ⟨rfl, rfl⟩)
  go_ret
  exact ⟨rfl, rfl⟩
theorem mul_bd (a b : Int) (ha : W32 a) (k : Int) (hb0 : 0 ≤ b) (hb1 : b ≤ k) : 0 ≤ a * b ∧ a * b ≤ 4294967295 * k := by
  obtain ⟨ha0, ha1⟩ := ha
  refine ⟨Int.mul_nonneg ha0 hb0, ?_⟩
  exact Int.mul_le_mul (by omega) hb1 hb0 (by omega)
theorem RMul_any (a b : Int) (ha : W32 a) (hb : W32 b) (w : World) :
    Calls Tryd.prog 40 #[.int .u32 a, .int .u32 b] w fun e w' => e = .returned (.int .u32 (a * b % 4294967296)) ∧ w = w' := by
  have h1 := mul_bd a (b % 65536) ha 65535 (by omega) (by omega)
  have h2 := mul_bd a (b / 65536) ha 65535 (by unfold W32 at hb; omega) (by unfold W32 at hb; omega)
  have hm := Lib.hid (mul_halves a b)
  obtain ⟨h10, h11⟩ := h1
  obtain ⟨h20, h21⟩ := h2
  obtain ⟨ha0, ha1⟩ := ha
  obtain ⟨hb0, hb1⟩ := hb
  go_enter Tryd.func40, Tryd.ntmps40
  go_wp2_with (go_at_call 59; refine (word_any _ (by omega) (by omega) _).mono ?_; rintro e w' ⟨rfl, rfl⟩)
  go_ret
  refine ⟨?_, rfl⟩
  have h := hm.out
  simp at h ⊢
  exact h
theorem RSign_any (a : Int) (ha : W32 a) (w : World) :
    Calls Tryd.prog 39 #[.int .u32 a] w fun e w' => e = .returned (.int .i64 (sgn a)) ∧ w = w' := by
  obtain ⟨ha0, ha1⟩ := ha
  by_cases h : 2147483648 ≤ a
  all_goals
    go_enter Tryd.func39, Tryd.ntmps39
    go_wp2
    go_ret
    exact ⟨by first | (simp [sgn, h]; done) | (simp [sgn]; omega), rfl⟩
theorem RShl_any (a n : Int) (ha : W32 a) (hn : W32 n) (w : World) :
    Calls Tryd.prog 62 #[.int .u32 a, .int .u32 n] w fun e w' => e = .returned (.int .u32 (shlN a (n % 32).toNat)) ∧ w = w' := by
  obtain ⟨hn0, hn1⟩ := hn
  go_enter Tryd.func62, Tryd.ntmps62
  go_wp2
  go_loop [0, 5] (fun x i => ∃ k : Nat, (k : Int) ≤ n % 32 ∧ i = .int .u32 k ∧ x = .int .u32 (shlN a k)) (fun _ i => 32 - (intOf i).toNat)
  case atStart => exact ⟨0, by omega, rfl, by rw [shlN_zero a ha]⟩
  case round =>
    obtain ⟨k, hk, rfl, rfl⟩ := hrel
    obtain ⟨hs0, hs1⟩ := shlN_w32 a k
    have hs := Lib.hid (shlN_succ a k)
    by_cases hlt : (k : Int) < n % 32
    · go_wp2_with (go_at_call 59; refine (word_any _ (by omega) (by omega) _).mono ?_; rintro e w' ⟨rfl, rfl⟩)
      go_round
      case rel => exact ⟨k + 1, by omega, by go_num, by rw [hs.out]⟩
      case measure => simp [intOf]; omega
    · go_wp2
      go_ret
      have e : (n % 32).toNat = k := by omega
      exact ⟨by simp [e], rfl⟩
theorem RShr_any (a n : Int) (ha : W32 a) (hn : W32 n) (w : World) :
    Calls Tryd.prog 63 #[.int .u32 a, .int .u32 n] w fun e w' => e = .returned (.int .u32 (shrN a (n % 32).toNat)) ∧ w = w' := by
  obtain ⟨hn0, hn1⟩ := hn
  go_enter Tryd.func63, Tryd.ntmps63
  go_wp2
  go_loop [0, 5] (fun x i => ∃ k : Nat, (k : Int) ≤ n % 32 ∧ i = .int .u32 k ∧ x = .int .u32 (shrN a k)) (fun _ i => 32 - (intOf i).toNat)
  case atStart => exact ⟨0, by omega, rfl, by rw [shrN_zero a]⟩
  case round =>
    obtain ⟨k, hk, rfl, rfl⟩ := hrel
    obtain ⟨hs0, hs1⟩ := shrN_w32 a k ha
    have hs := Lib.hid (shrN_succ a k)
    by_cases hlt : (k : Int) < n % 32
    · go_wp2
      go_round
      case rel => exact ⟨k + 1, by omega, by go_num, by rw [hs.out]⟩
      case measure => simp [intOf]; omega
    · go_wp2
      go_ret
      have e : (n % 32).toNat = k := by omega
      exact ⟨by simp [e], rfl⟩
end Go.Proofs.YthjdfneibogcgaaDoor
