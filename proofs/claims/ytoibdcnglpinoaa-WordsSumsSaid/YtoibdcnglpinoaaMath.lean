/-
  Plain numbers of layer 1: a 32-bit word as an integer from 0 to 2^32 - 1, its signed reading, shifts, bytes. No program.
-/
import Derived.WalkKit
namespace Go.Proofs.Ytoibdcnglpinoaa
open Go.RowKit

/-- An integer is a word. -/
def W32 (a : Int) : Prop := 0 ≤ a ∧ a < 4294967296

theorem w32_of_wf {a : Int} (h : (Lit.int .u32 a).wf = true) : W32 a := by
  simp [Lit.wf, IntKind.min, IntKind.max, IntKind.signed, IntKind.bits] at h
  unfold W32; omega
theorem u8_of_wf {a : Int} (h : (Lit.int .u8 a).wf = true) : 0 ≤ a ∧ a < 256 := by
  simp [Lit.wf, IntKind.min, IntKind.max, IntKind.signed, IntKind.bits] at h
  omega

/-- The number with a sign. -/
def sgn (a : Int) : Int := if 2147483648 ≤ a then a - 4294967296 else a

theorem wrap32_sgn (a : Int) (h : W32 a) : wrap32 a = sgn a := by
  unfold wrap32 sgn; unfold W32 at h
  split <;> omega

/-- Moved up, down, down with the sign: by k places. -/
def shlN (a : Int) (k : Nat) : Int := a * 2 ^ k % 4294967296
def shrN (a : Int) (k : Nat) : Int := a / 2 ^ k
def sarN (a : Int) (k : Nat) : Int := sgn a / 2 ^ k % 4294967296

theorem pow_pos2 (k : Nat) : (0 : Int) < 2 ^ k := Int.pow_pos (by omega)

theorem shlN_w32 (a : Int) (k : Nat) : W32 (shlN a k) := by unfold shlN W32; omega
theorem shrN_w32 (a : Int) (k : Nat) (h : W32 a) : W32 (shrN a k) := by
  unfold shrN; unfold W32 at *
  have hp := pow_pos2 k
  refine ⟨Int.ediv_nonneg h.1 (Int.le_of_lt hp), ?_⟩
  exact Int.lt_of_le_of_lt (Int.ediv_le_self _ h.1) h.2
theorem sarN_w32 (a : Int) (k : Nat) : W32 (sarN a k) := by unfold sarN W32; omega

theorem shlN_zero (a : Int) (h : W32 a) : shlN a 0 = a := by unfold shlN; unfold W32 at h; simp; omega
theorem shrN_zero (a : Int) : shrN a 0 = a := by unfold shrN; simp
theorem sarN_zero (a : Int) (h : W32 a) : sarN a 0 = a := by unfold sarN sgn; unfold W32 at h; simp; split <;> omega

theorem shlN_succ (a : Int) (k : Nat) : shlN a (k + 1) = shlN a k * 2 % 4294967296 := by
  unfold shlN
  rw [Int.pow_succ, ← Int.mul_assoc]
  omega
theorem shrN_succ (a : Int) (k : Nat) : shrN a (k + 1) = shrN a k / 2 := by
  unfold shrN
  rw [Int.pow_succ, Int.ediv_ediv_of_nonneg (Int.le_of_lt (pow_pos2 k))]

theorem sgn_range (a : Int) (h : W32 a) : -2147483648 ≤ sgn a ∧ sgn a ≤ 2147483647 := by
  unfold sgn; unfold W32 at h; split <;> omega
theorem sgn_neg (a : Int) (h : W32 a) : sgn a < 0 ↔ 2147483648 ≤ a := by
  unfold sgn; unfold W32 at h; split <;> omega

/-- What the quotient of the signed number keeps: its range, and its sign. -/
theorem sar_quot (s : Int) (k : Nat) (h1 : -2147483648 ≤ s) (h2 : s ≤ 2147483647) :
    -2147483648 ≤ s / 2 ^ k ∧ s / 2 ^ k ≤ 2147483647 ∧ (s / 2 ^ k < 0 ↔ s < 0) := by
  have hp := pow_pos2 k
  have h0 : 0 ≤ s → s / 2 ^ k ≤ s := fun h => Int.ediv_le_self _ h
  have hn : 0 ≤ s → 0 ≤ s / 2 ^ k := fun h => Int.ediv_nonneg h (Int.le_of_lt hp)
  have hm : s < 0 → s / 2 ^ k < 0 := fun h => Int.ediv_neg_of_neg_of_pos h hp
  have hl : s < 0 → s ≤ s / 2 ^ k := fun h => by
    rw [Int.le_ediv_iff_mul_le hp]
    have : s * 2 ^ k ≤ s * 1 := Int.mul_le_mul_of_nonpos_left (by omega) (by omega)
    omega
  by_cases hs : 0 ≤ s
  · have := h0 hs; have := hn hs; exact ⟨by omega, by omega, by omega⟩
  · have := hm (by omega); have := hl (by omega); exact ⟨by omega, by omega, by omega⟩

theorem sarN_succ (a : Int) (k : Nat) (h : W32 a) : sarN a (k + 1) = sarN a k / 2 + a / 2147483648 * 2147483648 := by
  have hr := sgn_range a h
  have hq := sar_quot (sgn a) k hr.1 hr.2
  have hn := sgn_neg a h
  have e : sgn a / 2 ^ (k + 1) = sgn a / 2 ^ k / 2 := by
    rw [Int.pow_succ, Int.ediv_ediv_of_nonneg (Int.le_of_lt (pow_pos2 k))]
  unfold sarN
  rw [e]
  generalize sgn a / 2 ^ k = q at *
  unfold W32 at h
  omega

/-- The n-th byte. -/
def byt (a : Int) (n : Nat) : Int := a / 256 ^ n % 256
theorem byt_range (a : Int) (n : Nat) : 0 ≤ byt a n ∧ byt a n < 256 := by unfold byt; omega
theorem byt0 (a : Int) : byt a 0 = a % 256 := by simp [byt]
theorem byt1 (a : Int) : byt a 1 = a / 256 % 256 := by simp [byt]
theorem byt2 (a : Int) : byt a 2 = a / 256 / 256 % 256 := by simp only [byt]; omega
theorem byt3 (a : Int) : byt a 3 = a / 256 / 256 / 256 % 256 := by simp only [byt]; omega
/-- The word whose bytes these are. -/
def wrd (b0 b1 b2 b3 : Int) : Int := b0 + b1 * 256 + b2 * 65536 + b3 * 16777216

theorem wrd_byt (a : Int) (h : W32 a) : wrd (byt a 0) (byt a 1) (byt a 2) (byt a 3) = a := by
  unfold W32 at h; rw [byt0, byt1, byt2, byt3]; unfold wrd; omega
theorem byt_wrd (b0 b1 b2 b3 : Int) (h0 : 0 ≤ b0 ∧ b0 < 256) (h1 : 0 ≤ b1 ∧ b1 < 256) (h2 : 0 ≤ b2 ∧ b2 < 256) (h3 : 0 ≤ b3 ∧ b3 < 256) :
    byt (wrd b0 b1 b2 b3) 0 = b0 ∧ byt (wrd b0 b1 b2 b3) 1 = b1 ∧ byt (wrd b0 b1 b2 b3) 2 = b2 ∧ byt (wrd b0 b1 b2 b3) 3 = b3 := by
  rw [byt0, byt1, byt2, byt3]; unfold wrd; omega
theorem wrd_w32 (b0 b1 b2 b3 : Int) (h0 : 0 ≤ b0 ∧ b0 < 256) (h1 : 0 ≤ b1 ∧ b1 < 256) (h2 : 0 ≤ b2 ∧ b2 < 256) (h3 : 0 ≤ b3 ∧ b3 < 256) : W32 (wrd b0 b1 b2 b3) := by
  unfold wrd W32; omega

/-- A byte is the word moved down by 8 n places, cut off. -/
theorem byt_shr (a : Int) (n : Nat) : shrN a (8 * n) % 256 = byt a n := by
  unfold shrN byt
  rw [Int.pow_mul]; rfl

theorem wraps_u32 (n : Int) (h₀ : 0 ≤ n) (h₁ : n < 2 ^ 32) : IntKind.u32.wrap n = n := by rw [IntKind.wrap_u32]; omega
/-- 'or' of a low part and what lies above it is their sum. -/
theorem or_low_high (i : Nat) (x y : Int) (hx0 : 0 ≤ x) (hx1 : x < 2 ^ i) (hx2 : x < 4294967296) (hy0 : 0 ≤ y) (hy1 : y % 2 ^ i = 0) (hy2 : y < 4294967296) : bits .or .u32 x y = x + y := by
  obtain ⟨a, rfl⟩ := Int.eq_ofNat_of_zero_le hx0
  obtain ⟨b, rfl⟩ := Int.eq_ofNat_of_zero_le hy0
  have h1 := (bits_nat .u32 32 (by decide) wraps_u32 a b (by omega) (by omega)).2
  have h2 := (bits_nat .u32 32 (by decide) wraps_u32 b a (by omega) (by omega)).2
  rw [h1, Nat.or_comm, ← h2, bits_join .u32 32 (by decide) wraps_u32 i b a hy0 hy1 (by omega) hx0 hx1 (by omega), Int.add_comm]
theorem or_bytes (b0 b1 b2 b3 : Int) (h0 : 0 ≤ b0 ∧ b0 < 256) (h1 : 0 ≤ b1 ∧ b1 < 256) (h2 : 0 ≤ b2 ∧ b2 < 256) (h3 : 0 ≤ b3 ∧ b3 < 256) :
    bits .or .u32 (bits .or .u32 (bits .or .u32 (bits .or .u32 0 (shlN b0 0)) (shlN b1 8)) (shlN b2 16)) (shlN b3 24) = wrd b0 b1 b2 b3 := by
  have e0 : shlN b0 0 = b0 := by simp [shlN]; omega
  have e1 : shlN b1 8 = b1 * 256 := by simp [shlN]; omega
  have e2 : shlN b2 16 = b2 * 65536 := by simp [shlN]; omega
  have e3 : shlN b3 24 = b3 * 16777216 := by simp [shlN]; omega
  rw [e0, e1, e2, e3]
  rw [or_low_high 0 0 b0 (by omega) (by omega) (by omega) (by omega) (by omega) (by omega)]
  rw [or_low_high 8 (0 + b0) (b1 * 256) (by omega) (by omega) (by omega) (by omega) (by omega) (by omega)]
  rw [or_low_high 16 (0 + b0 + b1 * 256) (b2 * 65536) (by omega) (by omega) (by omega) (by omega) (by omega) (by omega)]
  rw [or_low_high 24 (0 + b0 + b1 * 256 + b2 * 65536) (b3 * 16777216) (by omega) (by omega) (by omega) (by omega) (by omega) (by omega)]
  unfold wrd; omega

theorem mul_halves (a b : Int) : (a * (b % 65536) + (a * (b / 65536) % 4294967296) % 65536 * 65536) % 4294967296 = a * b % 4294967296 := by
  have e : a * b = a * (b % 65536) + a * (b / 65536) * 65536 := by
    rw [Int.mul_assoc, ← Int.mul_add]; congr 1; omega
  rw [e]
  generalize a * (b % 65536) = p
  generalize a * (b / 65536) = q
  omega
end Go.Proofs.Ytoibdcnglpinoaa
