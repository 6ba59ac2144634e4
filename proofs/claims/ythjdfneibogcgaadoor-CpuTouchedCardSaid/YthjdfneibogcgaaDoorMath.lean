/-
  Plain data of layer 10: words as integers, signed reading, shifts, bytes (as in layer 1); instructions as four integers, the table of names and of what each uses (as in layer 4). No program.
-/
import Derived.WalkKit
import Derived.Laws.BitsAllLaws
import Derived.Laws.BitsLemmas
set_option linter.unusedVariables false
namespace Go.Proofs.YthjdfneibogcgaaDoor
open Go.RowKit

def W32 (a : Int) : Prop := 0 ≤ a ∧ a < 4294967296
def S64 (a : Int) : Prop := -9223372036854775808 ≤ a ∧ a ≤ 9223372036854775807
theorem w32_of_wf {a : Int} (h : (Lit.int .u32 a).wf = true) : W32 a := by
  simp [Lit.wf, IntKind.min, IntKind.max, IntKind.signed, IntKind.bits] at h
  unfold W32; omega
theorem s64_of_wf {a : Int} (h : (Lit.int .i64 a).wf = true) : S64 a := by
  simp [Lit.wf, IntKind.min, IntKind.max, IntKind.signed, IntKind.bits] at h
  unfold S64; omega

/-! ### the table -/
def names : List (List UInt8) := [[], [104, 97, 108, 116], [108, 117, 105], [97, 100, 100, 105], [97, 100, 100], [115, 117, 98], [109, 117, 108], [97, 110, 100], [111, 114], [120, 111, 114], [115, 104, 108], [115, 104, 114], [115, 108, 116], [108, 119], [115, 119], [108, 98], [115, 98], [98, 101, 113], [98, 110, 101], [98, 108, 116], [106, 97, 108], [106, 97, 108, 114], [105, 110], [111, 117, 116], [99, 97, 108, 108], [98, 97, 99, 107], [103, 101, 116], [115, 101, 116], [102, 108, 117, 115, 104]]
def usesL : List Nat := [0, 0, 5, 7, 3, 3, 3, 3, 3, 3, 3, 3, 3, 7, 7, 7, 7, 7, 7, 7, 5, 3, 5, 5, 0, 0, 5, 5, 0]
def nm (k : Nat) : List UInt8 := names.getD k []
def us (k : Nat) : Nat := usesL.getD k 0
/-- Does Op k use part n? -/
def uses (k n : Nat) : Bool := us k / 2 ^ n % 2 == 1

theorem us_kind_fin : ∀ k : Fin 29, us k.val = 0 ∨ us k.val = 3 ∨ us k.val = 5 ∨ us k.val = 7 := by decide +kernel
theorem us_kind (k : Nat) (h : k < 29) : us k = 0 ∨ us k = 3 ∨ us k = 5 ∨ us k = 7 := us_kind_fin ⟨k, h⟩
theorem nm_inj_fin : ∀ j k : Fin 29, nm j.val = nm k.val → j = k := by decide +kernel
theorem nm_inj {j k : Nat} (hj : j < 29) (hk : k < 29) (h : nm j = nm k) : j = k := congrArg Fin.val (nm_inj_fin ⟨j, hj⟩ ⟨k, hk⟩ h)
theorem nm_blank_fin : ∀ k : Fin 29, (32 : UInt8) ∉ nm k.val := by decide +kernel
theorem nm_blank {k : Nat} (h : k < 29) : (32 : UInt8) ∉ nm k := nm_blank_fin ⟨k, h⟩
theorem nm_len_fin : ∀ k : Fin 29, (nm k.val).length ≤ 5 := by decide +kernel
theorem nm_len {k : Nat} (h : k < 29) : (nm k).length ≤ 5 := nm_len_fin ⟨k, h⟩
theorem nm_none_fin : ∀ k : Fin 29, nm k.val = [] → k.val = 0 := by decide +kernel
theorem nm_none {k : Nat} (h : k < 29) (e : nm k = []) : k = 0 := nm_none_fin ⟨k, h⟩ e

/-! ### instructions -/
structure Ins where
  op : Int
  a : Int
  b : Int
  imm : Int
instance : DecidableEq Ins := fun x y =>
  if _h : x.op = y.op ∧ x.a = y.a ∧ x.b = y.b ∧ x.imm = y.imm then .isTrue (by cases x; cases y; simp_all) else .isFalse (by intro e; subst e; exact _h ⟨rfl, rfl, rfl, rfl⟩)
def iv (i : Ins) : Value := .agg #[.int .i64 i.op, .int .i64 i.a, .int .i64 i.b, .int .i64 i.imm]
def I64 (i : Ins) : Prop := S64 i.op ∧ S64 i.a ∧ S64 i.b ∧ S64 i.imm

def isOp (x : Int) : Bool := decide (0 < x ∧ x < 29)
/-- The n-th part, and its bounds. -/
def valP (i : Ins) : Nat → Int
  | 0 => i.a
  | 1 => i.b
  | _ => i.imm
def lowP (i : Ins) : Nat → Int
  | 0 => 0
  | 1 => 0
  | _ => if uses i.op.toNat 2 = true then -32768 else 0
def highP (i : Ins) : Nat → Int
  | 0 => if uses i.op.toNat 0 = true then 7 else 0
  | 1 => if uses i.op.toNat 1 = true then 7 else 0
  | _ => if uses i.op.toNat 2 = true then 32767 else 0
def okP (i : Ins) (n : Nat) : Prop := lowP i n ≤ valP i n ∧ valP i n ≤ highP i n
instance (i : Ins) (n : Nat) : Decidable (okP i n) := by unfold okP; infer_instance
def May (i : Ins) : Prop := isOp i.op = true ∧ okP i 0 ∧ okP i 1 ∧ okP i 2
instance (i : Ins) : Decidable (May i) := by unfold May; infer_instance

theorem May.bounds {i : Ins} (h : May i) : (0 < i.op ∧ i.op < 29) ∧ (0 ≤ i.a ∧ i.a < 8) ∧ (0 ≤ i.b ∧ i.b < 8) ∧ -32768 ≤ i.imm ∧ i.imm ≤ 32767 := by
  obtain ⟨h1, h2, h3, h4⟩ := h
  simp only [isOp, decide_eq_true_eq] at h1
  unfold okP valP lowP highP at h2 h3 h4
  simp only at h2 h3 h4
  refine ⟨h1, ?_, ?_, ?_, ?_⟩
  · split at h2 <;> omega
  · split at h3 <;> omega
  · split at h4 <;> omega
  · split at h4 <;> omega

def enc (i : Ins) : Int := i.op * 16777216 + i.a * 1048576 + i.b * 65536 + i.imm % 65536
def dec (w : Int) : Ins := ⟨w / 16777216, w / 1048576 % 16, w / 65536 % 16, if 32767 < w % 65536 then w % 65536 - 65536 else w % 65536⟩
def zeroI : Ins := ⟨0, 0, 0, 0⟩
theorem enc_w32 {i : Ins} (h : May i) : W32 (enc i) := by
  have := h.bounds
  unfold enc W32; omega
theorem enc_dec {w : Int} (h : W32 w) : enc (dec w) = w := by
  unfold W32 at h
  unfold enc dec
  simp only
  split <;> omega
theorem dec_enc {i : Ins} (h : May i) : dec (enc i) = i := by
  have hb := h.bounds
  obtain ⟨op, a, b, imm⟩ := i
  simp only at hb
  unfold enc dec
  simp only [Ins.mk.injEq]
  refine ⟨by omega, by omega, by omega, ?_⟩
  split <;> omega
theorem enc_inj {i j : Ins} (hi : May i) (hj : May j) : enc i = enc j ↔ i = j :=
  ⟨fun e => by rw [← dec_enc hi, ← dec_enc hj, e], fun e => by rw [e]⟩

/-! ### strings -/
def bytes (l : List UInt8) : ByteArray := ⟨l.toArray⟩

/-! ### words -/
/-- The number with a sign. -/
def sgn (a : Int) : Int := if 2147483648 ≤ a then a - 4294967296 else a

theorem wrap32_sgn (a : Int) (h : W32 a) : wrap32 a = sgn a := by
  unfold wrap32 sgn; unfold W32 at h
  split <;> omega

/-- Moved up, down, down with the sign: by k places. -/
def shlN (a : Int) (k : Nat) : Int := a * 2 ^ k % 4294967296
def shrN (a : Int) (k : Nat) : Int := a / 2 ^ k
def sarN (a : Int) (k : Nat) : Int := sgn a / 2 ^ k % 4294967296

theorem pow_pos2 (k : Nat) : (0 : Int) < 2 ^ k := Int.pow_pos (by omega)

theorem shlN_w32 (a : Int) (k : Nat) : W32 (shlN a k) := by unfold shlN W32; omega
theorem shrN_w32 (a : Int) (k : Nat) (h : W32 a) : W32 (shrN a k) := by
  unfold shrN; unfold W32 at *
  have hp := pow_pos2 k
  refine ⟨Int.ediv_nonneg h.1 (Int.le_of_lt hp), ?_⟩
  exact Int.lt_of_le_of_lt (Int.ediv_le_self _ h.1) h.2
theorem sarN_w32 (a : Int) (k : Nat) : W32 (sarN a k) := by unfold sarN W32; omega

theorem shlN_zero (a : Int) (h : W32 a) : shlN a 0 = a := by unfold shlN; unfold W32 at h; simp; omega
theorem shrN_zero (a : Int) : shrN a 0 = a := by unfold shrN; simp
theorem sarN_zero (a : Int) (h : W32 a) : sarN a 0 = a := by unfold sarN sgn; unfold W32 at h; simp; split <;> omega

theorem shlN_succ (a : Int) (k : Nat) : shlN a (k + 1) = shlN a k * 2 % 4294967296 := by
  unfold shlN
  rw [Int.pow_succ, ← Int.mul_assoc]
  omega
theorem shrN_succ (a : Int) (k : Nat) : shrN a (k + 1) = shrN a k / 2 := by
  unfold shrN
  rw [Int.pow_succ, Int.ediv_ediv_of_nonneg (Int.le_of_lt (pow_pos2 k))]

theorem sgn_range (a : Int) (h : W32 a) : -2147483648 ≤ sgn a ∧ sgn a ≤ 2147483647 := by
  unfold sgn; unfold W32 at h; split <;> omega
theorem sgn_neg (a : Int) (h : W32 a) : sgn a < 0 ↔ 2147483648 ≤ a := by
  unfold sgn; unfold W32 at h; split <;> omega

/-- What the quotient of the signed number keeps: its range, and its sign. -/
theorem sar_quot (s : Int) (k : Nat) (h1 : -2147483648 ≤ s) (h2 : s ≤ 2147483647) :
    -2147483648 ≤ s / 2 ^ k ∧ s / 2 ^ k ≤ 2147483647 ∧ (s / 2 ^ k < 0 ↔ s < 0) := by
  have hp := pow_pos2 k
  have h0 : 0 ≤ s → s / 2 ^ k ≤ s := fun h => Int.ediv_le_self _ h
  have hn : 0 ≤ s → 0 ≤ s / 2 ^ k := fun h => Int.ediv_nonneg h (Int.le_of_lt hp)
  have hm : s < 0 → s / 2 ^ k < 0 := fun h => Int.ediv_neg_of_neg_of_pos h hp
  have hl : s < 0 → s ≤ s / 2 ^ k := fun h => by
    rw [Int.le_ediv_iff_mul_le hp]
    have : s * 2 ^ k ≤ s * 1 := Int.mul_le_mul_of_nonpos_left (by omega) (by omega)
    omega
  by_cases hs : 0 ≤ s
  · have := h0 hs; have := hn hs; exact ⟨by omega, by omega, by omega⟩
  · have := hm (by omega); have := hl (by omega); exact ⟨by omega, by omega, by omega⟩

theorem sarN_succ (a : Int) (k : Nat) (h : W32 a) : sarN a (k + 1) = sarN a k / 2 + a / 2147483648 * 2147483648 := by
  have hr := sgn_range a h
  have hq := sar_quot (sgn a) k hr.1 hr.2
  have hn := sgn_neg a h
  have e : sgn a / 2 ^ (k + 1) = sgn a / 2 ^ k / 2 := by
    rw [Int.pow_succ, Int.ediv_ediv_of_nonneg (Int.le_of_lt (pow_pos2 k))]
  unfold sarN
  rw [e]
  generalize sgn a / 2 ^ k = q at *
  unfold W32 at h
  omega

/-- The n-th byte. -/
def byt (a : Int) (n : Nat) : Int := a / 256 ^ n % 256
theorem byt_range (a : Int) (n : Nat) : 0 ≤ byt a n ∧ byt a n < 256 := by unfold byt; omega
theorem byt0 (a : Int) : byt a 0 = a % 256 := by simp [byt]
theorem byt1 (a : Int) : byt a 1 = a / 256 % 256 := by simp [byt]
theorem byt2 (a : Int) : byt a 2 = a / 256 / 256 % 256 := by simp only [byt]; omega
theorem byt3 (a : Int) : byt a 3 = a / 256 / 256 / 256 % 256 := by simp only [byt]; omega
/-- The word whose bytes these are. -/
def wrd (b0 b1 b2 b3 : Int) : Int := b0 + b1 * 256 + b2 * 65536 + b3 * 16777216

theorem wrd_byt (a : Int) (h : W32 a) : wrd (byt a 0) (byt a 1) (byt a 2) (byt a 3) = a := by
  unfold W32 at h; rw [byt0, byt1, byt2, byt3]; unfold wrd; omega
theorem byt_wrd (b0 b1 b2 b3 : Int) (h0 : 0 ≤ b0 ∧ b0 < 256) (h1 : 0 ≤ b1 ∧ b1 < 256) (h2 : 0 ≤ b2 ∧ b2 < 256) (h3 : 0 ≤ b3 ∧ b3 < 256) :
    byt (wrd b0 b1 b2 b3) 0 = b0 ∧ byt (wrd b0 b1 b2 b3) 1 = b1 ∧ byt (wrd b0 b1 b2 b3) 2 = b2 ∧ byt (wrd b0 b1 b2 b3) 3 = b3 := by
  rw [byt0, byt1, byt2, byt3]; unfold wrd; omega
theorem wrd_w32 (b0 b1 b2 b3 : Int) (h0 : 0 ≤ b0 ∧ b0 < 256) (h1 : 0 ≤ b1 ∧ b1 < 256) (h2 : 0 ≤ b2 ∧ b2 < 256) (h3 : 0 ≤ b3 ∧ b3 < 256) : W32 (wrd b0 b1 b2 b3) := by
  unfold wrd W32; omega

/-- A byte is the word moved down by 8 n places, cut off. -/
theorem byt_shr (a : Int) (n : Nat) : shrN a (8 * n) % 256 = byt a n := by
  unfold shrN byt
  rw [Int.pow_mul]; rfl

theorem wraps_u32 (n : Int) (h₀ : 0 ≤ n) (h₁ : n < 2 ^ 32) : IntKind.u32.wrap n = n := by rw [IntKind.wrap_u32]; omega
/-- 'or' of a low part and what lies above it is their sum. -/
theorem or_low_high (i : Nat) (x y : Int) (hx0 : 0 ≤ x) (hx1 : x < 2 ^ i) (hx2 : x < 4294967296) (hy0 : 0 ≤ y) (hy1 : y % 2 ^ i = 0) (hy2 : y < 4294967296) : bits .or .u32 x y = x + y := by
  obtain ⟨a, rfl⟩ := Int.eq_ofNat_of_zero_le hx0
  obtain ⟨b, rfl⟩ := Int.eq_ofNat_of_zero_le hy0
  have h1 := (bits_nat .u32 32 (by decide) wraps_u32 a b (by omega) (by omega)).2
  have h2 := (bits_nat .u32 32 (by decide) wraps_u32 b a (by omega) (by omega)).2
  rw [h1, Nat.or_comm, ← h2, bits_join .u32 32 (by decide) wraps_u32 i b a hy0 hy1 (by omega) hx0 hx1 (by omega), Int.add_comm]
theorem or_bytes (b0 b1 b2 b3 : Int) (h0 : 0 ≤ b0 ∧ b0 < 256) (h1 : 0 ≤ b1 ∧ b1 < 256) (h2 : 0 ≤ b2 ∧ b2 < 256) (h3 : 0 ≤ b3 ∧ b3 < 256) :
    bits .or .u32 (bits .or .u32 (bits .or .u32 (bits .or .u32 0 (shlN b0 0)) (shlN b1 8)) (shlN b2 16)) (shlN b3 24) = wrd b0 b1 b2 b3 := by
  have e0 : shlN b0 0 = b0 := by simp [shlN]; omega
  have e1 : shlN b1 8 = b1 * 256 := by simp [shlN]; omega
  have e2 : shlN b2 16 = b2 * 65536 := by simp [shlN]; omega
  have e3 : shlN b3 24 = b3 * 16777216 := by simp [shlN]; omega
  rw [e0, e1, e2, e3]
  rw [or_low_high 0 0 b0 (by omega) (by omega) (by omega) (by omega) (by omega) (by omega)]
  rw [or_low_high 8 (0 + b0) (b1 * 256) (by omega) (by omega) (by omega) (by omega) (by omega) (by omega)]
  rw [or_low_high 16 (0 + b0 + b1 * 256) (b2 * 65536) (by omega) (by omega) (by omega) (by omega) (by omega) (by omega)]
  rw [or_low_high 24 (0 + b0 + b1 * 256 + b2 * 65536) (b3 * 16777216) (by omega) (by omega) (by omega) (by omega) (by omega) (by omega)]
  unfold wrd; omega

theorem mul_halves (a b : Int) : (a * (b % 65536) + (a * (b / 65536) % 4294967296) % 65536 * 65536) % 4294967296 = a * b % 4294967296 := by
  have e : a * b = a * (b % 65536) + a * (b / 65536) * 65536 := by
    rw [Int.mul_assoc, ← Int.mul_add]; congr 1; omega
  rw [e]
  generalize a * (b % 65536) = p
  generalize a * (b / 65536) = q
  omega

end Go.Proofs.YthjdfneibogcgaaDoor
