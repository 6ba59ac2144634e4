/-
  Layer 10: and, or, xor of two words, bit by bit. No program.
-/
import Derived.Test.YthjdfneibogcgaaDoorSem
set_option linter.unusedVariables false
namespace Go.Proofs.YthjdfneibogcgaaDoor
open Go.RowKit

theorem bits_xor_nat (a b : Nat) (ha : a < 4294967296) (hb : b < 4294967296) : bits .xor .u32 (a : Int) (b : Int) = ((a ^^^ b : Nat) : Int) := by
  have hx : a ^^^ b < 2 ^ 32 := Nat.xor_lt_two_pow (by omega) (by omega)
  have h1 : (BitVec.ofInt 32 (a : Int)).toNat = a := by
    rw [BitVec.ofInt_natCast, BitVec.toNat_ofNat]; exact Nat.mod_eq_of_lt (by omega)
  have h2 : (BitVec.ofInt 32 (b : Int)).toNat = b := by
    rw [BitVec.ofInt_natCast, BitVec.toNat_ofNat]; exact Nat.mod_eq_of_lt (by omega)
  show IntKind.u32.wrap ((BitVec.ofInt 32 (a : Int) ^^^ BitVec.ofInt 32 (b : Int)).toNat : Int) = _
  rw [BitVec.toNat_xor, h1, h2, IntKind.wrap_u32]
  omega
/-- What a digit of the answer is made of. -/
def digit (op x y : Int) : Bool := decide (op = 7 ∧ x + y = 2 ∨ op = 8 ∧ 0 < x + y ∨ op = 9 ∧ x ≠ y)
def natOf (op : Int) (a b : Nat) : Nat := if op = 7 then a &&& b else if op = 8 then a ||| b else a ^^^ b
theorem bitOf_nat (op : Int) (a b : Nat) (ha : a < 4294967296) (hb : b < 4294967296) : bitOf op a b = (natOf op a b : Nat) := by
  have h1 := (bits_nat .u32 32 (by decide) wraps_u32 a b (by omega) (by omega))
  unfold bitOf natOf
  split
  · exact h1.1
  · split
    · exact h1.2
    · exact bits_xor_nat a b ha hb
theorem natOf_bit (op : Int) (ho : op = 7 ∨ op = 8 ∨ op = 9) (a b i : Nat) : (natOf op a b).testBit i = digit op ((a / 2 ^ i % 2 : Nat) : Int) ((b / 2 ^ i % 2 : Nat) : Int) := by
  have ea := Nat.testBit_eq_decide_div_mod_eq (x := a) (i := i)
  have eb := Nat.testBit_eq_decide_div_mod_eq (x := b) (i := i)
  have la : a / 2 ^ i % 2 < 2 := Nat.mod_lt _ (by decide)
  have lb : b / 2 ^ i % 2 < 2 := Nat.mod_lt _ (by decide)
  generalize a / 2 ^ i % 2 = x at *
  generalize b / 2 ^ i % 2 = y at *
  have hx : x = 0 ∨ x = 1 := by omega
  have hy : y = 0 ∨ y = 1 := by omega
  rcases ho with rfl | rfl | rfl
  · rw [natOf, if_pos rfl, Nat.testBit_and, ea, eb]
    rcases hx with rfl | rfl <;> rcases hy with rfl | rfl <;> decide
  · rw [natOf, if_neg (by decide), if_pos rfl, Nat.testBit_or, ea, eb]
    rcases hx with rfl | rfl <;> rcases hy with rfl | rfl <;> decide
  · rw [natOf, if_neg (by decide), if_neg (by decide), Nat.testBit_xor, ea, eb]
    rcases hx with rfl | rfl <;> rcases hy with rfl | rfl <;> decide
theorem bit_step (op : Int) (ho : op = 7 ∨ op = 8 ∨ op = 9) (a b : Int) (ha : W32 a) (hb : W32 b) (i : Nat) :
    bitOf op a b % 2 ^ (i + 1) = bitOf op a b % 2 ^ i + (if digit op (a / 2 ^ i % 2) (b / 2 ^ i % 2) = true then 2 ^ i else 0) := by
  obtain ⟨m, rfl⟩ := Int.eq_ofNat_of_zero_le ha.1
  obtain ⟨n, rfl⟩ := Int.eq_ofNat_of_zero_le hb.1
  have h1 := ha.2
  have h2 := hb.2
  rw [bitOf_nat op m n (by omega) (by omega)]
  have e := natOf_bit op ho m n i
  have e2 : natOf op m n % 2 ^ (i + 1) = natOf op m n % 2 ^ i + (if digit op ((m / 2 ^ i % 2 : Nat) : Int) ((n / 2 ^ i % 2 : Nat) : Int) = true then 2 ^ i else 0) := by
    rw [Nat.pow_succ, Nat.mod_mul, ← e, Nat.testBit_eq_decide_div_mod_eq]
    have := Nat.mod_lt (natOf op m n / 2 ^ i) (y := 2) (by decide)
    generalize natOf op m n / 2 ^ i % 2 = z at *
    have : z = 0 ∨ z = 1 := by omega
    rcases this with rfl | rfl <;> simp
  have c1 : ((m : Int) / 2 ^ i % 2) = ((m / 2 ^ i % 2 : Nat) : Int) := by simp
  have c2 : ((n : Int) / 2 ^ i % 2) = ((n / 2 ^ i % 2 : Nat) : Int) := by simp
  rw [c1, c2]
  have c3 : (natOf op m n : Int) % 2 ^ (i + 1) = ((natOf op m n % 2 ^ (i + 1) : Nat) : Int) := by simp
  have c4 : (natOf op m n : Int) % 2 ^ i = ((natOf op m n % 2 ^ i : Nat) : Int) := by simp
  rw [c3, c4, e2]
  cases digit op ((m / 2 ^ i % 2 : Nat) : Int) ((n / 2 ^ i % 2 : Nat) : Int) <;> simp
theorem bitOf_w32 (op a b : Int) : W32 (bitOf op a b) := by
  have h : ∀ o : BinOp, W32 (bits o .u32 a b) := fun o => ⟨bits_lo_u32 o a b, by have := bits_hi_u32 o a b; omega⟩
  unfold bitOf
  split
  · exact h _
  · split <;> exact h _
end Go.Proofs.YthjdfneibogcgaaDoor
