/-
  Layer 1: the law's own 'works': the known answers.
-/
import Derived.Test.YtoibdcnglpinoaaRows
import Derived.Test.YtoibdcnglpinoaaMath
import Derived.Test.YtoibdcnglpinoaaLeaf
import Derived.Test.YtoibdcnglpinoaaIter
import Derived.WalkKit
import Derived.WalkSpells
import Derived.WalkLawsBesides
import Derived.Lib.Hide
namespace Go.Proofs.Ytoibdcnglpinoaa
open Go.RowKit
set_option maxHeartbeats 400000

/-- '==' on arrays of four bytes. -/
@[go_sem] theorem eqArr4 (a b c d a' b' c' d' : Int) (w : World) : (Op.equalIn 10000 27 (.agg #[.int .u8 a, .int .u8 b, .int .u8 c, .int .u8 d]) (.agg #[.int .u8 a', .int .u8 b', .int .u8 c', .int .u8 d'])).run Try.prog w = .ok (a == a' && b == b' && c == c' && d == d') w := by
  have u5 := Try.underlying5
  have a5 := Try.isAgg5
  have z5 := Try.sizeOf5
  rw [show (10000 : Nat) = 9999 + 1 from rfl, Op.equalIn]
  simp only [Sem.run_bind, run_underlying Try.underlying27, Result.andThen_ok]
  simp only [Std.Legacy.Range.forIn_eq_forIn_range', Std.Legacy.Range.size, Nat.sub_zero, Nat.add_sub_cancel, Nat.div_one, List.range'_succ, List.range'_zero, List.forIn_cons, List.forIn_nil]
  go_simp
  by_cases h1 : a = a' <;> by_cases h2 : b = b' <;> by_cases h3 : c = c' <;> by_cases h4 : d = d' <;> simp [h1, h2, h3, h4]

theorem Add_known (w : World) : Calls Try.prog 10 #[.int .u32 4294967295, .int .u32 2] w fun e w' => e = .returned (.int .u32 1) ∧ w = w' := Add_any _ _ w
theorem Shl_known (w : World) : Calls Try.prog 17 #[.int .u32 1, .int .u32 33] w fun e w' => e = .returned (.int .u32 2) ∧ Below w.heap.size w w' := by
  have h := Shl_any 1 33 (by unfold W32; omega) w
  have e : shlN 1 ((33 : Int) % 32).toNat = 2 := by decide
  rw [e] at h; exact h
theorem Sar_known (w : World) : Calls Try.prog 21 #[.int .u32 2147483648, .int .u32 31] w fun e w' => e = .returned (.int .u32 4294967295) ∧ Below w.heap.size w w' := by
  have h := Sar_any 2147483648 31 (by unfold W32; omega) (by unfold W32; omega) w
  have e : sarN 2147483648 ((31 : Int) % 32).toNat = 4294967295 := by decide
  rw [e] at h; exact h
theorem Less_known (w : World) : Calls Try.prog 23 #[.int .u32 2147483648, .int .u32 0] w fun e w' => e = .returned (.bool true) ∧ w = w' := by
  have h := Less_any 2147483648 0 (by unfold W32; omega) (by unfold W32; omega) w
  have e : decide (sgn 2147483648 < sgn 0) = true := by decide
  rw [e] at h; exact h
theorem Bytes_known (w : World) : Calls Try.prog 29 #[.int .u32 258] w fun e w' => e = .returned (.agg #[.int .u8 2, .int .u8 1, .int .u8 0, .int .u8 0]) ∧ Below w.heap.size w w' := by
  have h := Bytes_any 258 (by unfold W32; omega) w
  have e0 : byt 258 0 = 2 := by decide
  have e1 : byt 258 1 = 1 := by decide
  have e2 : byt 258 2 = 0 := by decide
  have e3 : byt 258 3 = 0 := by decide
  rw [e0, e1, e2, e3] at h; exact h

theorem works_any (w : World) : Calls Try.prog 16 #[] w fun e w' => e = .returned (.bool true) ∧ Below w.heap.size w w' := by
  go_enter Try.func16, Try.ntmps16
  go_wp2_with (first
    | (go_at_call 10; refine (Add_known _).mono ?_; rintro e w' ⟨rfl, rfl⟩)
    | (go_at_call 17; refine (Shl_known _).mono ?_; rintro e w1 ⟨rfl, hb1⟩)
    | (go_at_call 21; refine (Sar_known _).mono ?_; rintro e w2 ⟨rfl, hb2⟩)
    | (go_at_call 23; refine (Less_known _).mono ?_; rintro e w' ⟨rfl, rfl⟩)
    | (go_at_call 29; refine (Bytes_known _).mono ?_; rintro e w3 ⟨rfl, hb3⟩))
  go_ret
  exact ⟨rfl, (hb1.trans (hb2.mono hb1.size)).trans (hb3.mono (Nat.le_trans hb1.size hb2.size))⟩
end Go.Proofs.Ytoibdcnglpinoaa
