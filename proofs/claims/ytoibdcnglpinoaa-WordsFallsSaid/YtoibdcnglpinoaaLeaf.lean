/-
  Layer 1: what each function of package words (but Bytes), and of the document's own answers, gives: walks.
-/
import Derived.Test.YtoibdcnglpinoaaRows
import Derived.Test.YtoibdcnglpinoaaMath
import Derived.WalkKit
import Derived.WalkSpells
import Derived.WalkLawsBesides
import Derived.Lib.Hide
namespace Go.Proofs.Ytoibdcnglpinoaa
open Go.RowKit
set_option maxHeartbeats 400000

/-! ### The program's -/
theorem Add_any (a b : Int) (w : World) :
    Calls Try.prog 10 #[.int .u32 a, .int .u32 b] w fun e w' => e = .returned (.int .u32 ((a + b) % 4294967296)) ∧ w = w' := by
  go_enter Try.func10, Try.ntmps10
  go_wp2
  go_ret
  exact ⟨by simp, rfl⟩
theorem Sub_any (a b : Int) (w : World) :
    Calls Try.prog 12 #[.int .u32 a, .int .u32 b] w fun e w' => e = .returned (.int .u32 ((a - b) % 4294967296)) ∧ w = w' := by
  go_enter Try.func12, Try.ntmps12
  go_wp2
  go_ret
  exact ⟨by simp, rfl⟩
theorem Mul_any (a b : Int) (w : World) :
    Calls Try.prog 14 #[.int .u32 a, .int .u32 b] w fun e w' => e = .returned (.int .u32 (a * b % 4294967296)) ∧ w = w' := by
  go_enter Try.func14, Try.ntmps14
  go_wp2
  go_ret
  exact ⟨by simp, rfl⟩
theorem LessU_any (a b : Int) (w : World) :
    Calls Try.prog 25 #[.int .u32 a, .int .u32 b] w fun e w' => e = .returned (.bool (decide (a < b))) ∧ w = w' := by
  go_enter Try.func25, Try.ntmps25
  go_wp2
  go_ret
  exact ⟨by simp, rfl⟩
theorem Less_any (a b : Int) (ha : W32 a) (hb : W32 b) (w : World) :
    Calls Try.prog 23 #[.int .u32 a, .int .u32 b] w fun e w' => e = .returned (.bool (decide (sgn a < sgn b))) ∧ w = w' := by
  have e1 := wrap32_sgn a ha
  have e2 := wrap32_sgn b hb
  go_enter Try.func23, Try.ntmps23
  go_wp2
  go_ret
  exact ⟨by simp [e1, e2], rfl⟩
theorem Sign_any (a : Int) (ha : W32 a) (w : World) :
    Calls Try.prog 27 #[.int .u32 a] w fun e w' => e = .returned (.int .i64 (sgn a)) ∧ w = w' := by
  have e1 := wrap32_sgn a ha
  have hr := sgn_range a ha
  go_enter Try.func27, Try.ntmps27
  go_wp2
  go_ret
  exact ⟨by simp [e1], rfl⟩
theorem Shl_any (a n : Int) (hn : W32 n) (w : World) :
    Calls Try.prog 17 #[.int .u32 a, .int .u32 n] w fun e w' => e = .returned (.int .u32 (shlN a (n % 32).toNat)) ∧ Below w.heap.size w w' := by
  obtain ⟨hn0, hn1⟩ := hn
  have hmf : ∀ (fn : Fn) (first cap : Array Value) (w : World), (Instr.makeFunc fn first cap).run Try.prog w = .ok (.func fn first cap) w := fun _ _ _ _ => rfl
  go_enter Try.func17, Try.ntmps17
  go_wp2
  go_ret
  exact ⟨by simp [shlN], (Below.refl _ _).alloc (Nat.le_refl _) _⟩
theorem Shr_any (a n : Int) (ha : W32 a) (hn : W32 n) (w : World) :
    Calls Try.prog 19 #[.int .u32 a, .int .u32 n] w fun e w' => e = .returned (.int .u32 (shrN a (n % 32).toNat)) ∧ Below w.heap.size w w' := by
  obtain ⟨hn0, hn1⟩ := hn
  obtain ⟨ha0, ha1⟩ := ha
  have hmf : ∀ (fn : Fn) (first cap : Array Value) (w : World), (Instr.makeFunc fn first cap).run Try.prog w = .ok (.func fn first cap) w := fun _ _ _ _ => rfl
  go_enter Try.func19, Try.ntmps19
  go_wp2
  go_ret
  exact ⟨by simp [shrN], (Below.refl _ _).alloc (Nat.le_refl _) _⟩
theorem Sar_any (a n : Int) (ha : W32 a) (hn : W32 n) (w : World) :
    Calls Try.prog 21 #[.int .u32 a, .int .u32 n] w fun e w' => e = .returned (.int .u32 (sarN a (n % 32).toNat)) ∧ Below w.heap.size w w' := by
  have e1 := Lib.hid (wrap32_sgn a ha)
  obtain ⟨hn0, hn1⟩ := hn
  have hmf : ∀ (fn : Fn) (first cap : Array Value) (w : World), (Instr.makeFunc fn first cap).run Try.prog w = .ok (.func fn first cap) w := fun _ _ _ _ => rfl
  go_enter Try.func21, Try.ntmps21
  go_wp2
  go_ret
  exact ⟨by simp [sarN, e1.out], (Below.refl _ _).alloc (Nat.le_refl _) _⟩

theorem place (n : Int) : (8 * (n % 4) % 32).toNat = 8 * (n % 4).toNat := by omega
theorem Byte_any (a n : Int) (ha : W32 a) (hn : W32 n) (w : World) :
    Calls Try.prog 33 #[.int .u32 a, .int .u32 n] w fun e w' => e = .returned (.int .u8 (byt a (n % 4).toNat)) ∧ Below w.heap.size w w' := by
  have hp := Lib.hid (place n)
  have hb := Lib.hid (byt_shr a (n % 4).toNat)
  obtain ⟨hn0, hn1⟩ := hn
  obtain ⟨ha0, ha1⟩ := ha
  have hmf : ∀ (fn : Fn) (first cap : Array Value) (w : World), (Instr.makeFunc fn first cap).run Try.prog w = .ok (.func fn first cap) w := fun _ _ _ _ => rfl
  go_enter Try.func33, Try.ntmps33
  go_wp2
  go_ret
  refine ⟨?_, ((Below.refl _ _).alloc (Nat.le_refl _) _).alloc (by simp) _⟩
  have hb' := hb.out
  unfold shrN at hb'
  simp [hp.out, hb']
end Go.Proofs.Ytoibdcnglpinoaa
