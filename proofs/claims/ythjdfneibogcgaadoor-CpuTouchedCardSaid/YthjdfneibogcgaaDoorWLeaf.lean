/-
  Layer 10: what the functions of package words give that package cpu calls: walks (as in layer 1).
-/
import Derived.Test.YthjdfneibogcgaaDoorRows
import Derived.Test.YthjdfneibogcgaaDoorMath
import Derived.WalkKit
import Derived.WalkSpells
import Derived.WalkLawsBesides
import Derived.Lib.Hide
namespace Go.Proofs.YthjdfneibogcgaaDoor
open Go.RowKit
set_option maxHeartbeats 400000

/-! ### The program's -/
theorem Add_any (a b : Int) (w : World) :
    Calls Tryd.prog 65 #[.int .u32 a, .int .u32 b] w fun e w' => e = .returned (.int .u32 ((a + b) % 4294967296)) ∧ w = w' := by
  go_enter Tryd.func65, Tryd.ntmps65
  go_wp2
  go_ret
  exact ⟨by simp, rfl⟩
theorem Sub_any (a b : Int) (w : World) :
    Calls Tryd.prog 78 #[.int .u32 a, .int .u32 b] w fun e w' => e = .returned (.int .u32 ((a - b) % 4294967296)) ∧ w = w' := by
  go_enter Tryd.func78, Tryd.ntmps78
  go_wp2
  go_ret
  exact ⟨by simp, rfl⟩
theorem Mul_any (a b : Int) (w : World) :
    Calls Tryd.prog 71 #[.int .u32 a, .int .u32 b] w fun e w' => e = .returned (.int .u32 (a * b % 4294967296)) ∧ w = w' := by
  go_enter Tryd.func71, Tryd.ntmps71
  go_wp2
  go_ret
  exact ⟨by simp, rfl⟩
theorem Less_any (a b : Int) (ha : W32 a) (hb : W32 b) (w : World) :
    Calls Tryd.prog 85 #[.int .u32 a, .int .u32 b] w fun e w' => e = .returned (.bool (decide (sgn a < sgn b))) ∧ w = w' := by
  have e1 := wrap32_sgn a ha
  have e2 := wrap32_sgn b hb
  go_enter Tryd.func85, Tryd.ntmps85
  go_wp2
  go_ret
  exact ⟨by simp [e1, e2], rfl⟩
theorem Shl_any (a n : Int) (hn : W32 n) (w : World) :
    Calls Tryd.prog 82 #[.int .u32 a, .int .u32 n] w fun e w' => e = .returned (.int .u32 (shlN a (n % 32).toNat)) ∧ Below w.heap.size w w' := by
  obtain ⟨hn0, hn1⟩ := hn
  have hmf : ∀ (fn : Fn) (first cap : Array Value) (w : World), (Instr.makeFunc fn first cap).run Tryd.prog w = .ok (.func fn first cap) w := fun _ _ _ _ => rfl
  go_enter Tryd.func82, Tryd.ntmps82
  go_wp2
  go_ret
  exact ⟨by simp [shlN], (Below.refl _ _).alloc (Nat.le_refl _) _⟩
theorem Shr_any (a n : Int) (ha : W32 a) (hn : W32 n) (w : World) :
    Calls Tryd.prog 83 #[.int .u32 a, .int .u32 n] w fun e w' => e = .returned (.int .u32 (shrN a (n % 32).toNat)) ∧ Below w.heap.size w w' := by
  obtain ⟨hn0, hn1⟩ := hn
  obtain ⟨ha0, ha1⟩ := ha
  have hmf : ∀ (fn : Fn) (first cap : Array Value) (w : World), (Instr.makeFunc fn first cap).run Tryd.prog w = .ok (.func fn first cap) w := fun _ _ _ _ => rfl
  go_enter Tryd.func83, Tryd.ntmps83
  go_wp2
  go_ret
  exact ⟨by simp [shrN], (Below.refl _ _).alloc (Nat.le_refl _) _⟩
theorem place (n : Int) : (8 * (n % 4) % 32).toNat = 8 * (n % 4).toNat := by omega
theorem Byte_any (a n : Int) (ha : W32 a) (hn : W32 n) (w : World) :
    Calls Tryd.prog 73 #[.int .u32 a, .int .u32 n] w fun e w' => e = .returned (.int .u8 (byt a (n % 4).toNat)) ∧ Below w.heap.size w w' := by
  have hp := Lib.hid (place n)
  have hb := Lib.hid (byt_shr a (n % 4).toNat)
  obtain ⟨hn0, hn1⟩ := hn
  obtain ⟨ha0, ha1⟩ := ha
  have hmf : ∀ (fn : Fn) (first cap : Array Value) (w : World), (Instr.makeFunc fn first cap).run Tryd.prog w = .ok (.func fn first cap) w := fun _ _ _ _ => rfl
  go_enter Tryd.func73, Tryd.ntmps73
  go_wp2
  go_ret
  refine ⟨?_, ((Below.refl _ _).alloc (Nat.le_refl _) _).alloc (by simp) _⟩
  have hb' := hb.out
  unfold shrN at hb'
  simp [hp.out, hb']
end Go.Proofs.YthjdfneibogcgaaDoor
