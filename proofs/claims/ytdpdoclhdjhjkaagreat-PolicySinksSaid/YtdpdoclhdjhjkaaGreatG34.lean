/-
  Layer 13: what two sets have both, by the document: a walk.
-/
import Derived.Test.YtdpdoclhdjhjkaaGreatG29
import Derived.Test.YtdpdoclhdjhjkaaGreatG00
set_option linter.unusedVariables false
set_option linter.unusedSimpArgs false
namespace Go.Proofs.YtdpdoclhdjhjkaaGreat
open Go.RowKit
set_option maxHeartbeats 4000000
set_option maxRecDepth 100000
set_option linter.unusedVariables false
set_option linter.unusedSimpArgs false

def mtI : Value → Nat | .int _ q => q.toNat | _ => 0
theorem RMeet_any (a b : Int) (ha : L2.S16 a) (hb : L2.S16 b) (w : World) :
    Calls Tryz.prog 69 #[.int .u32 a, .int .u32 b] w fun e w' => e = .returned (.int .u32 (andI a b)) ∧ w = w' := by
  have HE := Lib.hid (andS_end (b := b) (show S16 a from ha))
  go_enter Tryz.func69, Tryz.ntmps69
  go_wp2
  go_loop [5, 6, 7] (fun x p i => ∃ k : Nat, k ≤ 16 ∧ i = .int .i64 k ∧ p = .int .u32 (2 ^ k) ∧ x = .int .u32 (andS a b k)) (fun _ _ i => 16 - mtI i)
  case atStart => exact ⟨0, by omega, rfl, rfl, by rw [andS_zero]⟩
  case round =>
    obtain ⟨k, hk, rfl, rfl, rfl⟩ := hrel
    obtain ⟨p0, p1⟩ := L2.pow16 k hk
    obtain ⟨s0, s1⟩ := andS_le a b k hk
    have HP : Hid ((2 : Int) ^ (k + 1) = 2 ^ k * 2) := Int.pow_succ 2 k
    have HY := Lib.hid (andS_yes a b k)
    have HN := Lib.hid (andS_no a b k)
    generalize hp : (2 : Int) ^ k = p at p0 p1 HP HY HN ⊢
    generalize hs : andS a b k = s at s0 s1 HY HN ⊢
    have HS := Lib.hid hs
    clear hp hs
    by_cases hlt : k < 16
    · have HA := fun W => Lib.hid (L2.RBit_any a ha.w32 k (by omega) W)
      have HB := fun W => Lib.hid (L2.RBit_any b hb.w32 k (by omega) W)
      generalize L2.bitI a k = q1 at HA HY HN
      generalize L2.bitI b k = q2 at HB HY HN
      have A1 := Lib.hid HA
      have B1 := Lib.hid HB
      clear HA HB
      cases q1 <;> cases q2
      all_goals
        go_wp2_with fail
        refine ((A1.out _).out).mono ?_; rintro e w' ⟨rfl, rfl⟩
        go_wp2_with fail
        first
          | (refine ((B1.out _).out).mono ?_; rintro e w' ⟨rfl, rfl⟩; go_wp2_with fail)
          | skip
        go_round
        case rel => exact ⟨k + 1, by omega, by go_num, by rw [HP.out], by first | rw [HY.out rfl] | rw [HN.out rfl]⟩
        case measure => simp [mtI]; omega
    · go_wp2
      go_ret
      obtain rfl : k = 16 := by omega
      have e : s = andI a b := by rw [← HS.out, HE.out]
      exact ⟨by simp [e], rfl⟩
end Go.Proofs.YtdpdoclhdjhjkaaGreat
