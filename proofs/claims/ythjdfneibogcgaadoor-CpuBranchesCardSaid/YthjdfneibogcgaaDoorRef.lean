/-
  Layer 10: the document's Imm, bitwise, makes: walks. Written by gen_ref.py.
-/
import Derived.Test.YthjdfneibogcgaaDoorWRef
import Derived.Test.YthjdfneibogcgaaDoorBits
import Derived.Test.YthjdfneibogcgaaDoorStep
namespace Go.Proofs.YthjdfneibogcgaaDoor
open Go.RowKit
set_option maxHeartbeats 8000000
set_option linter.unusedVariables false
set_option linter.unusedSimpArgs false

theorem RImm_any (op a b m : Int) (h0 : -32768 ≤ m) (h1 : m ≤ 32767) (w : World) : Calls Tryd.prog 37 #[.agg #[.int .i64 op, .int .i64 a, .int .i64 b, .int .i64 m]] w fun e w' => e = .returned (.int .u32 (immW m)) ∧ Below w.heap.size w w' := by
  by_cases hm : m < 0
  · have e : (0 - -m) % 4294967296 = immW m := by unfold immW; omega
    have hw : W32 (-m) := ⟨by omega, by omega⟩
    go_enter Tryd.func37, Tryd.ntmps37
    go_wp2_with (go_at_call 60; refine (RSub_any 0 (-m) ⟨by decide, by decide⟩ hw _).mono ?_; rintro e w' ⟨rfl, rfl⟩)
    go_ret
    exact ⟨rfl, bel1 w _⟩
  · have e : m % 4294967296 = immW m := rfl
    go_enter Tryd.func37, Tryd.ntmps37
    go_wp2
    go_ret
    have e2 : m = immW m := by unfold immW; omega
    refine ⟨?_, bel1 w _⟩
    rw [← e2]
    rfl

theorem min_lt {k : Nat} (h : k < 32) : min k 31 = k := by omega
theorem pow_le30 : ∀ k : Fin 31, (2 : Int) ^ k.val ≤ 1073741824 := by decide
theorem pow_le31 : ∀ k : Fin 32, (2 : Int) ^ k.val ≤ 2147483648 := by decide
theorem Rbitwise_any (a b op : Int) (ho : op = 7 ∨ op = 8 ∨ op = 9) (ha : W32 a) (hb : W32 b) (w : World) : Calls Tryd.prog 61 #[.int .u32 a, .int .u32 b, .int .i64 op] w fun e w' => e = .returned (.int .u32 (bitOf op a b)) ∧ Below w.heap.size w w' := by
  have HST := Lib.hid (bit_step op ho a b ha hb)
  have HW := Lib.hid (bitOf_w32 op a b)
  obtain ⟨Z, HZ⟩ : ∃ Z, Hid (Z = bitOf op a b) := ⟨_, rfl⟩
  rw [← HZ.out]
  go_enter Tryd.func61, Tryd.ntmps61
  go_wp2
  go_loopw [7, 8, 9] (fun n p i wr => ∃ k : Nat, k ≤ 32 ∧ i = .int .i64 (k : Int) ∧ n = .int .u32 (Z % 2 ^ k) ∧ p = .int .u32 (2 ^ (min k 31)) ∧ Hid (Below w.heap.size w wr)) (fun _ _ i _ => 32 - (intOf i).toNat)
  case atStart => exact ⟨0, by omega, rfl, by simp [Int.emod_one], rfl, Lib.hid (Below.refl _ _)⟩
  case round =>
    obtain ⟨k, hk, rfl, rfl, rfl, HB⟩ := hrel
    by_cases hlt : k < 32
    · have hi : (k : Int) < 32 := by omega
      have hs := HST.out k
      rw [← HZ.out] at hs
      rw [min_lt hlt]
      have p0 := pow_pos2 k
      have p1 := pow_le31 ⟨k, hlt⟩
      dsimp only at p1
      have p2 : k < 31 → (2 : Int) ^ k ≤ 1073741824 := fun h => pow_le30 ⟨k, h⟩
      have n0 := Int.emod_nonneg Z (show (2 : Int) ^ k ≠ 0 by omega)
      have n1 := Int.emod_lt_of_pos Z p0
      have hpk : (2 : Int) ^ (k + 1) = 2 ^ k * 2 := Int.pow_succ 2 k
      have HK := Lib.hid hs
      have HPK := Lib.hid hpk
      clear hs hpk
      obtain ⟨P, HP⟩ : ∃ P, Hid (P = (2 : Int) ^ k) := ⟨_, rfl⟩
      rw [← HP.out] at p0 p1 p2 n0 n1 HK HPK
      have hpp := HP.out
      rw [← HP.out]
      obtain ⟨N, HN⟩ : ∃ N, Hid (N = Z % P) := ⟨_, rfl⟩
      rw [← HN.out] at n0 n1 HK
      rw [← HN.out]
      have d0 : 0 ≤ a / P % 2 ∧ a / P % 2 < 2 := ⟨by omega, by omega⟩
      have d1 : 0 ≤ b / P % 2 ∧ b / P % 2 < 2 := ⟨by omega, by omega⟩
      have pn : P ≠ 0 := by omega
      have hrel : ∀ W : World, Hid (Below w.heap.size w W) → ∀ v u : Int, v = N + (if digit op (a / P % 2) (b / P % 2) = true then P else 0) → u = (if k < 31 then P * 2 else P) → ∃ j : Nat, j ≤ 32 ∧ (Value.int .i64 ((k : Int) + 1)) = .int .i64 (j : Int) ∧ (Value.int .u32 v) = .int .u32 (Z % 2 ^ j) ∧ (Value.int .u32 u) = .int .u32 (2 ^ (min j 31)) ∧ Hid (Below w.heap.size w W) := by
        intro W hW v u hv hu
        refine ⟨k + 1, by omega, by push_cast; rfl, by rw [hv, HK.out], ?_, hW⟩
        by_cases h31 : k < 31
        · rw [hu, if_pos h31, show min (k + 1) 31 = k + 1 by omega, HPK.out]
        · obtain rfl : k = 31 := by omega
          rw [hu, if_neg h31, hpp]
          rfl
      have HR := Lib.hid hrel
      have ta : a.tdiv P = a / P := Int.tdiv_eq_ediv_of_nonneg ha.1
      have tb : b.tdiv P = b / P := Int.tdiv_eq_ediv_of_nonneg hb.1
      clear hrel hpp
      have hmm : 32 - (intOf (Value.int IntKind.i64 (↑k + 1))).toNat < 32 - (intOf (Value.int IntKind.i64 ↑k)).toNat := by simp [intOf]; omega
      have HMM := Lib.hid hmm
      clear hmm
      have hx : a / P % 2 = 0 ∨ a / P % 2 = 1 := by omega
      have hy : b / P % 2 = 0 ∨ b / P % 2 = 1 := by omega
      by_cases hz : k < 31
      · have hk31 : (k : Int) < 31 := by omega
        replace p2 := p2 hz
        rcases ho with rfl | rfl | rfl <;> rcases hx with hx | hx <;> rcases hy with hy | hy
        all_goals
          go_wp2
          go_region
          go_wp2
          refine ⟨HR.out _ (Lib.hid HB.out.drew) _ _ ?_ ?_, HMM.out⟩
          · rw [hx, hy]; simp [digit]; try omega
          · first | (rw [if_pos hz]; done) | (rw [if_pos hz]; omega)
      · have hk31 : ¬ ((k : Int) < 31) := by omega
        rcases ho with rfl | rfl | rfl <;> rcases hx with hx | hx <;> rcases hy with hy | hy
        all_goals
          go_wp2
          go_region
          go_wp2
          refine ⟨HR.out _ (Lib.hid HB.out.drew) _ _ ?_ ?_, HMM.out⟩
          · rw [hx, hy]; simp [digit]; try omega
          · first | (rw [if_neg hz]; done) | (rw [if_neg hz]; omega)
    · obtain rfl : k = 32 := by omega
      have e : Z % 2 ^ 32 = Z := by rw [HZ.out]; have := HW.out.1; have := HW.out.2; omega
      rw [e]
      go_wp2
      go_ret
      exact ⟨rfl, HB.out⟩
theorem mod32 (b : Int) : b % 32 % 32 = b % 32 := by omega
theorem Rmakes_2 (a b n : Int) (ha : W32 a) (hb : W32 b) (hn : W32 n) (w : World) : Calls Tryd.prog 41 #[.int .i64 2, .int .u32 a, .int .u32 b, .int .u32 n] w fun e w' => e = .returned (.int .u32 (n * 65536 % 4294967296)) ∧ Below w.heap.size w w' := by
  have hm : W32 (b % 32) := ⟨by omega, by omega⟩
  have hn0 := hb.1
  have hn1 := hb.2
  go_enter Tryd.func41, Tryd.ntmps41
  go_wp2_with fail
  refine (RMul_any _ _ hn ⟨by decide, by decide⟩ _).mono ?_
  rintro e w1 ⟨rfl, rfl⟩
  go_wp2
  go_ret
  exact ⟨by rfl, Below.refl _ _⟩
theorem Rmakes_3 (a b n : Int) (ha : W32 a) (hb : W32 b) (hn : W32 n) (w : World) : Calls Tryd.prog 41 #[.int .i64 3, .int .u32 a, .int .u32 b, .int .u32 n] w fun e w' => e = .returned (.int .u32 ((b + n) % 4294967296)) ∧ Below w.heap.size w w' := by
  have hm : W32 (b % 32) := ⟨by omega, by omega⟩
  have hn0 := hb.1
  have hn1 := hb.2
  go_enter Tryd.func41, Tryd.ntmps41
  go_wp2_with fail
  refine (RAdd_any _ _ hb hn _).mono ?_
  rintro e w1 ⟨rfl, rfl⟩
  go_wp2
  go_ret
  exact ⟨by rfl, Below.refl _ _⟩
theorem Rmakes_4 (a b n : Int) (ha : W32 a) (hb : W32 b) (hn : W32 n) (w : World) : Calls Tryd.prog 41 #[.int .i64 4, .int .u32 a, .int .u32 b, .int .u32 n] w fun e w' => e = .returned (.int .u32 ((a + b) % 4294967296)) ∧ Below w.heap.size w w' := by
  have hm : W32 (b % 32) := ⟨by omega, by omega⟩
  have hn0 := hb.1
  have hn1 := hb.2
  go_enter Tryd.func41, Tryd.ntmps41
  go_wp2_with fail
  refine (RAdd_any _ _ ha hb _).mono ?_
  rintro e w1 ⟨rfl, rfl⟩
  go_wp2
  go_ret
  exact ⟨by rfl, Below.refl _ _⟩
theorem Rmakes_5 (a b n : Int) (ha : W32 a) (hb : W32 b) (hn : W32 n) (w : World) : Calls Tryd.prog 41 #[.int .i64 5, .int .u32 a, .int .u32 b, .int .u32 n] w fun e w' => e = .returned (.int .u32 ((a - b) % 4294967296)) ∧ Below w.heap.size w w' := by
  have hm : W32 (b % 32) := ⟨by omega, by omega⟩
  have hn0 := hb.1
  have hn1 := hb.2
  go_enter Tryd.func41, Tryd.ntmps41
  go_wp2_with fail
  refine (RSub_any _ _ ha hb _).mono ?_
  rintro e w1 ⟨rfl, rfl⟩
  go_wp2
  go_ret
  exact ⟨by rfl, Below.refl _ _⟩
theorem Rmakes_6 (a b n : Int) (ha : W32 a) (hb : W32 b) (hn : W32 n) (w : World) : Calls Tryd.prog 41 #[.int .i64 6, .int .u32 a, .int .u32 b, .int .u32 n] w fun e w' => e = .returned (.int .u32 (a * b % 4294967296)) ∧ Below w.heap.size w w' := by
  have hm : W32 (b % 32) := ⟨by omega, by omega⟩
  have hn0 := hb.1
  have hn1 := hb.2
  go_enter Tryd.func41, Tryd.ntmps41
  go_wp2_with fail
  refine (RMul_any _ _ ha hb _).mono ?_
  rintro e w1 ⟨rfl, rfl⟩
  go_wp2
  go_ret
  exact ⟨by rfl, Below.refl _ _⟩
theorem Rmakes_7 (a b n : Int) (ha : W32 a) (hb : W32 b) (hn : W32 n) (w : World) : Calls Tryd.prog 41 #[.int .i64 7, .int .u32 a, .int .u32 b, .int .u32 n] w fun e w' => e = .returned (.int .u32 (bitOf 7 a b)) ∧ Below w.heap.size w w' := by
  have hm : W32 (b % 32) := ⟨by omega, by omega⟩
  have hn0 := hb.1
  have hn1 := hb.2
  go_enter Tryd.func41, Tryd.ntmps41
  go_wp2_with fail
  refine (Rbitwise_any _ _ _ (.inl rfl) ha hb _).mono ?_
  rintro e w1 ⟨rfl, hb1⟩
  have HB := Lib.hid hb1
  clear hb1
  go_wp2
  go_ret
  exact ⟨rfl, HB.out⟩
theorem Rmakes_8 (a b n : Int) (ha : W32 a) (hb : W32 b) (hn : W32 n) (w : World) : Calls Tryd.prog 41 #[.int .i64 8, .int .u32 a, .int .u32 b, .int .u32 n] w fun e w' => e = .returned (.int .u32 (bitOf 8 a b)) ∧ Below w.heap.size w w' := by
  have hm : W32 (b % 32) := ⟨by omega, by omega⟩
  have hn0 := hb.1
  have hn1 := hb.2
  go_enter Tryd.func41, Tryd.ntmps41
  go_wp2_with fail
  refine (Rbitwise_any _ _ _ (.inr (.inl rfl)) ha hb _).mono ?_
  rintro e w1 ⟨rfl, hb1⟩
  have HB := Lib.hid hb1
  clear hb1
  go_wp2
  go_ret
  exact ⟨rfl, HB.out⟩
theorem Rmakes_9 (a b n : Int) (ha : W32 a) (hb : W32 b) (hn : W32 n) (w : World) : Calls Tryd.prog 41 #[.int .i64 9, .int .u32 a, .int .u32 b, .int .u32 n] w fun e w' => e = .returned (.int .u32 (bitOf 9 a b)) ∧ Below w.heap.size w w' := by
  have hm : W32 (b % 32) := ⟨by omega, by omega⟩
  have hn0 := hb.1
  have hn1 := hb.2
  go_enter Tryd.func41, Tryd.ntmps41
  go_wp2_with fail
  refine (Rbitwise_any _ _ _ (.inr (.inr rfl)) ha hb _).mono ?_
  rintro e w1 ⟨rfl, hb1⟩
  have HB := Lib.hid hb1
  clear hb1
  go_wp2
  go_ret
  exact ⟨rfl, HB.out⟩
theorem Rmakes_10 (a b n : Int) (ha : W32 a) (hb : W32 b) (hn : W32 n) (w : World) : Calls Tryd.prog 41 #[.int .i64 10, .int .u32 a, .int .u32 b, .int .u32 n] w fun e w' => e = .returned (.int .u32 (shlN a (b % 32).toNat)) ∧ Below w.heap.size w w' := by
  have hm : W32 (b % 32) := ⟨by omega, by omega⟩
  have hn0 := hb.1
  have hn1 := hb.2
  go_enter Tryd.func41, Tryd.ntmps41
  go_wp2_with fail
  refine (RShl_any _ _ ha hm _).mono ?_
  rintro e w1 ⟨rfl, rfl⟩
  go_wp2
  go_ret
  exact ⟨by rfl, Below.refl _ _⟩
theorem Rmakes_11 (a b n : Int) (ha : W32 a) (hb : W32 b) (hn : W32 n) (w : World) : Calls Tryd.prog 41 #[.int .i64 11, .int .u32 a, .int .u32 b, .int .u32 n] w fun e w' => e = .returned (.int .u32 (shrN a (b % 32).toNat)) ∧ Below w.heap.size w w' := by
  have hm : W32 (b % 32) := ⟨by omega, by omega⟩
  have hn0 := hb.1
  have hn1 := hb.2
  go_enter Tryd.func41, Tryd.ntmps41
  go_wp2_with fail
  refine (RShr_any _ _ ha hm _).mono ?_
  rintro e w1 ⟨rfl, rfl⟩
  go_wp2
  go_ret
  exact ⟨by rfl, Below.refl _ _⟩
theorem Rmakes_12 (a b n : Int) (ha : W32 a) (hb : W32 b) (hn : W32 n) (w : World) : Calls Tryd.prog 41 #[.int .i64 12, .int .u32 a, .int .u32 b, .int .u32 n] w fun e w' => e = .returned (.int .u32 (if sgn a < sgn b then 1 else 0)) ∧ Below w.heap.size w w' := by
  by_cases h : sgn a < sgn b
  all_goals
    go_enter Tryd.func41, Tryd.ntmps41
    go_wp2_with fail
    refine (RSign_any a ha _).mono ?_
    rintro e w1 ⟨rfl, rfl⟩
    go_wp2_with fail
    refine (RSign_any b hb _).mono ?_
    rintro e w1 ⟨rfl, rfl⟩
    go_wp2
    go_ret
    exact ⟨by first | rfl | (rw [if_pos (by omega)]; rfl) | (rw [if_neg (by omega)]; rfl), Below.refl _ _⟩
end Go.Proofs.YthjdfneibogcgaaDoor
