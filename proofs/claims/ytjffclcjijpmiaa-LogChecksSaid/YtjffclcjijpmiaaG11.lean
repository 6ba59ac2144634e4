/-
  Layer 16: is a log no more than is worked out here: walk; an error's number. Layer 16: the log of works, made: walk.
-/
import Derived.Test.YtjffclcjijpmiaaG06
import Derived.Test.YtjffclcjijpmiaaG07
set_option linter.unusedVariables false
set_option linter.unusedSimpArgs false
namespace Go.Proofs.Ytjffclcjijpmiaa.LG
open Go.RowKit
set_option maxHeartbeats 4000000
set_option maxRecDepth 100000
set_option linter.unusedVariables false
set_option linter.unusedSimpArgs false

theorem num_any (n : Int) (w : World) : Calls Try.prog 11 #[.int .i64 n] w fun e w' => e = .returned (.int .i64 n) ∧ w = w' := by
  go_enter Try.func11, Try.ntmps11
  go_wp2
  go_ret
  exact ⟨rfl, rfl⟩
/-- No more than some 20000 bytes. -/
def Few (l : Lg) : Prop := ∀ k, bdN (l.rs.take k) ≤ 20032
/-- The answer: true only if it is. -/
def FewE (l : Lg) (e : Ending) : Prop := ∃ b, e = .returned (.bool b) ∧ (b = true → Few l)
theorem few_any {w : World} {l : Lg} {rv : Value} (h : LgIn w rv l) : Calls Try.prog 9 #[.agg (lgc l rv)] w fun e w' => FewE l e ∧ Below w.heap.size w w' := by
  obtain ⟨fr, se, mo, rs, wh, en⟩ := l
  have HA := Lib.hid (fun W (hb : Below w.heap.size w W) => (show RsIn W rv rs from h.r.below hb))
  obtain ⟨ao, ca, rfl, _, hla⟩ := h.r.shape
  unfold maxLen at hla
  have hb1 := bel1 w (.cells #[.int .i64 fr, .int .i64 se, .int .i64 mo, .slice ao rs.length ca, .bool wh, .int .i64 en] 26)
  have c3 := (blk_new w #[.int .i64 fr, .int .i64 se, .int .i64 mo, .slice ao rs.length ca, .bool wh, .int .i64 en] 26).cell 3
  simp only [List.getElem?_toArray, List.getElem?_cons_zero, List.getElem?_cons_succ] at c3
  have HB := Lib.hid hb1
  have HC := Lib.hid c3
  simp only at hla
  clear h hb1 c3
  simp only [lgc]
  go_enter Try.func9, Try.ntmps9
  go_wp2
  generalize w.alloc (.cells #[.int .i64 fr, .int .i64 se, .int .i64 mo, .slice ao rs.length ca, .bool wh, .int .i64 en] 26) = W at HB HC ⊢
  have hC := HC.out
  have H0 : Hid ((0 : Int) ≤ 20000 → ∀ j : Nat, j ≤ 0 → bdN (rs.take j) ≤ 32 + 0) := Lib.hid (fun _ j hj => by
    obtain rfl : j = 0 := by omega
    simp [bdN])
  go_loopw [3, 4] (fun nv iv wr => ∃ (k : Nat) (n : Int), k ≤ rs.length ∧ 0 ≤ n ∧ n ≤ 100000 ∧ nv = .int .i64 n ∧ iv = .int .i64 (k : Int) ∧ W = wr ∧ Hid (n ≤ 20000 → ∀ j, j ≤ k → bdN (rs.take j) ≤ 32 + n)) (fun _ iv _ => rs.length + 1 - (intOf iv).toNat)
  case atStart => exact ⟨0, 0, by omega, by omega, by omega, rfl, rfl, rfl, H0⟩
  case round =>
    obtain ⟨k, n, hk, hn0, hn1, rfl, rfl, rfl, HI⟩ := hrel
    by_cases hlt : k < rs.length
    · have hi : (k : Int) < (rs.length : Int) := by omega
      by_cases hn : n ≤ 20000
      · obtain ⟨g1, o1, c1, x, bv, e1, l1, hx, hxb, q⟩ := (HA.out _ HB.out).at_ hlt
        simp only [Value.slice.injEq] at e1
        obtain ⟨rfl, _, rfl⟩ := e1
        obtain ⟨q0, q1, q2, q3⟩ := rng4 q
        obtain ⟨bo, cb, rfl, _, hlb⟩ := hxb.shape
        unfold maxLen at hlb
        have hs := bdN_succ l1
        have HI2 := HI.out hn
        have hx0 : (0 : Int) ≤ (x.bs.length : Int) := by omega
        have HK : ∀ m : Int, (x.bs.length : Int) ≤ 20001 → m = n + 50 + (x.bs.length : Int) → Hid (m ≤ 20000 → ∀ j, j ≤ k + 1 → bdN (rs.take j) ≤ 32 + m) := fun m _ em _ j hj => by
          by_cases hj2 : j ≤ k
          · have := HI2 j hj2; omega
          · obtain rfl : j = k + 1 := by omega
            rw [hs]
            have := HI2 k (by omega)
            omega
        have HKx := Lib.hid HK
        clear l1 q hx hs HI HI2 HK
        by_cases hle : (x.bs.length : Int) ≤ 20001
        · have H3 := HKx.out _ hle rfl
          clear HKx
          go_wp2
          refine ⟨⟨k + 1, n + 50 + (x.bs.length : Int), by omega, by omega, by omega, rfl, by first | rfl | go_num, by first | rfl | trivial, H3⟩, ?_⟩
          simp [intOf]; omega
        · have hgt : (20001 : Int) < (x.bs.length : Int) := by omega
          have H3 : Hid (n + 50 + 20001 ≤ 20000 → ∀ j, j ≤ k + 1 → bdN (rs.take j) ≤ 32 + (n + 50 + 20001)) := Lib.hid (fun h => by omega)
          clear HKx
          go_wp2
          refine ⟨⟨k + 1, n + 50 + 20001, by omega, by omega, by omega, by first | rfl | go_num, by first | rfl | go_num, by first | rfl | trivial, H3⟩, ?_⟩
          simp [intOf]; omega
      · have hn' : 20000 < n := by omega
        go_wp2
        go_ret
        exact ⟨⟨false, rfl, fun h => by cases h⟩, HB.out⟩
    · obtain rfl : k = rs.length := by omega
      by_cases hn : n ≤ 20000
      · have HF : Hid (Few ⟨fr, se, mo, rs, wh, en⟩) := Lib.hid (fun j => by
          by_cases hj : j ≤ rs.length
          · have := HI.out hn j hj; show bdN (rs.take j) ≤ 20032; omega
          · have := HI.out hn rs.length (by omega)
            show bdN (rs.take j) ≤ 20032
            rw [List.take_of_length_le (by omega)]
            rw [List.take_length] at this
            omega)
        go_wp2
        go_ret
        exact ⟨⟨true, rfl, fun _ => HF.out⟩, HB.out⟩
      · have hn' : 20000 < n := by omega
        go_wp2
        go_ret
        exact ⟨⟨false, rfl, fun h => by cases h⟩, HB.out⟩
end Go.Proofs.Ytjffclcjijpmiaa.LG
namespace Go.Proofs.Ytjffclcjijpmiaa.LG
open Go.RowKit
set_option maxHeartbeats 4000000
set_option maxRecDepth 100000
set_option linter.unusedVariables false
set_option linter.unusedSimpArgs false

theorem rowLog : RowT 26 6 := ⟨⟨_, Try.underlying26⟩, by kernel_rfl⟩
theorem some_any (w : World) : Calls Try.prog 24 #[] w fun e w' => ∃ rv, e = .returned (.agg (lgc workL rv)) ∧ LgIn w' rv workL ∧ Below w.heap.size w w' := by
  have hcv := conv_lit (w.alloc (.cells #[.int .i64 0, .int .i64 0, .int .i64 0, .slice none 0 0, .bool false, .int .i64 0] 26)) #[.int .u8 104, .int .u8 105] 2 2
  simp only [World.size_alloc] at hcv
  go_enter Try.func24, Try.ntmps24
  go_wp2_with fail
  have hR0 : Ok1 6 #[.int .i64 2, .int .i64 1, .int .i64 4, .slice (some ⟨w.heap.size + 1 + 1, 0, none⟩) 1 1, .bool true, .int .i64 301] := ⟨rfl, by simp [Value.oneCell']⟩
  have hR := ((hR0.new 26 w).alloc (.cells #[.int .u8 104, .int .u8 105] 5 (2, 3))).alloc (.cells #[.int .i64 300, .int .i64 3, .int .i64 0, .slice (some ⟨w.heap.size + 1, 0, none⟩) 2 2] 42)
  have r1 := rng_lit (w.alloc (.cells #[.int .i64 2, .int .i64 1, .int .i64 4, .slice (some ⟨w.heap.size + 1 + 1, 0, none⟩) 1 1, .bool true, .int .i64 301] 26)) (2, 3) [104, 105]
  have b3 := bel1 ((w.alloc (.cells #[.int .i64 2, .int .i64 1, .int .i64 4, .slice (some ⟨w.heap.size + 1 + 1, 0, none⟩) 1 1, .bool true, .int .i64 301] 26)).alloc (.cells #[.int .u8 104, .int .u8 105] 5 (2, 3))) (.cells #[.int .i64 300, .int .i64 3, .int .i64 0, .slice (some ⟨w.heap.size + 1, 0, none⟩) 2 2] 42)
  have r2 := (blk_new ((w.alloc (.cells #[.int .i64 2, .int .i64 1, .int .i64 4, .slice (some ⟨w.heap.size + 1 + 1, 0, none⟩) 1 1, .bool true, .int .i64 301] 26)).alloc (.cells #[.int .u8 104, .int .u8 105] 5 (2, 3))) #[.int .i64 300, .int .i64 3, .int .i64 0, .slice (some ⟨w.heap.size + 1, 0, none⟩) 2 2] 42).range 0 [.int .i64 300, .int .i64 3, .int .i64 0, .slice (some ⟨w.heap.size + 1, 0, none⟩) 2 2] rfl
  have hb := belT (belT (bel1 w (.cells #[.int .i64 2, .int .i64 1, .int .i64 4, .slice (some ⟨w.heap.size + 1 + 1, 0, none⟩) 1 1, .bool true, .int .i64 301] 26)) (bel1 _ (.cells #[.int .u8 104, .int .u8 105] 5 (2, 3)))) b3
  simp only [World.size_alloc] at r1 r2
  refine bodyPost_ret (res_R rowLog (fn := Try.f24) rfl _ hR rfl) rfl ⟨_, rfl, ⟨⟨_, ⟨?_, _, _, rfl, Nat.le_refl _, by unfold maxLen; simp [workL], fun _ => ⟨_, _, rfl, r2⟩⟩, ⟨_, [], rfl, ⟨⟨rfl, _, _, rfl, Nat.le_refl _, by unfold maxLen; simp, fun _ => ⟨_, _, rfl, fun j u hj => cell_below (r1 j u hj) b3⟩⟩, by intro x hx; simp at hx; omega⟩, rfl⟩, ?_⟩, ?_⟩, hb⟩
  · rfl
  · intro r hr
    simp [workL] at hr
    subst hr
    exact ⟨⟨by decide, by decide⟩, ⟨by decide, by decide⟩, ⟨by decide, by decide⟩⟩
  · exact ⟨⟨by decide, by decide⟩, ⟨by decide, by decide⟩, ⟨by decide, by decide⟩, ⟨by decide, by decide⟩⟩
end Go.Proofs.Ytjffclcjijpmiaa.LG
