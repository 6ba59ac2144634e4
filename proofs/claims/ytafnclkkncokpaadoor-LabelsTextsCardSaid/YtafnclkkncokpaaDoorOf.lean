/-
  Layer 2: Of of package labels.
-/
import Derived.Test.YtafnclkkncokpaaDoorRefText
namespace Go.Proofs.YtafnclkkncokpaaDoor
open Go.RowKit
set_option maxHeartbeats 1000000
def isLab (l : Int) : Prop := 0 ≤ l ∧ l < 16
instance (l : Int) : Decidable (isLab l) := inferInstanceAs (Decidable (_ ∧ _))
/-- What the first k labels have together. -/
def orV (xs : List Int) (k : Nat) : Int := (xs.take k).foldl (fun s l => orI s (2 ^ l.toNat)) 0
theorem orV_zero (xs : List Int) : orV xs 0 = 0 := rfl
theorem orV_succ (xs : List Int) (k : Nat) (h : k < xs.length) : orV xs (k + 1) = orI (orV xs k) (2 ^ (xs[k]'h).toNat) := by
  unfold orV
  rw [List.take_add_one, List.getElem?_eq_getElem h, List.foldl_append]
  rfl
theorem pow_s16 {l : Int} (h : isLab l) : S16 (2 ^ l.toNat) := by
  obtain ⟨h0, h1⟩ := h
  obtain ⟨n, rfl⟩ := Int.eq_ofNat_of_zero_le h0
  rw [Int.toNat_natCast]
  have h2 : (2 : Nat) ^ n ≤ 2 ^ 15 := Nat.pow_le_pow_right (by decide) (by omega)
  have h3 : ((2 : Nat) ^ n : Nat) = ((2 : Int) ^ n) := by push_cast; rfl
  have h4 := Nat.two_pow_pos n
  unfold S16
  omega
theorem orV_s16 (xs : List Int) : ∀ k, k ≤ xs.length → (∀ i (h : i < xs.length), i < k → isLab (xs[i]'h)) → S16 (orV xs k)
  | 0, _, _ => by rw [orV_zero]; unfold S16; omega
  | k + 1, hk, h => by
    rw [orV_succ xs k (by omega)]
    exact orI_s16 (orV_s16 xs k (by omega) (fun i hi hik => h i hi (by omega))) (pow_s16 (h k (by omega) (by omega)))

theorem Of_aux (v : Value) (xs : List Int) (hlen : xs.length ≤ 65536) (w : World) (h : NumsIn .i64 w v xs) (u r : Int) (hyes : Hid ((∀ l ∈ xs, isLab l) → u = orV xs xs.length ∧ r = 0)) (hnot : Hid (¬ (∀ l ∈ xs, isLab l) → u = 0 ∧ r = 2)) :
    Calls Tryd.prog 26 #[v] w fun e w' => e = .returned (.tuple #[.int .u32 u, .int .i64 r]) ∧ w = w' := by
  obtain ⟨o, c, rfl, hcap, hl, hc⟩ := h.form
  have HC := Lib.hid hc
  clear h hc
  go_enter Tryd.func26, Tryd.ntmps26
  go_wp2
  refine wp_scope_fwd 0 rfl ?_
  go_wp2
  go_loop [4, 9] (fun s i => ∃ k : Nat, k ≤ xs.length ∧ i = .int .i64 k ∧ s = .int .u32 (orV xs k) ∧ Hid (∀ i (h : i < xs.length), i < k → isLab (xs[i]'h))) (fun _ i => xs.length - (intOf i).toNat)
  case atStart => exact ⟨0, by omega, rfl, rfl, fun i hi hk => by omega⟩
  case round =>
    obtain ⟨k, hk, rfl, rfl, hE⟩ := hrel
    by_cases hlt : k < xs.length
    · obtain ⟨a, rfl, hca, hwf⟩ := HC.out k (xs[k]'hlt) (List.getElem?_eq_getElem hlt)
      have hs1 := orV_s16 xs k hk hE.out
      by_cases hg : isLab (xs[k]'hlt)
      · have hst := Lib.hid (orV_succ xs k hlt)
        have hp := pow_s16 hg
        generalize hy : xs[k]'hlt = y at hca hg hst hp
        obtain ⟨n, rfl⟩ := Int.eq_ofNat_of_zero_le hg.1
        have hn : n < 16 := by have := hg.2; omega
        clear hwf
        go_wp2
        go_round
        case rel =>
          refine ⟨k + 1, by omega, by go_num, ?_, fun i hi hik => ?_⟩
          · rw [hst.out]
            have h2 : (2 : Nat) ^ n ≤ 2 ^ 15 := Nat.pow_le_pow_right (by decide) (by omega)
            have h3 : ((2 : Nat) ^ n : Nat) = ((2 : Int) ^ n) := by push_cast; rfl
            have h4 : (2 : Int) ^ n % 4294967296 = 2 ^ n := by
              have := Nat.two_pow_pos n
              exact Int.emod_eq_of_lt (by omega) (by omega)
            rw [h4, orI_bits _ _ hs1.w32 (by rw [Int.toNat_natCast] at hp; exact hp.w32)]
            rfl
          · by_cases hi2 : i = k
            · subst hi2; rw [hy]; exact hg
            · exact hE.out i hi (by omega)
        case measure => simp [intOf]; omega
      · have hno : ¬ ∀ l ∈ xs, isLab l := fun hall => hg (hall _ (List.getElem_mem hlt))
        have HN := Lib.hid (hnot.out hno)
        generalize hy : xs[k]'hlt = y at hca hg
        have hg' : y < 0 ∨ 16 ≤ y := by unfold isLab at hg; omega
        clear hno hg hwf
        rcases hg' with hg | hg
        all_goals
          go_wp2
          go_step3
          refine ⟨rfl, ?_⟩
          go_wp2
          rw [Exit.noGoto_ret]
          go_ret2
          exact ⟨by rw [HN.out.1, HN.out.2]; rfl, rfl⟩
    · have hall : ∀ l ∈ xs, isLab l := fun l hl => by
        obtain ⟨i, hi, rfl⟩ := List.mem_iff_getElem.1 hl
        exact hE.out i hi (by omega)
      have HY := Lib.hid (hyes.out hall)
      clear hall
      obtain rfl : k = xs.length := by omega
      go_wp2
      rw [Fwd_ret]
      go_ret2
      exact ⟨by rw [HY.out.1, HY.out.2]; rfl, rfl⟩
/-- Of, by what it gives. -/
def allLab (xs : List Int) : Bool := xs.all fun l => decide (isLab l)
theorem allLab_iff (xs : List Int) : allLab xs = true ↔ ∀ l ∈ xs, isLab l := by simp [allLab]
theorem Of_any (v : Value) (xs : List Int) (hlen : xs.length ≤ 65536) (w : World) (h : NumsIn .i64 w v xs) :
    Calls Tryd.prog 26 #[v] w fun e w' => e = .returned (.tuple #[.int .u32 (if allLab xs = true then orV xs xs.length else 0), .int .i64 (if allLab xs = true then 0 else 2)]) ∧ w = w' :=
  Of_aux v xs hlen w h _ _ (fun hall => by rw [if_pos ((allLab_iff xs).2 hall), if_pos ((allLab_iff xs).2 hall)]; exact ⟨rfl, rfl⟩)
    (fun hno => by rw [if_neg (fun h => hno ((allLab_iff xs).1 h)), if_neg (fun h => hno ((allLab_iff xs).1 h))]; exact ⟨rfl, rfl⟩)
end Go.Proofs.YtafnclkkncokpaaDoor
