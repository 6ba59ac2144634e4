/-
  Layer 4: Number of package isa: a walk over the table as a value.
-/
import Derived.Test.YtcbbinmecnameaaDoorLeaf
import Derived.WalkKit
import Derived.WalkSpells
import Derived.WalkLawsBesides
import Derived.Lib.Hide
import Derived.Laws.Rows
set_option linter.unusedVariables false
namespace Go.Proofs.YtcbbinmecnameaaDoor
open Go.RowKit
set_option maxHeartbeats 1000000

theorem bytes_toList' (l : List UInt8) : (bytes l).toList = l := by rw [ByteArray.toList_eq]; simp [bytes]
theorem nm_filled' {k : Nat} (h0 : 0 < k) (h : k < 29) : (bytes (nm k)).toList.isEmpty = false := by
  rw [bytes_toList']
  cases hh : nm k with
  | nil => have := nm_none h hh; omega
  | cons _ _ => rfl
theorem beq_bytes (l : List UInt8) (s : ByteArray) : ((bytes l).toList == s.toList) = decide (bytes l = s) := by
  rw [Bool.eq_iff_iff]
  simp only [beq_iff_eq, decide_eq_true_eq]
  rw [bytes_toList', ByteArray.toList_eq]
  refine ⟨fun h => ByteArray.ext (by simp [bytes, h]), fun h => by rw [← h]; simp [bytes]⟩
set_option maxRecDepth 10000 in
theorem Number_any (s : ByteArray) (w : World) (h : Env w) :
    Calls Tryd.prog 19 #[.string s] w fun e w' => ∃ (r : Nat) (q : Bool), e = .returned (.tuple #[.int .i64 (r : Int), .bool q]) ∧ ((r = 0 ∧ q = false ∧ ∀ k, 0 < k → k < 29 → bytes (nm k) ≠ s) ∨ (0 < r ∧ r < 29 ∧ q = true ∧ bytes (nm r) = s)) ∧ Below w.heap.size w w' := by
  obtain ⟨tb, fr, hg⟩ := h.block
  have HG := Lib.hid hg
  clear hg
  go_enter Tryd.func19, Tryd.ntmps19
  go_wp2
  go_step3
  go_wp2
  go_step3
  go_wp2_with (refine wpList_load_row rfl 60 _ rfl 0 rfl tb opsCells fr _ HG.out Tryd.underlying60 rfl (by kernel_rfl) ?_)
  go_loopw [4, 8] (fun f c wr => ∃ k : Nat, k ≤ 29 ∧ f = .int .i64 0 ∧ c = .int .i64 (k : Int) ∧ Hid (Below w.heap.size w wr) ∧ Hid (∀ j, 0 < j → j < k → bytes (nm j) ≠ s)) (fun _ c _ => 29 - (intOf c).toNat)
  case atStart => exact ⟨0, by omega, rfl, rfl, Below.refl _ _, fun j _ hj => absurd hj (Nat.not_lt_zero j)⟩
  case round =>
    obtain ⟨k, hk, rfl, rfl, hb, hno⟩ := hrel
    by_cases hlt : k < 29
    · have hix : ∀ W, (Instr.index 60 (.agg opsCells) (.int .i64 (k : Int))).run Tryd.prog W = .ok (.agg #[.string (bytes (nm k)), .int .i64 (us k : Int)]) W := fun W => row_at W k hlt
      have hb1 := Lib.hid (hb.out.alloc hb.out.size (.cells #[.string (bytes (nm k)), .int .i64 (us k : Int)] 59))
      by_cases h0 : k = 0
      · subst h0
        have hix0 : ∀ W, (Instr.index 60 (.agg opsCells) (.int .i64 0)).run Tryd.prog W = .ok (.agg #[.string ⟨#[]⟩, .int .i64 0]) W := fun W => hix W
        clear hix
        go_wp2
        go_roundw
        case rel => exact ⟨1, by omega, rfl, rfl, hb1.out, fun j h1 h2 => by omega⟩
        case measure => simp [intOf]
      · have hne := nm_filled' (by omega) hlt
        have hne2 : ¬ (bytes (nm k)).toList = [] := fun e => by rw [e] at hne; cases hne
        have hk0 : ((k : Int) != 0) = true := by simp; omega
        by_cases hs : bytes (nm k) = s
        · subst hs
          go_wp2
          rw [Exit.noGoto_ret]
          go_ret2
          exact ⟨k, _, rfl, .inr ⟨by omega, hlt, rfl, rfl⟩, hb1.out⟩
        · have hq : ((bytes (nm k)).toList == s.toList) = false := by rw [beq_bytes]; exact decide_eq_false hs
          have HS := Lib.hid hs
          clear hs
          go_wp2
          go_roundw
          case rel => exact ⟨k + 1, by omega, rfl, by go_num, hb1.out, fun j h1 h2 => by
            rcases Nat.lt_succ_iff_lt_or_eq.1 h2 with h3 | rfl
            · exact hno.out j h1 h3
            · exact HS.out⟩
          case measure => simp [intOf]; omega
    · go_wp2
      rw [Exit.noGoto_ret]
      go_ret2
      exact ⟨0, _, rfl, .inl ⟨rfl, rfl, fun j h1 h2 => hno.out j h1 (by omega)⟩, hb.out⟩
end Go.Proofs.YtcbbinmecnameaaDoor
