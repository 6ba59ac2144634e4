/-
  Layer 2: eachLabel of package labels, the iterator of a set's labels; Labels, which collects them.
-/
import Derived.RangeFuncNested
import Derived.RangeFuncBound
import Derived.RangeFuncCalls
import Derived.RangeFuncLeaves
import Derived.RangeFuncBox
import Derived.Shelf.Abstract
import Derived.Shelf.RegionOpen
import Derived.WalkKit
import Derived.OwnWalkIn
import Derived.TacticsInMore
import Derived.LoopNIn
import Derived.LoopIn
import Derived.Maps.AppendAt
import Derived.Test.YtafnclkkncokpaaDoorRows
import Derived.Test.YtafnclkkncokpaaDoorMath
import Derived.Test.YtafnclkkncokpaaDoorTab
import Derived.Lib.Hide
namespace Go.Proofs.YtafnclkkncokpaaDoor
open Go.RowKit Go.Shelf
attribute [local go_sem] Oper.semAt_some
set_option maxHeartbeats 1000000

/-! ### the labels of a set -/
/-- Those below k, rising. -/
def labN (x : Int) : Nat → List (Fin 16)
  | 0 => []
  | k + 1 => if h : k < 16 then (if bitI x k = true then labN x k ++ [⟨k, h⟩] else labN x k) else labN x k
theorem labN_yes {x : Int} {k : Nat} (h : k < 16) (hb : bitI x k = true) : labN x (k + 1) = labN x k ++ [⟨k, h⟩] := by simp [labN, h, hb]
theorem labN_no {x : Int} {k : Nat} (hb : bitI x k = false) : labN x (k + 1) = labN x k := by simp [labN, hb]
theorem labN_len (x : Int) : ∀ k, (labN x k).length ≤ k
  | 0 => by simp [labN]
  | k + 1 => by
    have := labN_len x k
    unfold labN
    split
    · split
      · simp; omega
      · omega
    · omega

/-- The bit that the walk asks. -/
theorem and_one {y : Int} (h : W32 y) : bits .and .u32 y 1 = y % 2 := by
  rw [u32_and y 1 h.1 h.2 (by omega) (by omega)]
  have : (1 : Int).toNat = 1 := rfl
  rw [this, Nat.and_one_is_mod]
  have := h.1
  omega
theorem half_w32 {a : Int} (h : W32 a) (k : Nat) : W32 (a / 2 ^ k) := by
  unfold W32 at *
  have hp : (0 : Int) < 2 ^ k := Int.pow_pos (by omega)
  exact ⟨Int.ediv_nonneg h.1 (Int.le_of_lt hp), Int.lt_of_le_of_lt (Int.ediv_le_self _ h.1) h.2⟩
theorem ask_yes {x : Int} (h : W32 x) {k : Nat} (hb : bitI x k = true) : bits .and .u32 (x / 2 ^ k) 1 = 1 := by
  rw [and_one (half_w32 h k)]
  have := bitI_div h.1 k
  rw [hb] at this
  simpa using this
theorem ask_no {x : Int} (h : W32 x) {k : Nat} (hb : bitI x k = false) : bits .and .u32 (x / 2 ^ k) 1 = 0 := by
  rw [and_one (half_w32 h k)]
  have := bitI_div h.1 k
  rw [hb] at this
  simp at this
  omega

abbrev lEnc (i : Fin 16) : Array Value := #[.int .i64 (i.val : Int)]
def lKeep (B : Nat) (W W' : World) : Prop := W'.heap[B]? = W.heap[B]?

theorem each_stops (n : Nat) (hn : 1 ≤ n) (B : Nat) (x : Int) (hx : W32 x) (w : World) (hB : w.heap[B]? = some (.cells #[.int .u32 x] 35)) :
    SeqStopsK Fence.wide n Tryd.prog 46 #[.pointer (some ⟨B, 0, none⟩)] lEnc (lKeep B) (fun xs => xs = labN x 16) (fun _ => True) 16 w := fun l J Jx W hW hJ hJx hY h0 => by
  refine callsIn_of_wp Tryd.func46 rfl trivial ?_ rfl
  simp only [Tryd.ntmps46, List.size_toArray, List.length_cons, List.length_nil, Nat.reduceAdd, Nat.reduceSub, Array.replicate_succ, Array.replicate_zero, List.push_toArray, List.append_toArray, List.nil_append, List.cons_append]
  have hBl : B < w.heap.size := (Array.getElem?_eq_some_iff.1 hB).1
  have hB0 : W.heap[B]? = some (.cells #[.int .u32 x] 35) := (hW.block B hBl).trans hB
  gi_wp2
  gi_loopw [4] (fun k wr => ∃ j : Nat, j ≤ 16 ∧ k = .int .i64 j ∧ Hid (J (labN x j) wr) ∧ Hid (wr.heap[B]? = some (.cells #[.int .u32 x] 35))) (fun k _ => 16 - (intOf k).toNat)
  case atStart => exact ⟨0, by omega, rfl, h0, hB0⟩
  case round =>
    obtain ⟨j, hj, rfl, hJ0, hb0⟩ := hrel
    by_cases hlt : j < 16
    · have hc : wr.cell? ⟨B, 0, none⟩ = some (.int .u32 x) := by have := hb0.out; simp [World.cell?, this]
      cases hb : bitI x j with
      | true =>
        have hask := ask_yes hx hb
        obtain ⟨f0, t0, a0, b0, hy0, hR0⟩ := hY (labN x j) ⟨j, hlt⟩ wr hJ0.out (by have := labN_len x j; omega)
        have HL := Lib.hid (labN_yes hlt hb)
        clear hb
        gi_wp2
        refine hR0.mono ?_
        rintro e W0 (⟨rfl, hj0, hk0⟩ | ⟨rfl, hx0⟩)
        · gi_wp2
          refine ⟨⟨j + 1, by omega, by go_num, by rw [HL.out]; exact hj0, hk0.trans hb0.out⟩, ?_⟩
          simp [intOf]; omega
        · gi_wp2
          refine bodyPost_ret (results_none rfl _ _ _) rfl ?_
          exact ⟨⟨_, rfl⟩, .inr ⟨_, trivial, hx0⟩⟩
      | false =>
        have hask := ask_no hx hb
        have HL := Lib.hid (labN_no hb)
        clear hb
        gi_wp2
        all_goals refine ⟨fun _ h => (by cases h), ?_⟩
        all_goals gi_wp2
        all_goals refine ⟨⟨j + 1, by omega, by go_num, by rw [HL.out]; exact hJ0.out, hb0.out⟩, ?_⟩
        all_goals simp [intOf]
        all_goals omega
    · gi_wp2
      go_end0
      obtain rfl : j = 16 := by omega
      exact ⟨⟨_, rfl⟩, .inl ⟨_, rfl, hJ0.out⟩⟩
end Go.Proofs.YtafnclkkncokpaaDoor
