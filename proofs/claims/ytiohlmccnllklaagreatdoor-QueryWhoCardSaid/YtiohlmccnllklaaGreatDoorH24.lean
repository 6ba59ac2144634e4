/-
  Layer 12: the sets of a kind, one behind the other: the iterator of kinds that have few.
-/
import Derived.Test.YtiohlmccnllklaaGreatDoorH23
import Derived.RangeFuncBound
import Derived.RangeFuncBox
import Derived.Shelf.Abstract
import Derived.Shelf.RegionOpen
import Derived.OwnWalkIn
import Derived.TacticsInMore
import Derived.LoopNIn
import Derived.LoopIn
set_option linter.unusedVariables false
set_option linter.unusedSimpArgs false
namespace Go.Proofs.YtiohlmccnllklaaGreatDoor
open Go.RowKit Go.Shelf
attribute [local go_sem] Oper.semAt_some
set_option maxHeartbeats 8000000
set_option maxRecDepth 100000
set_option linter.unusedVariables false
set_option linter.unusedSimpArgs false

theorem boxed {w : World} {B : Nat} {v : Value} {t : TypeId} (h : Blk w B #[v] t) : w.cell? ⟨B, 0, none⟩ = some v ∧ w.frozen? ⟨B, 0, none⟩ = false := ⟨h.cell 0, h.frozen 0⟩
/-- A number and a set. -/
abbrev kEnc (y : Int × Int) : Array Value := #[.int .i64 y.1, .int .u32 y.2]
def fewL (s : Nat → Int) (k j : Nat) : List (Int × Int) := ((List.range j).filter fun (i : Nat) => decide (s (8 * k + i) ≠ 0)).map fun (i : Nat) => ((i : Int), s (8 * k + i))
theorem fewL_no {s : Nat → Int} {k j : Nat} (h : s (8 * k + j) = 0) : fewL s k (j + 1) = fewL s k j := by simp [fewL, List.range_succ, h]
theorem fewL_yes {s : Nat → Int} {k j : Nat} (h : s (8 * k + j) ≠ 0) : fewL s k (j + 1) = fewL s k j ++ [((j : Int), s (8 * k + j))] := by simp [fewL, List.range_succ, h]
theorem fewL_split (s : Nat → Int) (k j : Nat) : ∀ d, ∃ r, fewL s k (j + d) = fewL s k j ++ r
  | 0 => ⟨[], by simp⟩
  | d + 1 => by
    obtain ⟨r, hr⟩ := fewL_split s k j d
    rw [show j + (d + 1) = (j + d) + 1 by omega]
    by_cases h : s (8 * k + (j + d)) = 0
    · exact ⟨r, by rw [fewL_no h, hr]⟩
    · exact ⟨_, by rw [fewL_yes h, hr, List.append_assoc]⟩
theorem fewL_mid {s : Nat → Int} {k j n : Nat} (hj : j < n) (h : s (8 * k + j) ≠ 0) : ∃ r, fewL s k n = fewL s k j ++ ((j : Int), s (8 * k + j)) :: r := by
  obtain ⟨r, hr⟩ := fewL_split s k (j + 1) (n - (j + 1))
  rw [show j + 1 + (n - (j + 1)) = n by omega, fewL_yes h] at hr
  exact ⟨r, by rw [hr]; simp⟩
theorem fewL_kd {ps : List T.Pr} (h : T.Ris ps) {k n : Nat} (hk : T.fewK k = true) (hn : n ≤ 8) (hm : ∀ x ∈ ps, x.1.1 = (k : Int) → 0 ≤ x.1.2 ∧ x.1.2 < n) : fewL (T.sm ps) k n = T.kd (k : Int) ps := by
  refine T.kd_eq h ?_ fun y => ?_
  · unfold fewL
    rw [List.pairwise_map]
    exact (List.Pairwise.filter _ List.pairwise_lt_range).imp fun h => by simpa using h
  · unfold fewL
    rw [List.mem_map]
    constructor
    · rintro ⟨i, hi, rfl⟩
      obtain ⟨h1, h2⟩ := List.mem_filter.1 hi
      have hi8 : i < 8 := by have := List.mem_range.1 h1; omega
      exact ⟨by simpa using h2, (T.sm_at hk hi8).symm⟩
    · rintro ⟨hz, hg⟩
      obtain ⟨x, hx, h1, _⟩ := T.get_ne (l := ps) (p := ((k : Int), y.1)) (by rw [hg]; exact hz)
      have := hm x hx (by rw [h1])
      rw [h1] at this
      simp only at this
      obtain ⟨y1, y2⟩ := y
      obtain ⟨i, rfl⟩ := Int.eq_ofNat_of_zero_le this.1
      have hi : i < n := by have := this.2; simp only at this; omega
      have hat := T.sm_at (ps := ps) hk (show i < 8 by omega)
      refine ⟨i, List.mem_filter.2 ⟨List.mem_range.2 hi, ?_⟩, ?_⟩
      · rw [hat, hg]; simpa using hz
      · rw [hat, hg]
/-- A round of the few. -/
structure FeI (J : List (Int × Int) → World → Prop) (P M D : Nat) (s : Nat → Int) (C : Nat → Nat) (k z j : Nat) (W : World) : Prop where
  j : J (fewL s k j) W
  b : Blk W P (plCells M D s C) 89
  z : z ≤ W.heap.size
theorem few1_gives {w : World} {B P M D k n : Nat} {s : Nat → Int} {C : Nat → Nat} (hk : k < 18) (hn : n ≤ 8) (hB : Blk w B #[.slice (some ⟨P, 2 + 8 * k, none⟩) n 8] 187) (hP : Blk w P (plCells M D s C) 89) (Mm : Nat → Prop) (hM : ¬ Mm P) :
    Gives Tryz.prog 180 #[.pointer (some ⟨B, 0, none⟩)] kEnc Mm (fewL s k n) w := fun n0 ll J Jx W hW hJ hJx hY h0 => by
  refine callsIn_of_wp Tryz.func180 rfl trivial ?_ rfl
  simp only [Tryz.ntmps180, List.size_toArray, List.length_cons, List.length_nil, Nat.reduceAdd, Nat.reduceSub, Array.replicate_succ, Array.replicate_zero, List.push_toArray, List.append_toArray, List.nil_append, List.cons_append]
  obtain ⟨c1, _⟩ := boxed (hB.below hW)
  have HLt := Lib.hid hP.lt
  have HM := Lib.hid hM
  have HI : Hid (FeI J P M D s C k W.heap.size 0 W) := ⟨h0, hP.below hW, Nat.le_refl _⟩
  have HN := Lib.hid (And.intro hk hn)
  have hn8 : (n : Int) ≤ 8 := by omega
  clear hB hP hM h0 hk hn
  gi_wp2
  gi_loopw [7] (fun i wr => ∃ j : Nat, j ≤ n ∧ i = .int .i64 j ∧ Hid (FeI J P M D s C k W.heap.size j wr)) (fun i _ => n - natI i)
  case atStart => exact ⟨0, by omega, rfl, HI.out⟩
  case round =>
    obtain ⟨j, hj, rfl, HJ0⟩ := hrel
    clear c1
    by_cases hlt : j < n
    · have hi : (j : Int) < n := by omega
      have hi0 : (0 : Int) ≤ j := by omega
      have hc := HJ0.out.b.cell (2 + (8 * k + j))
      rw [plCells_sm _ _ _ _ (by have := HN.out.1; have := HN.out.2; omega), ← Nat.add_assoc] at hc
      by_cases hz : s (8 * k + j) = 0
      · have HL := Lib.hid (fewL_no hz)
        rw [hz] at hc
        clear hz
        gi_wp2
        all_goals refine ⟨fun _ h => (by cases h), ?_⟩
        all_goals gi_wp2
        all_goals refine ⟨⟨j + 1, by omega, by go_num, by rw [HL.out]; exact HJ0.out.j, HJ0.out.b, HJ0.out.z⟩, ?_⟩
        all_goals simp [natI]
        all_goals omega
      · have hYj := fun m r (hr : fewL s k n = _) => hY m (fewL s k j) ((j : Int), s (8 * k + j)) r wr hr HJ0.out.j
        obtain ⟨r, hr⟩ := fewL_mid hlt hz
        have hYj := fun m => hYj m r hr
        have HL := Lib.hid (fewL_yes hz)
        have HR := Lib.hid hr
        have hz2 : (s (8 * k + j) != 0) = true := by simpa using hz
        clear hr
        generalize s (8 * k + j) = x at *
        obtain ⟨f0, t0, a0, b0, hy0, hR0⟩ := hYj 0
        have HRa := Lib.hid (fun m' : Nat => (show RoundIn Fence.wide m' Tryz.prog ll f0 t0 a0 b0 wr _ from ⟨hR0.1, fun c cs _ => hR0.2 c cs (room_wide _)⟩))
        clear hR0 hYj
        gi_wp2
        refine ⟨fun hd => (by cases hd), (HRa.out _).mono ?_⟩
        rintro e W0 ⟨(⟨rfl, hj0⟩ | ⟨rfl, hx0⟩), hk0⟩
        · have HJJ : Hid (FeI J P M D s C k W.heap.size (j + 1) W0) := by
            refine ⟨by rw [HL.out]; exact hj0, HJ0.out.b.keep (hk0.2 P HJ0.out.b.lt ?_ (L3.Pls.not HJ0.out.b (by decide))), Nat.le_trans HJ0.out.z hk0.1⟩
            rintro (hm | hm)
            · exact HM.out hm
            · have := HLt.out; omega
          clear hj0 hk0
          gi_wp2
          refine ⟨⟨j + 1, by omega, by go_num, HJJ.out⟩, ?_⟩
          simp [natI]; omega
        · have HXX := Lib.hid hx0
          clear hx0 hk0
          gi_wp2
          refine bodyPost_ret (results_none rfl _ _ _) rfl ?_
          exact ⟨⟨_, rfl⟩, .inr ⟨fewL s k j ++ [((j : Int), x)], r, by rw [HR.out]; simp, HXX.out⟩⟩
    · obtain rfl : j = n := by omega
      have HJ4 := Lib.hid HJ0.out.j
      gi_wp2
      go_end0
      exact ⟨⟨_, rfl⟩, .inl HJ4.out⟩
end Go.Proofs.YtiohlmccnllklaaGreatDoor
