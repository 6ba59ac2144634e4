/-
  Layer 6: the iterator of Walked: the list that it gives.
-/
import Derived.RangeFuncNested
import Derived.RangeFuncBound
import Derived.RangeFuncCalls
import Derived.RangeFuncLeaves
import Derived.RangeFuncBox
import Derived.Shelf.Abstract
import Derived.Shelf.RegionOpen
import Derived.WalkKit
import Derived.OwnWalkIn
import Derived.TacticsInMore
import Derived.LoopNIn
import Derived.LoopIn
import Derived.Test.YtafkjokbidkkhaaOver
import Derived.Test.YtafkjokbidkkhaaMake
namespace Go.Proofs.Ytafkjokbidkkhaa
open Go.RowKit Go.Shelf
attribute [local go_sem] Oper.semAt_some
set_option maxHeartbeats 1000000

abbrev enc (t : Tl) (i : Nat) : Array Value := #[.int .i64 (i : Int), .agg #[.bool (t.g i).th, .int .u32 (t.g i).pg, .int .u32 (t.g i).fr, .bool (t.g i).wr]]
theorem Row4.cells {w : World} {g : Nat} {t : Tl} (h : Row4 w g t) {k : Nat} (hk : k < 4) : w.cell? ⟨g, k * 4, none⟩ = some (.bool (t.g k).th) ∧ w.cell? ⟨g, k * 4 + 1, none⟩ = some (.int .u32 (t.g k).pg) ∧ w.cell? ⟨g, k * 4 + 2, none⟩ = some (.int .u32 (t.g k).fr) ∧ w.cell? ⟨g, k * 4 + 3, none⟩ = some (.bool (t.g k).wr) :=
  ⟨h.ent hk 0 _ rfl, h.ent hk 1 _ rfl, h.ent hk 2 _ rfl, h.ent hk 3 _ rfl⟩

theorem Walked1_nil (B : Nat) (w : World) (hB : Blk w B #[.slice none 0 0] 52) (M : Nat → Prop) (t : Tl) : Gives Try.prog 28 #[.pointer (some ⟨B, 0, none⟩)] (enc t) M ([] : List Nat) w := fun n ll J Jx W hW _ _ _ h0 => by
  refine callsIn_of_wp Try.func28 rfl trivial ?_ rfl
  simp only [Try.ntmps28, List.size_toArray, List.length_cons, List.length_nil, Nat.reduceAdd, Nat.reduceSub, Array.replicate_succ, Array.replicate_zero, List.push_toArray, List.append_toArray, List.nil_append, List.cons_append]
  have c1 := (hB.below hW).cell 0
  simp only [List.getElem?_toArray, List.getElem?_cons_zero] at c1
  have HJ0 := Lib.hid h0
  gi_wp2
  gi_loopw [7] (fun k wr => k = .int .i64 0 ∧ wr = W) (fun _ _ => 1)
  case atStart => exact ⟨rfl, rfl⟩
  case round =>
    obtain ⟨rfl, rfl⟩ := hrel
    gi_wp2
    go_end0
    exact ⟨⟨_, rfl⟩, .inl HJ0.out⟩

theorem Walked1_gives {w : World} {B g c : Nat} {t : Tl} (hB : Blk w B #[.slice (some ⟨g, 0, none⟩) 4 c] 52) (hr : Row4 w g t) (M : Nat → Prop) (hM : ¬ M g) :
    Gives Try.prog 28 #[.pointer (some ⟨B, 0, none⟩)] (enc t) M (wks t 4) w := fun n ll J Jx W hW hJ hJx hY h0 => by
  refine callsIn_of_wp Try.func28 rfl trivial ?_ rfl
  simp only [Try.ntmps28, List.size_toArray, List.length_cons, List.length_nil, Nat.reduceAdd, Nat.reduceSub, Array.replicate_succ, Array.replicate_zero, List.push_toArray, List.append_toArray, List.nil_append, List.cons_append]
  have c1 := (hB.below hW).cell 0
  simp only [List.getElem?_toArray, List.getElem?_cons_zero] at c1
  have HRW := Lib.hid (hr.below hW)
  have HgW := Lib.hid (show g < w.heap.size from hr.lt)
  have HJ := Lib.hid hJ
  gi_wp2
  gi_loopw [7] (fun k wr => ∃ j : Nat, j ≤ 4 ∧ k = .int .i64 j ∧ Hid (J (wks t j) wr) ∧ Hid (Row4 wr g t) ∧ Hid (W.heap.size ≤ wr.heap.size)) (fun k _ => 4 - (intOf k).toNat)
  case atStart => exact ⟨0, by omega, rfl, h0, HRW.out, Nat.le_refl _⟩
  case round =>
    obtain ⟨j, hj, rfl, hJ0, hr0, hz0⟩ := hrel
    clear c1
    by_cases hlt : j < 4
    · obtain ⟨c0, c1, c2, c3⟩ := hr0.out.cells hlt
      have hi : (j : Int) < 4 := by omega
      cases hq : (t.g j).th with
      | true =>
        obtain ⟨r, hr'⟩ := wks_mid hlt hq
        rw [hq] at c0
        have HJ1 := Lib.hid (HJ.out.alloc (.cells #[.bool true, .int .u32 (t.g j).pg, .int .u32 (t.g j).fr, .bool (t.g j).wr] 27) hJ0.out)
        have hYj := fun m => hY m (wks t j) j r (wr.alloc (.cells #[.bool true, .int .u32 (t.g j).pg, .int .u32 (t.g j).fr, .bool (t.g j).wr] 27)) hr' HJ1.out
        simp only [enc, hq] at hYj
        have HL := Lib.hid (wks_yes hq)
        have HR := Lib.hid hr'
        clear hq hr'
        obtain ⟨f0, t0, a0, b0, hy0, hR0⟩ := hYj 0
        have HRa := Lib.hid (fun m' : Nat => (show RoundIn Fence.wide m' Try.prog ll f0 t0 a0 b0 (wr.alloc (.cells #[.bool true, .int .u32 (t.g j).pg, .int .u32 (t.g j).fr, .bool (t.g j).wr] 27)) _ from ⟨hR0.1, fun c cs _ => hR0.2 c cs (room_wide _)⟩))
        clear hR0 hYj
        have HR0 := Lib.hid (hr0.out.below ((Below.refl _ _).alloc (Nat.le_refl _) (.cells #[.bool true, .int .u32 (t.g j).pg, .int .u32 (t.g j).fr, .bool (t.g j).wr] 27)))
        gi_wp2
        refine ⟨fun hd => (by cases hd), (HRa.out _).mono ?_⟩
        rintro e W0 ⟨(⟨rfl, hj0⟩ | ⟨rfl, hx0⟩), hk0⟩
        · have HJJ := Lib.hid hj0
          have HK := Lib.hid hk0
          clear hj0 hk0
          gi_wp2
          refine ⟨⟨j + 1, by omega, by go_num, by rw [HL.out]; exact HJJ.out, HR0.out.keep (HK.out.2 g HR0.out.lt (by rintro (hm | hm); exact hM hm; have := HgW.out; omega)), Nat.le_trans hz0.out (Nat.le_trans (by simp) HK.out.1)⟩, ?_⟩
          simp [intOf]; omega
        · have HXX := Lib.hid hx0
          clear hx0 hk0
          gi_wp2
          refine bodyPost_ret (results_none rfl _ _ _) rfl ?_
          refine ⟨⟨_, rfl⟩, .inr ⟨wks t j ++ [j], r, by rw [HR.out]; simp, HXX.out⟩⟩
      | false =>
        have HL := Lib.hid (wks_no hq)
        rw [hq] at c0
        have HJ1 := Lib.hid (HJ.out.alloc (.cells #[.bool false, .int .u32 (t.g j).pg, .int .u32 (t.g j).fr, .bool (t.g j).wr] 27) hJ0.out)
        have HR0 := Lib.hid (hr0.out.below ((Below.refl _ _).alloc (Nat.le_refl _) (.cells #[.bool false, .int .u32 (t.g j).pg, .int .u32 (t.g j).fr, .bool (t.g j).wr] 27)))
        clear hq
        gi_wp2
        all_goals refine ⟨fun _ h => (by cases h), ?_⟩
        all_goals gi_wp2
        all_goals refine ⟨⟨j + 1, by omega, by go_num, by rw [HL.out]; exact HJ1.out, HR0.out, Nat.le_trans hz0.out (by simp)⟩, ?_⟩
        all_goals simp [intOf]
        all_goals omega
    · gi_wp2
      go_end0
      obtain rfl : j = 4 := by omega
      exact ⟨⟨_, rfl⟩, .inl hJ0.out⟩
end Go.Proofs.Ytafkjokbidkkhaa
