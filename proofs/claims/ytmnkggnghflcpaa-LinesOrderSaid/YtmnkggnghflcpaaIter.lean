/-
  Layer 7: which line wants something: askers, the iterator of wanting: the list that it gives.
-/
import Derived.RangeFuncNested
import Derived.RangeFuncBound
import Derived.RangeFuncCalls
import Derived.RangeFuncLeaves
import Derived.RangeFuncBox
import Derived.Shelf.Abstract
import Derived.Shelf.RegionOpen
import Derived.WalkKit
import Derived.OwnWalkIn
import Derived.TacticsInMore
import Derived.LoopNIn
import Derived.LoopIn
import Derived.Test.YtmnkggnghflcpaaOver
import Derived.Test.YtmnkggnghflcpaaLeaf
namespace Go.Proofs.Ytmnkggnghflcpaa
open Go.RowKit Go.Shelf
attribute [local go_sem] Oper.semAt_some
set_option maxHeartbeats 1000000
set_option linter.unusedVariables false

abbrev enc (i : Nat) : Array Value := #[.int .i64 (i : Int)]
/-- The list of what is asked. -/
def fnsC : Array Value := #[.func (.func 51) #[] #[], .func (.func 52) #[] #[], .func (.func 53) #[] #[], .func (.func 54) #[] #[]]
theorem askers_any (w : World) : Calls Try.prog 50 #[] w fun e w' => e = .returned (.slice (some ⟨w.heap.size, 0, none⟩) 4 4) ∧ w' = w.alloc (.cells fnsC 83) := by
  go_enter Try.func50, Try.ntmps50
  go_wp2
  go_ret
  exact ⟨rfl, rfl⟩
theorem ask1_any {w : World} {S : Nat} {l : Ls} {F : Nat → Prop} (h : At w S l F) (hal : W32 l.al) (now : Int) : Calls Try.prog 51 #[.pointer (some ⟨S, 0, none⟩), .int .i64 now] w fun e w' => e = .returned (.bool (l.w now 0)) ∧ w = w' := by
  obtain ⟨wv, tv, rfl, h⟩ := h
  obtain ⟨_, c1, _⟩ := h.cells
  have HE := Lib.hid (show l.w now 0 = (decide (0 < l.al) && decide (l.al ≤ now)) from rfl)
  unfold W32 at hal
  clear h
  by_cases h0 : 0 < l.al
  · go_enter Try.func51, Try.ntmps51
    go_wp2
    go_ret
    refine ⟨?_, rfl⟩
    rw [HE.out]
    simp [h0]
  · go_enter Try.func51, Try.ntmps51
    go_wp2
    go_ret
    refine ⟨?_, rfl⟩
    rw [HE.out]
    simp <;> omega
theorem ask2_any {w : World} {S : Nat} {l : Ls} {F : Nat → Prop} (h : At w S l F) (now : Int) : Calls Try.prog 52 #[.pointer (some ⟨S, 0, none⟩), .int .i64 now] w fun e w' => e = .returned (.bool (l.w now 1)) ∧ w = w' := by
  obtain ⟨wv, tv, rfl, h⟩ := h
  obtain ⟨_, _, _, _, _, _, _, c7, _⟩ := h.cells
  obtain ⟨ao, c, rfl, hc⟩ := h.q.shape
  have HE := Lib.hid (show l.w now 1 = decide (l.tk < l.ps.length) from rfl)
  clear h
  go_enter Try.func52, Try.ntmps52
  go_wp2
  go_ret
  refine ⟨?_, rfl⟩
  rw [HE.out]
  have := l.wt_pos
  have e : decide (0 < l.wt.length) = decide (l.tk < l.ps.length) := by rw [decide_eq_decide]; omega
  rw [← e]
  rfl
theorem ask3_any {w : World} {S : Nat} {l : Ls} {F : Nat → Prop} (h : At w S l F) (now : Int) : Calls Try.prog 53 #[.pointer (some ⟨S, 0, none⟩), .int .i64 now] w fun e w' => e = .returned (.bool (l.w now 2)) ∧ w = w' := by
  obtain ⟨wv, tv, rfl, h⟩ := h
  obtain ⟨_, _, _, _, _, c5, _⟩ := h.cells
  clear h
  go_enter Try.func53, Try.ntmps53
  go_wp2
  go_ret
  exact ⟨rfl, rfl⟩
theorem ask4_any {w : World} {S : Nat} {l : Ls} {F : Nat → Prop} (h : At w S l F) (now : Int) : Calls Try.prog 54 #[.pointer (some ⟨S, 0, none⟩), .int .i64 now] w fun e w' => e = .returned (.bool (l.w now 3)) ∧ w = w' := by
  obtain ⟨wv, tv, rfl, h⟩ := h
  obtain ⟨_, _, _, _, _, _, c6, _⟩ := h.cells
  clear h
  go_enter Try.func54, Try.ntmps54
  go_wp2
  go_ret
  exact ⟨rfl, rfl⟩
theorem lt4 {i : Nat} (h : i < 4) : i = 0 ∨ i = 1 ∨ i = 2 ∨ i = 3 := by omega
theorem asks {S : Nat} {l : Ls} {F : Nat → Prop} (hal : W32 l.al) (now : Int) {j : Nat} (hj : j < 4) : ∃ f : Nat, fnsC[j]? = some (.func (.func f) #[] #[]) ∧ (∀ (args : Array Value) (W : World), (callFunc f args).run Try.prog W = .ok (.enter f args) W) ∧
    ∀ W, At W S l F → Calls Try.prog f #[.pointer (some ⟨S, 0, none⟩), .int .i64 now] W fun e w' => e = .returned (.bool (l.w now j)) ∧ W = w' := by
  rcases lt4 hj with rfl | rfl | rfl | rfl
  · exact ⟨51, rfl, enters_of Try.func51 (by kernel_rfl) rfl, fun W h => ask1_any h hal now⟩
  · exact ⟨52, rfl, enters_of Try.func52 (by kernel_rfl) rfl, fun W h => ask2_any h now⟩
  · exact ⟨53, rfl, enters_of Try.func53 (by kernel_rfl) rfl, fun W h => ask3_any h now⟩
  · exact ⟨54, rfl, enters_of Try.func54 (by kernel_rfl) rfl, fun W h => ask4_any h now⟩

/-! ### the iterator -/
theorem boxed_cell {w : World} {B : Nat} {v : Value} {t : TypeId} (h : w.heap[B]? = some (.cells #[v] t (0, 0))) : w.cell? ⟨B, 0, none⟩ = some v ∧ w.frozen? ⟨B, 0, none⟩ = false := by simp [World.cell?, World.frozen?, h]
theorem wanting1_nil (B C : Nat) (w : World) (hB : Blk w B #[.pointer none] 25) (M : Nat → Prop) : Gives Try.prog 49 #[.pointer (some ⟨B, 0, none⟩), .pointer (some ⟨C, 0, none⟩)] enc M ([] : List Nat) w := fun n ll J Jx W hW _ _ _ h0 => by
  refine callsIn_of_wp Try.func49 rfl trivial ?_ rfl
  simp only [Try.ntmps49, List.size_toArray, List.length_cons, List.length_nil, Nat.reduceAdd, Nat.reduceSub, Array.replicate_succ, Array.replicate_zero, List.push_toArray, List.append_toArray, List.nil_append, List.cons_append]
  obtain ⟨c1, _⟩ := boxed_cell (hB.below hW)
  gi_wp2_with (refine ⟨trivial, fun hd => (by cases hd), ?_⟩; gi_at_call 45; refine (callsIn_wide.2 (none_nil _)).mono ?_; rintro e w1 ⟨rfl, rfl⟩)
  refine bodyPost_ret (results_none rfl _ _ _) rfl ?_
  exact ⟨⟨_, rfl⟩, .inl h0⟩
structure WtI (J : List Nat → World → Prop) (l : Ls) (now : Int) (S : Nat) (F : Nat → Prop) (B C g j : Nat) (z : Nat) (W : World) : Prop where
  j : J (wfrom (l.w now) j) W
  b : Blk W B #[.pointer (some ⟨S, 0, none⟩)] 25
  c : Blk W C #[.int .i64 now] 2
  g : Blk W g fnsC 83
  at_ : At W S l F
  z : z ≤ W.heap.size
theorem wanting1_gives {w : World} {S B C : Nat} {l : Ls} {now : Int} {F : Nat → Prop} (h : At w S l F) (hal : W32 l.al) (hB : Blk w B #[.pointer (some ⟨S, 0, none⟩)] 25) (hC : Blk w C #[.int .i64 now] 2) (M : Nat → Prop) (hMw : ∀ k, M k → k < w.heap.size) (hMB : ¬ M B) (hMC : ¬ M C) (hM : ∀ k, F k → ¬ M k) :
    Gives Try.prog 49 #[.pointer (some ⟨B, 0, none⟩), .pointer (some ⟨C, 0, none⟩)] enc M (l.wl now) w := fun n ll J Jx W hW hJ hJx hY h0 => by
  refine callsIn_of_wp Try.func49 rfl trivial ?_ rfl
  simp only [Try.ntmps49, List.size_toArray, List.length_cons, List.length_nil, Nat.reduceAdd, Nat.reduceSub, Array.replicate_succ, Array.replicate_zero, List.push_toArray, List.append_toArray, List.nil_append, List.cons_append]
  have hAW := h.below hW
  have hBW := hB.below hW
  have hCW := hC.below hW
  obtain ⟨c1, _⟩ := boxed_cell hBW
  have h00 : W.cell? ⟨S, 0, none⟩ = some (.bool true) := by
    obtain ⟨wv, tv, _, hi⟩ := hAW
    exact hi.cells.1
  have HI : Hid (WtI J l now S F B C W.heap.size 0 W.heap.size (W.alloc (.cells fnsC 83))) :=
    ⟨hJ.alloc _ h0, hBW.alloc _, hCW.alloc _, blk_new _ _ _, hAW.keep fun k hk => Below.heap_alloc _ _ _ (hAW.lt k hk), by simp⟩
  have HS := Lib.hid hW.size
  have HLt := Lib.hid (show ∀ k, (k = B ∨ k = C ∨ F k) → k < w.heap.size from fun k hk => by
    rcases hk with rfl | rfl | hk
    · exact hB.lt
    · exact hC.lt
    · exact h.lt k hk)
  have HNM := Lib.hid (show ∀ k, (k = B ∨ k = C ∨ F k) → ¬ M k from fun k hk => by
    rcases hk with rfl | rfl | hk
    · exact hMB
    · exact hMC
    · exact hM k hk)
  have HM := Lib.hid hMw
  clear h hB hC hAW hBW hCW h0
  gi_wp2_with (first | (refine ⟨trivial, fun hd => (by cases hd), ?_⟩; gi_at_call 45; refine (callsIn_wide.2 (none_at h00)).mono ?_; rintro e w1 ⟨rfl, rfl⟩) | (refine ⟨trivial, fun hd => (by cases hd), ?_⟩; gi_at_call 50; refine (callsIn_wide.2 (askers_any _)).mono ?_; rintro e w1 ⟨rfl, rfl⟩))
  gi_loopw [10] (fun k wr => ∃ j : Nat, j ≤ 4 ∧ k = .int .i64 j ∧ Hid (WtI J l now S F B C W.heap.size j W.heap.size wr)) (fun k _ => 4 - (intOf k).toNat)
  case atStart => exact ⟨0, by omega, rfl, HI.out⟩
  case round =>
    obtain ⟨j, hj, rfl, HJ0⟩ := hrel
    clear c1 h00
    by_cases hlt : j < 4
    · obtain ⟨f, hf, hE, hC⟩ := asks (S := S) (F := F) hal now hlt
      have HC := Lib.hid (hC wr HJ0.out.at_)
      obtain ⟨q1, _⟩ := boxed_cell HJ0.out.b
      obtain ⟨q2, _⟩ := boxed_cell HJ0.out.c
      have q3 : wr.cell? ⟨W.heap.size, j, none⟩ = some (.func (.func f) #[] #[]) := by rw [HJ0.out.g.cell]; exact hf
      have hi : (j : Int) < 4 := by omega
      clear hf hC
      cases hq : l.w now j with
      | true =>
        obtain ⟨r, hr'⟩ := wfrom_mid (p := l.w now) hlt hq
        have hYj := fun m => hY m (wfrom (l.w now) j) j r wr hr' HJ0.out.j
        rw [hq] at HC
        have HL := Lib.hid (wfrom_yes (p := l.w now) hq)
        have HR := Lib.hid hr'
        clear hq hr'
        obtain ⟨f0, t0, a0, b0, hy0, hR0⟩ := hYj 0
        have HRa := Lib.hid (fun m' : Nat => (show RoundIn Fence.wide m' Try.prog ll f0 t0 a0 b0 wr _ from ⟨hR0.1, fun c cs _ => hR0.2 c cs (room_wide _)⟩))
        clear hR0 hYj
        gi_wp2_with (refine ⟨trivial, fun hd => (by cases hd), ?_⟩; refine (callsIn_wide.2 HC.out).mono ?_; rintro e w1 ⟨rfl, rfl⟩)
        refine ⟨fun hd => (by cases hd), (HRa.out _).mono ?_⟩
        rintro e W0 ⟨(⟨rfl, hj0⟩ | ⟨rfl, hx0⟩), hk0⟩
        · have HJJ : Hid (WtI J l now S F B C W.heap.size (j + 1) W.heap.size W0) := by
            have hsz := HS.out
            have hzz := HJ0.out.z
            have nm : ∀ k, (k = B ∨ k = C ∨ F k) → W0.heap[k]? = wr.heap[k]? := fun k hk => hk0.2 k (by have := HLt.out k hk; omega) (by
              rintro (hm | hm)
              · exact HNM.out k hk hm
              · have := HLt.out k hk; omega)
            refine ⟨by rw [HL.out]; exact hj0, HJ0.out.b.keep (nm B (.inl rfl)), HJ0.out.c.keep (nm C (.inr (.inl rfl))), HJ0.out.g.keep (hk0.2 _ HJ0.out.g.lt ?_), HJ0.out.at_.keep fun k hk => nm k (.inr (.inr hk)), Nat.le_trans hzz hk0.1⟩
            rintro (hm | hm)
            · have := HM.out _ hm; omega
            · omega
          clear hj0 hk0
          gi_wp2
          refine ⟨⟨j + 1, by omega, by go_num, HJJ.out⟩, ?_⟩
          simp [intOf]; omega
        · have HXX := Lib.hid hx0
          clear hx0 hk0
          gi_wp2
          refine bodyPost_ret (results_none rfl _ _ _) rfl ?_
          refine ⟨⟨_, rfl⟩, .inr ⟨wfrom (l.w now) j ++ [j], r, by rw [show l.wl now = _ from HR.out]; simp, HXX.out⟩⟩
      | false =>
        rw [hq] at HC
        have HL := Lib.hid (wfrom_no (p := l.w now) hq)
        have HJJ : Hid (WtI J l now S F B C W.heap.size (j + 1) W.heap.size wr) := ⟨by rw [HL.out]; exact HJ0.out.j, HJ0.out.b, HJ0.out.c, HJ0.out.g, HJ0.out.at_, HJ0.out.z⟩
        clear hq
        gi_wp2_with (refine ⟨trivial, fun hd => (by cases hd), ?_⟩; refine (callsIn_wide.2 HC.out).mono ?_; rintro e w1 ⟨rfl, rfl⟩)
        all_goals refine ⟨fun _ h => (by cases h), ?_⟩
        all_goals gi_wp2
        all_goals refine ⟨⟨j + 1, by omega, by go_num, HJJ.out⟩, ?_⟩
        all_goals simp [intOf]
        all_goals omega
    · obtain rfl : j = 4 := by omega
      have HJ4 := Lib.hid HJ0.out.j
      gi_wp2
      go_end0
      exact ⟨⟨_, rfl⟩, .inl HJ4.out⟩
/-- The iterator's value over the boxes B, C. -/
abbrev wantV (B C : Nat) : Value := .func (.func 49) #[] #[.pointer (some ⟨B, 0, none⟩), .pointer (some ⟨C, 0, none⟩)]
theorem wanting_any (q : Option Addr) (now : Int) (w : World) : Calls Try.prog 42 #[.pointer q, .int .i64 now] w fun e w' => e = .returned (wantV w.heap.size (w.heap.size + 1)) ∧ w' = (w.alloc (.cells #[.pointer q] 25)).alloc (.cells #[.int .i64 now] 2) := by
  have hmf : ∀ (fn : Fn) (first cap : Array Value) (w : World), (Instr.makeFunc fn first cap).run Try.prog w = .ok (.func fn first cap) w := fun _ _ _ _ => rfl
  go_enter Try.func42, Try.ntmps42
  go_wp2
  go_ret
  exact ⟨rfl, rfl⟩
end Go.Proofs.Ytmnkggnghflcpaa
