/-
  Layer 3: the iterator of the private pages of package shadow: the list that it gives.
-/
import Derived.RangeFuncNested
import Derived.RangeFuncBound
import Derived.RangeFuncCalls
import Derived.RangeFuncLeaves
import Derived.RangeFuncBox
import Derived.Shelf.Abstract
import Derived.Shelf.RegionOpen
import Derived.WalkKit
import Derived.OwnWalkIn
import Derived.TacticsInMore
import Derived.LoopNIn
import Derived.LoopIn
import Derived.Test.YtepmndadbikijaaOver
import Derived.Test.YtepmndadbikijaaLeaf
import Derived.Test.YtepmndadbikijaaUnion
namespace Go.Proofs.Ytepmndadbikijaa
open Go.RowKit Go.Shelf
attribute [local go_sem] Oper.semAt_some
set_option maxHeartbeats 1000000

abbrev pEnc (G : Nat → Nat) (p : Nat) : Array Value := #[.int .i64 (p : Int), .pointer (some ⟨G p, 0, none⟩)]

theorem privs_yes {l : List Int} {k : Nat} (h : priv l k = true) : privs l (k + 1) = privs l k ++ [k] := by rw [privs_succ, if_pos h]
theorem privs_no {l : List Int} {k : Nat} (h : priv l k = false) : privs l (k + 1) = privs l k := by rw [privs_succ, h]; simp
theorem privs_split (l : List Int) (k : Nat) : ∀ d, ∃ r, privs l (k + d) = privs l k ++ r
  | 0 => ⟨[], by simp⟩
  | d + 1 => by
    obtain ⟨r, hr⟩ := privs_split l k d
    rw [show k + (d + 1) = (k + d) + 1 by omega, privs_succ, hr]
    exact ⟨_, by rw [List.append_assoc]⟩
theorem privs_mid {l : List Int} {k P : Nat} (hk : k < P) (hp : priv l k = true) : ∃ r, privs l P = privs l k ++ k :: r := by
  obtain ⟨r, hr⟩ := privs_split l (k + 1) (P - (k + 1))
  rw [show k + 1 + (P - (k + 1)) = P by omega, privs_yes hp] at hr
  exact ⟨r, by rw [hr]; simp⟩
theorem privs_part {l : List Int} {k P : Nat} (hk : k ≤ P) : ∃ r, privs l P = privs l k ++ r := by
  obtain ⟨r, hr⟩ := privs_split l k (P - k)
  rw [show k + (P - k) = P by omega] at hr
  exact ⟨r, hr⟩

theorem eachP1_nil (B : Nat) (w : World) (hB : w.heap[B]? = some (.cells #[.pointer none] 22 (0, 0))) (M : Nat → Prop) (G : Nat → Nat) : Gives Try.prog 47 #[.pointer (some ⟨B, 0, none⟩)] (pEnc G) M ([] : List Nat) w := fun n ll J Jx W hW _ _ _ h0 => by
  refine callsIn_of_wp Try.func47 rfl trivial ?_ rfl
  simp only [Try.ntmps47, List.size_toArray, List.length_cons, List.length_nil, Nat.reduceAdd, Nat.reduceSub, Array.replicate_succ, Array.replicate_zero, List.push_toArray, List.append_toArray, List.nil_append, List.cons_append]
  obtain ⟨c1, _⟩ := boxed_cell ((hW.block B (Array.getElem?_eq_some_iff.1 hB).1).trans hB)
  gi_wp2_with (refine ⟨trivial, fun hd => (by cases hd), ?_⟩; gi_at_call 41; refine (callsIn_wide.2 (none_nil _)).mono ?_; rintro e w1 ⟨rfl, rfl⟩)
  refine bodyPost_ret (results_none rfl _ _ _) rfl ?_
  exact ⟨⟨_, rfl⟩, .inl h0⟩

theorem eachP1_gives {w : World} {S mb P : Nat} {l : List Int} {G : Nat → Nat} {D : DataW Unit} (h : ShIs w S mb P l G D) (B : Nat) (hB : w.heap[B]? = some (.cells #[.pointer (some ⟨S, 0, none⟩)] 22 (0, 0))) (M : Nat → Prop) (hMB : ¬ M B) (hM : ∀ k, shB S mb l G k → ¬ M k) :
    Gives Try.prog 47 #[.pointer (some ⟨B, 0, none⟩)] (pEnc G) M (privs l P) w := fun n ll J Jx W hW hJ hJx hY h0 => by
  refine callsIn_of_wp Try.func47 rfl trivial ?_ rfl
  simp only [Try.ntmps47, List.size_toArray, List.length_cons, List.length_nil, Nat.reduceAdd, Nat.reduceSub, Array.replicate_succ, Array.replicate_zero, List.push_toArray, List.append_toArray, List.nil_append, List.cons_append]
  have hBl : B < w.heap.size := (Array.getElem?_eq_some_iff.1 hB).1
  have hBW : W.heap[B]? = some (.cells #[.pointer (some ⟨S, 0, none⟩)] 22 (0, 0)) := (hW.block B hBl).trans hB
  have hSW : ShIs W S mb P l G D := h.kept' fun k hk => hW.block k (h.lt k hk)
  obtain ⟨c1, _⟩ := boxed_cell hBW
  obtain ⟨c2, c3, _⟩ := hSW.cells
  have hlo := h.bytes.lo
  have hhi := h.bytes.hi
  have HLt := Lib.hid h.lt
  gi_wp2_with (refine ⟨trivial, fun hd => (by cases hd), ?_⟩; gi_at_call 41; refine (callsIn_wide.2 (none_some S P _ c2 hlo)).mono ?_; rintro e w1 ⟨rfl, rfl⟩)
  gi_loopw [12] (fun k wr => ∃ j : Nat, j ≤ P ∧ k = .int .i64 j ∧ Hid (J (privs l j) wr) ∧ Hid (wr.heap[B]? = some (.cells #[.pointer (some ⟨S, 0, none⟩)] 22 (0, 0))) ∧ Hid (ShIs wr S mb P l G D)) (fun k _ => P - (intOf k).toNat)
  case atStart => exact ⟨0, by omega, rfl, h0, hBW, hSW⟩
  case round =>
    obtain ⟨j, hj, rfl, hJ0, hb0, hs0⟩ := hrel
    clear c1 c2 c3
    by_cases hlt : j < P
    · obtain ⟨c1, _⟩ := boxed_cell hb0.out
      obtain ⟨c2, c3, _⟩ := hs0.out.cells
      cases hq : priv l j with
      | true =>
        have hlk := (hs0.out.look_yes hq).1
        obtain ⟨r, hr⟩ := privs_mid hlt hq
        have hYj := fun m => hY m (privs l j) j r wr hr hJ0.out
        have HL := Lib.hid (privs_yes hq)
        have HR := Lib.hid hr
        clear hq hr
        obtain ⟨f0, t0, a0, b0, hy0, hR0⟩ := hYj 0
        have HRa := Lib.hid (fun m' : Nat => (show RoundIn Fence.wide m' Try.prog ll f0 t0 a0 b0 wr _ from ⟨hR0.1, fun c cs _ => hR0.2 c cs (room_wide _)⟩))
        clear hR0 hYj
        gi_wp2
        refine ⟨fun hd => (by cases hd), (HRa.out _).mono ?_⟩
        rintro e W0 ⟨(⟨rfl, hj0⟩ | ⟨rfl, hx0⟩), hk0⟩
        · gi_wp2
          refine ⟨⟨j + 1, by omega, by go_num, by rw [HL.out]; exact hj0, (hk0.2 B (Array.getElem?_eq_some_iff.1 hb0.out).1 (by rintro (hm | hm); exact hMB hm; omega)).trans hb0.out, hs0.out.kept' fun k hk => hk0.2 k (hs0.out.lt k hk) (by rintro (hm | hm); exact hM k hk hm; have := HLt.out k hk; omega)⟩, ?_⟩
          simp [intOf]; omega
        · gi_wp2
          refine bodyPost_ret (results_none rfl _ _ _) rfl ?_
          refine ⟨⟨_, rfl⟩, .inr ⟨privs l j ++ [j], r, by rw [HR.out]; simp, hx0⟩⟩
      | false =>
        have hlk := (hs0.out.look_no (k := (j : Int)) (wf_i64 (by omega) (by omega)) (by simp [hq])).1
        have HL := Lib.hid (privs_no hq)
        clear hq
        gi_wp2
        all_goals refine ⟨fun _ h => (by cases h), ?_⟩
        all_goals gi_wp2
        all_goals refine ⟨⟨j + 1, by omega, by go_num, by rw [HL.out]; exact hJ0.out, hb0.out, hs0.out⟩, ?_⟩
        all_goals simp [intOf]
        all_goals omega
    · gi_wp2
      go_end0
      obtain rfl : j = P := by omega
      exact ⟨⟨_, rfl⟩, .inl hJ0.out⟩
/-- The iterator's value over the box B. -/
abbrev eachV (B : Nat) : Value := .func (.func 47) #[] #[.pointer (some ⟨B, 0, none⟩)]
theorem eachP_any (q : Option Addr) (w : World) : Calls Try.prog 38 #[.pointer q] w fun e w' => e = .returned (eachV w.heap.size) ∧ w' = w.alloc (.cells #[.pointer q] 22) := by
  have hmf : ∀ (fn : Fn) (first cap : Array Value) (w : World), (Instr.makeFunc fn first cap).run Try.prog w = .ok (.func fn first cap) w := fun _ _ _ _ => rfl
  go_enter Try.func38, Try.ntmps38
  go_wp2
  go_ret
  exact ⟨rfl, rfl⟩
end Go.Proofs.Ytepmndadbikijaa
