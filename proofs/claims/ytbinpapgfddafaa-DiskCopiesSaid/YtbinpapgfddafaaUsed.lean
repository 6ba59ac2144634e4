/-
  Layer 8: Used of package disk: the sectors' numbers in order, and the iterator over them: walks.
-/
import Derived.Test.YtbinpapgfddafaaShelf
import Derived.Test.YtbinpapgfddafaaLeaf
import Derived.Test.YtbinpapgfddafaaOver
import Derived.Shelf.SlIterI.Nil
import Derived.Shelf.SlIterI.Sorted
import Derived.Shelf.SortM.Plain
import Derived.Shelf.SortM.SortNone
import Derived.RangeFuncNested
import Derived.RangeFuncBound
import Derived.RangeFuncCalls
import Derived.RangeFuncLeaves
import Derived.RangeFuncBox
import Derived.Shelf.Abstract
import Derived.Shelf.RegionOpen
import Derived.OwnWalkIn
import Derived.TacticsInMore
import Derived.LoopNIn
import Derived.LoopIn
namespace Go.Proofs.Ytbinpapgfddafaa
open Go.RowKit Go.Shelf
attribute [local go_sem] Oper.semAt_some
set_option maxHeartbeats 1000000
set_option linter.unusedVariables false
set_option linter.unusedSimpArgs false

theorem sort_uses {ss : List Int} {b : List Int} {P : Nat} (h : (nat2int (uses b P)).Perm ss) : ss.mergeSort (fun x y => decide (x ≤ y)) = nat2int (uses b P) := by
  rw [← mergeSort_of_perm_i h]
  exact List.mergeSort_of_pairwise ((uses_sorted b P).imp (fun h => by simp; omega))
theorem nums_of_row {w : World} {base : Nat} {v : Value} {xs : List Int} (h : w.ownsRow base 3 1 v xs.length (xs.map (Value.int .i64))) (hm : xs.length ≤ maxLen) (hw : ∀ x ∈ xs, (Lit.int .i64 x).wf = true) : NumsIn .i64 w v xs := by
  rcases h.2 with ⟨rfl, hz⟩ | ⟨g, cap, cur, rfl, hb, hgg, r1, r2, r3, r4⟩
  · exact .inl ⟨rfl, List.eq_nil_of_length_eq_zero hz⟩
  · refine .inr ⟨_, cap, rfl, r1, hm, fun i x hi => ?_, hw⟩
    have hil : i < xs.length := (List.getElem?_eq_some_iff.1 hi).1
    rw [add_lit]
    simp only [World.cell?, hgg, Nat.zero_add]
    have h5 : (xs.map (Value.int .i64))[i]? = some (.int .i64 x) := by rw [List.getElem?_map, hi]; rfl
    rw [← r4, Nat.mul_one, List.getElem?_take, if_pos hil] at h5
    simpa using h5
theorem wf_uses (b : List Int) {P : Nat} (hP : P ≤ 32) : ∀ x ∈ nat2int (uses b P), (Lit.int .i64 x).wf = true := fun x hx => by
  obtain ⟨h0, h1⟩ := mem_nat2int.1 hx
  have := (mem_uses.1 h1).1
  exact wf_i64 (by omega) (by omega)
/-- slices.Sort's two contracts. -/
theorem sortsA (m : Nat) : AnyZI.SortsIn Try.prog Try.sortedA_ren Fence.wide m :=
  ⟨fun blk off cap ss W hH hblk hsz => callsIn_wide.2 (AnyM.slices_Sort_int Try.sortA blk off cap ss W hH hblk hsz),
   fun p cap W => callsIn_wide.2 (AnyM.slices_Sort_int_none Try.sortA p cap W)⟩
theorem Keys_any (mb : Nat) (w : World) : Calls Try.prog 34 #[.map (some mb)] w fun e w' => e = .returned (.func (.func 41) #[] #[.pointer (some ⟨w.heap.size, 0, none⟩)]) ∧ w' = w.alloc (.cells #[.map (some mb)] 67) :=
  callsIn_wide.1 (AnyZI.keys_in Try.keysA Fence.wide 5 trivial rfl (some mb) w)
theorem Sorted_any {w : World} {S mb P : Nat} {b : List Int} {D : DataW Value} (h : DkIs w S mb P b D) : Calls Try.prog 33 #[.func (.func 41) #[] #[.pointer (some ⟨w.heap.size, 0, none⟩)]] (w.alloc (.cells #[.map (some mb)] 67)) fun e w' => ∃ v, e = .returned v ∧
    NumsIn .i64 w' v (nat2int (uses b P)) ∧ (∀ k, rdBlk v = some k → w.heap.size < k) ∧ Below (w.alloc (.cells #[.map (some mb)] 67)).heap.size (w.alloc (.cells #[.map (some mb)] 67)) w' := by
  have hown := h.map
  have hbl := hown.lt
  have hsz := hown.size_le
  have hpm := (h.sd.size hown).2
  have h32 := h.dsk.hi
  have hseq : SeqGives Fence.wide 2 Try.prog 41 #[.pointer (some ⟨w.heap.size, 0, none⟩)] encZ (fun ss => ss.Perm (intKeys D)) (Maps.size D) (w.alloc (.cells #[.map (some mb)] 67)) :=
    AnyZI.keys_gives (ρ := Try.keysA_ren) { Try.keysA with } Fence.wide _ trivial rfl (by omega) w.heap.size mb 32 D _ (by simp) (by simp) (by
      obtain ⟨es, clock, hb, Ft, hs, hD⟩ := hown
      exact ⟨es, clock, (Below.heap_alloc _ _ mb hbl).trans hb, Ft, hs, hD⟩)
  have cS := AnyZI.sorted_in Try.sortedA Fence.wide 5 trivial trivial trivial trivial rfl (by omega) (sortsA _) (enters_of Try.func40 (by kernel_rfl) rfl) 41 #[.pointer (some ⟨w.heap.size, 0, none⟩)] trivial (enters_of Try.func41 (by kernel_rfl) rfl) _ _ (by unfold maxLen; omega) (by omega) _ hseq
  refine (callsIn_wide.1 cS).mono ?_
  rintro e w' ⟨v, ss, rfl, hS, hrow, hnil, hb⟩
  have hs := sort_uses (hpm.trans hS.symm)
  have hl : ss.length = (nat2int (uses b P)).length := (hpm.trans hS.symm).length_eq.symm
  rw [hs, hl] at hrow
  refine ⟨v, rfl, nums_of_row hrow ?_ (wf_uses b h32), fun k hk => ?_, hb⟩
  · rw [nat2int_len]; have := uses_le b P; unfold maxLen; omega
  · rcases hrow.2 with ⟨rfl, _⟩ | ⟨g, cap, cur, rfl, hbs, _⟩
    · simp [rdBlk] at hk
    · simp [rdBlk] at hk
      rw [World.size_alloc] at hbs
      omega

/-! ### Values, and its iterator -/
theorem Values_any (ao : Option Addr) (n c : Nat) (w : World) : Calls Try.prog 35 #[.slice ao n c] w fun e w' => e = .returned (.func (.func 42) #[] #[.pointer (some ⟨w.heap.size, 0, none⟩)]) ∧ w' = w.alloc (.cells #[.slice ao n c] 53) := by
  have hmf : ∀ (fn : Fn) (first cap : Array Value) (w : World), (Instr.makeFunc fn first cap).run Try.prog w = .ok (.func fn first cap) w := fun _ _ _ _ => rfl
  go_enter Try.func35, Try.ntmps35
  go_wp2
  go_ret
  exact ⟨rfl, rfl⟩
abbrev enc (i : Nat) : Array Value := #[.int .i64 (i : Int)]
theorem boxed_cell {w : World} {B : Nat} {v : Value} {t : TypeId} (h : w.heap[B]? = some (.cells #[v] t (0, 0))) : w.cell? ⟨B, 0, none⟩ = some v ∧ w.frozen? ⟨B, 0, none⟩ = false := by simp [World.cell?, World.frozen?, h]
theorem at0_nat {us : List Nat} {j : Nat} (h : j < us.length) : at0 (nat2int us) j = (us[j] : Int) := by
  unfold at0 nat2int
  rw [List.getElem?_map, List.getElem?_eq_getElem h]; rfl
theorem take_mid {us : List Nat} {j : Nat} (h : j < us.length) : us = us.take j ++ us[j] :: us.drop (j + 1) := by
  rw [← List.drop_eq_getElem_cons h, List.take_append_drop]
theorem take_next {us : List Nat} {j : Nat} (h : j < us.length) : us.take (j + 1) = us.take j ++ [us[j]] := by
  rw [List.take_succ_eq_append_getElem h]
structure VlI (J : List Nat → World → Prop) (us : List Nat) (v : Value) (z j : Nat) (W : World) : Prop where
  j : J (us.take j) W
  n : NumsIn .i64 W v (nat2int us)
  z : z ≤ W.heap.size
theorem Values1_gives {w : World} {B : Nat} {v : Value} {us : List Nat} (hB : Blk w B #[v] 53) (hv : NumsIn .i64 w v (nat2int us)) (hl : us.length ≤ 1000) (M : Nat → Prop) (hM : ∀ k, rdBlk v = some k → ¬ M k) :
    Gives Try.prog 42 #[.pointer (some ⟨B, 0, none⟩)] enc M us w := fun n ll J Jx W hW hJ hJx hY h0 => by
  refine callsIn_of_wp Try.func42 rfl trivial ?_ rfl
  simp only [Try.ntmps42, List.size_toArray, List.length_cons, List.length_nil, Nat.reduceAdd, Nat.reduceSub, Array.replicate_succ, Array.replicate_zero, List.push_toArray, List.append_toArray, List.nil_append, List.cons_append]
  obtain ⟨c1, _⟩ := boxed_cell (hB.below hW)
  have hvW := hv.below hW
  have HLt := Lib.hid (show ∀ k, rdBlk v = some k → k < w.heap.size from fun k hk => hv.lt hk)
  have HM := Lib.hid hM
  have HS := Lib.hid hW.size
  have HI : Hid (VlI J us v W.heap.size 0 W) := ⟨h0, hvW, Nat.le_refl _⟩
  obtain ⟨ao, c, rfl, hc, _⟩ := hvW.form
  rw [nat2int_len] at *
  clear hB hv hvW hM h0
  gi_wp2
  gi_loopw [7] (fun k wr => ∃ j : Nat, j ≤ us.length ∧ k = .int .i64 j ∧ Hid (VlI J us (.slice ao us.length c) W.heap.size j wr)) (fun k _ => us.length - natI k)
  case atStart => exact ⟨0, by omega, rfl, HI.out⟩
  case round =>
    obtain ⟨j, hj, rfl, HJ0⟩ := hrel
    clear c1
    by_cases hlt : j < us.length
    · have hi : (j : Int) < us.length := by omega
      obtain ⟨a, ha, hcell⟩ : ∃ a, ao = some a ∧ wr.cell? (a.add j) = some (.int .i64 (us[j] : Int)) := by
        obtain ⟨o', c', e, _, _, hx⟩ := HJ0.out.n.form
        obtain ⟨a, ha, hx⟩ := hx j (by rw [nat2int_len]; exact hlt)
        simp at e
        exact ⟨a, by rw [e.1]; exact ha, by rw [hx, at0_nat hlt]⟩
      subst ha
      have hYj := fun m => hY m (us.take j) us[j] (us.drop (j + 1)) wr (take_mid hlt) HJ0.out.j
      have HL := Lib.hid (take_next hlt)
      have HR := Lib.hid (take_mid hlt)
      generalize us[j] = x at *
      obtain ⟨f0, t0, a0, b0, hy0, hR0⟩ := hYj 0
      have HRa := Lib.hid (fun m' : Nat => (show RoundIn Fence.wide m' Try.prog ll f0 t0 a0 b0 wr _ from ⟨hR0.1, fun c cs _ => hR0.2 c cs (room_wide _)⟩))
      clear hR0 hYj
      gi_wp2
      refine ⟨fun hd => (by cases hd), (HRa.out _).mono ?_⟩
      rintro e W0 ⟨(⟨rfl, hj0⟩ | ⟨rfl, hx0⟩), hk0⟩
      · have HJJ : Hid (VlI J us (.slice (some a) us.length c) W.heap.size (j + 1) W0) := by
          refine ⟨by rw [HL.out]; exact hj0, HJ0.out.n.keep fun k hk => hk0.2 k (HJ0.out.n.lt hk) ?_, Nat.le_trans HJ0.out.z hk0.1⟩
          rintro (hm | hm)
          · exact HM.out k hk hm
          · have := HLt.out k hk; omega
        clear hj0 hk0
        gi_wp2
        refine ⟨⟨j + 1, by omega, by go_num, HJJ.out⟩, ?_⟩
        simp [natI]; omega
      · have HXX := Lib.hid hx0
        clear hx0 hk0
        gi_wp2
        refine bodyPost_ret (results_none rfl _ _ _) rfl ?_
        refine ⟨⟨_, rfl⟩, .inr ⟨us.take j ++ [x], us.drop (j + 1), by rw [List.append_assoc]; exact HR.out, HXX.out⟩⟩
    · obtain rfl : j = us.length := by omega
      have HJ4 := Lib.hid HJ0.out.j
      rw [List.take_length] at HJ4
      gi_wp2
      go_end0
      exact ⟨⟨_, rfl⟩, .inl HJ4.out⟩

/-! ### Used -/
/-- The iterator's value over the box B. -/
abbrev seqV (B : Nat) : Value := .func (.func 42) #[] #[.pointer (some ⟨B, 0, none⟩)]
/-- The box B leads to these numbers; both were made by the call. -/
structure Sq (w : World) (us : List Nat) (B : Nat) (v : Value) (W : World) : Prop where
  blk : Blk W B #[v] 53
  nums : NumsIn .i64 W v (nat2int us)
  loB : w.heap.size ≤ B
  loV : ∀ k, rdBlk v = some k → w.heap.size ≤ k
  below : Below w.heap.size w W
theorem Sq.after {w W W' : World} {us : List Nat} {B : Nat} {v : Value} (h : Sq w us B v W) (hb : Below W.heap.size W W') : Sq w us B v W' := ⟨h.blk.below hb, h.nums.below hb, h.loB, h.loV, h.below.trans (hb.mono h.below.size)⟩
theorem Used_nil (w : World) : Calls Try.prog 19 #[.pointer none] w fun e w' => e = .returned (seqV w.heap.size) ∧ Sq w [] w.heap.size (.slice none 0 0) w' := by
  go_enter Try.func19, Try.ntmps19
  go_wp2_with (first | (go_at_call 32; refine (none_nil _).mono ?_; rintro e w' ⟨rfl, rfl⟩) | (go_at_call 35; refine (Values_any _ _ _ _).mono ?_; rintro e w' ⟨rfl, rfl⟩))
  go_ret
  exact ⟨rfl, blk_new _ _ _, .inl ⟨rfl, rfl⟩, Nat.le_refl _, fun k hk => by simp [rdBlk] at hk, (Below.refl _ _).alloc (Nat.le_refl _) _⟩
theorem Used_any {w : World} {S P : Nat} {b : List Int} {F : Nat → Prop} (h : Dk w S P b F) : Calls Try.prog 19 #[.pointer (some ⟨S, 0, none⟩)] w fun e w' => ∃ B v, e = .returned (seqV B) ∧ Sq w (uses b P) B v w' := by
  have HN := Lib.hid (none_any h)
  obtain ⟨mb, D, rfl, h⟩ := h
  have HS := Lib.hid (Sorted_any h)
  obtain ⟨_, c1⟩ := h.cells
  clear h
  go_enter Try.func19, Try.ntmps19
  go_wp2_with fail
  refine HN.out.mono ?_; rintro e w1 ⟨rfl, rfl⟩
  go_wp2_with fail
  refine (Keys_any _ _).mono ?_; rintro e w1 ⟨rfl, rfl⟩
  go_wp2_with fail
  refine HS.out.mono ?_; rintro e w2 ⟨v, rfl, hn, hlo, hb⟩
  have HV := Lib.hid hn
  have HL := Lib.hid hlo
  have HB := Lib.hid hb
  obtain ⟨ao, c, rfl, _⟩ := hn.form
  clear hn hlo hb
  go_wp2_with fail
  refine (Values_any _ _ _ _).mono ?_; rintro e w3 ⟨rfl, rfl⟩
  go_wp2
  go_ret
  have hz := HB.out.size
  rw [World.size_alloc] at hz
  refine ⟨_, _, rfl, blk_new _ _ _, HV.out.below ((Below.refl _ _).alloc (Nat.le_refl _) _), by omega, fun k hk => by have := HL.out k hk; omega, ?_⟩
  exact (((Below.refl _ w).alloc (Nat.le_refl _) _).trans (HB.out.mono (by simp))).alloc (by omega) _
end Go.Proofs.Ytbinpapgfddafaa
