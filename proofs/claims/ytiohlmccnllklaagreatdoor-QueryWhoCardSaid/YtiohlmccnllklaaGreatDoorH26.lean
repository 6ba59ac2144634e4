/-
  Layer 12: the iterator of a kind whose places are counted on and on.
-/
import Derived.Test.YtiohlmccnllklaaGreatDoorH24
import Derived.Test.YtiohlmccnllklaaGreatDoorH25
import Derived.Shelf.SlIterI.Nil
import Derived.Shelf.SlIterI.Sorted
import Derived.Shelf.SortM.Plain
import Derived.Shelf.SortM.SortNone
set_option linter.unusedVariables false
set_option linter.unusedSimpArgs false
namespace Go.Proofs.YtiohlmccnllklaaGreatDoor
open Go.RowKit Go.Shelf
attribute [local go_sem] Oper.semAt_some
set_option maxHeartbeats 8000000
set_option maxRecDepth 100000
set_option linter.unusedVariables false
set_option linter.unusedSimpArgs false

def kns (k : Int) (ps : List T.Pr) : List Int := (T.kd k ps).map (·.1)
theorem sort_kns {ss : List Int} {ps : List T.Pr} {k : Int} (hr : T.Ris ps) (h : (kns k ps).Perm ss) : ss.mergeSort (fun x y => decide (x ≤ y)) = kns k ps := by
  rw [← mergeSort_of_perm_i h]
  exact List.mergeSort_of_pairwise ((T.kd_keys hr k).1.imp (fun h => by simp; omega))
/-- slices.Sort's two contracts. -/
theorem sortsA (m : Nat) : AnyZI.SortsIn Tryz.prog Tryz.sortedA_ren Fence.wide m :=
  ⟨fun blk off cap ss W hH hblk hsz => callsIn_wide.2 (AnyM.slices_Sort_int Tryz.sortA blk off cap ss W hH hblk hsz),
   fun p cap W => callsIn_wide.2 (AnyM.slices_Sort_int_none Tryz.sortA p cap W)⟩
theorem Keys_any (mb : Nat) (w : World) : Calls Tryz.prog 157 #[.map (some mb)] w fun e w' => e = .returned (.func (.func 160) #[] #[.pointer (some ⟨w.heap.size, 0, none⟩)]) ∧ w' = w.alloc (.cells #[.map (some mb)] 83) :=
  callsIn_wide.1 (AnyZI.keys_in Tryz.keysA Fence.wide 5 trivial rfl (some mb) w)
theorem Sorted_any {w : World} {mb : Nat} {ps : List T.Pr} {k : Int} (hr : T.Ris ps) (h : CntIs w mb ps k) : Calls Tryz.prog 156 #[.func (.func 160) #[] #[.pointer (some ⟨w.heap.size, 0, none⟩)]] (w.alloc (.cells #[.map (some mb)] 83)) fun e w' => ∃ v, e = .returned v ∧
    Rd 1 w' v (T.kd k ps).length ((kns k ps).map (Value.int .i64)) ∧ (∀ j, rdBlk v = some j → w.heap.size < j) ∧ (∀ j, rdBlk v = some j → ¬ L3.Pls w' j) ∧ Below (w.alloc (.cells #[.map (some mb)] 83)).heap.size (w.alloc (.cells #[.map (some mb)] 83)) w' := by
  obtain ⟨D, n, hn, hown, hD⟩ := h
  have hbl := hown.lt
  have hsz := hown.size_le
  have hpm := cnt_perm hr hown hD
  have hln := cnt_size hr hown hD
  have hseq : SeqGives Fence.wide 2 Tryz.prog 160 #[.pointer (some ⟨w.heap.size, 0, none⟩)] encZ (fun ss => ss.Perm (intKeys D)) (Maps.size D) (w.alloc (.cells #[.map (some mb)] 83)) :=
    AnyZI.keys_gives (ρ := Tryz.keysA_ren) { Tryz.keysA with } Fence.wide _ trivial rfl (by omega) w.heap.size mb n D _ (by simp) (by simp) (by
      obtain ⟨es, clock, hb, Ft, hs, hD⟩ := hown
      exact ⟨es, clock, (Below.heap_alloc _ _ mb hbl).trans hb, Ft, hs, hD⟩)
  have cS := AnyZI.sorted_in Tryz.sortedA Fence.wide 5 trivial trivial trivial trivial rfl (by omega) (sortsA _) (enters_of Tryz.func159 (by kernel_rfl) rfl) 160 #[.pointer (some ⟨w.heap.size, 0, none⟩)] trivial (enters_of Tryz.func160 (by kernel_rfl) rfl) _ _ (by unfold maxLen; omega) (by omega) _ hseq
  refine (callsIn_wide.1 cS).mono ?_
  rintro e w' ⟨v, ss, rfl, hS, hrow, hnil, hb⟩
  have hs := sort_kns hr (hpm.trans hS.symm)
  have hl : ss.length = (T.kd k ps).length := by
    have := (hpm.trans hS.symm).length_eq
    simpa using this.symm
  rw [hs, hl] at hrow
  refine ⟨v, rfl, rd_row hrow ?_, fun j hk => ?_, fun j hk => ?_, hb⟩
  · unfold maxLen; omega
  · rcases hrow.2 with ⟨rfl, _⟩ | ⟨g, cap, cur, rfl, hbs, _⟩
    · simp [rdBlk] at hk
    · simp only [rdBlk] at hk
      split at hk
      · cases hk
      · simp at hk
        rw [World.size_alloc] at hbs
        omega
  · rcases hrow.2 with ⟨rfl, _⟩ | ⟨g, cap, cur, rfl, hbs, hgg, _⟩
    · simp [rdBlk] at hk
    · simp only [rdBlk] at hk
      split at hk
      · cases hk
      · simp at hk
        subst hk
        exact L3.Pls.not hgg (by decide)
theorem CntIs.noPls {w : World} {b : Nat} {ps : List T.Pr} {k : Int} (h : CntIs w b ps k) : ¬ L3.Pls w b := by
  obtain ⟨D, n, _, hown, _⟩ := h
  obtain ⟨es, c, hb, _⟩ := hown
  exact L3.Pls.notMap hb
/-- A round of the counted. -/
structure CaI (J : List (Int × Int) → World → Prop) (B b : Nat) (ps : List T.Pr) (k : Int) (v : Value) (z j : Nat) (W : World) : Prop where
  j : J ((T.kd k ps).take j) W
  x : Blk W B #[.map (some b)] 83
  c : CntIs W b ps k
  n : Rd 1 W v (T.kd k ps).length ((kns k ps).map (Value.int .i64))
  t : ∀ i, rdBlk v = some i → ¬ L3.Pls W i
  v : ∀ i, rdBlk v = some i → z ≤ i
  z : z ≤ W.heap.size
theorem take_mid {α : Type} {us : List α} {j : Nat} (h : j < us.length) : us = us.take j ++ us[j] :: us.drop (j + 1) := by
  rw [← List.drop_eq_getElem_cons h, List.take_append_drop]
theorem take_next {α : Type} {us : List α} {j : Nat} (h : j < us.length) : us.take (j + 1) = us.take j ++ [us[j]] := by
  rw [List.take_succ_eq_append_getElem h]
theorem own_below {β : Type} {B : Nat} {I : β → World → Prop} (h : OwnFrom B I) {s : β} {W W' : World} (hI : I s W) (hb : Below W.heap.size W W') : I s W' :=
  h s W W' none hI ⟨hb.os, hb.tape, hb.output, hb.size, fun k hk _ => hb.block k hk⟩ (fun r e => by cases e)
theorem call1_gives {w : World} {B b : Nat} {ps : List T.Pr} {k : Int} (hr : T.Ris ps) (hs : T.Small ps) (hi : ∀ y ∈ T.kd k ps, I64 y.1) (hB : Blk w B #[.map (some b)] 83) (hC : CntIs w b ps k) (Mm : Nat → Prop) (hMl : ∀ i, Mm i → i < w.heap.size) (hMB : ¬ Mm B) (hMb : ¬ Mm b) :
    Gives Tryz.prog 155 #[.pointer (some ⟨B, 0, none⟩)] kEnc Mm (T.kd k ps) w := fun n0 ll J Jx W hW hJ hJx hY h0 => by
  refine callsIn_of_wp Tryz.func155 rfl trivial ?_ rfl
  simp only [Tryz.ntmps155, List.size_toArray, List.length_cons, List.length_nil, Nat.reduceAdd, Nat.reduceSub, Array.replicate_succ, Array.replicate_zero, List.push_toArray, List.append_toArray, List.nil_append, List.cons_append]
  obtain ⟨c1, _⟩ := boxed (hB.below hW)
  have HLt := Lib.hid (And.intro hB.lt hC.lt)
  have HM := Lib.hid (And.intro hMB hMb)
  have HMl := Lib.hid hMl
  have HSo := Lib.hid (Sorted_any hr (hC.keep (hW.block _ hC.lt)))
  have HC := Lib.hid (And.intro (hB.below hW) (hC.keep (hW.block _ hC.lt)))
  have HR := Lib.hid (And.intro hr (And.intro hs hi))
  have HJ := Lib.hid h0
  have HZ := Lib.hid hW.size
  clear hB hC hMB hMb hr hs hi h0 hMl
  gi_wp2_with fail
  refine ⟨trivial, fun hd => (by cases hd), (callsIn_wide.2 (Keys_any _ _)).mono ?_⟩
  rintro e w1 ⟨rfl, rfl⟩
  gi_wp2_with fail
  refine ⟨trivial, fun hd => (by cases hd), (callsIn_wide.2 HSo.out).mono ?_⟩
  rintro e w2 ⟨v, rfl, hrd, hv, hvt, hb⟩
  have HI : Hid (CaI J B b ps k v W.heap.size 0 w2) := by
    have hb2 : Below W.heap.size W w2 := (bel1 W (.cells #[.map (some b)] 83)).trans (hb.mono (by simp))
    exact ⟨own_below hJ HJ.out hb2, HC.out.1.below hb2, HC.out.2.keep (hb2.block _ HC.out.2.lt), hrd, hvt, fun i hi => Nat.le_of_lt (hv i hi), hb2.size⟩
  obtain ⟨ao, c, rfl, hcap, hmx⟩ := hrd.shape
  have HKL : Hid ((T.kd k ps).length ≤ maxLen) := hmx
  clear hrd hv hvt hb hcap hmx
  have hlm : ((T.kd k ps).length : Int) ≤ 9223372036854775807 := by have := HKL.out; unfold maxLen at this; omega
  gi_wp2
  gi_loopw [9] (fun i wr => ∃ j : Nat, j ≤ (T.kd k ps).length ∧ i = .int .i64 j ∧ Hid (CaI J B b ps k (.slice ao (T.kd k ps).length c) W.heap.size j wr)) (fun i _ => (T.kd k ps).length - natI i)
  case atStart => exact ⟨0, by omega, rfl, HI.out⟩
  case round =>
    obtain ⟨j, hj, rfl, HJ0⟩ := hrel
    clear c1
    by_cases hlt : j < (T.kd k ps).length
    · have hi : (j : Int) < ((T.kd k ps).length : Int) := by omega
      have hi0 : (0 : Int) ≤ j := by omega
      obtain ⟨g, o, c', e1, hc1, hrg⟩ := HJ0.out.n.elem hlt
      simp at e1
      obtain ⟨rfl, rfl⟩ := e1
      have hy : (T.kd k ps)[j] ∈ T.kd k ps := List.getElem_mem hlt
      obtain ⟨hy1, hy2⟩ := (T.kd_mem HR.out.1).1 hy
      have hc := hrg 0 (.int .i64 (T.kd k ps)[j].1) (by
        rw [List.getElem?_take, if_pos (by omega), List.getElem?_drop]
        simp [kns, hlt])
      have hyi := HR.out.2.2 _ hy
      have cb := (boxed HJ0.out.x).1
      have hlk := HJ0.out.c.look HR.out.2.1 hyi 0
      rw [hy2] at hlk
      simp only [Nat.mul_one, Nat.add_zero] at hc
      have hYj := fun m => hY m ((T.kd k ps).take j) (T.kd k ps)[j] ((T.kd k ps).drop (j + 1)) wr (take_mid hlt) HJ0.out.j
      have HL := Lib.hid (take_next hlt)
      have HR2 := Lib.hid (take_mid hlt)
      clear hrg hy hy1 hy2 hyi hc1
      generalize (T.kd k ps)[j] = y at *
      obtain ⟨y1, y2⟩ := y
      obtain ⟨f0, t0, a0, b0, hy0, hR0⟩ := hYj 0
      have HRa := Lib.hid (fun m' : Nat => (show RoundIn Fence.wide m' Tryz.prog ll f0 t0 a0 b0 wr _ from ⟨hR0.1, fun c cs _ => hR0.2 c cs (room_wide _)⟩))
      clear hR0 hYj
      gi_wp2
      refine ⟨fun hd => (by cases hd), (HRa.out _).mono ?_⟩
      rintro e W0 ⟨(⟨rfl, hj0⟩ | ⟨rfl, hx0⟩), hk0⟩
      · have HJJ : Hid (CaI J B b ps k (.slice (some ⟨g, o, none⟩) (T.kd k ps).length c) W.heap.size (j + 1) W0) := by
          have kp : ∀ i, i < wr.heap.size → ¬ Mm i → (i < w.heap.size ∨ W.heap.size ≤ i) → ¬ L3.Pls wr i → W0.heap[i]? = wr.heap[i]? := fun i hi h1 h2 h3 => hk0.2 i hi (by rintro (hm | hm); exact h1 hm; omega) h3
          have kn : ∀ i, rdBlk (.slice (some ⟨g, o, none⟩) (T.kd k ps).length c) = some i → W0.heap[i]? = wr.heap[i]? := fun i hi => by
            have h1 := HJ0.out.v i hi
            exact hk0.2 i (HJ0.out.n.lt (by omega) hi) (by rintro (hm | hm); exact absurd (HMl.out i hm) (by have := HZ.out; omega); omega) (HJ0.out.t i hi)
          refine ⟨by rw [HL.out]; exact hj0, HJ0.out.x.keep (kp _ HJ0.out.x.lt HM.out.1 (.inl HLt.out.1) (L3.Pls.not HJ0.out.x (by decide))), HJ0.out.c.keep (kp _ HJ0.out.c.lt HM.out.2 (.inl HLt.out.2) HJ0.out.c.noPls), HJ0.out.n.stay kn, fun i hi e => HJ0.out.t i hi (e.eq (kn i hi)), HJ0.out.v, Nat.le_trans HJ0.out.z hk0.1⟩
        clear hj0 hk0
        gi_wp2
        refine ⟨⟨j + 1, by omega, by go_num, HJJ.out⟩, ?_⟩
        simp [natI]; omega
      · have HXX := Lib.hid hx0
        clear hx0 hk0
        gi_wp2
        refine bodyPost_ret (results_none rfl _ _ _) rfl ?_
        exact ⟨⟨_, rfl⟩, .inr ⟨(T.kd k ps).take j ++ [(y1, y2)], (T.kd k ps).drop (j + 1), by rw [List.append_assoc]; exact HR2.out, HXX.out⟩⟩
    · obtain rfl : j = (T.kd k ps).length := by omega
      have HJ4 := Lib.hid HJ0.out.j
      rw [List.take_length] at HJ4
      gi_wp2
      go_end0
      exact ⟨⟨_, rfl⟩, .inl HJ4.out⟩
end Go.Proofs.YtiohlmccnllklaaGreatDoor
