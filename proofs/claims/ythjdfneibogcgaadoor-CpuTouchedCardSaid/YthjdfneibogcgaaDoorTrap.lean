/-
  Layer 10: trap of package cpu, Trapped: walks. Written by gen_tq.py.
-/
import Derived.Test.YthjdfneibogcgaaDoorTq
namespace Go.Proofs.YthjdfneibogcgaaDoor
open Go.RowKit
set_option maxHeartbeats 16000000
set_option linter.unusedVariables false
set_option linter.unusedSimpArgs false

set_option maxRecDepth 20000 in
theorem trap_any {N : Nat} {w : World} {T : Nat} {l : List Tch} (h : At N w T l) (hl : l.length ≤ 3) :
    Calls Tryd.prog 34 #[.pointer (some ⟨T, 0, none⟩)] w fun e w' => e = .returned (.tuple #[]) ∧ At N w' T (l ++ trapT) ∧ Kp N w w' := by
  have HAt := Lib.hid h
  clear h
  go_enter Tryd.func34, Tryd.ntmps34
  go_wp2_with fail
  refine (alone_any 2 _).mono ?_
  rintro e w1 ⟨rfl, b1⟩
  have HP1 := Lib.hid ((Pb.nil w).after b1)
  clear b1
  go_wp2_with fail
  refine (alone_any 7 _).mono ?_
  rintro e w2 ⟨rfl, b2⟩
  have HP2 := Lib.hid (HP1.out.after b2)
  clear b2
  go_wp2_with fail
  refine (alone_any 5 _).mono ?_
  rintro e w3 ⟨rfl, b3⟩
  have HP3 := Lib.hid (HP2.out.after b3)
  clear b3
  have hsz := HP3.out.k.size
  have q1 := HP3.out.box (g := w3.heap.size) (bel1 w3 (.cells #[Value.int .i64 0, Value.int .i64 0] 49)) ((pla_ok ⟨0, 0⟩).new 49 w3) (by decide) (by decide)
  have q2 := q1.box (g := w3.heap.size + 1) (bel1 _ (.cells #[Value.int .i64 0, Value.int .i64 0] 49)) (by have := (pla_ok ⟨0, 0⟩).new 49 (w3.alloc (.cells #[Value.int .i64 0, Value.int .i64 0] 49)); rw [World.size_alloc] at this; exact this) (by decide) (by decide)
  have q3 := q2.box (g := w3.heap.size + 1 + 1) (bel1 _ (.cells #[Value.int .i64 0, Value.int .i64 0] 49)) (by have := (pla_ok ⟨0, 0⟩).new 49 ((w3.alloc (.cells #[Value.int .i64 0, Value.int .i64 0] 49)).alloc (.cells #[Value.int .i64 0, Value.int .i64 0] 49)); rw [World.size_alloc, World.size_alloc] at this; exact this) (by decide) (by decide)
  have HB0 := Lib.hid q3.rot.b.1.1
  have r1 := q3.rot.set (c' := pla ⟨2, 0⟩) (by omega) (by simp; try omega) (pla_ok _)
  have HB1 := Lib.hid r1.rot.b.1.1
  have r2 := r1.rot.set (c' := pla ⟨7, 0⟩) (by omega) (by simp; try omega) (pla_ok _)
  have HB2 := Lib.hid r2.rot.b.1.1
  have r3 := r2.rot.set (c' := pla ⟨5, 0⟩) (by omega) (by simp; try omega) (pla_ok _)
  obtain ⟨W3, HW3⟩ : ∃ W3, Hid (W3 = (((((w3.alloc (.cells #[Value.int .i64 0, Value.int .i64 0] 49)).alloc (.cells #[Value.int .i64 0, Value.int .i64 0] 49)).alloc (.cells #[Value.int .i64 0, Value.int .i64 0] 49)).setRow w3.heap.size (pla ⟨2, 0⟩)).setRow (w3.heap.size + 1) (pla ⟨7, 0⟩)).setRow (w3.heap.size + 1 + 1) (pla ⟨5, 0⟩)) := ⟨_, rfl⟩
  rw [← HW3.out] at r3
  have HT := Lib.hid (r3.tq HAt.out)
  clear q1 q2 q3 r1 r2 r3 hsz HP1 HP2 HP3
  go_wp2_with (first | (rw [← HW3.out]) | ((with_reducible refine wp_store_R (pla ⟨2, 0⟩) rowP ⟨HB0.out, pla_ok _⟩ ?_ ?_ ?_); (kernel_rfl); (kernel_rfl)) | ((with_reducible refine wp_store_R (pla ⟨7, 0⟩) rowP ⟨HB1.out, pla_ok _⟩ ?_ ?_ ?_); (kernel_rfl); (kernel_rfl)) | ((with_reducible refine wp_store_R (pla ⟨5, 0⟩) rowP ⟨HB2.out, pla_ok _⟩ ?_ ?_ ?_); (kernel_rfl); (kernel_rfl)))
  clear HB0 HB1 HB2 HW3
  have hK0 := HT.out.drew
  refine wp_region_held_drew (S := fun W => Bks W [(w3.heap.size + 1 + 1, 49, 2, pla ⟨5, 0⟩), (w3.heap.size + 1, 49, 2, pla ⟨7, 0⟩), (w3.heap.size, 49, 2, pla ⟨2, 0⟩)]) (by kernel_rfl) hK0.b (fun _ => ?_)
  have hS := hK0
  refine take_d (i := 0) (d := some 8) (v := ?_) rfl rfl (by kernel_rfl) (by kernel_rfl) (by kernel_rfl) (fun _ _ _ h => h) (.inl ⟨by rfl, ?_⟩) hS.b ?_
  rotate_left
  · intro W hW
    go_simp
    try with_reducible rfl
  try simp only [Act.put, List.setIfInBounds_toArray, List.set_cons_zero, List.set_cons_succ]
  refine take_d (i := 2) (d := some 10) (v := .agg (pla ⟨2, 0⟩)) rfl rfl (by kernel_rfl) (by kernel_rfl) (by kernel_rfl) (fun _ _ _ h => h) (y_R rowP (by kernel_rfl) rfl rfl (fun W hW => hW.2.2.1.1)) hS.b ?_
  try simp only [Act.put, List.setIfInBounds_toArray, List.set_cons_zero, List.set_cons_succ]
  refine wpAnyH_all (rs := [1,3]) (by kernel_rfl) (by simp) (fun i hi => ?_)
  simp only [List.mem_cons, List.not_mem_nil, or_false] at hi
  rcases hi with rfl | rfl
  · refine .inl ?_
    go_simp
    refine (alone_any 3 _).mono ?_
    rintro e wc ⟨rfl, hb⟩
    try replace hp := hp.below hb
    replace hS := hS.after hb
    clear hb
    refine ⟨hS.b, ?_⟩
    try simp only [Act.put, List.setIfInBounds_toArray, List.set_cons_zero, List.set_cons_succ]
    refine wpAnyH_all (rs := [3]) (by kernel_rfl) (by simp) (fun i hi => ?_)
    simp only [List.mem_cons, List.not_mem_nil, or_false] at hi
    subst hi
    refine .inl ?_
    refine o_places (d := some 11) rfl [⟨2, 0⟩] (by simp [maxLen]) (by go_simp; try rfl) ?_
    intro v WP hp hb
    replace hS := hS.after hb
    clear hb
    refine ⟨hS.b, ?_⟩
    try simp only [Act.put, List.setIfInBounds_toArray, List.set_cons_zero, List.set_cons_succ]
    refine wpAnyH_all (rs := [4]) (by kernel_rfl) (by simp) (fun i hi => ?_)
    simp only [List.mem_cons, List.not_mem_nil, or_false] at hi
    subst hi
    refine .inl ?_
    go_simp
    refine (give_any hS.a (by first | omega | (simp only [List.length_append, List.length_cons, List.length_nil]; omega)) ⟨3, 0⟩ _ [⟨2, 0⟩] hp).mono ?_
    rintro e wg ⟨rfl, hA, hK⟩
    replace hS := hS.give hA hK
    clear hA hK hp
    refine ⟨hS.b, ?_⟩
    try simp only [Act.put, List.setIfInBounds_toArray, List.set_cons_zero, List.set_cons_succ]
    refine wpAnyH_done (by kernel_rfl) ?_ _
    replace HT := Lib.hid hS
    clear hS hK0
    go_wp2_with fail
    refine (alone_any 4 _).mono ?_
    rintro e w5 ⟨rfl, hb⟩
    replace HT := Lib.hid (HT.out.after hb)
    clear hb
    go_wp2_with fail
    refine (give_any (HT.out.after (Below.refl _ _)).a (by first | omega | (simp only [List.length_append, List.length_cons, List.length_nil]; omega)) ⟨4, 0⟩ _ [] (PlIs.nil _)).mono ?_
    rintro e W6 ⟨rfl, hA, hK⟩
    replace HT := Lib.hid ((HT.out.after (Below.refl _ _)).give hA hK)
    clear hA hK
    go_wp2_with ((with_reducible refine wp_load_R rowP HT.out.b.h1 ?_ ?_); (rfl))
    refine (give_any (HT.out.after (bel1 _ _)).a (by first | omega | (simp only [List.length_append, List.length_cons, List.length_nil]; omega)) ⟨7, 0⟩ _ [⟨7, 0⟩] (pl1 _ _ _)).mono ?_
    rintro e W7 ⟨rfl, hA, hK⟩
    replace HT := Lib.hid ((HT.out.after (bel1 _ _)).give hA hK)
    clear hA hK
    go_wp2_with ((with_reducible refine wp_load_R rowP HT.out.b.h0 ?_ ?_); (rfl))
    refine (decide_any (HT.out.after (bel1 _ _)).a (by first | omega | (simp only [List.length_append, List.length_cons, List.length_nil]; omega))  _ [⟨5, 0⟩] (pl1 _ _ _)).mono ?_
    rintro e W8 ⟨rfl, hA, hK⟩
    replace HT := Lib.hid ((HT.out.after (bel1 _ _)).give hA hK)
    clear hA hK
    go_wp2_with (first | ((with_reducible refine wp_load_R rowP HT.out.b.h2 ?_ ?_); (rfl)) | ((with_reducible refine wp_load_R rowP HT.out.b.h0 ?_ ?_); (rfl)))
    refine (give_any (HT.out.after (bel1 _ _)).a (by first | omega | (simp only [List.length_append, List.length_cons, List.length_nil]; omega)) ⟨2, 0⟩ _ [⟨5, 0⟩] (pl1 _ _ _)).mono ?_
    rintro e W9 ⟨rfl, hA, hK⟩
    replace HT := Lib.hid ((HT.out.after (bel1 _ _)).give hA hK)
    clear hA hK
    go_wp2
    go_end0
    refine ⟨rfl, ?_, HT.out.k⟩
    have := HT.out.a
    simpa [trapT, on] using this
  · refine .inl ?_
    refine o_places (d := some 11) rfl [⟨2, 0⟩] (by simp [maxLen]) (by go_simp; try rfl) ?_
    intro v WP hp hb
    replace hS := hS.after hb
    clear hb
    refine ⟨hS.b, ?_⟩
    try simp only [Act.put, List.setIfInBounds_toArray, List.set_cons_zero, List.set_cons_succ]
    refine wpAnyH_all (rs := [1]) (by kernel_rfl) (by simp) (fun i hi => ?_)
    simp only [List.mem_cons, List.not_mem_nil, or_false] at hi
    subst hi
    refine .inl ?_
    go_simp
    refine (alone_any 3 _).mono ?_
    rintro e wc ⟨rfl, hb⟩
    try replace hp := hp.below hb
    replace hS := hS.after hb
    clear hb
    refine ⟨hS.b, ?_⟩
    try simp only [Act.put, List.setIfInBounds_toArray, List.set_cons_zero, List.set_cons_succ]
    refine wpAnyH_all (rs := [4]) (by kernel_rfl) (by simp) (fun i hi => ?_)
    simp only [List.mem_cons, List.not_mem_nil, or_false] at hi
    subst hi
    refine .inl ?_
    go_simp
    refine (give_any hS.a (by first | omega | (simp only [List.length_append, List.length_cons, List.length_nil]; omega)) ⟨3, 0⟩ _ [⟨2, 0⟩] hp).mono ?_
    rintro e wg ⟨rfl, hA, hK⟩
    replace hS := hS.give hA hK
    clear hA hK hp
    refine ⟨hS.b, ?_⟩
    try simp only [Act.put, List.setIfInBounds_toArray, List.set_cons_zero, List.set_cons_succ]
    refine wpAnyH_done (by kernel_rfl) ?_ _
    replace HT := Lib.hid hS
    clear hS hK0
    go_wp2_with fail
    refine (alone_any 4 _).mono ?_
    rintro e w5 ⟨rfl, hb⟩
    replace HT := Lib.hid (HT.out.after hb)
    clear hb
    go_wp2_with fail
    refine (give_any (HT.out.after (Below.refl _ _)).a (by first | omega | (simp only [List.length_append, List.length_cons, List.length_nil]; omega)) ⟨4, 0⟩ _ [] (PlIs.nil _)).mono ?_
    rintro e W6 ⟨rfl, hA, hK⟩
    replace HT := Lib.hid ((HT.out.after (Below.refl _ _)).give hA hK)
    clear hA hK
    go_wp2_with ((with_reducible refine wp_load_R rowP HT.out.b.h1 ?_ ?_); (rfl))
    refine (give_any (HT.out.after (bel1 _ _)).a (by first | omega | (simp only [List.length_append, List.length_cons, List.length_nil]; omega)) ⟨7, 0⟩ _ [⟨7, 0⟩] (pl1 _ _ _)).mono ?_
    rintro e W7 ⟨rfl, hA, hK⟩
    replace HT := Lib.hid ((HT.out.after (bel1 _ _)).give hA hK)
    clear hA hK
    go_wp2_with ((with_reducible refine wp_load_R rowP HT.out.b.h0 ?_ ?_); (rfl))
    refine (decide_any (HT.out.after (bel1 _ _)).a (by first | omega | (simp only [List.length_append, List.length_cons, List.length_nil]; omega))  _ [⟨5, 0⟩] (pl1 _ _ _)).mono ?_
    rintro e W8 ⟨rfl, hA, hK⟩
    replace HT := Lib.hid ((HT.out.after (bel1 _ _)).give hA hK)
    clear hA hK
    go_wp2_with (first | ((with_reducible refine wp_load_R rowP HT.out.b.h2 ?_ ?_); (rfl)) | ((with_reducible refine wp_load_R rowP HT.out.b.h0 ?_ ?_); (rfl)))
    refine (give_any (HT.out.after (bel1 _ _)).a (by first | omega | (simp only [List.length_append, List.length_cons, List.length_nil]; omega)) ⟨2, 0⟩ _ [⟨5, 0⟩] (pl1 _ _ _)).mono ?_
    rintro e W9 ⟨rfl, hA, hK⟩
    replace HT := Lib.hid ((HT.out.after (bel1 _ _)).give hA hK)
    clear hA hK
    go_wp2
    go_end0
    refine ⟨rfl, ?_, HT.out.k⟩
    have := HT.out.a
    simpa [trapT, on] using this
theorem Trapped_any (w : World) : Calls Tryd.prog 20 #[] w fun e w' => (∃ v, e = .returned v ∧ TsIs w' v trapT) ∧ Below w.heap.size w w' := by
  have HC := Lib.hid (trap_any (at_new w) (by simp))
  go_enter Tryd.func20, Tryd.ntmps20
  go_wp2_with fail
  refine HC.out.mono ?_
  rintro e w1 ⟨rfl, hA, hK⟩
  have hb := (bel1 w (.cells #[.slice none 0 0] 64)).trans hK.b
  obtain ⟨⟨v, h1, h2, _⟩, _⟩ := hA
  have hc := (h1.cell 0).trans (show (#[v] : Array Value)[0]? = some v from rfl)
  obtain ⟨ao, c, rfl, _, _⟩ := h2.shape
  have HB := Lib.hid hb
  have H2 := Lib.hid h2
  clear hb h1 h2 hK
  go_wp2
  go_ret
  exact ⟨⟨_, rfl, H2.out⟩, HB.out⟩
end Go.Proofs.YthjdfneibogcgaaDoor
