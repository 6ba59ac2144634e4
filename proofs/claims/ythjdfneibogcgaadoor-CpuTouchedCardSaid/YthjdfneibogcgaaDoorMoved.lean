/-
  Layer 10: ahead, moved, set of touches: walks. Written by gen_tq.py.
-/
import Derived.Test.YthjdfneibogcgaaDoorTrap
import Derived.Test.YthjdfneibogcgaaDoorAt
namespace Go.Proofs.YthjdfneibogcgaaDoor
open Go.RowKit
set_option maxHeartbeats 16000000
set_option linter.unusedVariables false
set_option linter.unusedSimpArgs false

set_option maxRecDepth 20000 in
theorem moved_other {N : Nat} {w : World} {T : Nat} {l : List Tch} (h : At N w T l) (hl : l.length ≤ 3) (s : Sta) (op : Int) (h1 : op ≠ 21) (h2 : op ≠ 25) (A B : Nat) (m : Int) (hA : A < 8) (hB : B < 8) :
    Calls Tryd.prog 31 #[.pointer (some ⟨T, 0, none⟩), .agg (xc s ⟨op, A, B, m⟩)] w fun e w' => e = .returned (.tuple #[]) ∧ At N w' T (l ++ [⟨on 2, [on 2]⟩]) ∧ Kp N w w' := by
  have HAt := Lib.hid h
  have HP := Lib.hid (Pb.new w (x_ok s ⟨op, A, B, m⟩) (ty := 58) (by decide) (by decide))
  clear h
  go_enter Tryd.func31, Tryd.ntmps31
  go_wp2_with fail
  refine (alone_any 2 _).mono ?_
  rintro e w1 ⟨rfl, b1⟩
  replace HP := Lib.hid (HP.out.after b1)
  clear b1
  go_wp2_with fail
  refine (alone_any 7 _).mono ?_
  rintro e w2 ⟨rfl, b2⟩
  replace HP := Lib.hid (HP.out.after b2)
  clear b2
  have hsz := HP.out.b.h0.lt
  have q1 := HP.out.box (g := w2.heap.size) (bel1 w2 (.cells #[Value.int .i64 0, Value.int .i64 0] 49)) ((pla_ok ⟨0, 0⟩).new 49 w2) (by decide) (by decide)
  have q2 := q1.box (g := w2.heap.size + 1) (bel1 _ (.cells #[Value.int .i64 0, Value.int .i64 0] 49)) (by have := (pla_ok ⟨0, 0⟩).new 49 (w2.alloc (.cells #[Value.int .i64 0, Value.int .i64 0] 49)); rw [World.size_alloc] at this; exact this) (by decide) (by decide)
  have HB0 := Lib.hid q2.swap.b.1.1
  have r1 := q2.swap.set (c' := pla ⟨2, 0⟩) (by omega) (by simp; try omega) (pla_ok _)
  have HB1 := Lib.hid r1.swap.b.1.1
  have r2 := r1.swap.set (c' := pla ⟨7, 0⟩) (by omega) (by simp; try omega) (pla_ok _)
  obtain ⟨W3, HW3⟩ : ∃ W3, Hid (W3 = (((w2.alloc (.cells #[Value.int .i64 0, Value.int .i64 0] 49)).alloc (.cells #[Value.int .i64 0, Value.int .i64 0] 49)).setRow w2.heap.size (pla ⟨2, 0⟩)).setRow (w2.heap.size + 1) (pla ⟨7, 0⟩)) := ⟨_, rfl⟩
  rw [← HW3.out] at r2
  have HT := Lib.hid (r2.tq HAt.out)
  clear q1 q2 r1 r2 hsz HP
  have qx := HT.out.b.h2.x
  go_wp2_with (first | ((with_reducible refine wp_load_R rowP HT.out.b.h1 ?_ ?_); (rfl)) | (rw [← HW3.out]) | ((with_reducible refine wp_store_R (pla ⟨2, 0⟩) rowP ⟨HB0.out, pla_ok _⟩ ?_ ?_ ?_); (kernel_rfl); (kernel_rfl)) | ((with_reducible refine wp_store_R (pla ⟨7, 0⟩) rowP ⟨HB1.out, pla_ok _⟩ ?_ ?_ ?_); (kernel_rfl); (kernel_rfl)))
  clear HB0 HB1 HW3 qx
  refine (give_any (HT.out.after (bel1 _ _)).a (by first | omega | (simp only [List.length_append, List.length_cons, List.length_nil]; omega)) ⟨2, 0⟩ _ [⟨2, 0⟩] (pl1 _ _ _)).mono ?_
  rintro e W5 ⟨rfl, hA, hK⟩
  replace HT := Lib.hid ((HT.out.after (bel1 _ _)).give hA hK)
  clear hA hK
  go_wp2
  go_end0
  refine ⟨rfl, ?_, HT.out.k⟩
  have := HT.out.a
  simpa [on] using this
set_option maxRecDepth 20000 in
theorem moved_21 {N : Nat} {w : World} {T : Nat} {l : List Tch} (h : At N w T l) (hl : l.length ≤ 3) (s : Sta) (A B : Nat) (m : Int) (hA : A < 8) (hB : B < 8) :
    Calls Tryd.prog 31 #[.pointer (some ⟨T, 0, none⟩), .agg (xc s ⟨21, A, B, m⟩)] w fun e w' => e = .returned (.tuple #[]) ∧ At N w' T (l ++ [⟨on 2, [rg B]⟩]) ∧ Kp N w w' := by
  have HAt := Lib.hid h
  have HP := Lib.hid (Pb.new w (x_ok s ⟨21, A, B, m⟩) (ty := 58) (by decide) (by decide))
  clear h
  go_enter Tryd.func31, Tryd.ntmps31
  go_wp2_with fail
  refine (alone_any 2 _).mono ?_
  rintro e w1 ⟨rfl, b1⟩
  replace HP := Lib.hid (HP.out.after b1)
  clear b1
  go_wp2_with fail
  refine (alone_any 7 _).mono ?_
  rintro e w2 ⟨rfl, b2⟩
  replace HP := Lib.hid (HP.out.after b2)
  clear b2
  have hsz := HP.out.b.h0.lt
  have q1 := HP.out.box (g := w2.heap.size) (bel1 w2 (.cells #[Value.int .i64 0, Value.int .i64 0] 49)) ((pla_ok ⟨0, 0⟩).new 49 w2) (by decide) (by decide)
  have q2 := q1.box (g := w2.heap.size + 1) (bel1 _ (.cells #[Value.int .i64 0, Value.int .i64 0] 49)) (by have := (pla_ok ⟨0, 0⟩).new 49 (w2.alloc (.cells #[Value.int .i64 0, Value.int .i64 0] 49)); rw [World.size_alloc] at this; exact this) (by decide) (by decide)
  have HB0 := Lib.hid q2.swap.b.1.1
  have r1 := q2.swap.set (c' := pla ⟨2, 0⟩) (by omega) (by simp; try omega) (pla_ok _)
  have HB1 := Lib.hid r1.swap.b.1.1
  have r2 := r1.swap.set (c' := pla ⟨7, 0⟩) (by omega) (by simp; try omega) (pla_ok _)
  obtain ⟨W3, HW3⟩ : ∃ W3, Hid (W3 = (((w2.alloc (.cells #[Value.int .i64 0, Value.int .i64 0] 49)).alloc (.cells #[Value.int .i64 0, Value.int .i64 0] 49)).setRow w2.heap.size (pla ⟨2, 0⟩)).setRow (w2.heap.size + 1) (pla ⟨7, 0⟩)) := ⟨_, rfl⟩
  rw [← HW3.out] at r2
  have HT := Lib.hid (r2.tq HAt.out)
  clear q1 q2 r1 r2 hsz HP
  have qx := HT.out.b.h2.x
  go_wp2_with (first | (rw [← HW3.out]) | ((with_reducible refine wp_store_R (pla ⟨2, 0⟩) rowP ⟨HB0.out, pla_ok _⟩ ?_ ?_ ?_); (kernel_rfl); (kernel_rfl)) | ((with_reducible refine wp_store_R (pla ⟨7, 0⟩) rowP ⟨HB1.out, pla_ok _⟩ ?_ ?_ ?_); (kernel_rfl); (kernel_rfl)))
  clear HB0 HB1 HW3
  have HQ := Lib.hid qx
  clear qx
  have hK0 := HT.out.drew
  refine wp_region_held_drew (S := fun W => Bks W [(w2.heap.size + 1, 49, 2, pla ⟨7, 0⟩), (w2.heap.size, 49, 2, pla ⟨2, 0⟩), (w.heap.size, 58, 20, xc s ⟨21, A, B, m⟩)]) (by kernel_rfl) hK0.b (fun _ => ?_)
  have hS := hK0
  refine take_d (i := 0) (d := some 18) (v := ?_) rfl rfl (by kernel_rfl) (by kernel_rfl) (by kernel_rfl) (fun _ _ _ h => h) (.inl ⟨by rfl, ?_⟩) hS.b ?_
  rotate_left
  · intro W hW
    go_simp
    try with_reducible rfl
  try simp only [Act.put, List.setIfInBounds_toArray, List.set_cons_zero, List.set_cons_succ]
  refine take_d (i := 1) (d := some 19) (v := .agg (pla ⟨2, 0⟩)) rfl rfl (by kernel_rfl) (by kernel_rfl) (by kernel_rfl) (fun _ _ _ h => h) (y_R rowP (by kernel_rfl) rfl rfl (fun W hW => hW.h1)) hS.b ?_
  try simp only [Act.put, List.setIfInBounds_toArray, List.set_cons_zero, List.set_cons_succ]
  refine take_d (i := 2) (d := some 20) (v := ?_) rfl rfl (by kernel_rfl) (by kernel_rfl) (by kernel_rfl) (fun _ _ _ h => h) (.inl ⟨by rfl, ?_⟩) hS.b ?_
  rotate_left
  · intro W hW
    go_simp
    try with_reducible rfl
  try simp only [Act.put, List.setIfInBounds_toArray, List.set_cons_zero, List.set_cons_succ]
  refine take_d (i := 3) (d := some 21) (v := ?_) rfl rfl (by kernel_rfl) (by kernel_rfl) (by kernel_rfl) (fun _ _ _ h => h) (.inl ⟨by rfl, ?_⟩) hS.b ?_
  rotate_left
  · intro W hW
    go_simp
    try with_reducible rfl
  try simp only [Act.put, List.setIfInBounds_toArray, List.set_cons_zero, List.set_cons_succ]
  refine take_d (i := 4) (d := some 22) (v := ?_) rfl rfl (by kernel_rfl) (by kernel_rfl) (by kernel_rfl) (fun _ _ _ h => h) (.inl ⟨by rfl, ?_⟩) hS.b ?_
  rotate_left
  · intro W hW
    have q := hW.h2.x
    go_simp
    try with_reducible rfl
  try simp only [Act.put, List.setIfInBounds_toArray, List.set_cons_zero, List.set_cons_succ]
  refine wpAnyH_all (rs := [5]) (by kernel_rfl) (by simp) (fun i hi => ?_)
  simp only [List.mem_cons, List.not_mem_nil, or_false] at hi
  subst hi
  refine .inl ?_
  go_simp
  refine (register_any B _).mono ?_
  rintro e wc ⟨rfl, hb⟩
  try replace hp := hp.below hb
  replace hS := hS.after hb
  clear hb
  refine ⟨hS.b, ?_⟩
  try simp only [Act.put, List.setIfInBounds_toArray, List.set_cons_zero, List.set_cons_succ]
  refine wpAnyH_all (rs := [6]) (by kernel_rfl) (by simp) (fun i hi => ?_)
  simp only [List.mem_cons, List.not_mem_nil, or_false] at hi
  subst hi
  refine .inl ?_
  refine o_places (d := some 24) rfl [⟨1, B⟩] (by simp [maxLen]) (by go_simp; try rfl) ?_
  intro v WP hp hb
  replace hS := hS.after hb
  clear hb
  refine ⟨hS.b, ?_⟩
  try simp only [Act.put, List.setIfInBounds_toArray, List.set_cons_zero, List.set_cons_succ]
  refine wpAnyH_all (rs := [7]) (by kernel_rfl) (by simp) (fun i hi => ?_)
  simp only [List.mem_cons, List.not_mem_nil, or_false] at hi
  subst hi
  refine .inl ?_
  go_simp
  refine (give_any hS.a (by first | omega | (simp only [List.length_append, List.length_cons, List.length_nil]; omega)) ⟨2, 0⟩ _ [⟨1, B⟩] hp).mono ?_
  rintro e wg ⟨rfl, hA, hK⟩
  replace hS := hS.give hA hK
  clear hA hK hp
  refine ⟨hS.b, ?_⟩
  try simp only [Act.put, List.setIfInBounds_toArray, List.set_cons_zero, List.set_cons_succ]
  refine wpAnyH_done (by kernel_rfl) ?_ _
  replace HT := Lib.hid hS
  clear hS hK0
  go_wp2
  go_end0
  refine ⟨rfl, ?_, HT.out.k⟩
  have := HT.out.a
  simpa [on, rg] using this
set_option maxRecDepth 20000 in
theorem moved_25 {N : Nat} {w : World} {T : Nat} {l : List Tch} (h : At N w T l) (hl : l.length ≤ 3) (s : Sta) (A B : Nat) (m : Int) (hA : A < 8) (hB : B < 8) :
    Calls Tryd.prog 31 #[.pointer (some ⟨T, 0, none⟩), .agg (xc s ⟨25, A, B, m⟩)] w fun e w' => e = .returned (.tuple #[]) ∧ At N w' T (l ++ [⟨on 2, [on 3]⟩, ⟨on 7, [on 7]⟩]) ∧ Kp N w w' := by
  have HAt := Lib.hid h
  have HP := Lib.hid (Pb.new w (x_ok s ⟨25, A, B, m⟩) (ty := 58) (by decide) (by decide))
  clear h
  go_enter Tryd.func31, Tryd.ntmps31
  go_wp2_with fail
  refine (alone_any 2 _).mono ?_
  rintro e w1 ⟨rfl, b1⟩
  replace HP := Lib.hid (HP.out.after b1)
  clear b1
  go_wp2_with fail
  refine (alone_any 7 _).mono ?_
  rintro e w2 ⟨rfl, b2⟩
  replace HP := Lib.hid (HP.out.after b2)
  clear b2
  have hsz := HP.out.b.h0.lt
  have q1 := HP.out.box (g := w2.heap.size) (bel1 w2 (.cells #[Value.int .i64 0, Value.int .i64 0] 49)) ((pla_ok ⟨0, 0⟩).new 49 w2) (by decide) (by decide)
  have q2 := q1.box (g := w2.heap.size + 1) (bel1 _ (.cells #[Value.int .i64 0, Value.int .i64 0] 49)) (by have := (pla_ok ⟨0, 0⟩).new 49 (w2.alloc (.cells #[Value.int .i64 0, Value.int .i64 0] 49)); rw [World.size_alloc] at this; exact this) (by decide) (by decide)
  have HB0 := Lib.hid q2.swap.b.1.1
  have r1 := q2.swap.set (c' := pla ⟨2, 0⟩) (by omega) (by simp; try omega) (pla_ok _)
  have HB1 := Lib.hid r1.swap.b.1.1
  have r2 := r1.swap.set (c' := pla ⟨7, 0⟩) (by omega) (by simp; try omega) (pla_ok _)
  obtain ⟨W3, HW3⟩ : ∃ W3, Hid (W3 = (((w2.alloc (.cells #[Value.int .i64 0, Value.int .i64 0] 49)).alloc (.cells #[Value.int .i64 0, Value.int .i64 0] 49)).setRow w2.heap.size (pla ⟨2, 0⟩)).setRow (w2.heap.size + 1) (pla ⟨7, 0⟩)) := ⟨_, rfl⟩
  rw [← HW3.out] at r2
  have HT := Lib.hid (r2.tq HAt.out)
  clear q1 q2 r1 r2 hsz HP
  have qx := HT.out.b.h2.x
  go_wp2_with (first | (rw [← HW3.out]) | ((with_reducible refine wp_store_R (pla ⟨2, 0⟩) rowP ⟨HB0.out, pla_ok _⟩ ?_ ?_ ?_); (kernel_rfl); (kernel_rfl)) | ((with_reducible refine wp_store_R (pla ⟨7, 0⟩) rowP ⟨HB1.out, pla_ok _⟩ ?_ ?_ ?_); (kernel_rfl); (kernel_rfl)))
  clear HB0 HB1 HW3
  clear qx
  have hK0 := HT.out.drew
  refine wp_region_held_drew (S := fun W => Bks W [(w2.heap.size + 1, 49, 2, pla ⟨7, 0⟩), (w2.heap.size, 49, 2, pla ⟨2, 0⟩), (w.heap.size, 58, 20, xc s ⟨25, A, B, m⟩)]) (by kernel_rfl) hK0.b (fun _ => ?_)
  have hS := hK0
  refine take_d (i := 0) (d := some 28) (v := ?_) rfl rfl (by kernel_rfl) (by kernel_rfl) (by kernel_rfl) (fun _ _ _ h => h) (.inl ⟨by rfl, ?_⟩) hS.b ?_
  rotate_left
  · intro W hW
    go_simp
    try with_reducible rfl
  try simp only [Act.put, List.setIfInBounds_toArray, List.set_cons_zero, List.set_cons_succ]
  refine take_d (i := 1) (d := some 29) (v := .agg (pla ⟨2, 0⟩)) rfl rfl (by kernel_rfl) (by kernel_rfl) (by kernel_rfl) (fun _ _ _ h => h) (y_R rowP (by kernel_rfl) rfl rfl (fun W hW => hW.h1)) hS.b ?_
  try simp only [Act.put, List.setIfInBounds_toArray, List.set_cons_zero, List.set_cons_succ]
  refine wpAnyH_all (rs := [2]) (by kernel_rfl) (by simp) (fun i hi => ?_)
  simp only [List.mem_cons, List.not_mem_nil, or_false] at hi
  subst hi
  refine .inl ?_
  go_simp
  refine (alone_any 3 _).mono ?_
  rintro e wc ⟨rfl, hb⟩
  try replace hp := hp.below hb
  replace hS := hS.after hb
  clear hb
  refine ⟨hS.b, ?_⟩
  try simp only [Act.put, List.setIfInBounds_toArray, List.set_cons_zero, List.set_cons_succ]
  refine wpAnyH_all (rs := [3]) (by kernel_rfl) (by simp) (fun i hi => ?_)
  simp only [List.mem_cons, List.not_mem_nil, or_false] at hi
  subst hi
  refine .inl ?_
  refine o_places (d := some 31) rfl [⟨3, 0⟩] (by simp [maxLen]) (by go_simp; try rfl) ?_
  intro v WP hp hb
  replace hS := hS.after hb
  clear hb
  refine ⟨hS.b, ?_⟩
  try simp only [Act.put, List.setIfInBounds_toArray, List.set_cons_zero, List.set_cons_succ]
  refine wpAnyH_all (rs := [4]) (by kernel_rfl) (by simp) (fun i hi => ?_)
  simp only [List.mem_cons, List.not_mem_nil, or_false] at hi
  subst hi
  refine .inl ?_
  go_simp
  refine (give_any hS.a (by first | omega | (simp only [List.length_append, List.length_cons, List.length_nil]; omega)) ⟨2, 0⟩ _ [⟨3, 0⟩] hp).mono ?_
  rintro e wg ⟨rfl, hA, hK⟩
  replace hS := hS.give hA hK
  clear hA hK hp
  refine ⟨hS.b, ?_⟩
  try simp only [Act.put, List.setIfInBounds_toArray, List.set_cons_zero, List.set_cons_succ]
  refine wpAnyH_done (by kernel_rfl) ?_ _
  replace HT := Lib.hid hS
  clear hS hK0
  go_wp2_with ((with_reducible refine wp_load_R rowP HT.out.b.h0 ?_ ?_); (rfl))
  refine (give_any (HT.out.after (bel1 _ _)).a (by first | omega | (simp only [List.length_append, List.length_cons, List.length_nil]; omega)) ⟨7, 0⟩ _ [⟨7, 0⟩] (pl1 _ _ _)).mono ?_
  rintro e W8 ⟨rfl, hA, hK⟩
  replace HT := Lib.hid ((HT.out.after (bel1 _ _)).give hA hK)
  clear hA hK
  go_wp2
  go_end0
  refine ⟨rfl, ?_, HT.out.k⟩
  have := HT.out.a
  simpa [on] using this
theorem moved_any {N : Nat} {w : World} {T : Nat} {l : List Tch} (h : At N w T l) (hl : l.length ≤ 3) (s : Sta) (op : Int) (A B : Nat) (m : Int) (hA : A < 8) (hB : B < 8) :
    Calls Tryd.prog 31 #[.pointer (some ⟨T, 0, none⟩), .agg (xc s ⟨op, A, B, m⟩)] w fun e w' => e = .returned (.tuple #[]) ∧ At N w' T (l ++ movedT ⟨op, A, B, m⟩) ∧ Kp N w w' := by
  unfold movedT
  dsimp only
  split
  · rename_i h1; subst h1; exact moved_21 h hl s A B m hA hB
  split
  · rename_i h1; subst h1; exact moved_25 h hl s A B m hA hB
  · exact moved_other h hl s op (by assumption) (by assumption) A B m hA hB
set_option maxRecDepth 20000 in
theorem ahead_17 {N : Nat} {w : World} {T : Nat} {l : List Tch} (h : At N w T l) (hl : l.length ≤ 3) (s : Sta) (A B : Nat) (m : Int) (hA : A < 8) (hB : B < 8) :
    Calls Tryd.prog 29 #[.pointer (some ⟨T, 0, none⟩), .agg (xc s ⟨17, A, B, m⟩)] w fun e w' => e = .returned (.tuple #[]) ∧ At N w' T (l ++ [⟨on 0, [rg A, rg B]⟩]) ∧ Kp N w w' := by
  have HAt := Lib.hid h
  have HT := Lib.hid ((Pb.new w (x_ok s ⟨17, A, B, m⟩) (ty := 58) (by decide) (by decide)).tq h)
  have qx := HT.out.b.h0.x
  clear h
  go_enter Tryd.func29, Tryd.ntmps29
  go_wp2
  have HQ := Lib.hid qx
  clear qx
  have hK0 := HT.out.drew
  refine wp_region_held_drew (S := fun W => Bks W [(w.heap.size, 58, 20, xc s ⟨17, A, B, m⟩)]) (by kernel_rfl) hK0.b (fun _ => ?_)
  have hS := hK0
  refine take_d (i := 0) (d := some 11) (v := ?_) rfl rfl (by kernel_rfl) (by kernel_rfl) (by kernel_rfl) (fun _ _ _ h => h) (.inl ⟨by rfl, ?_⟩) hS.b ?_
  rotate_left
  · intro W hW
    go_simp
    try with_reducible rfl
  try simp only [Act.put, List.setIfInBounds_toArray, List.set_cons_zero, List.set_cons_succ]
  refine take_d (i := 1) (d := some 12) (v := ?_) rfl rfl (by kernel_rfl) (by kernel_rfl) (by kernel_rfl) (fun _ _ _ h => h) (.inl ⟨by rfl, ?_⟩) hS.b ?_
  rotate_left
  · intro W hW
    go_simp
    try with_reducible rfl
  try simp only [Act.put, List.setIfInBounds_toArray, List.set_cons_zero, List.set_cons_succ]
  refine take_d (i := 2) (d := some 13) (v := ?_) rfl rfl (by kernel_rfl) (by kernel_rfl) (by kernel_rfl) (fun _ _ _ h => h) (.inl ⟨by rfl, ?_⟩) hS.b ?_
  rotate_left
  · intro W hW
    go_simp
    try with_reducible rfl
  try simp only [Act.put, List.setIfInBounds_toArray, List.set_cons_zero, List.set_cons_succ]
  refine take_d (i := 3) (d := some 14) (v := ?_) rfl rfl (by kernel_rfl) (by kernel_rfl) (by kernel_rfl) (fun _ _ _ h => h) (.inl ⟨by rfl, ?_⟩) hS.b ?_
  rotate_left
  · intro W hW
    have q := hW.h0.x
    go_simp
    try with_reducible rfl
  try simp only [Act.put, List.setIfInBounds_toArray, List.set_cons_zero, List.set_cons_succ]
  refine take_d (i := 5) (d := some 16) (v := ?_) rfl rfl (by kernel_rfl) (by kernel_rfl) (by kernel_rfl) (fun _ _ _ h => h) (.inl ⟨by rfl, ?_⟩) hS.b ?_
  rotate_left
  · intro W hW
    go_simp
    try with_reducible rfl
  try simp only [Act.put, List.setIfInBounds_toArray, List.set_cons_zero, List.set_cons_succ]
  refine take_d (i := 6) (d := some 17) (v := ?_) rfl rfl (by kernel_rfl) (by kernel_rfl) (by kernel_rfl) (fun _ _ _ h => h) (.inl ⟨by rfl, ?_⟩) hS.b ?_
  rotate_left
  · intro W hW
    go_simp
    try with_reducible rfl
  try simp only [Act.put, List.setIfInBounds_toArray, List.set_cons_zero, List.set_cons_succ]
  refine take_d (i := 7) (d := some 18) (v := ?_) rfl rfl (by kernel_rfl) (by kernel_rfl) (by kernel_rfl) (fun _ _ _ h => h) (.inl ⟨by rfl, ?_⟩) hS.b ?_
  rotate_left
  · intro W hW
    have q := hW.h0.x
    go_simp
    try with_reducible rfl
  try simp only [Act.put, List.setIfInBounds_toArray, List.set_cons_zero, List.set_cons_succ]
  refine wpAnyH_all (rs := [4]) (by kernel_rfl) (by simp) (fun i hi => ?_)
  simp only [List.mem_cons, List.not_mem_nil, or_false] at hi
  subst hi
  refine .inl ?_
  go_simp
  refine (register_any A _).mono ?_
  rintro e wc ⟨rfl, hb⟩
  try replace hp := hp.below hb
  replace hS := hS.after hb
  clear hb
  refine ⟨hS.b, ?_⟩
  try simp only [Act.put, List.setIfInBounds_toArray, List.set_cons_zero, List.set_cons_succ]
  refine wpAnyH_all (rs := [8]) (by kernel_rfl) (by simp) (fun i hi => ?_)
  simp only [List.mem_cons, List.not_mem_nil, or_false] at hi
  subst hi
  refine .inl ?_
  go_simp
  refine (register_any B _).mono ?_
  rintro e wc ⟨rfl, hb⟩
  try replace hp := hp.below hb
  replace hS := hS.after hb
  clear hb
  refine ⟨hS.b, ?_⟩
  try simp only [Act.put, List.setIfInBounds_toArray, List.set_cons_zero, List.set_cons_succ]
  refine wpAnyH_all (rs := [9]) (by kernel_rfl) (by simp) (fun i hi => ?_)
  simp only [List.mem_cons, List.not_mem_nil, or_false] at hi
  subst hi
  refine .inl ?_
  refine o_places (d := some 20) rfl [⟨1, A⟩, ⟨1, B⟩] (by simp [maxLen]) (by go_simp; try rfl) ?_
  intro v WP hp hb
  replace hS := hS.after hb
  clear hb
  refine ⟨hS.b, ?_⟩
  try simp only [Act.put, List.setIfInBounds_toArray, List.set_cons_zero, List.set_cons_succ]
  refine wpAnyH_all (rs := [10]) (by kernel_rfl) (by simp) (fun i hi => ?_)
  simp only [List.mem_cons, List.not_mem_nil, or_false] at hi
  subst hi
  refine .inl ?_
  go_simp
  refine (decide_any hS.a (by first | omega | (simp only [List.length_append, List.length_cons, List.length_nil]; omega)) _ [⟨1, A⟩, ⟨1, B⟩] hp).mono ?_
  rintro e wg ⟨rfl, hA, hK⟩
  replace hS := hS.give hA hK
  clear hA hK hp
  refine ⟨hS.b, ?_⟩
  try simp only [Act.put, List.setIfInBounds_toArray, List.set_cons_zero, List.set_cons_succ]
  refine wpAnyH_done (by kernel_rfl) ?_ _
  replace HT := Lib.hid hS
  clear hS hK0
  go_wp2
  go_end0
  refine ⟨rfl, ?_, HT.out.k⟩
  have := HT.out.a
  simpa [on, rg] using this
set_option maxRecDepth 20000 in
theorem ahead_18 {N : Nat} {w : World} {T : Nat} {l : List Tch} (h : At N w T l) (hl : l.length ≤ 3) (s : Sta) (A B : Nat) (m : Int) (hA : A < 8) (hB : B < 8) :
    Calls Tryd.prog 29 #[.pointer (some ⟨T, 0, none⟩), .agg (xc s ⟨18, A, B, m⟩)] w fun e w' => e = .returned (.tuple #[]) ∧ At N w' T (l ++ [⟨on 0, [rg A, rg B]⟩]) ∧ Kp N w w' := by
  have HAt := Lib.hid h
  have HT := Lib.hid ((Pb.new w (x_ok s ⟨18, A, B, m⟩) (ty := 58) (by decide) (by decide)).tq h)
  have qx := HT.out.b.h0.x
  clear h
  go_enter Tryd.func29, Tryd.ntmps29
  go_wp2
  have HQ := Lib.hid qx
  clear qx
  have hK0 := HT.out.drew
  refine wp_region_held_drew (S := fun W => Bks W [(w.heap.size, 58, 20, xc s ⟨18, A, B, m⟩)]) (by kernel_rfl) hK0.b (fun _ => ?_)
  have hS := hK0
  refine take_d (i := 0) (d := some 11) (v := ?_) rfl rfl (by kernel_rfl) (by kernel_rfl) (by kernel_rfl) (fun _ _ _ h => h) (.inl ⟨by rfl, ?_⟩) hS.b ?_
  rotate_left
  · intro W hW
    go_simp
    try with_reducible rfl
  try simp only [Act.put, List.setIfInBounds_toArray, List.set_cons_zero, List.set_cons_succ]
  refine take_d (i := 1) (d := some 12) (v := ?_) rfl rfl (by kernel_rfl) (by kernel_rfl) (by kernel_rfl) (fun _ _ _ h => h) (.inl ⟨by rfl, ?_⟩) hS.b ?_
  rotate_left
  · intro W hW
    go_simp
    try with_reducible rfl
  try simp only [Act.put, List.setIfInBounds_toArray, List.set_cons_zero, List.set_cons_succ]
  refine take_d (i := 2) (d := some 13) (v := ?_) rfl rfl (by kernel_rfl) (by kernel_rfl) (by kernel_rfl) (fun _ _ _ h => h) (.inl ⟨by rfl, ?_⟩) hS.b ?_
  rotate_left
  · intro W hW
    go_simp
    try with_reducible rfl
  try simp only [Act.put, List.setIfInBounds_toArray, List.set_cons_zero, List.set_cons_succ]
  refine take_d (i := 3) (d := some 14) (v := ?_) rfl rfl (by kernel_rfl) (by kernel_rfl) (by kernel_rfl) (fun _ _ _ h => h) (.inl ⟨by rfl, ?_⟩) hS.b ?_
  rotate_left
  · intro W hW
    have q := hW.h0.x
    go_simp
    try with_reducible rfl
  try simp only [Act.put, List.setIfInBounds_toArray, List.set_cons_zero, List.set_cons_succ]
  refine take_d (i := 5) (d := some 16) (v := ?_) rfl rfl (by kernel_rfl) (by kernel_rfl) (by kernel_rfl) (fun _ _ _ h => h) (.inl ⟨by rfl, ?_⟩) hS.b ?_
  rotate_left
  · intro W hW
    go_simp
    try with_reducible rfl
  try simp only [Act.put, List.setIfInBounds_toArray, List.set_cons_zero, List.set_cons_succ]
  refine take_d (i := 6) (d := some 17) (v := ?_) rfl rfl (by kernel_rfl) (by kernel_rfl) (by kernel_rfl) (fun _ _ _ h => h) (.inl ⟨by rfl, ?_⟩) hS.b ?_
  rotate_left
  · intro W hW
    go_simp
    try with_reducible rfl
  try simp only [Act.put, List.setIfInBounds_toArray, List.set_cons_zero, List.set_cons_succ]
  refine take_d (i := 7) (d := some 18) (v := ?_) rfl rfl (by kernel_rfl) (by kernel_rfl) (by kernel_rfl) (fun _ _ _ h => h) (.inl ⟨by rfl, ?_⟩) hS.b ?_
  rotate_left
  · intro W hW
    have q := hW.h0.x
    go_simp
    try with_reducible rfl
  try simp only [Act.put, List.setIfInBounds_toArray, List.set_cons_zero, List.set_cons_succ]
  refine wpAnyH_all (rs := [4]) (by kernel_rfl) (by simp) (fun i hi => ?_)
  simp only [List.mem_cons, List.not_mem_nil, or_false] at hi
  subst hi
  refine .inl ?_
  go_simp
  refine (register_any A _).mono ?_
  rintro e wc ⟨rfl, hb⟩
  try replace hp := hp.below hb
  replace hS := hS.after hb
  clear hb
  refine ⟨hS.b, ?_⟩
  try simp only [Act.put, List.setIfInBounds_toArray, List.set_cons_zero, List.set_cons_succ]
  refine wpAnyH_all (rs := [8]) (by kernel_rfl) (by simp) (fun i hi => ?_)
  simp only [List.mem_cons, List.not_mem_nil, or_false] at hi
  subst hi
  refine .inl ?_
  go_simp
  refine (register_any B _).mono ?_
  rintro e wc ⟨rfl, hb⟩
  try replace hp := hp.below hb
  replace hS := hS.after hb
  clear hb
  refine ⟨hS.b, ?_⟩
  try simp only [Act.put, List.setIfInBounds_toArray, List.set_cons_zero, List.set_cons_succ]
  refine wpAnyH_all (rs := [9]) (by kernel_rfl) (by simp) (fun i hi => ?_)
  simp only [List.mem_cons, List.not_mem_nil, or_false] at hi
  subst hi
  refine .inl ?_
  refine o_places (d := some 20) rfl [⟨1, A⟩, ⟨1, B⟩] (by simp [maxLen]) (by go_simp; try rfl) ?_
  intro v WP hp hb
  replace hS := hS.after hb
  clear hb
  refine ⟨hS.b, ?_⟩
  try simp only [Act.put, List.setIfInBounds_toArray, List.set_cons_zero, List.set_cons_succ]
  refine wpAnyH_all (rs := [10]) (by kernel_rfl) (by simp) (fun i hi => ?_)
  simp only [List.mem_cons, List.not_mem_nil, or_false] at hi
  subst hi
  refine .inl ?_
  go_simp
  refine (decide_any hS.a (by first | omega | (simp only [List.length_append, List.length_cons, List.length_nil]; omega)) _ [⟨1, A⟩, ⟨1, B⟩] hp).mono ?_
  rintro e wg ⟨rfl, hA, hK⟩
  replace hS := hS.give hA hK
  clear hA hK hp
  refine ⟨hS.b, ?_⟩
  try simp only [Act.put, List.setIfInBounds_toArray, List.set_cons_zero, List.set_cons_succ]
  refine wpAnyH_done (by kernel_rfl) ?_ _
  replace HT := Lib.hid hS
  clear hS hK0
  go_wp2
  go_end0
  refine ⟨rfl, ?_, HT.out.k⟩
  have := HT.out.a
  simpa [on, rg] using this
set_option maxRecDepth 20000 in
theorem ahead_19 {N : Nat} {w : World} {T : Nat} {l : List Tch} (h : At N w T l) (hl : l.length ≤ 3) (s : Sta) (A B : Nat) (m : Int) (hA : A < 8) (hB : B < 8) :
    Calls Tryd.prog 29 #[.pointer (some ⟨T, 0, none⟩), .agg (xc s ⟨19, A, B, m⟩)] w fun e w' => e = .returned (.tuple #[]) ∧ At N w' T (l ++ [⟨on 0, [rg A, rg B]⟩]) ∧ Kp N w w' := by
  have HAt := Lib.hid h
  have HT := Lib.hid ((Pb.new w (x_ok s ⟨19, A, B, m⟩) (ty := 58) (by decide) (by decide)).tq h)
  have qx := HT.out.b.h0.x
  clear h
  go_enter Tryd.func29, Tryd.ntmps29
  go_wp2
  have HQ := Lib.hid qx
  clear qx
  have hK0 := HT.out.drew
  refine wp_region_held_drew (S := fun W => Bks W [(w.heap.size, 58, 20, xc s ⟨19, A, B, m⟩)]) (by kernel_rfl) hK0.b (fun _ => ?_)
  have hS := hK0
  refine take_d (i := 0) (d := some 11) (v := ?_) rfl rfl (by kernel_rfl) (by kernel_rfl) (by kernel_rfl) (fun _ _ _ h => h) (.inl ⟨by rfl, ?_⟩) hS.b ?_
  rotate_left
  · intro W hW
    go_simp
    try with_reducible rfl
  try simp only [Act.put, List.setIfInBounds_toArray, List.set_cons_zero, List.set_cons_succ]
  refine take_d (i := 1) (d := some 12) (v := ?_) rfl rfl (by kernel_rfl) (by kernel_rfl) (by kernel_rfl) (fun _ _ _ h => h) (.inl ⟨by rfl, ?_⟩) hS.b ?_
  rotate_left
  · intro W hW
    go_simp
    try with_reducible rfl
  try simp only [Act.put, List.setIfInBounds_toArray, List.set_cons_zero, List.set_cons_succ]
  refine take_d (i := 2) (d := some 13) (v := ?_) rfl rfl (by kernel_rfl) (by kernel_rfl) (by kernel_rfl) (fun _ _ _ h => h) (.inl ⟨by rfl, ?_⟩) hS.b ?_
  rotate_left
  · intro W hW
    go_simp
    try with_reducible rfl
  try simp only [Act.put, List.setIfInBounds_toArray, List.set_cons_zero, List.set_cons_succ]
  refine take_d (i := 3) (d := some 14) (v := ?_) rfl rfl (by kernel_rfl) (by kernel_rfl) (by kernel_rfl) (fun _ _ _ h => h) (.inl ⟨by rfl, ?_⟩) hS.b ?_
  rotate_left
  · intro W hW
    have q := hW.h0.x
    go_simp
    try with_reducible rfl
  try simp only [Act.put, List.setIfInBounds_toArray, List.set_cons_zero, List.set_cons_succ]
  refine take_d (i := 5) (d := some 16) (v := ?_) rfl rfl (by kernel_rfl) (by kernel_rfl) (by kernel_rfl) (fun _ _ _ h => h) (.inl ⟨by rfl, ?_⟩) hS.b ?_
  rotate_left
  · intro W hW
    go_simp
    try with_reducible rfl
  try simp only [Act.put, List.setIfInBounds_toArray, List.set_cons_zero, List.set_cons_succ]
  refine take_d (i := 6) (d := some 17) (v := ?_) rfl rfl (by kernel_rfl) (by kernel_rfl) (by kernel_rfl) (fun _ _ _ h => h) (.inl ⟨by rfl, ?_⟩) hS.b ?_
  rotate_left
  · intro W hW
    go_simp
    try with_reducible rfl
  try simp only [Act.put, List.setIfInBounds_toArray, List.set_cons_zero, List.set_cons_succ]
  refine take_d (i := 7) (d := some 18) (v := ?_) rfl rfl (by kernel_rfl) (by kernel_rfl) (by kernel_rfl) (fun _ _ _ h => h) (.inl ⟨by rfl, ?_⟩) hS.b ?_
  rotate_left
  · intro W hW
    have q := hW.h0.x
    go_simp
    try with_reducible rfl
  try simp only [Act.put, List.setIfInBounds_toArray, List.set_cons_zero, List.set_cons_succ]
  refine wpAnyH_all (rs := [4]) (by kernel_rfl) (by simp) (fun i hi => ?_)
  simp only [List.mem_cons, List.not_mem_nil, or_false] at hi
  subst hi
  refine .inl ?_
  go_simp
  refine (register_any A _).mono ?_
  rintro e wc ⟨rfl, hb⟩
  try replace hp := hp.below hb
  replace hS := hS.after hb
  clear hb
  refine ⟨hS.b, ?_⟩
  try simp only [Act.put, List.setIfInBounds_toArray, List.set_cons_zero, List.set_cons_succ]
  refine wpAnyH_all (rs := [8]) (by kernel_rfl) (by simp) (fun i hi => ?_)
  simp only [List.mem_cons, List.not_mem_nil, or_false] at hi
  subst hi
  refine .inl ?_
  go_simp
  refine (register_any B _).mono ?_
  rintro e wc ⟨rfl, hb⟩
  try replace hp := hp.below hb
  replace hS := hS.after hb
  clear hb
  refine ⟨hS.b, ?_⟩
  try simp only [Act.put, List.setIfInBounds_toArray, List.set_cons_zero, List.set_cons_succ]
  refine wpAnyH_all (rs := [9]) (by kernel_rfl) (by simp) (fun i hi => ?_)
  simp only [List.mem_cons, List.not_mem_nil, or_false] at hi
  subst hi
  refine .inl ?_
  refine o_places (d := some 20) rfl [⟨1, A⟩, ⟨1, B⟩] (by simp [maxLen]) (by go_simp; try rfl) ?_
  intro v WP hp hb
  replace hS := hS.after hb
  clear hb
  refine ⟨hS.b, ?_⟩
  try simp only [Act.put, List.setIfInBounds_toArray, List.set_cons_zero, List.set_cons_succ]
  refine wpAnyH_all (rs := [10]) (by kernel_rfl) (by simp) (fun i hi => ?_)
  simp only [List.mem_cons, List.not_mem_nil, or_false] at hi
  subst hi
  refine .inl ?_
  go_simp
  refine (decide_any hS.a (by first | omega | (simp only [List.length_append, List.length_cons, List.length_nil]; omega)) _ [⟨1, A⟩, ⟨1, B⟩] hp).mono ?_
  rintro e wg ⟨rfl, hA, hK⟩
  replace hS := hS.give hA hK
  clear hA hK hp
  refine ⟨hS.b, ?_⟩
  try simp only [Act.put, List.setIfInBounds_toArray, List.set_cons_zero, List.set_cons_succ]
  refine wpAnyH_done (by kernel_rfl) ?_ _
  replace HT := Lib.hid hS
  clear hS hK0
  go_wp2
  go_end0
  refine ⟨rfl, ?_, HT.out.k⟩
  have := HT.out.a
  simpa [on, rg] using this
set_option maxRecDepth 20000 in
theorem ahead_13 {N : Nat} {w : World} {T : Nat} {l : List Tch} (h : At N w T l) (hl : l.length ≤ 3) (s : Sta) (A B : Nat) (m : Int) (hA : A < 8) (hB : B < 8) :
    Calls Tryd.prog 29 #[.pointer (some ⟨T, 0, none⟩), .agg (xc s ⟨13, A, B, m⟩)] w fun e w' => e = .returned (.tuple #[]) ∧ At N w' T (l ++ [⟨on 0, [rg B]⟩]) ∧ Kp N w w' := by
  have HAt := Lib.hid h
  have HT := Lib.hid ((Pb.new w (x_ok s ⟨13, A, B, m⟩) (ty := 58) (by decide) (by decide)).tq h)
  have qx := HT.out.b.h0.x
  clear h
  go_enter Tryd.func29, Tryd.ntmps29
  go_wp2_with fail
  refine (register_any B _).mono ?_
  rintro e w5 ⟨rfl, hb⟩
  replace HT := Lib.hid (HT.out.after hb)
  clear hb qx
  go_wp2_with fail
  refine (decide_any (HT.out.after (bel1 _ _)).a (by first | omega | (simp only [List.length_append, List.length_cons, List.length_nil]; omega))  _ [⟨1, B⟩] (pl1 _ _ _)).mono ?_
  rintro e W6 ⟨rfl, hA, hK⟩
  replace HT := Lib.hid ((HT.out.after (bel1 _ _)).give hA hK)
  clear hA hK
  go_wp2
  go_end0
  refine ⟨rfl, ?_, HT.out.k⟩
  have := HT.out.a
  simpa [on, rg] using this
set_option maxRecDepth 20000 in
theorem ahead_14 {N : Nat} {w : World} {T : Nat} {l : List Tch} (h : At N w T l) (hl : l.length ≤ 3) (s : Sta) (A B : Nat) (m : Int) (hA : A < 8) (hB : B < 8) :
    Calls Tryd.prog 29 #[.pointer (some ⟨T, 0, none⟩), .agg (xc s ⟨14, A, B, m⟩)] w fun e w' => e = .returned (.tuple #[]) ∧ At N w' T (l ++ [⟨on 0, [rg B]⟩]) ∧ Kp N w w' := by
  have HAt := Lib.hid h
  have HT := Lib.hid ((Pb.new w (x_ok s ⟨14, A, B, m⟩) (ty := 58) (by decide) (by decide)).tq h)
  have qx := HT.out.b.h0.x
  clear h
  go_enter Tryd.func29, Tryd.ntmps29
  go_wp2_with fail
  refine (register_any B _).mono ?_
  rintro e w5 ⟨rfl, hb⟩
  replace HT := Lib.hid (HT.out.after hb)
  clear hb qx
  go_wp2_with fail
  refine (decide_any (HT.out.after (bel1 _ _)).a (by first | omega | (simp only [List.length_append, List.length_cons, List.length_nil]; omega))  _ [⟨1, B⟩] (pl1 _ _ _)).mono ?_
  rintro e W6 ⟨rfl, hA, hK⟩
  replace HT := Lib.hid ((HT.out.after (bel1 _ _)).give hA hK)
  clear hA hK
  go_wp2
  go_end0
  refine ⟨rfl, ?_, HT.out.k⟩
  have := HT.out.a
  simpa [on, rg] using this
set_option maxRecDepth 20000 in
theorem ahead_15 {N : Nat} {w : World} {T : Nat} {l : List Tch} (h : At N w T l) (hl : l.length ≤ 3) (s : Sta) (A B : Nat) (m : Int) (hA : A < 8) (hB : B < 8) :
    Calls Tryd.prog 29 #[.pointer (some ⟨T, 0, none⟩), .agg (xc s ⟨15, A, B, m⟩)] w fun e w' => e = .returned (.tuple #[]) ∧ At N w' T (l ++ [⟨on 0, [rg B]⟩]) ∧ Kp N w w' := by
  have HAt := Lib.hid h
  have HT := Lib.hid ((Pb.new w (x_ok s ⟨15, A, B, m⟩) (ty := 58) (by decide) (by decide)).tq h)
  have qx := HT.out.b.h0.x
  clear h
  go_enter Tryd.func29, Tryd.ntmps29
  go_wp2_with fail
  refine (register_any B _).mono ?_
  rintro e w5 ⟨rfl, hb⟩
  replace HT := Lib.hid (HT.out.after hb)
  clear hb qx
  go_wp2_with fail
  refine (decide_any (HT.out.after (bel1 _ _)).a (by first | omega | (simp only [List.length_append, List.length_cons, List.length_nil]; omega))  _ [⟨1, B⟩] (pl1 _ _ _)).mono ?_
  rintro e W6 ⟨rfl, hA, hK⟩
  replace HT := Lib.hid ((HT.out.after (bel1 _ _)).give hA hK)
  clear hA hK
  go_wp2
  go_end0
  refine ⟨rfl, ?_, HT.out.k⟩
  have := HT.out.a
  simpa [on, rg] using this
set_option maxRecDepth 20000 in
theorem ahead_16 {N : Nat} {w : World} {T : Nat} {l : List Tch} (h : At N w T l) (hl : l.length ≤ 3) (s : Sta) (A B : Nat) (m : Int) (hA : A < 8) (hB : B < 8) :
    Calls Tryd.prog 29 #[.pointer (some ⟨T, 0, none⟩), .agg (xc s ⟨16, A, B, m⟩)] w fun e w' => e = .returned (.tuple #[]) ∧ At N w' T (l ++ [⟨on 0, [rg B]⟩]) ∧ Kp N w w' := by
  have HAt := Lib.hid h
  have HT := Lib.hid ((Pb.new w (x_ok s ⟨16, A, B, m⟩) (ty := 58) (by decide) (by decide)).tq h)
  have qx := HT.out.b.h0.x
  clear h
  go_enter Tryd.func29, Tryd.ntmps29
  go_wp2_with fail
  refine (register_any B _).mono ?_
  rintro e w5 ⟨rfl, hb⟩
  replace HT := Lib.hid (HT.out.after hb)
  clear hb qx
  go_wp2_with fail
  refine (decide_any (HT.out.after (bel1 _ _)).a (by first | omega | (simp only [List.length_append, List.length_cons, List.length_nil]; omega))  _ [⟨1, B⟩] (pl1 _ _ _)).mono ?_
  rintro e W6 ⟨rfl, hA, hK⟩
  replace HT := Lib.hid ((HT.out.after (bel1 _ _)).give hA hK)
  clear hA hK
  go_wp2
  go_end0
  refine ⟨rfl, ?_, HT.out.k⟩
  have := HT.out.a
  simpa [on, rg] using this
set_option maxRecDepth 20000 in
theorem ahead_21 {N : Nat} {w : World} {T : Nat} {l : List Tch} (h : At N w T l) (hl : l.length ≤ 3) (s : Sta) (A B : Nat) (m : Int) (hA : A < 8) (hB : B < 8) :
    Calls Tryd.prog 29 #[.pointer (some ⟨T, 0, none⟩), .agg (xc s ⟨21, A, B, m⟩)] w fun e w' => e = .returned (.tuple #[]) ∧ At N w' T (l ++ [⟨on 0, [rg B]⟩]) ∧ Kp N w w' := by
  have HAt := Lib.hid h
  have HT := Lib.hid ((Pb.new w (x_ok s ⟨21, A, B, m⟩) (ty := 58) (by decide) (by decide)).tq h)
  have qx := HT.out.b.h0.x
  clear h
  go_enter Tryd.func29, Tryd.ntmps29
  go_wp2_with fail
  refine (register_any B _).mono ?_
  rintro e w5 ⟨rfl, hb⟩
  replace HT := Lib.hid (HT.out.after hb)
  clear hb qx
  go_wp2_with fail
  refine (decide_any (HT.out.after (bel1 _ _)).a (by first | omega | (simp only [List.length_append, List.length_cons, List.length_nil]; omega))  _ [⟨1, B⟩] (pl1 _ _ _)).mono ?_
  rintro e W6 ⟨rfl, hA, hK⟩
  replace HT := Lib.hid ((HT.out.after (bel1 _ _)).give hA hK)
  clear hA hK
  go_wp2
  go_end0
  refine ⟨rfl, ?_, HT.out.k⟩
  have := HT.out.a
  simpa [on, rg] using this
set_option maxRecDepth 20000 in
theorem ahead_23 {N : Nat} {w : World} {T : Nat} {l : List Tch} (h : At N w T l) (hl : l.length ≤ 3) (s : Sta) (A B : Nat) (m : Int) (hm : m ≠ 1) (hA : A < 8) (hB : B < 8) :
    Calls Tryd.prog 29 #[.pointer (some ⟨T, 0, none⟩), .agg (xc s ⟨23, A, B, m⟩)] w fun e w' => e = .returned (.tuple #[]) ∧ At N w' T (l ++ [⟨on 0, [rg A]⟩]) ∧ Kp N w w' := by
  have HAt := Lib.hid h
  have HT := Lib.hid ((Pb.new w (x_ok s ⟨23, A, B, m⟩) (ty := 58) (by decide) (by decide)).tq h)
  have qx := HT.out.b.h0.x
  clear h
  go_enter Tryd.func29, Tryd.ntmps29
  go_wp2_with fail
  refine (register_any A _).mono ?_
  rintro e w5 ⟨rfl, hb⟩
  replace HT := Lib.hid (HT.out.after hb)
  clear hb qx
  go_wp2_with fail
  refine (decide_any (HT.out.after (bel1 _ _)).a (by first | omega | (simp only [List.length_append, List.length_cons, List.length_nil]; omega))  _ [⟨1, A⟩] (pl1 _ _ _)).mono ?_
  rintro e W6 ⟨rfl, hA, hK⟩
  replace HT := Lib.hid ((HT.out.after (bel1 _ _)).give hA hK)
  clear hA hK
  go_wp2
  go_end0
  refine ⟨rfl, ?_, HT.out.k⟩
  have := HT.out.a
  simpa [on, rg] using this
set_option maxRecDepth 20000 in
theorem ahead_23n {N : Nat} {w : World} {T : Nat} {l : List Tch} (h : At N w T l) (hl : l.length ≤ 3) (s : Sta) (A B : Nat) (hA : A < 8) (hB : B < 8) :
    Calls Tryd.prog 29 #[.pointer (some ⟨T, 0, none⟩), .agg (xc s ⟨23, A, B, 1⟩)] w fun e w' => e = .returned (.tuple #[]) ∧ At N w' T (l ++ ([] : List Tch)) ∧ Kp N w w' := by
  have HAt := Lib.hid h
  have HT := Lib.hid ((Pb.new w (x_ok s ⟨23, A, B, 1⟩) (ty := 58) (by decide) (by decide)).tq h)
  have qx := HT.out.b.h0.x
  clear h
  go_enter Tryd.func29, Tryd.ntmps29
  go_wp2
  go_end0
  refine ⟨rfl, ?_, HT.out.k⟩
  have := HT.out.a
  simpa using this
set_option maxRecDepth 20000 in
theorem ahead_25 {N : Nat} {w : World} {T : Nat} {l : List Tch} (h : At N w T l) (hl : l.length ≤ 3) (s : Sta) (A B : Nat) (m : Int) (hA : A < 8) (hB : B < 8) :
    Calls Tryd.prog 29 #[.pointer (some ⟨T, 0, none⟩), .agg (xc s ⟨25, A, B, m⟩)] w fun e w' => e = .returned (.tuple #[]) ∧ At N w' T (l ++ [⟨on 0, [on 7]⟩]) ∧ Kp N w w' := by
  have HAt := Lib.hid h
  have HT := Lib.hid ((Pb.new w (x_ok s ⟨25, A, B, m⟩) (ty := 58) (by decide) (by decide)).tq h)
  have qx := HT.out.b.h0.x
  clear h
  go_enter Tryd.func29, Tryd.ntmps29
  go_wp2_with fail
  refine (alone_any 7 _).mono ?_
  rintro e w5 ⟨rfl, hb⟩
  replace HT := Lib.hid (HT.out.after hb)
  clear hb qx
  go_wp2_with fail
  refine (decide_any (HT.out.after (bel1 _ _)).a (by first | omega | (simp only [List.length_append, List.length_cons, List.length_nil]; omega))  _ [⟨7, 0⟩] (pl1 _ _ _)).mono ?_
  rintro e W6 ⟨rfl, hA, hK⟩
  replace HT := Lib.hid ((HT.out.after (bel1 _ _)).give hA hK)
  clear hA hK
  go_wp2
  go_end0
  refine ⟨rfl, ?_, HT.out.k⟩
  have := HT.out.a
  simpa [on] using this
set_option maxRecDepth 20000 in
theorem ahead_other {N : Nat} {w : World} {T : Nat} {l : List Tch} (h : At N w T l) (hl : l.length ≤ 3) (s : Sta) (op : Int) (h13 : op ≠ 13) (h14 : op ≠ 14) (h15 : op ≠ 15) (h16 : op ≠ 16) (h17 : op ≠ 17) (h18 : op ≠ 18) (h19 : op ≠ 19) (h21 : op ≠ 21) (h23 : op ≠ 23) (h25 : op ≠ 25) (A B : Nat) (m : Int) (hA : A < 8) (hB : B < 8) :
    Calls Tryd.prog 29 #[.pointer (some ⟨T, 0, none⟩), .agg (xc s ⟨op, A, B, m⟩)] w fun e w' => e = .returned (.tuple #[]) ∧ At N w' T (l ++ ([] : List Tch)) ∧ Kp N w w' := by
  have HAt := Lib.hid h
  have HT := Lib.hid ((Pb.new w (x_ok s ⟨op, A, B, m⟩) (ty := 58) (by decide) (by decide)).tq h)
  have qx := HT.out.b.h0.x
  clear h
  go_enter Tryd.func29, Tryd.ntmps29
  go_wp2
  go_end0
  refine ⟨rfl, ?_, HT.out.k⟩
  have := HT.out.a
  simpa using this
theorem ahead_any {N : Nat} {w : World} {T : Nat} {l : List Tch} (h : At N w T l) (hl : l.length ≤ 3) (s : Sta) (op : Int) (A B : Nat) (m : Int) (hA : A < 8) (hB : B < 8) :
    Calls Tryd.prog 29 #[.pointer (some ⟨T, 0, none⟩), .agg (xc s ⟨op, A, B, m⟩)] w fun e w' => e = .returned (.tuple #[]) ∧ At N w' T (l ++ aheadT ⟨op, A, B, m⟩) ∧ Kp N w w' := by
  unfold aheadT
  dsimp only
  split
  · rename_i h1
    obtain rfl | rfl | rfl | rfl | rfl : op = 13 ∨ op = 14 ∨ op = 15 ∨ op = 16 ∨ op = 21 := by omega
    · exact ahead_13 h hl s A B m hA hB
    · exact ahead_14 h hl s A B m hA hB
    · exact ahead_15 h hl s A B m hA hB
    · exact ahead_16 h hl s A B m hA hB
    · exact ahead_21 h hl s A B m hA hB
  split
  · rename_i h1
    obtain rfl | rfl | rfl : op = 17 ∨ op = 18 ∨ op = 19 := by omega
    · exact ahead_17 h hl s A B m hA hB
    · exact ahead_18 h hl s A B m hA hB
    · exact ahead_19 h hl s A B m hA hB
  split
  · rename_i h1; subst h1; exact ahead_25 h hl s A B m hA hB
  split
  · rename_i h1; obtain ⟨rfl, hm⟩ := h1; exact ahead_23 h hl s A B m hm hA hB
  · by_cases h23 : op = 23
    · subst h23
      obtain rfl : m = 1 := by omega
      exact ahead_23n h hl s A B hA hB
    · exact ahead_other h hl s op (by omega) (by omega) (by omega) (by omega) (by omega) (by omega) (by omega) (by omega) (by omega) (by omega) A B m hA hB
end Go.Proofs.YthjdfneibogcgaaDoor
