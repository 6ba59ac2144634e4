/-
  Layer 10: address, taken, to of a step: walks. Written by gen_step2.py.
-/
import Derived.Test.YthjdfneibogcgaaDoorStep
namespace Go.Proofs.YthjdfneibogcgaaDoor
open Go.RowKit
set_option maxHeartbeats 8000000
set_option linter.unusedVariables false
set_option linter.unusedSimpArgs false

/-- A step lies in its block. -/
structure Sx (w : World) (R : Nat) (s : Sta) (i : Ins) (W : World) : Prop where
  r : Rf 58 20 W R (xc s i)
  b : Below w.heap.size w W
theorem Sx.new (w : World) (s : Sta) (i : Ins) : Sx w w.heap.size s i (w.alloc (.cells (xc s i) 58)) := ⟨rx_new w s i, bel1 _ _⟩
theorem Sx.after {w W W' : World} {R : Nat} {s : Sta} {i : Ins} (h : Sx w R s i W) (hb : Below W.heap.size W W') : Sx w R s i W' := ⟨h.r.below hb, h.b.trans (hb.mono h.b.size)⟩
theorem Sx.drew {w W : World} {R : Nat} {s : Sta} {i : Ins} (h : Sx w R s i W) : Sx w R s i W.drew := h.after (Below.refl _ _).drew
theorem immW_w32 (m : Int) : W32 (immW m) := by unfold immW W32; omega

theorem address_any (s : Sta) (op : Int) (A B : Nat) (m : Int) (hB : B < 8) (w : World) : Calls Tryd.prog 49 #[.agg (xc s ⟨op, A, B, m⟩)] w fun e w' => e = .returned (.int .u32 (addr s ⟨op, A, B, m⟩)) ∧ Below w.heap.size w w' := by
  have hK0 := (Sx.new w s ⟨op, A, B, m⟩).drew
  go_enter Tryd.func49, Tryd.ntmps49
  go_wp2
  refine wp_region_held_drew (S := Sx w w.heap.size s ⟨op, A, B, m⟩) (by kernel_rfl) hK0 (fun _ => ?_)
  have hS := hK0
  refine take_d (i := 0) (d := some 3) (v := .agg (xc s ⟨op, A, B, m⟩)) rfl rfl (by kernel_rfl) (by kernel_rfl) (by kernel_rfl) (fun _ _ _ h => h) (y_R rowX (by kernel_rfl) rfl rfl (fun W hW => hW.r)) hS ?_
  try simp only [Act.put, List.setIfInBounds_toArray, List.set_cons_zero, List.set_cons_succ]
  refine take_d (i := 2) (d := some 5) (v := .agg (xc s ⟨op, A, B, m⟩)) rfl rfl (by kernel_rfl) (by kernel_rfl) (by kernel_rfl) (fun _ _ _ h => h) (y_R rowX (by kernel_rfl) rfl rfl (fun W hW => hW.r)) hS ?_
  try simp only [Act.put, List.setIfInBounds_toArray, List.set_cons_zero, List.set_cons_succ]
  refine wpAnyH_all (rs := [1]) (by kernel_rfl) (by simp) (fun i hi => ?_)
  simp only [List.mem_cons, List.not_mem_nil, or_false] at hi
  subst hi
  refine .inl ?_
  go_simp
  refine (sb_any s op A B m hB _).mono ?_
  rintro e wc ⟨rfl, hb⟩
  have hS := hS.after hb
  clear hb
  refine ⟨hS, ?_⟩
  try simp only [Act.put, List.setIfInBounds_toArray, List.set_cons_zero, List.set_cons_succ]
  refine wpAnyH_all (rs := [3]) (by kernel_rfl) (by simp) (fun i hi => ?_)
  simp only [List.mem_cons, List.not_mem_nil, or_false] at hi
  subst hi
  refine .inl ?_
  go_simp
  refine (imm_any s op A B m _).mono ?_
  rintro e wc ⟨rfl, hb⟩
  have hS := hS.after hb
  clear hb
  refine ⟨hS, ?_⟩
  try simp only [Act.put, List.setIfInBounds_toArray, List.set_cons_zero, List.set_cons_succ]
  refine wpAnyH_all (rs := [4]) (by kernel_rfl) (by simp) (fun i hi => ?_)
  simp only [List.mem_cons, List.not_mem_nil, or_false] at hi
  subst hi
  refine .inl ?_
  go_simp
  refine (Add_any _ _ _).mono ?_
  rintro e wc ⟨rfl, rfl⟩
  refine ⟨hS, ?_⟩
  try simp only [Act.put, List.setIfInBounds_toArray, List.set_cons_zero, List.set_cons_succ]
  refine take_d (i := 5) (d := some 2) (v := ?_) rfl rfl (by kernel_rfl) (by kernel_rfl) (by kernel_rfl) (fun _ _ _ h => h) (.inl ⟨by rfl, ?_⟩) hS ?_
  rotate_left
  · intro W hW
    go_simp
    try with_reducible rfl
  try simp only [Act.put, List.setIfInBounds_toArray, List.set_cons_zero, List.set_cons_succ]
  refine wpAnyH_done (by kernel_rfl) ?_ _
  have HE := Lib.hid hS.b
  clear hS hK0
  go_wp2
  go_ret
  exact ⟨rfl, HE.out⟩

theorem taken_eq (s : Sta) (A B : Nat) (m : Int) (hA : A < 8) (hB : B < 8) (w : World) : Calls Tryd.prog 70 #[.agg (xc s ⟨17, A, B, m⟩)] w fun e w' => e = .returned (.bool (decide (s.r A = s.r B))) ∧ Below w.heap.size w w' := by
  have hK0 := (Sx.new w s ⟨17, A, B, m⟩).drew
  have q := (Sx.new w s ⟨17, A, B, m⟩).r.x
  go_enter Tryd.func70, Tryd.ntmps70
  go_wp2
  refine wp_region_held_drew (S := Sx w w.heap.size s ⟨17, A, B, m⟩) (by kernel_rfl) hK0 (fun _ => ?_)
  have hS := hK0
  refine take_d (i := 0) (d := some 8) (v := .agg (xc s ⟨17, A, B, m⟩)) rfl rfl (by kernel_rfl) (by kernel_rfl) (by kernel_rfl) (fun _ _ _ h => h) (y_R rowX (by kernel_rfl) rfl rfl (fun W hW => hW.r)) hS ?_
  try simp only [Act.put, List.setIfInBounds_toArray, List.set_cons_zero, List.set_cons_succ]
  refine take_d (i := 2) (d := some 10) (v := .agg (xc s ⟨17, A, B, m⟩)) rfl rfl (by kernel_rfl) (by kernel_rfl) (by kernel_rfl) (fun _ _ _ h => h) (y_R rowX (by kernel_rfl) rfl rfl (fun W hW => hW.r)) hS ?_
  try simp only [Act.put, List.setIfInBounds_toArray, List.set_cons_zero, List.set_cons_succ]
  refine wpAnyH_all (rs := [1]) (by kernel_rfl) (by simp) (fun i hi => ?_)
  simp only [List.mem_cons, List.not_mem_nil, or_false] at hi
  subst hi
  refine .inl ?_
  go_simp
  refine (sa_any s 17 A B m hA _).mono ?_
  rintro e wc ⟨rfl, hb⟩
  have hS := hS.after hb
  clear hb
  refine ⟨hS, ?_⟩
  try simp only [Act.put, List.setIfInBounds_toArray, List.set_cons_zero, List.set_cons_succ]
  refine wpAnyH_all (rs := [3]) (by kernel_rfl) (by simp) (fun i hi => ?_)
  simp only [List.mem_cons, List.not_mem_nil, or_false] at hi
  subst hi
  refine .inl ?_
  go_simp
  refine (sb_any s 17 A B m hB _).mono ?_
  rintro e wc ⟨rfl, hb⟩
  have hS := hS.after hb
  clear hb
  refine ⟨hS, ?_⟩
  try simp only [Act.put, List.setIfInBounds_toArray, List.set_cons_zero, List.set_cons_succ]
  refine take_d (i := 4) (d := some 12) (v := ?_) rfl rfl (by kernel_rfl) (by kernel_rfl) (by kernel_rfl) (fun _ _ _ h => h) (.inl ⟨by rfl, ?_⟩) hS ?_
  rotate_left
  · intro W hW
    go_simp
    try with_reducible rfl
  try simp only [Act.put, List.setIfInBounds_toArray, List.set_cons_zero, List.set_cons_succ]
  refine take_d (i := 5) (d := some 2) (v := ?_) rfl rfl (by kernel_rfl) (by kernel_rfl) (by kernel_rfl) (fun _ _ _ h => h) (.inl ⟨by rfl, ?_⟩) hS ?_
  rotate_left
  · intro W hW
    go_simp
    try with_reducible rfl
  try simp only [Act.put, List.setIfInBounds_toArray, List.set_cons_zero, List.set_cons_succ]
  refine wpAnyH_done (by kernel_rfl) ?_ _
  have HE := Lib.hid hS.b
  clear hS hK0 q
  go_wp2
  go_ret
  exact ⟨rfl, HE.out⟩
theorem taken_ne (s : Sta) (A B : Nat) (m : Int) (hA : A < 8) (hB : B < 8) (w : World) : Calls Tryd.prog 70 #[.agg (xc s ⟨18, A, B, m⟩)] w fun e w' => e = .returned (.bool (decide (s.r A ≠ s.r B))) ∧ Below w.heap.size w w' := by
  have hK0 := (Sx.new w s ⟨18, A, B, m⟩).drew
  have q := (Sx.new w s ⟨18, A, B, m⟩).r.x
  go_enter Tryd.func70, Tryd.ntmps70
  go_wp2
  refine wp_region_held_drew (S := Sx w w.heap.size s ⟨18, A, B, m⟩) (by kernel_rfl) hK0 (fun _ => ?_)
  have hS := hK0
  refine take_d (i := 0) (d := some 15) (v := .agg (xc s ⟨18, A, B, m⟩)) rfl rfl (by kernel_rfl) (by kernel_rfl) (by kernel_rfl) (fun _ _ _ h => h) (y_R rowX (by kernel_rfl) rfl rfl (fun W hW => hW.r)) hS ?_
  try simp only [Act.put, List.setIfInBounds_toArray, List.set_cons_zero, List.set_cons_succ]
  refine take_d (i := 2) (d := some 17) (v := .agg (xc s ⟨18, A, B, m⟩)) rfl rfl (by kernel_rfl) (by kernel_rfl) (by kernel_rfl) (fun _ _ _ h => h) (y_R rowX (by kernel_rfl) rfl rfl (fun W hW => hW.r)) hS ?_
  try simp only [Act.put, List.setIfInBounds_toArray, List.set_cons_zero, List.set_cons_succ]
  refine wpAnyH_all (rs := [1]) (by kernel_rfl) (by simp) (fun i hi => ?_)
  simp only [List.mem_cons, List.not_mem_nil, or_false] at hi
  subst hi
  refine .inl ?_
  go_simp
  refine (sa_any s 18 A B m hA _).mono ?_
  rintro e wc ⟨rfl, hb⟩
  have hS := hS.after hb
  clear hb
  refine ⟨hS, ?_⟩
  try simp only [Act.put, List.setIfInBounds_toArray, List.set_cons_zero, List.set_cons_succ]
  refine wpAnyH_all (rs := [3]) (by kernel_rfl) (by simp) (fun i hi => ?_)
  simp only [List.mem_cons, List.not_mem_nil, or_false] at hi
  subst hi
  refine .inl ?_
  go_simp
  refine (sb_any s 18 A B m hB _).mono ?_
  rintro e wc ⟨rfl, hb⟩
  have hS := hS.after hb
  clear hb
  refine ⟨hS, ?_⟩
  try simp only [Act.put, List.setIfInBounds_toArray, List.set_cons_zero, List.set_cons_succ]
  refine take_d (i := 4) (d := some 19) (v := ?_) rfl rfl (by kernel_rfl) (by kernel_rfl) (by kernel_rfl) (fun _ _ _ h => h) (.inl ⟨by rfl, ?_⟩) hS ?_
  rotate_left
  · intro W hW
    go_simp
    try with_reducible rfl
  try simp only [Act.put, List.setIfInBounds_toArray, List.set_cons_zero, List.set_cons_succ]
  refine take_d (i := 5) (d := some 2) (v := ?_) rfl rfl (by kernel_rfl) (by kernel_rfl) (by kernel_rfl) (fun _ _ _ h => h) (.inl ⟨by rfl, ?_⟩) hS ?_
  rotate_left
  · intro W hW
    go_simp
    try with_reducible rfl
  try simp only [Act.put, List.setIfInBounds_toArray, List.set_cons_zero, List.set_cons_succ]
  refine wpAnyH_done (by kernel_rfl) ?_ _
  have HE := Lib.hid hS.b
  clear hS hK0 q
  go_wp2
  go_ret
  exact ⟨by by_cases h : s.r A = s.r B <;> simp [h], HE.out⟩
theorem taken_lt (s : Sta) (hs : s.Ok) (A B : Nat) (m : Int) (hA : A < 8) (hB : B < 8) (w : World) : Calls Tryd.prog 70 #[.agg (xc s ⟨19, A, B, m⟩)] w fun e w' => e = .returned (.bool (decide (sgn (s.r A) < sgn (s.r B)))) ∧ Below w.heap.size w w' := by
  have hK0 := (Sx.new w s ⟨19, A, B, m⟩).drew
  have q := (Sx.new w s ⟨19, A, B, m⟩).r.x
  go_enter Tryd.func70, Tryd.ntmps70
  go_wp2
  refine wp_region_held_drew (S := Sx w w.heap.size s ⟨19, A, B, m⟩) (by kernel_rfl) hK0 (fun _ => ?_)
  have hS := hK0
  refine take_d (i := 0) (d := some 20) (v := .agg (xc s ⟨19, A, B, m⟩)) rfl rfl (by kernel_rfl) (by kernel_rfl) (by kernel_rfl) (fun _ _ _ h => h) (y_R rowX (by kernel_rfl) rfl rfl (fun W hW => hW.r)) hS ?_
  try simp only [Act.put, List.setIfInBounds_toArray, List.set_cons_zero, List.set_cons_succ]
  refine take_d (i := 2) (d := some 22) (v := .agg (xc s ⟨19, A, B, m⟩)) rfl rfl (by kernel_rfl) (by kernel_rfl) (by kernel_rfl) (fun _ _ _ h => h) (y_R rowX (by kernel_rfl) rfl rfl (fun W hW => hW.r)) hS ?_
  try simp only [Act.put, List.setIfInBounds_toArray, List.set_cons_zero, List.set_cons_succ]
  refine wpAnyH_all (rs := [1]) (by kernel_rfl) (by simp) (fun i hi => ?_)
  simp only [List.mem_cons, List.not_mem_nil, or_false] at hi
  subst hi
  refine .inl ?_
  go_simp
  refine (sa_any s 19 A B m hA _).mono ?_
  rintro e wc ⟨rfl, hb⟩
  have hS := hS.after hb
  clear hb
  refine ⟨hS, ?_⟩
  try simp only [Act.put, List.setIfInBounds_toArray, List.set_cons_zero, List.set_cons_succ]
  refine wpAnyH_all (rs := [3]) (by kernel_rfl) (by simp) (fun i hi => ?_)
  simp only [List.mem_cons, List.not_mem_nil, or_false] at hi
  subst hi
  refine .inl ?_
  go_simp
  refine (sb_any s 19 A B m hB _).mono ?_
  rintro e wc ⟨rfl, hb⟩
  have hS := hS.after hb
  clear hb
  refine ⟨hS, ?_⟩
  try simp only [Act.put, List.setIfInBounds_toArray, List.set_cons_zero, List.set_cons_succ]
  refine wpAnyH_all (rs := [4]) (by kernel_rfl) (by simp) (fun i hi => ?_)
  simp only [List.mem_cons, List.not_mem_nil, or_false] at hi
  subst hi
  refine .inl ?_
  go_simp
  refine (Less_any _ _ (hs.r A) (hs.r B) _).mono ?_
  rintro e wc ⟨rfl, rfl⟩
  refine ⟨hS, ?_⟩
  try simp only [Act.put, List.setIfInBounds_toArray, List.set_cons_zero, List.set_cons_succ]
  refine take_d (i := 5) (d := some 2) (v := ?_) rfl rfl (by kernel_rfl) (by kernel_rfl) (by kernel_rfl) (fun _ _ _ h => h) (.inl ⟨by rfl, ?_⟩) hS ?_
  rotate_left
  · intro W hW
    go_simp
    try with_reducible rfl
  try simp only [Act.put, List.setIfInBounds_toArray, List.set_cons_zero, List.set_cons_succ]
  refine wpAnyH_done (by kernel_rfl) ?_ _
  have HE := Lib.hid hS.b
  clear hS hK0 q
  go_wp2
  go_ret
  exact ⟨rfl, HE.out⟩
/-- .. of a branch. -/
theorem taken_any (s : Sta) (hs : s.Ok) (op : Int) (ho : op = 17 ∨ op = 18 ∨ op = 19) (A B : Nat) (m : Int) (hA : A < 8) (hB : B < 8) (w : World) : Calls Tryd.prog 70 #[.agg (xc s ⟨op, A, B, m⟩)] w fun e w' => e = .returned (.bool (takenS s ⟨op, A, B, m⟩)) ∧ Below w.heap.size w w' := by
  rcases ho with rfl | rfl | rfl
  · exact taken_eq s A B m hA hB w
  · exact taken_ne s A B m hA hB w
  · exact taken_lt s hs A B m hA hB w
end Go.Proofs.YthjdfneibogcgaaDoor
