/-
  Layer 10: to, cause of a step, Status, Trap of package cpu: walks. Written by gen_step3.py.
-/
import Derived.Test.YthjdfneibogcgaaDoorStep2
namespace Go.Proofs.YthjdfneibogcgaaDoor
open Go.RowKit
set_option maxHeartbeats 8000000
set_option linter.unusedVariables false
set_option linter.unusedSimpArgs false

theorem to_17_true (s : Sta) (A B : Nat) (m : Int) (hA : A < 8) (hB : B < 8) (hs : s.Ok) (ht : takenS s ⟨17, A, B, m⟩ = true) (w : World) : Calls Tryd.prog 52 #[.agg (xc s ⟨17, A, B, m⟩)] w fun e w' => e = .returned (.int .u32 ((s.pc + 4 * immW m) % 4294967296)) ∧ Below w.heap.size w w' := by
  have HX := Lib.hid (Sx.new w s ⟨17, A, B, m⟩)
  have q := HX.out.r.x
  have HC := Lib.hid (taken_any s hs 17 (by simp) A B m hA hB (w.alloc (.cells (xc s ⟨17, A, B, m⟩) 58)))
  rw [ht] at HC
  clear ht
  go_enter Tryd.func52, Tryd.ntmps52
  go_wp2_with (first | ((with_reducible apply wp_load_R rowX); (exact HX.out.r); (rfl)))
  refine (HC.out).mono ?_
  rintro e w1 ⟨rfl, b1⟩
  have hX1 := HX.out.after b1
  replace HX := Lib.hid hX1
  clear b1 q hX1
  have hK0 := HX.out.drew
  go_wp2
  refine wp_region_held_drew (S := Sx w w.heap.size s ⟨17, A, B, m⟩) (by kernel_rfl) hK0 (fun _ => ?_)
  have hS := hK0
  refine take_d (i := 0) (d := some 19) (v := ?_) rfl rfl (by kernel_rfl) (by kernel_rfl) (by kernel_rfl) (fun _ _ _ h => h) (.inl ⟨by rfl, ?_⟩) hS ?_
  rotate_left
  · intro W hW
    go_simp
    try with_reducible rfl
  try simp only [Act.put, List.setIfInBounds_toArray, List.set_cons_zero, List.set_cons_succ]
  refine take_d (i := 1) (d := some 20) (v := ?_) rfl rfl (by kernel_rfl) (by kernel_rfl) (by kernel_rfl) (fun _ _ _ h => h) (.inl ⟨by rfl, ?_⟩) hS ?_
  rotate_left
  · intro W hW
    go_simp
    try with_reducible rfl
  try simp only [Act.put, List.setIfInBounds_toArray, List.set_cons_zero, List.set_cons_succ]
  refine take_d (i := 2) (d := some 21) (v := .int .u32 s.pc) rfl rfl (by kernel_rfl) (by kernel_rfl) (by kernel_rfl) (fun _ _ _ h => h) (.inl ⟨by kernel_rfl, fun W hW => by have q := hW.r.x; go_simp⟩) hS ?_
  try simp only [Act.put, List.setIfInBounds_toArray, List.set_cons_zero, List.set_cons_succ]
  refine take_d (i := 3) (d := some 22) (v := .agg (xc s ⟨17, A, B, m⟩)) rfl rfl (by kernel_rfl) (by kernel_rfl) (by kernel_rfl) (fun _ _ _ h => h) (y_R rowX (by kernel_rfl) rfl rfl (fun W hW => hW.r)) hS ?_
  try simp only [Act.put, List.setIfInBounds_toArray, List.set_cons_zero, List.set_cons_succ]
  refine wpAnyH_all (rs := [4]) (by kernel_rfl) (by simp) (fun i hi => ?_)
  simp only [List.mem_cons, List.not_mem_nil, or_false] at hi
  subst hi
  refine .inl ?_
  go_simp
  refine (imm_any s 17 A B m _).mono ?_
  rintro e wc ⟨rfl, hb⟩
  have hS := hS.after hb
  clear hb
  refine ⟨hS, ?_⟩
  try simp only [Act.put, List.setIfInBounds_toArray, List.set_cons_zero, List.set_cons_succ]
  refine wpAnyH_all (rs := [5]) (by kernel_rfl) (by simp) (fun i hi => ?_)
  simp only [List.mem_cons, List.not_mem_nil, or_false] at hi
  subst hi
  refine .inl ?_
  go_simp
  refine (Mul_any _ _ _).mono ?_
  rintro e wc ⟨rfl, rfl⟩
  refine ⟨hS, ?_⟩
  try simp only [Act.put, List.setIfInBounds_toArray, List.set_cons_zero, List.set_cons_succ]
  refine wpAnyH_all (rs := [6]) (by kernel_rfl) (by simp) (fun i hi => ?_)
  simp only [List.mem_cons, List.not_mem_nil, or_false] at hi
  subst hi
  refine .inl ?_
  go_simp
  refine (Add_any _ _ _).mono ?_
  rintro e wc ⟨rfl, rfl⟩
  refine ⟨hS, ?_⟩
  try simp only [Act.put, List.setIfInBounds_toArray, List.set_cons_zero, List.set_cons_succ]
  refine take_d (i := 7) (d := some 2) (v := ?_) rfl rfl (by kernel_rfl) (by kernel_rfl) (by kernel_rfl) (fun _ _ _ h => h) (.inl ⟨by rfl, ?_⟩) hS ?_
  rotate_left
  · intro W hW
    go_simp
    try with_reducible rfl
  try simp only [Act.put, List.setIfInBounds_toArray, List.set_cons_zero, List.set_cons_succ]
  refine wpAnyH_done (by kernel_rfl) ?_ _
  have HE := Lib.hid hS.b
  clear hS hK0
  go_wp2
  go_ret
  exact ⟨rfl, HE.out⟩

theorem to_17_false (s : Sta) (A B : Nat) (m : Int) (hA : A < 8) (hB : B < 8) (hs : s.Ok) (ht : takenS s ⟨17, A, B, m⟩ = false) (w : World) : Calls Tryd.prog 52 #[.agg (xc s ⟨17, A, B, m⟩)] w fun e w' => e = .returned (.int .u32 ((s.pc + 4) % 4294967296)) ∧ Below w.heap.size w w' := by
  have HX := Lib.hid (Sx.new w s ⟨17, A, B, m⟩)
  have q := HX.out.r.x
  have HC := Lib.hid (taken_any s hs 17 (by simp) A B m hA hB (w.alloc (.cells (xc s ⟨17, A, B, m⟩) 58)))
  rw [ht] at HC
  clear ht
  go_enter Tryd.func52, Tryd.ntmps52
  go_wp2_with (first | ((with_reducible apply wp_load_R rowX); (exact HX.out.r); (rfl)))
  refine (HC.out).mono ?_
  rintro e w1 ⟨rfl, b1⟩
  have hX1 := HX.out.after b1
  replace HX := Lib.hid hX1
  clear b1 q hX1
  go_wp2_with (first | ((with_reducible apply wp_load_R rowX); (exact HX.out.r); (rfl)))
  refine (next_any s _ _).mono ?_
  rintro e w2 ⟨rfl, b2⟩
  have HE := Lib.hid (HX.out.after b2).b
  clear b2
  go_wp2
  go_ret
  exact ⟨rfl, HE.out⟩

theorem to_18_true (s : Sta) (A B : Nat) (m : Int) (hA : A < 8) (hB : B < 8) (hs : s.Ok) (ht : takenS s ⟨18, A, B, m⟩ = true) (w : World) : Calls Tryd.prog 52 #[.agg (xc s ⟨18, A, B, m⟩)] w fun e w' => e = .returned (.int .u32 ((s.pc + 4 * immW m) % 4294967296)) ∧ Below w.heap.size w w' := by
  have HX := Lib.hid (Sx.new w s ⟨18, A, B, m⟩)
  have q := HX.out.r.x
  have HC := Lib.hid (taken_any s hs 18 (by simp) A B m hA hB (w.alloc (.cells (xc s ⟨18, A, B, m⟩) 58)))
  rw [ht] at HC
  clear ht
  go_enter Tryd.func52, Tryd.ntmps52
  go_wp2_with (first | ((with_reducible apply wp_load_R rowX); (exact HX.out.r); (rfl)))
  refine (HC.out).mono ?_
  rintro e w1 ⟨rfl, b1⟩
  have hX1 := HX.out.after b1
  replace HX := Lib.hid hX1
  clear b1 q hX1
  have hK0 := HX.out.drew
  go_wp2
  refine wp_region_held_drew (S := Sx w w.heap.size s ⟨18, A, B, m⟩) (by kernel_rfl) hK0 (fun _ => ?_)
  have hS := hK0
  refine take_d (i := 0) (d := some 19) (v := ?_) rfl rfl (by kernel_rfl) (by kernel_rfl) (by kernel_rfl) (fun _ _ _ h => h) (.inl ⟨by rfl, ?_⟩) hS ?_
  rotate_left
  · intro W hW
    go_simp
    try with_reducible rfl
  try simp only [Act.put, List.setIfInBounds_toArray, List.set_cons_zero, List.set_cons_succ]
  refine take_d (i := 1) (d := some 20) (v := ?_) rfl rfl (by kernel_rfl) (by kernel_rfl) (by kernel_rfl) (fun _ _ _ h => h) (.inl ⟨by rfl, ?_⟩) hS ?_
  rotate_left
  · intro W hW
    go_simp
    try with_reducible rfl
  try simp only [Act.put, List.setIfInBounds_toArray, List.set_cons_zero, List.set_cons_succ]
  refine take_d (i := 2) (d := some 21) (v := .int .u32 s.pc) rfl rfl (by kernel_rfl) (by kernel_rfl) (by kernel_rfl) (fun _ _ _ h => h) (.inl ⟨by kernel_rfl, fun W hW => by have q := hW.r.x; go_simp⟩) hS ?_
  try simp only [Act.put, List.setIfInBounds_toArray, List.set_cons_zero, List.set_cons_succ]
  refine take_d (i := 3) (d := some 22) (v := .agg (xc s ⟨18, A, B, m⟩)) rfl rfl (by kernel_rfl) (by kernel_rfl) (by kernel_rfl) (fun _ _ _ h => h) (y_R rowX (by kernel_rfl) rfl rfl (fun W hW => hW.r)) hS ?_
  try simp only [Act.put, List.setIfInBounds_toArray, List.set_cons_zero, List.set_cons_succ]
  refine wpAnyH_all (rs := [4]) (by kernel_rfl) (by simp) (fun i hi => ?_)
  simp only [List.mem_cons, List.not_mem_nil, or_false] at hi
  subst hi
  refine .inl ?_
  go_simp
  refine (imm_any s 18 A B m _).mono ?_
  rintro e wc ⟨rfl, hb⟩
  have hS := hS.after hb
  clear hb
  refine ⟨hS, ?_⟩
  try simp only [Act.put, List.setIfInBounds_toArray, List.set_cons_zero, List.set_cons_succ]
  refine wpAnyH_all (rs := [5]) (by kernel_rfl) (by simp) (fun i hi => ?_)
  simp only [List.mem_cons, List.not_mem_nil, or_false] at hi
  subst hi
  refine .inl ?_
  go_simp
  refine (Mul_any _ _ _).mono ?_
  rintro e wc ⟨rfl, rfl⟩
  refine ⟨hS, ?_⟩
  try simp only [Act.put, List.setIfInBounds_toArray, List.set_cons_zero, List.set_cons_succ]
  refine wpAnyH_all (rs := [6]) (by kernel_rfl) (by simp) (fun i hi => ?_)
  simp only [List.mem_cons, List.not_mem_nil, or_false] at hi
  subst hi
  refine .inl ?_
  go_simp
  refine (Add_any _ _ _).mono ?_
  rintro e wc ⟨rfl, rfl⟩
  refine ⟨hS, ?_⟩
  try simp only [Act.put, List.setIfInBounds_toArray, List.set_cons_zero, List.set_cons_succ]
  refine take_d (i := 7) (d := some 2) (v := ?_) rfl rfl (by kernel_rfl) (by kernel_rfl) (by kernel_rfl) (fun _ _ _ h => h) (.inl ⟨by rfl, ?_⟩) hS ?_
  rotate_left
  · intro W hW
    go_simp
    try with_reducible rfl
  try simp only [Act.put, List.setIfInBounds_toArray, List.set_cons_zero, List.set_cons_succ]
  refine wpAnyH_done (by kernel_rfl) ?_ _
  have HE := Lib.hid hS.b
  clear hS hK0
  go_wp2
  go_ret
  exact ⟨rfl, HE.out⟩

theorem to_18_false (s : Sta) (A B : Nat) (m : Int) (hA : A < 8) (hB : B < 8) (hs : s.Ok) (ht : takenS s ⟨18, A, B, m⟩ = false) (w : World) : Calls Tryd.prog 52 #[.agg (xc s ⟨18, A, B, m⟩)] w fun e w' => e = .returned (.int .u32 ((s.pc + 4) % 4294967296)) ∧ Below w.heap.size w w' := by
  have HX := Lib.hid (Sx.new w s ⟨18, A, B, m⟩)
  have q := HX.out.r.x
  have HC := Lib.hid (taken_any s hs 18 (by simp) A B m hA hB (w.alloc (.cells (xc s ⟨18, A, B, m⟩) 58)))
  rw [ht] at HC
  clear ht
  go_enter Tryd.func52, Tryd.ntmps52
  go_wp2_with (first | ((with_reducible apply wp_load_R rowX); (exact HX.out.r); (rfl)))
  refine (HC.out).mono ?_
  rintro e w1 ⟨rfl, b1⟩
  have hX1 := HX.out.after b1
  replace HX := Lib.hid hX1
  clear b1 q hX1
  go_wp2_with (first | ((with_reducible apply wp_load_R rowX); (exact HX.out.r); (rfl)))
  refine (next_any s _ _).mono ?_
  rintro e w2 ⟨rfl, b2⟩
  have HE := Lib.hid (HX.out.after b2).b
  clear b2
  go_wp2
  go_ret
  exact ⟨rfl, HE.out⟩

theorem to_19_true (s : Sta) (A B : Nat) (m : Int) (hA : A < 8) (hB : B < 8) (hs : s.Ok) (ht : takenS s ⟨19, A, B, m⟩ = true) (w : World) : Calls Tryd.prog 52 #[.agg (xc s ⟨19, A, B, m⟩)] w fun e w' => e = .returned (.int .u32 ((s.pc + 4 * immW m) % 4294967296)) ∧ Below w.heap.size w w' := by
  have HX := Lib.hid (Sx.new w s ⟨19, A, B, m⟩)
  have q := HX.out.r.x
  have HC := Lib.hid (taken_any s hs 19 (by simp) A B m hA hB (w.alloc (.cells (xc s ⟨19, A, B, m⟩) 58)))
  rw [ht] at HC
  clear ht
  go_enter Tryd.func52, Tryd.ntmps52
  go_wp2_with (first | ((with_reducible apply wp_load_R rowX); (exact HX.out.r); (rfl)))
  refine (HC.out).mono ?_
  rintro e w1 ⟨rfl, b1⟩
  have hX1 := HX.out.after b1
  replace HX := Lib.hid hX1
  clear b1 q hX1
  have hK0 := HX.out.drew
  go_wp2
  refine wp_region_held_drew (S := Sx w w.heap.size s ⟨19, A, B, m⟩) (by kernel_rfl) hK0 (fun _ => ?_)
  have hS := hK0
  refine take_d (i := 0) (d := some 19) (v := ?_) rfl rfl (by kernel_rfl) (by kernel_rfl) (by kernel_rfl) (fun _ _ _ h => h) (.inl ⟨by rfl, ?_⟩) hS ?_
  rotate_left
  · intro W hW
    go_simp
    try with_reducible rfl
  try simp only [Act.put, List.setIfInBounds_toArray, List.set_cons_zero, List.set_cons_succ]
  refine take_d (i := 1) (d := some 20) (v := ?_) rfl rfl (by kernel_rfl) (by kernel_rfl) (by kernel_rfl) (fun _ _ _ h => h) (.inl ⟨by rfl, ?_⟩) hS ?_
  rotate_left
  · intro W hW
    go_simp
    try with_reducible rfl
  try simp only [Act.put, List.setIfInBounds_toArray, List.set_cons_zero, List.set_cons_succ]
  refine take_d (i := 2) (d := some 21) (v := .int .u32 s.pc) rfl rfl (by kernel_rfl) (by kernel_rfl) (by kernel_rfl) (fun _ _ _ h => h) (.inl ⟨by kernel_rfl, fun W hW => by have q := hW.r.x; go_simp⟩) hS ?_
  try simp only [Act.put, List.setIfInBounds_toArray, List.set_cons_zero, List.set_cons_succ]
  refine take_d (i := 3) (d := some 22) (v := .agg (xc s ⟨19, A, B, m⟩)) rfl rfl (by kernel_rfl) (by kernel_rfl) (by kernel_rfl) (fun _ _ _ h => h) (y_R rowX (by kernel_rfl) rfl rfl (fun W hW => hW.r)) hS ?_
  try simp only [Act.put, List.setIfInBounds_toArray, List.set_cons_zero, List.set_cons_succ]
  refine wpAnyH_all (rs := [4]) (by kernel_rfl) (by simp) (fun i hi => ?_)
  simp only [List.mem_cons, List.not_mem_nil, or_false] at hi
  subst hi
  refine .inl ?_
  go_simp
  refine (imm_any s 19 A B m _).mono ?_
  rintro e wc ⟨rfl, hb⟩
  have hS := hS.after hb
  clear hb
  refine ⟨hS, ?_⟩
  try simp only [Act.put, List.setIfInBounds_toArray, List.set_cons_zero, List.set_cons_succ]
  refine wpAnyH_all (rs := [5]) (by kernel_rfl) (by simp) (fun i hi => ?_)
  simp only [List.mem_cons, List.not_mem_nil, or_false] at hi
  subst hi
  refine .inl ?_
  go_simp
  refine (Mul_any _ _ _).mono ?_
  rintro e wc ⟨rfl, rfl⟩
  refine ⟨hS, ?_⟩
  try simp only [Act.put, List.setIfInBounds_toArray, List.set_cons_zero, List.set_cons_succ]
  refine wpAnyH_all (rs := [6]) (by kernel_rfl) (by simp) (fun i hi => ?_)
  simp only [List.mem_cons, List.not_mem_nil, or_false] at hi
  subst hi
  refine .inl ?_
  go_simp
  refine (Add_any _ _ _).mono ?_
  rintro e wc ⟨rfl, rfl⟩
  refine ⟨hS, ?_⟩
  try simp only [Act.put, List.setIfInBounds_toArray, List.set_cons_zero, List.set_cons_succ]
  refine take_d (i := 7) (d := some 2) (v := ?_) rfl rfl (by kernel_rfl) (by kernel_rfl) (by kernel_rfl) (fun _ _ _ h => h) (.inl ⟨by rfl, ?_⟩) hS ?_
  rotate_left
  · intro W hW
    go_simp
    try with_reducible rfl
  try simp only [Act.put, List.setIfInBounds_toArray, List.set_cons_zero, List.set_cons_succ]
  refine wpAnyH_done (by kernel_rfl) ?_ _
  have HE := Lib.hid hS.b
  clear hS hK0
  go_wp2
  go_ret
  exact ⟨rfl, HE.out⟩

theorem to_19_false (s : Sta) (A B : Nat) (m : Int) (hA : A < 8) (hB : B < 8) (hs : s.Ok) (ht : takenS s ⟨19, A, B, m⟩ = false) (w : World) : Calls Tryd.prog 52 #[.agg (xc s ⟨19, A, B, m⟩)] w fun e w' => e = .returned (.int .u32 ((s.pc + 4) % 4294967296)) ∧ Below w.heap.size w w' := by
  have HX := Lib.hid (Sx.new w s ⟨19, A, B, m⟩)
  have q := HX.out.r.x
  have HC := Lib.hid (taken_any s hs 19 (by simp) A B m hA hB (w.alloc (.cells (xc s ⟨19, A, B, m⟩) 58)))
  rw [ht] at HC
  clear ht
  go_enter Tryd.func52, Tryd.ntmps52
  go_wp2_with (first | ((with_reducible apply wp_load_R rowX); (exact HX.out.r); (rfl)))
  refine (HC.out).mono ?_
  rintro e w1 ⟨rfl, b1⟩
  have hX1 := HX.out.after b1
  replace HX := Lib.hid hX1
  clear b1 q hX1
  go_wp2_with (first | ((with_reducible apply wp_load_R rowX); (exact HX.out.r); (rfl)))
  refine (next_any s _ _).mono ?_
  rintro e w2 ⟨rfl, b2⟩
  have HE := Lib.hid (HX.out.after b2).b
  clear b2
  go_wp2
  go_ret
  exact ⟨rfl, HE.out⟩

theorem to_20 (s : Sta) (A B : Nat) (m : Int) (hA : A < 8) (hB : B < 8) (w : World) : Calls Tryd.prog 52 #[.agg (xc s ⟨20, A, B, m⟩)] w fun e w' => e = .returned (.int .u32 ((s.pc + 4 * immW m) % 4294967296)) ∧ Below w.heap.size w w' := by
  have HX := Lib.hid (Sx.new w s ⟨20, A, B, m⟩)
  have q := HX.out.r.x
  go_enter Tryd.func52, Tryd.ntmps52
  have hK0 := HX.out.drew
  go_wp2
  refine wp_region_held_drew (S := Sx w w.heap.size s ⟨20, A, B, m⟩) (by kernel_rfl) hK0 (fun _ => ?_)
  have hS := hK0
  refine take_d (i := 0) (d := some 19) (v := ?_) rfl rfl (by kernel_rfl) (by kernel_rfl) (by kernel_rfl) (fun _ _ _ h => h) (.inl ⟨by rfl, ?_⟩) hS ?_
  rotate_left
  · intro W hW
    go_simp
    try with_reducible rfl
  try simp only [Act.put, List.setIfInBounds_toArray, List.set_cons_zero, List.set_cons_succ]
  refine take_d (i := 1) (d := some 20) (v := ?_) rfl rfl (by kernel_rfl) (by kernel_rfl) (by kernel_rfl) (fun _ _ _ h => h) (.inl ⟨by rfl, ?_⟩) hS ?_
  rotate_left
  · intro W hW
    go_simp
    try with_reducible rfl
  try simp only [Act.put, List.setIfInBounds_toArray, List.set_cons_zero, List.set_cons_succ]
  refine take_d (i := 2) (d := some 21) (v := .int .u32 s.pc) rfl rfl (by kernel_rfl) (by kernel_rfl) (by kernel_rfl) (fun _ _ _ h => h) (.inl ⟨by kernel_rfl, fun W hW => by have q := hW.r.x; go_simp⟩) hS ?_
  try simp only [Act.put, List.setIfInBounds_toArray, List.set_cons_zero, List.set_cons_succ]
  refine take_d (i := 3) (d := some 22) (v := .agg (xc s ⟨20, A, B, m⟩)) rfl rfl (by kernel_rfl) (by kernel_rfl) (by kernel_rfl) (fun _ _ _ h => h) (y_R rowX (by kernel_rfl) rfl rfl (fun W hW => hW.r)) hS ?_
  try simp only [Act.put, List.setIfInBounds_toArray, List.set_cons_zero, List.set_cons_succ]
  refine wpAnyH_all (rs := [4]) (by kernel_rfl) (by simp) (fun i hi => ?_)
  simp only [List.mem_cons, List.not_mem_nil, or_false] at hi
  subst hi
  refine .inl ?_
  go_simp
  refine (imm_any s 20 A B m _).mono ?_
  rintro e wc ⟨rfl, hb⟩
  have hS := hS.after hb
  clear hb
  refine ⟨hS, ?_⟩
  try simp only [Act.put, List.setIfInBounds_toArray, List.set_cons_zero, List.set_cons_succ]
  refine wpAnyH_all (rs := [5]) (by kernel_rfl) (by simp) (fun i hi => ?_)
  simp only [List.mem_cons, List.not_mem_nil, or_false] at hi
  subst hi
  refine .inl ?_
  go_simp
  refine (Mul_any _ _ _).mono ?_
  rintro e wc ⟨rfl, rfl⟩
  refine ⟨hS, ?_⟩
  try simp only [Act.put, List.setIfInBounds_toArray, List.set_cons_zero, List.set_cons_succ]
  refine wpAnyH_all (rs := [6]) (by kernel_rfl) (by simp) (fun i hi => ?_)
  simp only [List.mem_cons, List.not_mem_nil, or_false] at hi
  subst hi
  refine .inl ?_
  go_simp
  refine (Add_any _ _ _).mono ?_
  rintro e wc ⟨rfl, rfl⟩
  refine ⟨hS, ?_⟩
  try simp only [Act.put, List.setIfInBounds_toArray, List.set_cons_zero, List.set_cons_succ]
  refine take_d (i := 7) (d := some 2) (v := ?_) rfl rfl (by kernel_rfl) (by kernel_rfl) (by kernel_rfl) (fun _ _ _ h => h) (.inl ⟨by rfl, ?_⟩) hS ?_
  rotate_left
  · intro W hW
    go_simp
    try with_reducible rfl
  try simp only [Act.put, List.setIfInBounds_toArray, List.set_cons_zero, List.set_cons_succ]
  refine wpAnyH_done (by kernel_rfl) ?_ _
  have HE := Lib.hid hS.b
  clear hS hK0 q
  go_wp2
  go_ret
  exact ⟨rfl, HE.out⟩

theorem to_21 (s : Sta) (A B : Nat) (m : Int) (hA : A < 8) (hB : B < 8) (w : World) : Calls Tryd.prog 52 #[.agg (xc s ⟨21, A, B, m⟩)] w fun e w' => e = .returned (.int .u32 (s.r B)) ∧ Below w.heap.size w w' := by
  have HX := Lib.hid (Sx.new w s ⟨21, A, B, m⟩)
  have q := HX.out.r.x
  go_enter Tryd.func52, Tryd.ntmps52
  go_wp2_with (first | ((with_reducible apply wp_load_R rowX); (exact HX.out.r); (rfl)))
  refine (sb_any s 21 A B m hB _).mono ?_
  rintro e w2 ⟨rfl, b2⟩
  have HE := Lib.hid (HX.out.after b2).b
  clear b2 q
  go_wp2
  go_ret
  exact ⟨rfl, HE.out⟩

theorem to_25 (s : Sta) (A B : Nat) (m : Int) (hA : A < 8) (hB : B < 8) (w : World) : Calls Tryd.prog 52 #[.agg (xc s ⟨25, A, B, m⟩)] w fun e w' => e = .returned (.int .u32 (s.epc)) ∧ Below w.heap.size w w' := by
  have HX := Lib.hid (Sx.new w s ⟨25, A, B, m⟩)
  have q := HX.out.r.x
  go_enter Tryd.func52, Tryd.ntmps52
  go_wp2
  go_ret
  exact ⟨rfl, HX.out.b⟩

theorem to_other (s : Sta) (op : Int) (h1 : op ≠ 17) (h2 : op ≠ 18) (h3 : op ≠ 19) (h4 : op ≠ 20) (h5 : op ≠ 21) (h6 : op ≠ 25) (A B : Nat) (m : Int) (hA : A < 8) (hB : B < 8) (w : World) : Calls Tryd.prog 52 #[.agg (xc s ⟨op, A, B, m⟩)] w fun e w' => e = .returned (.int .u32 ((s.pc + 4) % 4294967296)) ∧ Below w.heap.size w w' := by
  have HX := Lib.hid (Sx.new w s ⟨op, A, B, m⟩)
  have q := HX.out.r.x
  go_enter Tryd.func52, Tryd.ntmps52
  go_wp2_with (first | ((with_reducible apply wp_load_R rowX); (exact HX.out.r); (rfl)))
  refine (next_any s ⟨op, A, B, m⟩ _).mono ?_
  rintro e w2 ⟨rfl, b2⟩
  have HE := Lib.hid (HX.out.after b2).b
  clear b2
  go_wp2
  go_ret
  exact ⟨rfl, HE.out⟩

theorem to_any (s : Sta) (hs : s.Ok) (op : Int) (A B : Nat) (m : Int) (hA : A < 8) (hB : B < 8) (w : World) : Calls Tryd.prog 52 #[.agg (xc s ⟨op, A, B, m⟩)] w fun e w' => e = .returned (.int .u32 (toS s ⟨op, A, B, m⟩)) ∧ Below w.heap.size w w' := by
  by_cases h1 : op = 17
  · subst h1
    cases ht : takenS s ⟨17, A, B, m⟩ with
    | true => have e : toS s ⟨17, A, B, m⟩ = (s.pc + 4 * immW m) % 4294967296 := by simp [toS, ht]
              rw [e]; exact to_17_true s A B m hA hB hs ht w
    | false => have e : toS s ⟨17, A, B, m⟩ = (s.pc + 4) % 4294967296 := by simp [toS, ht]
               rw [e]; exact to_17_false s A B m hA hB hs ht w
  by_cases h2 : op = 18
  · subst h2
    cases ht : takenS s ⟨18, A, B, m⟩ with
    | true => have e : toS s ⟨18, A, B, m⟩ = (s.pc + 4 * immW m) % 4294967296 := by simp [toS, ht]
              rw [e]; exact to_18_true s A B m hA hB hs ht w
    | false => have e : toS s ⟨18, A, B, m⟩ = (s.pc + 4) % 4294967296 := by simp [toS, ht]
               rw [e]; exact to_18_false s A B m hA hB hs ht w
  by_cases h3 : op = 19
  · subst h3
    cases ht : takenS s ⟨19, A, B, m⟩ with
    | true => have e : toS s ⟨19, A, B, m⟩ = (s.pc + 4 * immW m) % 4294967296 := by simp [toS, ht]
              rw [e]; exact to_19_true s A B m hA hB hs ht w
    | false => have e : toS s ⟨19, A, B, m⟩ = (s.pc + 4) % 4294967296 := by simp [toS, ht]
               rw [e]; exact to_19_false s A B m hA hB hs ht w
  by_cases h4 : op = 20
  · subst h4
    have e : toS s ⟨20, A, B, m⟩ = (s.pc + 4 * immW m) % 4294967296 := by simp [toS, takenS]
    rw [e]; exact to_20 s A B m hA hB w
  by_cases h5 : op = 21
  · subst h5
    have e : toS s ⟨21, A, B, m⟩ = s.r B := by simp [toS, takenS]
    rw [e]; exact to_21 s A B m hA hB w
  by_cases h6 : op = 25
  · subst h6
    have e : toS s ⟨25, A, B, m⟩ = s.epc := by simp [toS, takenS]
    rw [e]; exact to_25 s A B m hA hB w
  have e : toS s ⟨op, A, B, m⟩ = (s.pc + 4) % 4294967296 := by simp [toS, takenS, h1, h2, h3, h4, h5, h6]
  rw [e]; exact to_other s op h1 h2 h3 h4 h5 h6 A B m hA hB w
end Go.Proofs.YthjdfneibogcgaaDoor
