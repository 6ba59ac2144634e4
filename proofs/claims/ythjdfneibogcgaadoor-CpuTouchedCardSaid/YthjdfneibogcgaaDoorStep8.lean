/-
  Layer 10: what a step wants: walks. Written by gen_step8.py.
-/
import Derived.Test.YthjdfneibogcgaaDoorStep5
namespace Go.Proofs.YthjdfneibogcgaaDoor
open Go.RowKit
set_option maxHeartbeats 8000000
set_option linter.unusedVariables false
set_option linter.unusedSimpArgs false

/-- A step lies in its block, another block behind it. -/
structure S2 (w : World) (s : Sta) (i : Ins) (ty : TypeId) (n : Nat) (c : Array Value) (W : World) : Prop where
  r : Rf 58 20 W w.heap.size (xc s i)
  t : Rf ty n W (w.heap.size + 1) c
  b : Below w.heap.size w W
theorem S2.new (w : World) (s : Sta) (i : Ins) (ty : TypeId) {n : Nat} {c : Array Value} (h : Ok1 n c) : S2 w s i ty n c ((w.alloc (.cells (xc s i) 58)).alloc (.cells c ty)) :=
  ⟨(rx_new w s i).alloc _, by have := h.new ty (w.alloc (.cells (xc s i) 58)); rw [World.size_alloc] at this; exact this, (bel1 w (.cells (xc s i) 58)).alloc (by simp) _⟩
theorem S2.after {w W W' : World} {s : Sta} {i : Ins} {ty : TypeId} {n : Nat} {c : Array Value} (h : S2 w s i ty n c W) (hb : Below W.heap.size W W') : S2 w s i ty n c W' := ⟨h.r.below hb, h.t.below hb, h.b.trans (hb.mono h.b.size)⟩
theorem S2.drew {w W : World} {s : Sta} {i : Ins} {ty : TypeId} {n : Nat} {c : Array Value} (h : S2 w s i ty n c W) : S2 w s i ty n c W.drew := h.after (Below.refl _ _).drew
theorem S2.set {w W : World} {s : Sta} {i : Ins} {ty : TypeId} {n : Nat} {c c' : Array Value} (h : S2 w s i ty n c W) (hc : Ok1 n c') : S2 w s i ty n c' (W.setRow (w.heap.size + 1) c') :=
  ⟨h.r.setOther (by omega) _, h.t.set hc, below_setRow h.b (by omega) _⟩
def W0 : Wnt := ⟨0, 0, 0, 0, 0, 0⟩
theorem wnt_ok (x : Wnt) : Ok1 6 (wnt x) := ⟨rfl, by simp [wnt, Value.oneCell']⟩
theorem want_13 (s : Sta) (A B : Nat) (m : Int) (hA : A < 8) (hB : B < 8) (hc : causeS s ⟨13, A, B, m⟩ = 0) (w : World) : Calls Tryd.prog 28 #[.agg (xc s ⟨13, A, B, m⟩)] w fun e w' => e = .returned (.agg (wnt ⟨2, 0, addr s ⟨13, A, B, m⟩, 4, 0, 0⟩)) ∧ Below w.heap.size w w' := by
  obtain ⟨W, HW⟩ : ∃ W, Hid (W = (w.alloc (.cells (xc s ⟨13, A, B, m⟩) 58)).alloc (.cells #[Value.int .i64 0, Value.int .u32 0, Value.int .u32 0, Value.int .i64 0, Value.int .i64 0, Value.int .u32 0] 42)) := ⟨_, rfl⟩
  have hS := S2.new w s ⟨13, A, B, m⟩ 42 (wnt_ok W0)
  have hS : S2 w s ⟨13, A, B, m⟩ 42 6 (wnt W0) ((w.alloc (.cells (xc s ⟨13, A, B, m⟩) 58)).alloc (.cells #[Value.int .i64 0, Value.int .u32 0, Value.int .u32 0, Value.int .i64 0, Value.int .i64 0, Value.int .u32 0] 42)) := hS
  rw [← HW.out] at hS
  have HS := Lib.hid hS
  clear hS
  go_enter Tryd.func28, Tryd.ntmps28
  go_wp2_with (first | (rw [← HW.out]) | ((with_reducible apply wp_load_R rowX); (exact HS.out.r); (rfl)))
  have hcall := cause_any s 13 A B m hA hB W
  rw [hc] at hcall
  refine hcall.mono ?_
  rintro e w1 ⟨rfl, b1⟩
  have hT := HS.out.after b1
  have q := hT.r.x
  have HT := Lib.hid hT
  clear b1 hT hcall
  go_wp2_with ((with_reducible apply wp_load_R rowX); (exact HT.out.r); (rfl))
  refine (address_any s 13 A B m hB _).mono ?_
  rintro e w2 ⟨rfl, b2⟩
  have HT2 := Lib.hid (HT.out.after b2)
  clear b2 q
  have HF := Lib.hid (HT2.out.set (wnt_ok ⟨2, 0, addr s ⟨13, A, B, m⟩, 4, 0, 0⟩))
  go_wp2_with ((with_reducible apply wp_store_R (wnt ⟨2, 0, addr s ⟨13, A, B, m⟩, 4, 0, 0⟩) rowW); (exact ⟨HT2.out.t, wnt_ok _⟩); (rfl); (rfl))
  exact bodyPost_ret (res_R rowW (fn := Tryd.f28) rfl _ HF.out.t rfl) rfl ⟨rfl, HF.out.b⟩
theorem want_15 (s : Sta) (A B : Nat) (m : Int) (hA : A < 8) (hB : B < 8) (hc : causeS s ⟨15, A, B, m⟩ = 0) (w : World) : Calls Tryd.prog 28 #[.agg (xc s ⟨15, A, B, m⟩)] w fun e w' => e = .returned (.agg (wnt ⟨2, 0, addr s ⟨15, A, B, m⟩, 1, 0, 0⟩)) ∧ Below w.heap.size w w' := by
  obtain ⟨W, HW⟩ : ∃ W, Hid (W = (w.alloc (.cells (xc s ⟨15, A, B, m⟩) 58)).alloc (.cells #[Value.int .i64 0, Value.int .u32 0, Value.int .u32 0, Value.int .i64 0, Value.int .i64 0, Value.int .u32 0] 42)) := ⟨_, rfl⟩
  have hS := S2.new w s ⟨15, A, B, m⟩ 42 (wnt_ok W0)
  have hS : S2 w s ⟨15, A, B, m⟩ 42 6 (wnt W0) ((w.alloc (.cells (xc s ⟨15, A, B, m⟩) 58)).alloc (.cells #[Value.int .i64 0, Value.int .u32 0, Value.int .u32 0, Value.int .i64 0, Value.int .i64 0, Value.int .u32 0] 42)) := hS
  rw [← HW.out] at hS
  have HS := Lib.hid hS
  clear hS
  go_enter Tryd.func28, Tryd.ntmps28
  go_wp2_with (first | (rw [← HW.out]) | ((with_reducible apply wp_load_R rowX); (exact HS.out.r); (rfl)))
  have hcall := cause_any s 15 A B m hA hB W
  rw [hc] at hcall
  refine hcall.mono ?_
  rintro e w1 ⟨rfl, b1⟩
  have hT := HS.out.after b1
  have q := hT.r.x
  have HT := Lib.hid hT
  clear b1 hT hcall
  go_wp2_with ((with_reducible apply wp_load_R rowX); (exact HT.out.r); (rfl))
  refine (address_any s 15 A B m hB _).mono ?_
  rintro e w2 ⟨rfl, b2⟩
  have HT2 := Lib.hid (HT.out.after b2)
  clear b2 q
  have HF := Lib.hid (HT2.out.set (wnt_ok ⟨2, 0, addr s ⟨15, A, B, m⟩, 1, 0, 0⟩))
  go_wp2_with ((with_reducible apply wp_store_R (wnt ⟨2, 0, addr s ⟨15, A, B, m⟩, 1, 0, 0⟩) rowW); (exact ⟨HT2.out.t, wnt_ok _⟩); (rfl); (rfl))
  exact bodyPost_ret (res_R rowW (fn := Tryd.f28) rfl _ HF.out.t rfl) rfl ⟨rfl, HF.out.b⟩
set_option maxRecDepth 20000 in
theorem want_14 (s : Sta) (hs : s.Ok) (A B : Nat) (m : Int) (hA : A < 8) (hB : B < 8) (hc : causeS s ⟨14, A, B, m⟩ = 0) (w : World) : Calls Tryd.prog 28 #[.agg (xc s ⟨14, A, B, m⟩)] w fun e w' => e = .returned (.agg (wnt ⟨3, 0, addr s ⟨14, A, B, m⟩, 4, 0, s.r A⟩)) ∧ Below w.heap.size w w' := by
  obtain ⟨W, HW⟩ : ∃ W, Hid (W = (w.alloc (.cells (xc s ⟨14, A, B, m⟩) 58)).alloc (.cells #[Value.int .i64 0, Value.int .u32 0, Value.int .u32 0, Value.int .i64 0, Value.int .i64 0, Value.int .u32 0] 42)) := ⟨_, rfl⟩
  have hS := S2.new w s ⟨14, A, B, m⟩ 42 (wnt_ok W0)
  have hS : S2 w s ⟨14, A, B, m⟩ 42 6 (wnt W0) ((w.alloc (.cells (xc s ⟨14, A, B, m⟩) 58)).alloc (.cells #[Value.int .i64 0, Value.int .u32 0, Value.int .u32 0, Value.int .i64 0, Value.int .i64 0, Value.int .u32 0] 42)) := hS
  rw [← HW.out] at hS
  have HS := Lib.hid hS
  clear hS
  go_enter Tryd.func28, Tryd.ntmps28
  go_wp2_with (first | (rw [← HW.out]) | ((with_reducible apply wp_load_R rowX); (exact HS.out.r); (rfl)))
  have hcall := cause_any s 14 A B m hA hB W
  rw [hc] at hcall
  refine hcall.mono ?_
  rintro e w1 ⟨rfl, b1⟩
  have hT := HS.out.after b1
  have q := hT.r.x
  have HT := Lib.hid hT
  clear b1 hT hcall
  go_wp2
  have hK0 := HT.out.drew
  refine wp_region_held_drew (S := fun W => Rf 58 20 W w.heap.size (xc s ⟨14, A, B, m⟩)) (by kernel_rfl) hK0.r (fun _ => ?_)
  have hS := hK0
  refine take_d (i := 0) (d := some 25) (v := .agg (xc s ⟨14, A, B, m⟩)) rfl rfl (by kernel_rfl) (by kernel_rfl) (by kernel_rfl) (fun _ _ _ h => h) (y_R rowX (by kernel_rfl) rfl rfl (fun W hW => hW)) hS.r ?_
  try simp only [Act.put, List.setIfInBounds_toArray, List.set_cons_zero, List.set_cons_succ]
  refine take_d (i := 2) (d := some 27) (v := .agg (xc s ⟨14, A, B, m⟩)) rfl rfl (by kernel_rfl) (by kernel_rfl) (by kernel_rfl) (fun _ _ _ h => h) (y_R rowX (by kernel_rfl) rfl rfl (fun W hW => hW)) hS.r ?_
  try simp only [Act.put, List.setIfInBounds_toArray, List.set_cons_zero, List.set_cons_succ]
  refine wpAnyH_all (rs := [1]) (by kernel_rfl) (by simp) (fun i hi => ?_)
  simp only [List.mem_cons, List.not_mem_nil, or_false] at hi
  subst hi
  refine .inl ?_
  go_simp
  refine (address_any s 14 A B m hB _).mono ?_
  rintro e wc ⟨rfl, hb⟩
  have hS := hS.after hb
  clear hb
  refine ⟨hS.r, ?_⟩
  try simp only [Act.put, List.setIfInBounds_toArray, List.set_cons_zero, List.set_cons_succ]
  refine wpAnyH_all (rs := [3]) (by kernel_rfl) (by simp) (fun i hi => ?_)
  simp only [List.mem_cons, List.not_mem_nil, or_false] at hi
  subst hi
  refine .inl ?_
  go_simp
  refine (sa_any s 14 A B m hA _).mono ?_
  rintro e wc ⟨rfl, hb⟩
  have hS := hS.after hb
  clear hb
  refine ⟨hS.r, ?_⟩
  try simp only [Act.put, List.setIfInBounds_toArray, List.set_cons_zero, List.set_cons_succ]
  refine take_d (i := 4) (d := some 29) (v := ?_) rfl rfl (by kernel_rfl) (by kernel_rfl) (by kernel_rfl) (fun _ _ _ h => h) (.inl ⟨by rfl, ?_⟩) hS.r ?_
  rotate_left
  · intro W hW
    go_simp
    try with_reducible rfl
  try simp only [Act.put, List.setIfInBounds_toArray, List.set_cons_zero, List.set_cons_succ]
  refine wpAnyH_all (rs := [5]) (by kernel_rfl) (by simp) (fun i hi => ?_)
  simp only [List.mem_cons, List.not_mem_nil, or_false] at hi
  subst hi
  refine .inl ?_
  refine o_store_R (d := none) rfl (wnt ⟨3, 0, addr s ⟨14, A, B, m⟩, 4, 0, s.r A⟩) rowW hS.t (wnt_ok _) rfl rfl rfl ?_
  have hF := hS.set (wnt_ok ⟨3, 0, addr s ⟨14, A, B, m⟩, 4, 0, s.r A⟩)
  refine ⟨hF.r, ?_⟩
  try simp only [Act.put, List.setIfInBounds_toArray, List.set_cons_zero, List.set_cons_succ]
  refine wpAnyH_done (by kernel_rfl) ?_ _
  have HF := Lib.hid hF
  clear hS hK0 hF q
  go_wp2
  exact bodyPost_ret (res_R rowW (fn := Tryd.f28) rfl _ HF.out.t rfl) rfl ⟨rfl, HF.out.b⟩
set_option maxRecDepth 20000 in
theorem want_16 (s : Sta) (hs : s.Ok) (A B : Nat) (m : Int) (hA : A < 8) (hB : B < 8) (hc : causeS s ⟨16, A, B, m⟩ = 0) (w : World) : Calls Tryd.prog 28 #[.agg (xc s ⟨16, A, B, m⟩)] w fun e w' => e = .returned (.agg (wnt ⟨3, 0, addr s ⟨16, A, B, m⟩, 1, 0, s.r A % 256⟩)) ∧ Below w.heap.size w w' := by
  obtain ⟨W, HW⟩ : ∃ W, Hid (W = (w.alloc (.cells (xc s ⟨16, A, B, m⟩) 58)).alloc (.cells #[Value.int .i64 0, Value.int .u32 0, Value.int .u32 0, Value.int .i64 0, Value.int .i64 0, Value.int .u32 0] 42)) := ⟨_, rfl⟩
  have hS := S2.new w s ⟨16, A, B, m⟩ 42 (wnt_ok W0)
  have hS : S2 w s ⟨16, A, B, m⟩ 42 6 (wnt W0) ((w.alloc (.cells (xc s ⟨16, A, B, m⟩) 58)).alloc (.cells #[Value.int .i64 0, Value.int .u32 0, Value.int .u32 0, Value.int .i64 0, Value.int .i64 0, Value.int .u32 0] 42)) := hS
  rw [← HW.out] at hS
  have HS := Lib.hid hS
  clear hS
  go_enter Tryd.func28, Tryd.ntmps28
  go_wp2_with (first | (rw [← HW.out]) | ((with_reducible apply wp_load_R rowX); (exact HS.out.r); (rfl)))
  have hcall := cause_any s 16 A B m hA hB W
  rw [hc] at hcall
  refine hcall.mono ?_
  rintro e w1 ⟨rfl, b1⟩
  have hT := HS.out.after b1
  have q := hT.r.x
  have HT := Lib.hid hT
  clear b1 hT hcall
  go_wp2
  have hK0 := HT.out.drew
  refine wp_region_held_drew (S := fun W => Rf 58 20 W w.heap.size (xc s ⟨16, A, B, m⟩)) (by kernel_rfl) hK0.r (fun _ => ?_)
  have hS := hK0
  refine take_d (i := 0) (d := some 32) (v := .agg (xc s ⟨16, A, B, m⟩)) rfl rfl (by kernel_rfl) (by kernel_rfl) (by kernel_rfl) (fun _ _ _ h => h) (y_R rowX (by kernel_rfl) rfl rfl (fun W hW => hW)) hS.r ?_
  try simp only [Act.put, List.setIfInBounds_toArray, List.set_cons_zero, List.set_cons_succ]
  refine take_d (i := 2) (d := some 34) (v := .agg (xc s ⟨16, A, B, m⟩)) rfl rfl (by kernel_rfl) (by kernel_rfl) (by kernel_rfl) (fun _ _ _ h => h) (y_R rowX (by kernel_rfl) rfl rfl (fun W hW => hW)) hS.r ?_
  try simp only [Act.put, List.setIfInBounds_toArray, List.set_cons_zero, List.set_cons_succ]
  refine wpAnyH_all (rs := [1]) (by kernel_rfl) (by simp) (fun i hi => ?_)
  simp only [List.mem_cons, List.not_mem_nil, or_false] at hi
  subst hi
  refine .inl ?_
  go_simp
  refine (address_any s 16 A B m hB _).mono ?_
  rintro e wc ⟨rfl, hb⟩
  have hS := hS.after hb
  clear hb
  refine ⟨hS.r, ?_⟩
  try simp only [Act.put, List.setIfInBounds_toArray, List.set_cons_zero, List.set_cons_succ]
  refine wpAnyH_all (rs := [3]) (by kernel_rfl) (by simp) (fun i hi => ?_)
  simp only [List.mem_cons, List.not_mem_nil, or_false] at hi
  subst hi
  refine .inl ?_
  go_simp
  refine (sa_any s 16 A B m hA _).mono ?_
  rintro e wc ⟨rfl, hb⟩
  have hS := hS.after hb
  clear hb
  refine ⟨hS.r, ?_⟩
  try simp only [Act.put, List.setIfInBounds_toArray, List.set_cons_zero, List.set_cons_succ]
  refine wpAnyH_all (rs := [4]) (by kernel_rfl) (by simp) (fun i hi => ?_)
  simp only [List.mem_cons, List.not_mem_nil, or_false] at hi
  subst hi
  refine .inl ?_
  go_simp
  refine (lowest_any _ (hs.r A) _).mono ?_
  rintro e wc ⟨rfl, hb⟩
  have hS := hS.after hb
  clear hb
  refine ⟨hS.r, ?_⟩
  try simp only [Act.put, List.setIfInBounds_toArray, List.set_cons_zero, List.set_cons_succ]
  refine take_d (i := 5) (d := some 37) (v := ?_) rfl rfl (by kernel_rfl) (by kernel_rfl) (by kernel_rfl) (fun _ _ _ h => h) (.inl ⟨by rfl, ?_⟩) hS.r ?_
  rotate_left
  · intro W hW
    go_simp
    try with_reducible rfl
  try simp only [Act.put, List.setIfInBounds_toArray, List.set_cons_zero, List.set_cons_succ]
  refine wpAnyH_all (rs := [6]) (by kernel_rfl) (by simp) (fun i hi => ?_)
  simp only [List.mem_cons, List.not_mem_nil, or_false] at hi
  subst hi
  refine .inl ?_
  refine o_store_R (d := none) rfl (wnt ⟨3, 0, addr s ⟨16, A, B, m⟩, 1, 0, s.r A % 256⟩) rowW hS.t (wnt_ok _) rfl rfl rfl ?_
  have hF := hS.set (wnt_ok ⟨3, 0, addr s ⟨16, A, B, m⟩, 1, 0, s.r A % 256⟩)
  refine ⟨hF.r, ?_⟩
  try simp only [Act.put, List.setIfInBounds_toArray, List.set_cons_zero, List.set_cons_succ]
  refine wpAnyH_done (by kernel_rfl) ?_ _
  have HF := Lib.hid hF
  clear hS hK0 hF q
  go_wp2
  exact bodyPost_ret (res_R rowW (fn := Tryd.f28) rfl _ HF.out.t rfl) rfl ⟨rfl, HF.out.b⟩
set_option maxRecDepth 20000 in
theorem want_23 (s : Sta) (hs : s.Ok) (A B : Nat) (m : Int) (hA : A < 8) (hB : B < 8) (hc : causeS s ⟨23, A, B, m⟩ = 0) (w : World) : Calls Tryd.prog 28 #[.agg (xc s ⟨23, A, B, m⟩)] w fun e w' => e = .returned (.agg (wnt ⟨5, 0, 0, 0, m, s.r A⟩)) ∧ Below w.heap.size w w' := by
  obtain ⟨W, HW⟩ : ∃ W, Hid (W = (w.alloc (.cells (xc s ⟨23, A, B, m⟩) 58)).alloc (.cells #[Value.int .i64 0, Value.int .u32 0, Value.int .u32 0, Value.int .i64 0, Value.int .i64 0, Value.int .u32 0] 42)) := ⟨_, rfl⟩
  have hS := S2.new w s ⟨23, A, B, m⟩ 42 (wnt_ok W0)
  have hS : S2 w s ⟨23, A, B, m⟩ 42 6 (wnt W0) ((w.alloc (.cells (xc s ⟨23, A, B, m⟩) 58)).alloc (.cells #[Value.int .i64 0, Value.int .u32 0, Value.int .u32 0, Value.int .i64 0, Value.int .i64 0, Value.int .u32 0] 42)) := hS
  rw [← HW.out] at hS
  have HS := Lib.hid hS
  clear hS
  go_enter Tryd.func28, Tryd.ntmps28
  go_wp2_with (first | (rw [← HW.out]) | ((with_reducible apply wp_load_R rowX); (exact HS.out.r); (rfl)))
  have hcall := cause_any s 23 A B m hA hB W
  rw [hc] at hcall
  refine hcall.mono ?_
  rintro e w1 ⟨rfl, b1⟩
  have hT := HS.out.after b1
  have q := hT.r.x
  have HT := Lib.hid hT
  clear b1 hT hcall
  go_wp2
  have hK0 := HT.out.drew
  refine wp_region_held_drew (S := fun W => Rf 58 20 W w.heap.size (xc s ⟨23, A, B, m⟩)) (by kernel_rfl) hK0.r (fun _ => ?_)
  have hS := hK0
  refine take_d (i := 0) (d := some 46) (v := ?_) rfl rfl (by kernel_rfl) (by kernel_rfl) (by kernel_rfl) (fun _ _ _ h => h) (.inl ⟨by rfl, ?_⟩) hS.r ?_
  rotate_left
  · intro W hW
    go_simp
    try with_reducible rfl
  try simp only [Act.put, List.setIfInBounds_toArray, List.set_cons_zero, List.set_cons_succ]
  refine take_d (i := 1) (d := some 47) (v := ?_) rfl rfl (by kernel_rfl) (by kernel_rfl) (by kernel_rfl) (fun _ _ _ h => h) (.inl ⟨by rfl, ?_⟩) hS.r ?_
  rotate_left
  · intro W hW
    go_simp
    try with_reducible rfl
  try simp only [Act.put, List.setIfInBounds_toArray, List.set_cons_zero, List.set_cons_succ]
  refine take_d (i := 2) (d := some 48) (v := ?_) rfl rfl (by kernel_rfl) (by kernel_rfl) (by kernel_rfl) (fun _ _ _ h => h) (.inl ⟨by rfl, ?_⟩) hS.r ?_
  rotate_left
  · intro W hW
    have q := hW.x
    go_simp
    try with_reducible rfl
  try simp only [Act.put, List.setIfInBounds_toArray, List.set_cons_zero, List.set_cons_succ]
  refine take_d (i := 3) (d := some 49) (v := .agg (xc s ⟨23, A, B, m⟩)) rfl rfl (by kernel_rfl) (by kernel_rfl) (by kernel_rfl) (fun _ _ _ h => h) (y_R rowX (by kernel_rfl) rfl rfl (fun W hW => hW)) hS.r ?_
  try simp only [Act.put, List.setIfInBounds_toArray, List.set_cons_zero, List.set_cons_succ]
  refine wpAnyH_all (rs := [4]) (by kernel_rfl) (by simp) (fun i hi => ?_)
  simp only [List.mem_cons, List.not_mem_nil, or_false] at hi
  subst hi
  refine .inl ?_
  go_simp
  refine (sa_any s 23 A B m hA _).mono ?_
  rintro e wc ⟨rfl, hb⟩
  have hS := hS.after hb
  clear hb
  refine ⟨hS.r, ?_⟩
  try simp only [Act.put, List.setIfInBounds_toArray, List.set_cons_zero, List.set_cons_succ]
  refine take_d (i := 5) (d := some 51) (v := ?_) rfl rfl (by kernel_rfl) (by kernel_rfl) (by kernel_rfl) (fun _ _ _ h => h) (.inl ⟨by rfl, ?_⟩) hS.r ?_
  rotate_left
  · intro W hW
    go_simp
    try with_reducible rfl
  try simp only [Act.put, List.setIfInBounds_toArray, List.set_cons_zero, List.set_cons_succ]
  refine wpAnyH_all (rs := [6]) (by kernel_rfl) (by simp) (fun i hi => ?_)
  simp only [List.mem_cons, List.not_mem_nil, or_false] at hi
  subst hi
  refine .inl ?_
  refine o_store_R (d := none) rfl (wnt ⟨5, 0, 0, 0, m, s.r A⟩) rowW hS.t (wnt_ok _) rfl rfl rfl ?_
  have hF := hS.set (wnt_ok ⟨5, 0, 0, 0, m, s.r A⟩)
  refine ⟨hF.r, ?_⟩
  try simp only [Act.put, List.setIfInBounds_toArray, List.set_cons_zero, List.set_cons_succ]
  refine wpAnyH_done (by kernel_rfl) ?_ _
  have HF := Lib.hid hF
  clear hS hK0 hF q
  go_wp2
  exact bodyPost_ret (res_R rowW (fn := Tryd.f28) rfl _ HF.out.t rfl) rfl ⟨rfl, HF.out.b⟩
theorem want_22 (s : Sta) (A B : Nat) (m : Int) (hA : A < 8) (hB : B < 8) (hc : causeS s ⟨22, A, B, m⟩ = 0) (w : World) : Calls Tryd.prog 28 #[.agg (xc s ⟨22, A, B, m⟩)] w fun e w' => e = .returned (.agg (wnt ⟨4, 0, 0, 0, m, 0⟩)) ∧ Below w.heap.size w w' := by
  obtain ⟨W, HW⟩ : ∃ W, Hid (W = (w.alloc (.cells (xc s ⟨22, A, B, m⟩) 58)).alloc (.cells #[Value.int .i64 0, Value.int .u32 0, Value.int .u32 0, Value.int .i64 0, Value.int .i64 0, Value.int .u32 0] 42)) := ⟨_, rfl⟩
  have hS := S2.new w s ⟨22, A, B, m⟩ 42 (wnt_ok W0)
  have hS : S2 w s ⟨22, A, B, m⟩ 42 6 (wnt W0) ((w.alloc (.cells (xc s ⟨22, A, B, m⟩) 58)).alloc (.cells #[Value.int .i64 0, Value.int .u32 0, Value.int .u32 0, Value.int .i64 0, Value.int .i64 0, Value.int .u32 0] 42)) := hS
  rw [← HW.out] at hS
  have HS := Lib.hid hS
  clear hS
  go_enter Tryd.func28, Tryd.ntmps28
  go_wp2_with (first | (rw [← HW.out]) | ((with_reducible apply wp_load_R rowX); (exact HS.out.r); (rfl)))
  have hcall := cause_any s 22 A B m hA hB W
  rw [hc] at hcall
  refine hcall.mono ?_
  rintro e w1 ⟨rfl, b1⟩
  have hT := HS.out.after b1
  have q := hT.r.x
  have HT := Lib.hid hT
  clear b1 hT hcall
  have HF := Lib.hid (HT.out.set (wnt_ok ⟨4, 0, 0, 0, m, 0⟩))
  go_wp2_with ((with_reducible apply wp_store_R (wnt ⟨4, 0, 0, 0, m, 0⟩) rowW); (exact ⟨HT.out.t, wnt_ok _⟩); (rfl); (rfl))
  exact bodyPost_ret (res_R rowW (fn := Tryd.f28) rfl _ HF.out.t rfl) rfl ⟨rfl, HF.out.b⟩
theorem want_1 (s : Sta) (A B : Nat) (m : Int) (hA : A < 8) (hB : B < 8) (hc : causeS s ⟨1, A, B, m⟩ = 0) (w : World) : Calls Tryd.prog 28 #[.agg (xc s ⟨1, A, B, m⟩)] w fun e w' => e = .returned (.agg (wnt ⟨6, 0, 0, 0, 0, 0⟩)) ∧ Below w.heap.size w w' := by
  obtain ⟨W, HW⟩ : ∃ W, Hid (W = (w.alloc (.cells (xc s ⟨1, A, B, m⟩) 58)).alloc (.cells #[Value.int .i64 0, Value.int .u32 0, Value.int .u32 0, Value.int .i64 0, Value.int .i64 0, Value.int .u32 0] 42)) := ⟨_, rfl⟩
  have hS := S2.new w s ⟨1, A, B, m⟩ 42 (wnt_ok W0)
  have hS : S2 w s ⟨1, A, B, m⟩ 42 6 (wnt W0) ((w.alloc (.cells (xc s ⟨1, A, B, m⟩) 58)).alloc (.cells #[Value.int .i64 0, Value.int .u32 0, Value.int .u32 0, Value.int .i64 0, Value.int .i64 0, Value.int .u32 0] 42)) := hS
  rw [← HW.out] at hS
  have HS := Lib.hid hS
  clear hS
  go_enter Tryd.func28, Tryd.ntmps28
  go_wp2_with (first | (rw [← HW.out]) | ((with_reducible apply wp_load_R rowX); (exact HS.out.r); (rfl)))
  have hcall := cause_any s 1 A B m hA hB W
  rw [hc] at hcall
  refine hcall.mono ?_
  rintro e w1 ⟨rfl, b1⟩
  have hT := HS.out.after b1
  have q := hT.r.x
  have HT := Lib.hid hT
  clear b1 hT hcall
  have HF := Lib.hid (HT.out.set (wnt_ok ⟨6, 0, 0, 0, 0, 0⟩))
  go_wp2_with ((with_reducible apply wp_store_R (wnt ⟨6, 0, 0, 0, 0, 0⟩) rowW); (exact ⟨HT.out.t, wnt_ok _⟩); (rfl); (rfl))
  exact bodyPost_ret (res_R rowW (fn := Tryd.f28) rfl _ HF.out.t rfl) rfl ⟨rfl, HF.out.b⟩
theorem want_28 (s : Sta) (A B : Nat) (m : Int) (hA : A < 8) (hB : B < 8) (hc : causeS s ⟨28, A, B, m⟩ = 0) (w : World) : Calls Tryd.prog 28 #[.agg (xc s ⟨28, A, B, m⟩)] w fun e w' => e = .returned (.agg (wnt ⟨7, 0, 0, 0, 0, 0⟩)) ∧ Below w.heap.size w w' := by
  obtain ⟨W, HW⟩ : ∃ W, Hid (W = (w.alloc (.cells (xc s ⟨28, A, B, m⟩) 58)).alloc (.cells #[Value.int .i64 0, Value.int .u32 0, Value.int .u32 0, Value.int .i64 0, Value.int .i64 0, Value.int .u32 0] 42)) := ⟨_, rfl⟩
  have hS := S2.new w s ⟨28, A, B, m⟩ 42 (wnt_ok W0)
  have hS : S2 w s ⟨28, A, B, m⟩ 42 6 (wnt W0) ((w.alloc (.cells (xc s ⟨28, A, B, m⟩) 58)).alloc (.cells #[Value.int .i64 0, Value.int .u32 0, Value.int .u32 0, Value.int .i64 0, Value.int .i64 0, Value.int .u32 0] 42)) := hS
  rw [← HW.out] at hS
  have HS := Lib.hid hS
  clear hS
  go_enter Tryd.func28, Tryd.ntmps28
  go_wp2_with (first | (rw [← HW.out]) | ((with_reducible apply wp_load_R rowX); (exact HS.out.r); (rfl)))
  have hcall := cause_any s 28 A B m hA hB W
  rw [hc] at hcall
  refine hcall.mono ?_
  rintro e w1 ⟨rfl, b1⟩
  have hT := HS.out.after b1
  have q := hT.r.x
  have HT := Lib.hid hT
  clear b1 hT hcall
  have HF := Lib.hid (HT.out.set (wnt_ok ⟨7, 0, 0, 0, 0, 0⟩))
  go_wp2_with ((with_reducible apply wp_store_R (wnt ⟨7, 0, 0, 0, 0, 0⟩) rowW); (exact ⟨HT.out.t, wnt_ok _⟩); (rfl); (rfl))
  exact bodyPost_ret (res_R rowW (fn := Tryd.f28) rfl _ HF.out.t rfl) rfl ⟨rfl, HF.out.b⟩
theorem want_other (s : Sta) (op : Int) (A B : Nat) (m : Int) (hA : A < 8) (hB : B < 8) (hc : causeS s ⟨op, A, B, m⟩ = 0) (h1 : op ≠ 13) (h2 : op ≠ 15) (h3 : op ≠ 14) (h4 : op ≠ 16) (h5 : op ≠ 22) (h6 : op ≠ 23) (h7 : op ≠ 1) (h8 : op ≠ 28) (w : World) : Calls Tryd.prog 28 #[.agg (xc s ⟨op, A, B, m⟩)] w fun e w' => e = .returned (.agg (wnt ⟨0, 0, 0, 0, 0, 0⟩)) ∧ Below w.heap.size w w' := by
  obtain ⟨W, HW⟩ : ∃ W, Hid (W = (w.alloc (.cells (xc s ⟨op, A, B, m⟩) 58)).alloc (.cells #[Value.int .i64 0, Value.int .u32 0, Value.int .u32 0, Value.int .i64 0, Value.int .i64 0, Value.int .u32 0] 42)) := ⟨_, rfl⟩
  have hS := S2.new w s ⟨op, A, B, m⟩ 42 (wnt_ok W0)
  have hS : S2 w s ⟨op, A, B, m⟩ 42 6 (wnt W0) ((w.alloc (.cells (xc s ⟨op, A, B, m⟩) 58)).alloc (.cells #[Value.int .i64 0, Value.int .u32 0, Value.int .u32 0, Value.int .i64 0, Value.int .i64 0, Value.int .u32 0] 42)) := hS
  rw [← HW.out] at hS
  have HS := Lib.hid hS
  clear hS
  go_enter Tryd.func28, Tryd.ntmps28
  go_wp2_with (first | (rw [← HW.out]) | ((with_reducible apply wp_load_R rowX); (exact HS.out.r); (rfl)))
  have hcall := cause_any s op A B m hA hB W
  rw [hc] at hcall
  refine hcall.mono ?_
  rintro e w1 ⟨rfl, b1⟩
  have hT := HS.out.after b1
  have q := hT.r.x
  have HT := Lib.hid hT
  clear b1 hT hcall
  have HF := Lib.hid (HT.out.set (wnt_ok ⟨0, 0, 0, 0, 0, 0⟩))
  go_wp2_with ((with_reducible apply wp_store_R (wnt ⟨0, 0, 0, 0, 0, 0⟩) rowW); (exact ⟨HT.out.t, wnt_ok _⟩); (rfl); (rfl))
  exact bodyPost_ret (res_R rowW (fn := Tryd.f28) rfl _ HF.out.t rfl) rfl ⟨rfl, HF.out.b⟩
theorem want_trap (s : Sta) (op : Int) (A B : Nat) (m : Int) (hA : A < 8) (hB : B < 8) (c : Int) (hc : causeS s ⟨op, A, B, m⟩ = c) (h0 : c ≠ 0) (w : World) : Calls Tryd.prog 28 #[.agg (xc s ⟨op, A, B, m⟩)] w fun e w' => e = .returned (.agg (wnt ⟨1, c, 0, 0, 0, 0⟩)) ∧ Below w.heap.size w w' := by
  obtain ⟨W, HW⟩ : ∃ W, Hid (W = (w.alloc (.cells (xc s ⟨op, A, B, m⟩) 58)).alloc (.cells #[Value.int .i64 0, Value.int .u32 0, Value.int .u32 0, Value.int .i64 0, Value.int .i64 0, Value.int .u32 0] 42)) := ⟨_, rfl⟩
  have hS := S2.new w s ⟨op, A, B, m⟩ 42 (wnt_ok W0)
  have hS : S2 w s ⟨op, A, B, m⟩ 42 6 (wnt W0) ((w.alloc (.cells (xc s ⟨op, A, B, m⟩) 58)).alloc (.cells #[Value.int .i64 0, Value.int .u32 0, Value.int .u32 0, Value.int .i64 0, Value.int .i64 0, Value.int .u32 0] 42)) := hS
  rw [← HW.out] at hS
  have HS := Lib.hid hS
  clear hS
  go_enter Tryd.func28, Tryd.ntmps28
  go_wp2_with (first | (rw [← HW.out]) | ((with_reducible apply wp_load_R rowX); (exact HS.out.r); (rfl)))
  have hcall := cause_any s op A B m hA hB W
  rw [hc] at hcall
  refine hcall.mono ?_
  rintro e w1 ⟨rfl, b1⟩
  have hT := HS.out.after b1
  have q := hT.r.x
  have HT := Lib.hid hT
  clear b1 hT hcall
  have HF := Lib.hid (HT.out.set (wnt_ok ⟨1, c, 0, 0, 0, 0⟩))
  go_wp2_with ((with_reducible apply wp_store_R (wnt ⟨1, c, 0, 0, 0, 0⟩) rowW); (exact ⟨HT.out.t, wnt_ok _⟩); (rfl); (rfl))
  exact bodyPost_ret (res_R rowW (fn := Tryd.f28) rfl _ HF.out.t rfl) rfl ⟨rfl, HF.out.b⟩
theorem want_any (s : Sta) (hs : s.Ok) (op : Int) (A B : Nat) (m : Int) (hA : A < 8) (hB : B < 8) (w : World) : Calls Tryd.prog 28 #[.agg (xc s ⟨op, A, B, m⟩)] w fun e w' => e = .returned (.agg (wnt (planS s ⟨op, A, B, m⟩))) ∧ Below w.heap.size w w' := by
  unfold planS
  by_cases hc : causeS s ⟨op, A, B, m⟩ = 0
  · rw [if_pos hc]
    unfold wantOf
    dsimp only
    rw [Int.toNat_natCast]
    split
    · rename_i h; subst h; exact want_13 s A B m hA hB hc w
    split
    · rename_i h; subst h; exact want_15 s A B m hA hB hc w
    split
    · rename_i h; subst h; exact want_14 s hs A B m hA hB hc w
    split
    · rename_i h; subst h; exact want_16 s hs A B m hA hB hc w
    split
    · rename_i h; subst h; exact want_22 s A B m hA hB hc w
    split
    · rename_i h; subst h; exact want_23 s hs A B m hA hB hc w
    split
    · rename_i h; subst h; exact want_1 s A B m hA hB hc w
    split
    · rename_i h; subst h; exact want_28 s A B m hA hB hc w
    · exact want_other s op A B m hA hB hc (by assumption) (by assumption) (by assumption) (by assumption) (by assumption) (by assumption) (by assumption) (by assumption) w
  · rw [if_neg hc]
    exact want_trap s op A B m hA hB _ rfl hc w
end Go.Proofs.YthjdfneibogcgaaDoor
