/-
  Layer 5: the walk of FramesMakes. Written by gen_makes.py.
-/
import Derived.Test.YthcipnmcmcihgaaRegion2
namespace Go.Proofs.Ythcipnmcmcihgaa
open Go.RowKit
set_option maxHeartbeats 1000000
set_option linter.unusedVariables false

theorem RowAt.head {w : World} {g : Nat} {l m : List Int} (h : RowAt w g (l ++ m)) : RowAt w g l := by
  obtain ⟨tl, h⟩ := h
  exact ⟨bv m ++ tl, by rw [← List.append_assoc, ← bv_append]; exact h⟩
theorem stable_fr (S : Nat) (l : List Int) (F : Nat → Prop) : Stable fun W => Fr W S l F := fun W W' h hb => h.below hb
theorem stable_below (w : World) : Stable fun W => Below w.heap.size w W := fun W W' h hb => h.trans (hb.mono h.size)
theorem stable_and {I J : World → Prop} (h : Stable I) (k : Stable J) : Stable fun W => I W ∧ J W := fun W W' hi hb => ⟨h _ _ hi.1 hb, k _ _ hi.2 hb⟩
theorem one_nums (w : World) : NumsIn .u8 (w.alloc (.cells #[.int .u8 77] 5)) (.slice (some ⟨w.heap.size, 0, none⟩) 1 1) [77] :=
  (rowAt_new w [77] []).nums (c := 1) (fun x hx => by simp at hx; omega) (Nat.le_refl _) (by simp [maxLen])
theorem Fr.sizeN {w : World} {S N : Nat} {l : List Int} {F : Nat → Prop} (h : Fr w S l F) (hN : l.length = N) : Calls Try.prog 16 #[.pointer (some ⟨S, 0, none⟩)] w fun e w' => e = .returned (.int .i64 (N : Int)) ∧ w = w' := by
  subst hN; exact Size_any h
theorem eq77 : ((77 : Int) != 77) = false := by decide

set_option maxRecDepth 100000 in
theorem FramesMakes_nb (p : Int) (hp : ¬ (1 ≤ p ∧ p ≤ 32)) (v : Value) (b : List Int) (w : World) (h : NumsIn .u8 w v b) (hlen : b.length ≤ 5000) (hg : ¬ (64 ≤ b.length ∧ b.length ≤ 2048 ∧ b.length % 64 = 0)) :
    Calls Try.prog 3 #[.int .i64 p, v] w fun e w' => e = .returned (.bool true) ∧ Below w.heap.size w w' := by
  have HV := Lib.hid h
  obtain ⟨o, c, hv, _, hm, _⟩ := h.form
  unfold maxLen at hm
  have HG := Lib.hid hg
  have HS : Hid (∀ W, Calls Try.prog 14 #[.int .i64 (b.length : Int)] W fun e w' => e = .returned (.bool false) ∧ W = w') := fun W => by
    have := RSize_any (b.length : Int) W
    rwa [show (decide (64 ≤ (b.length : Int)) && decide ((b.length : Int) ≤ 2048) && decide ((b.length : Int) % 64 = 0)) = false by simp; omega] at this
  have HP := Lib.hid hp
  subst hv
  clear h hg
  have h2 : p < 1 ∨ (¬ p < 1 ∧ 32 < p) := by omega
  clear hp
  rcases h2 with qp1 | ⟨qp1, qp2⟩
  all_goals
    go_enter Try.func3, Try.ntmps3
    go_wp2_with fail
    refine (New_bad p HP.out w).mono ?_
    rintro e w1 ⟨rfl, rfl⟩
    have B1 := Lib.hid (Below.refl w.heap.size w)
    have hA2 := (Below.refl w.heap.size w).alloc (Nat.le_refl _) (.cells #[] 5)
    have HV2 := Lib.hid ((HV.out.below B1.out).below hA2)
    have HA2 := Lib.hid hA2
    clear hA2
    go_wp2_with (at_builtin; refine wpList_append_nums _ rfl _ _ rfl w.heap.size _ 0 [] rfl (World.ownsRow_made w #[] 0 (Nat.le_refl _) (Nat.zero_le _) (by simp)) _ b rfl HV2.out (by omega) (by simp) ?_)
    intro v1 w3 hown hgrow hnil
    have B3 := Lib.hid (HA2.out.grown hgrow (by simp) (by intro k hk; simp [Value.ownBlock] at hk; omega))
    have hown1 : w3.ownsRow w.heap.size 5 1 v1 b.length (bv b) := by simpa using hown
    have HO1 := Lib.hid (hown1.alloc (.cells #[.int .u8 77] 5))
    have HB1 := Lib.hid (fun k (e : v1.ownBlock = some k) => (World.ownsRow.lt hown1 k e).1)
    have HO77 := Lib.hid (one_nums w3)
    have hs3 := B3.out.size
    clear hown hgrow hnil hown1
    go_wp2_with (at_builtin; refine wpList_append_nums _ rfl _ _ rfl w.heap.size _ b.length b rfl HO1.out _ [77] rfl HO77.out (by simp; omega) (by simp; omega) ?_)
    intro v2 w4 hown hgrow hnil
    have B4 := Lib.hid ((B3.out.alloc hs3 (.cells #[.int .u8 77] 5)).grown hgrow (by simp; omega) HB1.out)
    obtain ⟨gm, cm, rfl, rm, hgm, hcm, _, hcM⟩ := own_slice (n := b.length + 1) (l := b ++ [77]) (by simpa using hown) (by simpa using hnil)
    have RM4 := Lib.hid rm
    have GM := Lib.hid hgm
    have CMM := Lib.hid hcM
    have B04 := Lib.hid (B1.out.trans (B4.out.mono B1.out.size))
    have NM4 := Lib.hid (rm.head.nums (c := cm) HV.out.byt (by omega) (by unfold maxLen; omega))
    have GL : Hid (gm < w4.heap.size) := rm.lt
    clear hown hgrow hnil rm hgm hs3
    unfold maxLen at hcM
    go_wp2_with fail
    refine (Of_bad _ b w4 NM4.out HG.out).mono ?_
    rintro e w5 ⟨rfl, rfl⟩
    have B5 := Lib.hid (Below.refl w4.heap.size w4)
    have RM5 := Lib.hid (RM4.out.keep (B5.out.block gm GL.out))
    have B05 := Lib.hid (B04.out.trans (B5.out.mono B04.out.size))
    have c77 : w4.cell? ⟨gm, b.length, none⟩ = some (.int .u8 77) := by
      have := (RM5.out.cell (i := b.length) (by simp)).1
      rwa [show at0 (b ++ [77]) b.length = 77 by simp [at0]] at this
    have q1 := str_conv (RM5.out.head.nums (c := cm) HV.out.byt (by omega) (by unfold maxLen; omega))
    have q2 := str_conv (HV.out.below B05.out)
    have hcm' : (b.length : Int) + 1 ≤ cm := by omega
    go_wp2_with (first | (go_at_call 13; refine (num_any _ _).mono ?_; rintro e w' ⟨rfl, rfl⟩) | (go_at_call 14; refine (HS.out _).mono ?_; rintro e w' ⟨rfl, rfl⟩))
    clear q1 q2 c77
    have I5 : Hid (Inc w4 gm b.length w4) := ⟨Turned.refl _ _, b, RM5.out.head, rfl, HV.out.byt⟩
    go_loopw [10] (fun i wr => ∃ k : Nat, k ≤ b.length ∧ i = .int .i64 (k : Int) ∧ Hid (Inc w4 gm b.length wr)) (fun i _ => b.length - (intOf i).toNat)
    case atStart => exact ⟨0, by omega, rfl, I5.out⟩
    case round =>
      obtain ⟨k, hk, rfl, hI⟩ := hrel
      by_cases hlt : k < b.length
      · obtain ⟨x, m0, f0, x0, x1⟩ := hI.out.cell hlt
        go_wp2
        go_roundw
        case rel => exact ⟨k + 1, by omega, by go_num, hI.out.step hlt (by omega)⟩
        case measure => simp [intOf]; omega
      · have hkx : k = b.length := by omega
        have B06 := B05.out.trans (hI.out.t.below B05.out.size (fun j e => by subst e; have := GM.out; have := B1.out.size; omega))
        have HI6 : HeldG (fun W => Below w.heap.size w W) [((.slice o b.length c : Value), b)] wr := ⟨stable_below w, B06, (Reads.nil _).cons (HV.out.below B06)⟩
        have hK0 := HI6.drew
        clear hkx
        go_wp2_with fail
        refine wp_region_held_drew (S := _) (by kernel_rfl) hK0 (fun _ => ?_)
        have hS := hK0
        refine take_d (i := 0) (d := some 87) (v := .int .i64 2) rfl rfl (by kernel_rfl) (by kernel_rfl) (by kernel_rfl) (fun _ _ _ h => h) (.inl ⟨by rfl, fun W hW => by go_simp⟩) hS ?_
        try simp only [Act.put, List.setIfInBounds_toArray, List.set_cons_zero, List.set_cons_succ]
        refine wpAnyH_all (rs := [1]) (by kernel_rfl) (by simp) (fun i hi => ?_)
        simp only [List.mem_cons, List.not_mem_nil, or_false] at hi
        subst hi
        refine .inl ?_
        go_simp
        refine (num_any _ _).mono ?_
        rintro e wc ⟨rfl, rfl⟩
        refine ⟨hS, ?_⟩
        try simp only [Act.put, List.setIfInBounds_toArray, List.set_cons_zero, List.set_cons_succ]
        refine take_d (i := 2) (d := some 89) (v := .bool false) rfl rfl (by kernel_rfl) (by kernel_rfl) (by kernel_rfl) (fun _ _ _ h => h) (.inl ⟨by rfl, fun W hW => by go_simp⟩) hS ?_
        try simp only [Act.put, List.setIfInBounds_toArray, List.set_cons_zero, List.set_cons_succ]
        refine take_d (i := 3) (d := some 90) (v := .bool false) rfl rfl (by kernel_rfl) (by kernel_rfl) (by kernel_rfl) (fun _ _ _ h => h) (.inl ⟨by rfl, fun W hW => by go_simp⟩) hS ?_
        try simp only [Act.put, List.setIfInBounds_toArray, List.set_cons_zero, List.set_cons_succ]
        refine take_d (i := 4) (d := some 91) (v := undef) rfl rfl (by kernel_rfl) (by kernel_rfl) (by kernel_rfl) (fun _ _ _ h => h) (.inr ⟨by kernel_rfl, rfl⟩) hS ?_
        try simp only [Act.put, List.setIfInBounds_toArray, List.set_cons_zero, List.set_cons_succ]
        refine take_d (i := 7) (d := some 94) (v := undef) rfl rfl (by kernel_rfl) (by kernel_rfl) (by kernel_rfl) (fun _ _ _ h => h) (.inr ⟨by kernel_rfl, rfl⟩) hS ?_
        try simp only [Act.put, List.setIfInBounds_toArray, List.set_cons_zero, List.set_cons_succ]
        refine take_d (i := 8) (d := some 95) (v := undef) rfl rfl (by kernel_rfl) (by kernel_rfl) (by kernel_rfl) (fun _ _ _ h => h) (.inr ⟨by kernel_rfl, rfl⟩) hS ?_
        try simp only [Act.put, List.setIfInBounds_toArray, List.set_cons_zero, List.set_cons_succ]
        refine take_d (i := 5) (d := some 92) (v := undef) rfl rfl (by kernel_rfl) (by kernel_rfl) (by kernel_rfl) (fun _ _ _ h => h) (.inr ⟨by kernel_rfl, rfl⟩) hS ?_
        try simp only [Act.put, List.setIfInBounds_toArray, List.set_cons_zero, List.set_cons_succ]
        refine take_d (i := 6) (d := some 93) (v := undef) rfl rfl (by kernel_rfl) (by kernel_rfl) (by kernel_rfl) (fun _ _ _ h => h) (.inr ⟨by kernel_rfl, rfl⟩) hS ?_
        try simp only [Act.put, List.setIfInBounds_toArray, List.set_cons_zero, List.set_cons_succ]
        refine take_d (i := 9) (d := some 96) (v := undef) rfl rfl (by kernel_rfl) (by kernel_rfl) (by kernel_rfl) (fun _ _ _ h => h) (.inr ⟨by kernel_rfl, rfl⟩) hS ?_
        try simp only [Act.put, List.setIfInBounds_toArray, List.set_cons_zero, List.set_cons_succ]
        refine take_d (i := 10) (d := some 97) (v := undef) rfl rfl (by kernel_rfl) (by kernel_rfl) (by kernel_rfl) (fun _ _ _ h => h) (.inr ⟨by kernel_rfl, rfl⟩) hS ?_
        try simp only [Act.put, List.setIfInBounds_toArray, List.set_cons_zero, List.set_cons_succ]
        refine take_d (i := 11) (d := some 98) (v := undef) rfl rfl (by kernel_rfl) (by kernel_rfl) (by kernel_rfl) (fun _ _ _ h => h) (.inr ⟨by kernel_rfl, rfl⟩) hS ?_
        try simp only [Act.put, List.setIfInBounds_toArray, List.set_cons_zero, List.set_cons_succ]
        refine take_d (i := 13) (d := some 100) (v := undef) rfl rfl (by kernel_rfl) (by kernel_rfl) (by kernel_rfl) (fun _ _ _ h => h) (.inr ⟨by kernel_rfl, rfl⟩) hS ?_
        try simp only [Act.put, List.setIfInBounds_toArray, List.set_cons_zero, List.set_cons_succ]
        refine take_d (i := 14) (d := some 101) (v := undef) rfl rfl (by kernel_rfl) (by kernel_rfl) (by kernel_rfl) (fun _ _ _ h => h) (.inr ⟨by kernel_rfl, rfl⟩) hS ?_
        try simp only [Act.put, List.setIfInBounds_toArray, List.set_cons_zero, List.set_cons_succ]
        refine take_d (i := 12) (d := some 99) (v := undef) rfl rfl (by kernel_rfl) (by kernel_rfl) (by kernel_rfl) (fun _ _ _ h => h) (.inr ⟨by kernel_rfl, rfl⟩) hS ?_
        try simp only [Act.put, List.setIfInBounds_toArray, List.set_cons_zero, List.set_cons_succ]
        refine take_d (i := 15) (d := some 102) (v := undef) rfl rfl (by kernel_rfl) (by kernel_rfl) (by kernel_rfl) (fun _ _ _ h => h) (.inr ⟨by kernel_rfl, rfl⟩) hS ?_
        try simp only [Act.put, List.setIfInBounds_toArray, List.set_cons_zero, List.set_cons_succ]
        refine take_d (i := 16) (d := some 103) (v := undef) rfl rfl (by kernel_rfl) (by kernel_rfl) (by kernel_rfl) (fun _ _ _ h => h) (.inr ⟨by kernel_rfl, rfl⟩) hS ?_
        try simp only [Act.put, List.setIfInBounds_toArray, List.set_cons_zero, List.set_cons_succ]
        refine take_d (i := 17) (d := some 104) (v := .bool false) rfl rfl (by kernel_rfl) (by kernel_rfl) (by kernel_rfl) (fun _ _ _ h => h) (.inl ⟨by rfl, fun W hW => by go_simp⟩) hS ?_
        try simp only [Act.put, List.setIfInBounds_toArray, List.set_cons_zero, List.set_cons_succ]
        refine wpAnyH_done (by kernel_rfl) ?_ _
        have HF := Lib.hid hS.i
        clear hS hK0 HI6
        go_wp2_with (first | (go_at_call 13; refine (num_any _ _).mono ?_; rintro e w' ⟨rfl, rfl⟩) | (go_at_call 10; refine (works_any _).mono ?_; rintro e w' ⟨rfl, hb⟩))
        go_ret
        exact ⟨rfl, HF.out.trans (hb.mono HF.out.size)⟩

set_option maxRecDepth 100000 in
theorem FramesMakes_ng (p : Int) (hp : ¬ (1 ≤ p ∧ p ≤ 32)) (v : Value) (b : List Int) (w : World) (h : NumsIn .u8 w v b) (hlen : b.length ≤ 5000) (hg : 64 ≤ b.length ∧ b.length ≤ 2048 ∧ b.length % 64 = 0) :
    Calls Try.prog 3 #[.int .i64 p, v] w fun e w' => e = .returned (.bool true) ∧ Below w.heap.size w w' := by
  have HV := Lib.hid h
  obtain ⟨o, c, hv, _, hm, _⟩ := h.form
  unfold maxLen at hm
  have HG := Lib.hid hg
  have HS : Hid (∀ W, Calls Try.prog 14 #[.int .i64 (b.length : Int)] W fun e w' => e = .returned (.bool true) ∧ W = w') := fun W => by
    have := RSize_any (b.length : Int) W
    rwa [show (decide (64 ≤ (b.length : Int)) && decide ((b.length : Int) ≤ 2048) && decide ((b.length : Int) % 64 = 0)) = true by simp; omega] at this
  have HP := Lib.hid hp
  subst hv
  clear h hg
  have h2 : p < 1 ∨ (¬ p < 1 ∧ 32 < p) := by omega
  clear hp
  rcases h2 with qp1 | ⟨qp1, qp2⟩
  all_goals
    go_enter Try.func3, Try.ntmps3
    go_wp2_with fail
    refine (New_bad p HP.out w).mono ?_
    rintro e w1 ⟨rfl, rfl⟩
    have B1 := Lib.hid (Below.refl w.heap.size w)
    have hA2 := (Below.refl w.heap.size w).alloc (Nat.le_refl _) (.cells #[] 5)
    have HV2 := Lib.hid ((HV.out.below B1.out).below hA2)
    have HA2 := Lib.hid hA2
    clear hA2
    go_wp2_with (at_builtin; refine wpList_append_nums _ rfl _ _ rfl w.heap.size _ 0 [] rfl (World.ownsRow_made w #[] 0 (Nat.le_refl _) (Nat.zero_le _) (by simp)) _ b rfl HV2.out (by omega) (by simp) ?_)
    intro v1 w3 hown hgrow hnil
    have B3 := Lib.hid (HA2.out.grown hgrow (by simp) (by intro k hk; simp [Value.ownBlock] at hk; omega))
    have hown1 : w3.ownsRow w.heap.size 5 1 v1 b.length (bv b) := by simpa using hown
    have HO1 := Lib.hid (hown1.alloc (.cells #[.int .u8 77] 5))
    have HB1 := Lib.hid (fun k (e : v1.ownBlock = some k) => (World.ownsRow.lt hown1 k e).1)
    have HO77 := Lib.hid (one_nums w3)
    have hs3 := B3.out.size
    clear hown hgrow hnil hown1
    go_wp2_with (at_builtin; refine wpList_append_nums _ rfl _ _ rfl w.heap.size _ b.length b rfl HO1.out _ [77] rfl HO77.out (by simp; omega) (by simp; omega) ?_)
    intro v2 w4 hown hgrow hnil
    have B4 := Lib.hid ((B3.out.alloc hs3 (.cells #[.int .u8 77] 5)).grown hgrow (by simp; omega) HB1.out)
    obtain ⟨gm, cm, rfl, rm, hgm, hcm, _, hcM⟩ := own_slice (n := b.length + 1) (l := b ++ [77]) (by simpa using hown) (by simpa using hnil)
    have RM4 := Lib.hid rm
    have GM := Lib.hid hgm
    have CMM := Lib.hid hcM
    have B04 := Lib.hid (B1.out.trans (B4.out.mono B1.out.size))
    have NM4 := Lib.hid (rm.head.nums (c := cm) HV.out.byt (by omega) (by unfold maxLen; omega))
    have GL : Hid (gm < w4.heap.size) := rm.lt
    clear hown hgrow hnil rm hgm hs3
    unfold maxLen at hcM
    go_wp2_with fail
    refine (Of_any _ b w4 NM4.out HG.out.1 HG.out.2.1 HG.out.2.2).mono ?_
    rintro e w5 ⟨S2, F2, rfl, hF, hlo, hb⟩
    have FB5 := Lib.hid hF
    have L2 := Lib.hid hlo
    have B5 := Lib.hid hb
    clear hF hlo hb
    have RM5 := Lib.hid (RM4.out.keep (B5.out.block gm GL.out))
    have B05 := Lib.hid (B04.out.trans (B5.out.mono B04.out.size))
    have c77 : w5.cell? ⟨gm, b.length, none⟩ = some (.int .u8 77) := by
      have := (RM5.out.cell (i := b.length) (by simp)).1
      rwa [show at0 (b ++ [77]) b.length = 77 by simp [at0]] at this
    have q1 := str_conv (RM5.out.head.nums (c := cm) HV.out.byt (by omega) (by unfold maxLen; omega))
    have q2 := str_conv (HV.out.below B05.out)
    have hcm' : (b.length : Int) + 1 ≤ cm := by omega
    go_wp2_with (first | (go_at_call 13; refine (num_any _ _).mono ?_; rintro e w' ⟨rfl, rfl⟩) | (go_at_call 14; refine (HS.out _).mono ?_; rintro e w' ⟨rfl, rfl⟩))
    clear q1 q2 c77
    have I5 : Hid (Inc w5 gm b.length w5) := ⟨Turned.refl _ _, b, RM5.out.head, rfl, HV.out.byt⟩
    go_loopw [10] (fun i wr => ∃ k : Nat, k ≤ b.length ∧ i = .int .i64 (k : Int) ∧ Hid (Inc w5 gm b.length wr)) (fun i _ => b.length - (intOf i).toNat)
    case atStart => exact ⟨0, by omega, rfl, I5.out⟩
    case round =>
      obtain ⟨k, hk, rfl, hI⟩ := hrel
      by_cases hlt : k < b.length
      · obtain ⟨x, m0, f0, x0, x1⟩ := hI.out.cell hlt
        go_wp2
        go_roundw
        case rel => exact ⟨k + 1, by omega, by go_num, hI.out.step hlt (by omega)⟩
        case measure => simp [intOf]; omega
      · have hkx : k = b.length := by omega
        have B06 := B05.out.trans (hI.out.t.below B05.out.size (fun j e => by subst e; have := GM.out; have := B1.out.size; omega))
        have FB6 := FB5.out.kept hI.out.t (fun j hj e => by subst e; have := L2.out _ hj; have := GL.out; omega)
        have HI6 : HeldG (fun W => (Below w.heap.size w W) ∧ Fr W S2 b F2) [((.slice o b.length c : Value), b)] wr := ⟨stable_and (stable_below w) (stable_fr S2 b F2), ⟨B06, FB6⟩, (Reads.nil _).cons (HV.out.below B06)⟩
        have hK0 := HI6.drew
        clear hkx
        go_wp2_with fail
        refine wp_region_held_drew (S := _) (by kernel_rfl) hK0 (fun _ => ?_)
        have hS := hK0
        refine take_d (i := 0) (d := some 87) (v := .int .i64 0) rfl rfl (by kernel_rfl) (by kernel_rfl) (by kernel_rfl) (fun _ _ _ h => h) (.inl ⟨by rfl, fun W hW => by go_simp⟩) hS ?_
        try simp only [Act.put, List.setIfInBounds_toArray, List.set_cons_zero, List.set_cons_succ]
        refine wpAnyH_all (rs := [1]) (by kernel_rfl) (by simp) (fun i hi => ?_)
        simp only [List.mem_cons, List.not_mem_nil, or_false] at hi
        subst hi
        refine .inl ?_
        go_simp
        refine (num_any _ _).mono ?_
        rintro e wc ⟨rfl, rfl⟩
        refine ⟨hS, ?_⟩
        try simp only [Act.put, List.setIfInBounds_toArray, List.set_cons_zero, List.set_cons_succ]
        refine take_d (i := 2) (d := some 89) (v := .bool true) rfl rfl (by kernel_rfl) (by kernel_rfl) (by kernel_rfl) (fun _ _ _ h => h) (.inl ⟨by rfl, fun W hW => by go_simp⟩) hS ?_
        try simp only [Act.put, List.setIfInBounds_toArray, List.set_cons_zero, List.set_cons_succ]
        refine take_d (i := 3) (d := some 90) (v := .bool true) rfl rfl (by kernel_rfl) (by kernel_rfl) (by kernel_rfl) (fun _ _ _ h => h) (.inl ⟨by rfl, fun W hW => by go_simp⟩) hS ?_
        try simp only [Act.put, List.setIfInBounds_toArray, List.set_cons_zero, List.set_cons_succ]
        refine take_d (i := 4) (d := some 91) (v := .pointer (some ⟨S2, 0, none⟩)) rfl rfl (by kernel_rfl) (by kernel_rfl) (by kernel_rfl) (fun _ _ _ h => h) (.inl ⟨by rfl, fun W hW => by go_simp⟩) hS ?_
        try simp only [Act.put, List.setIfInBounds_toArray, List.set_cons_zero, List.set_cons_succ]
        refine take_d (i := 7) (d := some 94) (v := .slice o b.length c) rfl rfl (by kernel_rfl) (by kernel_rfl) (by kernel_rfl) (fun _ _ _ h => h) (.inl ⟨by rfl, fun W hW => by go_simp⟩) hS ?_
        try simp only [Act.put, List.setIfInBounds_toArray, List.set_cons_zero, List.set_cons_succ]
        refine take_d (i := 8) (d := some 95) (v := .string (strOfNums b)) rfl rfl (by kernel_rfl) (by kernel_rfl) (by kernel_rfl) (fun _ _ _ h => h) (.inl ⟨by rfl, fun W hW => by have q := hW.reads.conv (.slice o b.length c) b (by simp); go_simp⟩) hS ?_
        try simp only [Act.put, List.setIfInBounds_toArray, List.set_cons_zero, List.set_cons_succ]
        refine wpAnyH_all (rs := [5]) (by kernel_rfl) (by simp) (fun i hi => ?_)
        simp only [List.mem_cons, List.not_mem_nil, or_false] at hi
        subst hi
        refine .inl ?_
        go_simp
        refine (hS.i.2.bytesN).mono ?_
        rintro e wc ⟨vb, rfl, hn, hb⟩
        have hS := (hS.after hb).cons hn
        refine ⟨hS.tail, ?_⟩
        refine anyH_heldG hS ?_
        clear hn hb
        try simp only [Act.put, List.setIfInBounds_toArray, List.set_cons_zero, List.set_cons_succ]
        refine take_d (i := 6) (d := some 93) (v := .string (strOfNums b)) rfl rfl (by kernel_rfl) (by kernel_rfl) (by kernel_rfl) (fun _ _ _ h => h) (.inl ⟨by rfl, fun W hW => by have q := hW.reads.conv vb b (by simp); go_simp⟩) hS ?_
        try simp only [Act.put, List.setIfInBounds_toArray, List.set_cons_zero, List.set_cons_succ]
        refine take_d (i := 9) (d := some 96) (v := .bool false) rfl rfl (by kernel_rfl) (by kernel_rfl) (by kernel_rfl) (fun _ _ _ h => h) (.inl ⟨by rfl, fun W hW => by go_simp⟩) hS ?_
        try simp only [Act.put, List.setIfInBounds_toArray, List.set_cons_zero, List.set_cons_succ]
        refine take_d (i := 10) (d := some 97) (v := .bool false) rfl rfl (by kernel_rfl) (by kernel_rfl) (by kernel_rfl) (fun _ _ _ h => h) (.inl ⟨by rfl, fun W hW => by go_simp⟩) hS ?_
        try simp only [Act.put, List.setIfInBounds_toArray, List.set_cons_zero, List.set_cons_succ]
        refine take_d (i := 11) (d := some 98) (v := .pointer (some ⟨S2, 0, none⟩)) rfl rfl (by kernel_rfl) (by kernel_rfl) (by kernel_rfl) (fun _ _ _ h => h) (.inl ⟨by rfl, fun W hW => by go_simp⟩) hS ?_
        try simp only [Act.put, List.setIfInBounds_toArray, List.set_cons_zero, List.set_cons_succ]
        refine take_d (i := 13) (d := some 100) (v := .slice o b.length c) rfl rfl (by kernel_rfl) (by kernel_rfl) (by kernel_rfl) (fun _ _ _ h => h) (.inl ⟨by rfl, fun W hW => by go_simp⟩) hS ?_
        try simp only [Act.put, List.setIfInBounds_toArray, List.set_cons_zero, List.set_cons_succ]
        refine take_d (i := 14) (d := some 101) (v := .int .i64 (b.length : Int)) rfl rfl (by kernel_rfl) (by kernel_rfl) (by kernel_rfl) (fun _ _ _ h => h) (.inl ⟨by rfl, fun W hW => by go_simp⟩) hS ?_
        try simp only [Act.put, List.setIfInBounds_toArray, List.set_cons_zero, List.set_cons_succ]
        refine wpAnyH_all (rs := [12]) (by kernel_rfl) (by simp) (fun i hi => ?_)
        simp only [List.mem_cons, List.not_mem_nil, or_false] at hi
        subst hi
        refine .inl ?_
        go_simp
        refine (hS.i.2.sizeN rfl).mono ?_
        rintro e wc ⟨rfl, rfl⟩
        refine ⟨hS, ?_⟩
        try simp only [Act.put, List.setIfInBounds_toArray, List.set_cons_zero, List.set_cons_succ]
        refine take_d (i := 15) (d := some 102) (v := .bool false) rfl rfl (by kernel_rfl) (by kernel_rfl) (by kernel_rfl) (fun _ _ _ h => h) (.inl ⟨by rfl, fun W hW => by go_simp⟩) hS ?_
        try simp only [Act.put, List.setIfInBounds_toArray, List.set_cons_zero, List.set_cons_succ]
        refine take_d (i := 16) (d := some 103) (v := .bool false) rfl rfl (by kernel_rfl) (by kernel_rfl) (by kernel_rfl) (fun _ _ _ h => h) (.inl ⟨by rfl, fun W hW => by go_simp⟩) hS ?_
        try simp only [Act.put, List.setIfInBounds_toArray, List.set_cons_zero, List.set_cons_succ]
        refine take_d (i := 17) (d := some 104) (v := .bool false) rfl rfl (by kernel_rfl) (by kernel_rfl) (by kernel_rfl) (fun _ _ _ h => h) (.inl ⟨by rfl, fun W hW => by go_simp⟩) hS ?_
        try simp only [Act.put, List.setIfInBounds_toArray, List.set_cons_zero, List.set_cons_succ]
        refine wpAnyH_done (by kernel_rfl) ?_ _
        have hS := hS.tail
        have HF := Lib.hid hS.i.1
        clear hS hK0 HI6
        go_wp2_with (first | (go_at_call 13; refine (num_any _ _).mono ?_; rintro e w' ⟨rfl, rfl⟩) | (go_at_call 10; refine (works_any _).mono ?_; rintro e w' ⟨rfl, hb⟩))
        go_ret
        exact ⟨rfl, HF.out.trans (hb.mono HF.out.size)⟩

set_option maxRecDepth 100000 in
theorem FramesMakes_pb (P : Nat) (hP0 : 1 ≤ P) (hP1 : P ≤ 32) (v : Value) (b : List Int) (w : World) (h : NumsIn .u8 w v b) (hlen : b.length ≤ 5000) (hg : ¬ (64 ≤ b.length ∧ b.length ≤ 2048 ∧ b.length % 64 = 0)) :
    Calls Try.prog 3 #[.int .i64 (P : Int), v] w fun e w' => e = .returned (.bool true) ∧ Below w.heap.size w w' := by
  have HV := Lib.hid h
  obtain ⟨o, c, hv, _, hm, _⟩ := h.form
  unfold maxLen at hm
  have HG := Lib.hid hg
  have HS : Hid (∀ W, Calls Try.prog 14 #[.int .i64 (b.length : Int)] W fun e w' => e = .returned (.bool false) ∧ W = w') := fun W => by
    have := RSize_any (b.length : Int) W
    rwa [show (decide (64 ≤ (b.length : Int)) && decide ((b.length : Int) ≤ 2048) && decide ((b.length : Int) % 64 = 0)) = false by simp; omega] at this
  have HNew := Lib.hid (New_any P hP0 hP1 w)
  obtain ⟨i0, hi, hz0, hz1, hz2⟩ := info_parts A.infoB
  obtain ⟨N, hN⟩ : ∃ N, N = 64 * P := ⟨_, rfl⟩
  have hmk0 : Hid (∀ W : World, (Instr.makeSlice 22 (.int .i64 (64 * (P : Int))) (.int .i64 (64 * (P : Int)))).run Try.prog W = .ok (.slice (some ⟨W.heap.size, 0, none⟩) N N) (W.alloc (.cells (bv (List.replicate N 0)).toArray 5))) := fun W => by
    have hr := run_make (P := Try.prog) W 22 5 i0 (.int .u8 0) Try.underlying22 hi hz0 .i64 .i64 (64 * (P : Int)) (64 * (P : Int)) (by omega) (by omega) (by rw [hz2]; omega) (by omega)
    rw [hr, hz1]
    have e : (64 * (P : Int)).toNat = N := by omega
    rw [e, Nat.mul_one, made_zeros, List.append_nil]
  rw [← hN] at HNew
  have HN1 : Hid (N ≤ 2048) := by show _ ≤ _; omega
  have qp1 : ¬ (P : Int) < 1 := by omega
  have qp2 : ¬ 32 < (P : Int) := by omega
  clear hi hz0 hz1 hz2 hN
  subst hv
  clear h hg
  go_enter Try.func3, Try.ntmps3
  go_wp2_with fail
  refine HNew.out.mono ?_
  rintro e w1 ⟨S1, F1, rfl, hF, hlo, hb⟩
  have FA1 := Lib.hid hF
  have B1 := Lib.hid hb
  have L1 := Lib.hid hlo
  clear hF hlo hb
  have hA2 := (Below.refl w1.heap.size w1).alloc (Nat.le_refl _) (.cells #[] 5)
  have HV2 := Lib.hid ((HV.out.below B1.out).below hA2)
  have HA2 := Lib.hid hA2
  clear hA2
  go_wp2_with (at_builtin; refine wpList_append_nums _ rfl _ _ rfl w1.heap.size _ 0 [] rfl (World.ownsRow_made w1 #[] 0 (Nat.le_refl _) (Nat.zero_le _) (by simp)) _ b rfl HV2.out (by omega) (by simp) ?_)
  intro v1 w3 hown hgrow hnil
  have B3 := Lib.hid (HA2.out.grown hgrow (by simp) (by intro k hk; simp [Value.ownBlock] at hk; omega))
  have hown1 : w3.ownsRow w1.heap.size 5 1 v1 b.length (bv b) := by simpa using hown
  have HO1 := Lib.hid (hown1.alloc (.cells #[.int .u8 77] 5))
  have HB1 := Lib.hid (fun k (e : v1.ownBlock = some k) => (World.ownsRow.lt hown1 k e).1)
  have HO77 := Lib.hid (one_nums w3)
  have hs3 := B3.out.size
  clear hown hgrow hnil hown1
  go_wp2_with (at_builtin; refine wpList_append_nums _ rfl _ _ rfl w1.heap.size _ b.length b rfl HO1.out _ [77] rfl HO77.out (by simp; omega) (by simp; omega) ?_)
  intro v2 w4 hown hgrow hnil
  have B4 := Lib.hid ((B3.out.alloc hs3 (.cells #[.int .u8 77] 5)).grown hgrow (by simp; omega) HB1.out)
  obtain ⟨gm, cm, rfl, rm, hgm, hcm, _, hcM⟩ := own_slice (n := b.length + 1) (l := b ++ [77]) (by simpa using hown) (by simpa using hnil)
  have RM4 := Lib.hid rm
  have GM := Lib.hid hgm
  have CMM := Lib.hid hcM
  have B04 := Lib.hid (B1.out.trans (B4.out.mono B1.out.size))
  have NM4 := Lib.hid (rm.head.nums (c := cm) HV.out.byt (by omega) (by unfold maxLen; omega))
  have GL : Hid (gm < w4.heap.size) := rm.lt
  clear hown hgrow hnil rm hgm hs3
  unfold maxLen at hcM
  go_wp2_with fail
  refine (Of_bad _ b w4 NM4.out HG.out).mono ?_
  rintro e w5 ⟨rfl, rfl⟩
  have B5 := Lib.hid (Below.refl w4.heap.size w4)
  have RM5 := Lib.hid (RM4.out.keep (B5.out.block gm GL.out))
  have B05 := Lib.hid (B04.out.trans (B5.out.mono B04.out.size))
  have c77 : w4.cell? ⟨gm, b.length, none⟩ = some (.int .u8 77) := by
    have := (RM5.out.cell (i := b.length) (by simp)).1
    rwa [show at0 (b ++ [77]) b.length = 77 by simp [at0]] at this
  have q1 := str_conv (RM5.out.head.nums (c := cm) HV.out.byt (by omega) (by unfold maxLen; omega))
  have q2 := str_conv (HV.out.below B05.out)
  have hcm' : (b.length : Int) + 1 ≤ cm := by omega
  go_wp2_with (first | (go_at_call 13; refine (num_any _ _).mono ?_; rintro e w' ⟨rfl, rfl⟩) | (go_at_call 14; refine (HS.out _).mono ?_; rintro e w' ⟨rfl, rfl⟩))
  clear q1 q2 c77
  have I5 : Hid (Inc w4 gm b.length w4) := ⟨Turned.refl _ _, b, RM5.out.head, rfl, HV.out.byt⟩
  go_loopw [10] (fun i wr => ∃ k : Nat, k ≤ b.length ∧ i = .int .i64 (k : Int) ∧ Hid (Inc w4 gm b.length wr)) (fun i _ => b.length - (intOf i).toNat)
  case atStart => exact ⟨0, by omega, rfl, I5.out⟩
  case round =>
    obtain ⟨k, hk, rfl, hI⟩ := hrel
    by_cases hlt : k < b.length
    · obtain ⟨x, m0, f0, x0, x1⟩ := hI.out.cell hlt
      go_wp2
      go_roundw
      case rel => exact ⟨k + 1, by omega, by go_num, hI.out.step hlt (by omega)⟩
      case measure => simp [intOf]; omega
    · have hkx : k = b.length := by omega
      have B06 := B05.out.trans (hI.out.t.below B05.out.size (fun j e => by subst e; have := GM.out; have := B1.out.size; omega))
      have FA6 := ((FA1.out.below B4.out).below (B5.out)).kept hI.out.t (fun j hj e => by subst e; have := FA1.out.lt _ hj; have := GM.out; omega)
      have HI6 : HeldG (fun W => (Below w.heap.size w W) ∧ Fr W S1 (List.replicate N 0) F1) [((.slice o b.length c : Value), b)] wr := ⟨stable_and (stable_below w) (stable_fr S1 (List.replicate N 0) F1), ⟨B06, FA6⟩, (Reads.nil _).cons (HV.out.below B06)⟩
      have hK0 := HI6.drew
      clear hkx
      go_wp2_with fail
      refine wp_region_held_drew (S := _) (by kernel_rfl) hK0 (fun _ => ?_)
      have hS := hK0
      refine take_d (i := 0) (d := some 87) (v := .int .i64 2) rfl rfl (by kernel_rfl) (by kernel_rfl) (by kernel_rfl) (fun _ _ _ h => h) (.inl ⟨by rfl, fun W hW => by go_simp⟩) hS ?_
      try simp only [Act.put, List.setIfInBounds_toArray, List.set_cons_zero, List.set_cons_succ]
      refine wpAnyH_all (rs := [1]) (by kernel_rfl) (by simp) (fun i hi => ?_)
      simp only [List.mem_cons, List.not_mem_nil, or_false] at hi
      subst hi
      refine .inl ?_
      go_simp
      refine (num_any _ _).mono ?_
      rintro e wc ⟨rfl, rfl⟩
      refine ⟨hS, ?_⟩
      try simp only [Act.put, List.setIfInBounds_toArray, List.set_cons_zero, List.set_cons_succ]
      refine take_d (i := 2) (d := some 89) (v := .bool false) rfl rfl (by kernel_rfl) (by kernel_rfl) (by kernel_rfl) (fun _ _ _ h => h) (.inl ⟨by rfl, fun W hW => by go_simp⟩) hS ?_
      try simp only [Act.put, List.setIfInBounds_toArray, List.set_cons_zero, List.set_cons_succ]
      refine take_d (i := 3) (d := some 90) (v := .bool false) rfl rfl (by kernel_rfl) (by kernel_rfl) (by kernel_rfl) (fun _ _ _ h => h) (.inl ⟨by rfl, fun W hW => by go_simp⟩) hS ?_
      try simp only [Act.put, List.setIfInBounds_toArray, List.set_cons_zero, List.set_cons_succ]
      refine take_d (i := 4) (d := some 91) (v := undef) rfl rfl (by kernel_rfl) (by kernel_rfl) (by kernel_rfl) (fun _ _ _ h => h) (.inr ⟨by kernel_rfl, rfl⟩) hS ?_
      try simp only [Act.put, List.setIfInBounds_toArray, List.set_cons_zero, List.set_cons_succ]
      refine take_d (i := 7) (d := some 94) (v := undef) rfl rfl (by kernel_rfl) (by kernel_rfl) (by kernel_rfl) (fun _ _ _ h => h) (.inr ⟨by kernel_rfl, rfl⟩) hS ?_
      try simp only [Act.put, List.setIfInBounds_toArray, List.set_cons_zero, List.set_cons_succ]
      refine take_d (i := 8) (d := some 95) (v := undef) rfl rfl (by kernel_rfl) (by kernel_rfl) (by kernel_rfl) (fun _ _ _ h => h) (.inr ⟨by kernel_rfl, rfl⟩) hS ?_
      try simp only [Act.put, List.setIfInBounds_toArray, List.set_cons_zero, List.set_cons_succ]
      refine take_d (i := 5) (d := some 92) (v := undef) rfl rfl (by kernel_rfl) (by kernel_rfl) (by kernel_rfl) (fun _ _ _ h => h) (.inr ⟨by kernel_rfl, rfl⟩) hS ?_
      try simp only [Act.put, List.setIfInBounds_toArray, List.set_cons_zero, List.set_cons_succ]
      refine take_d (i := 6) (d := some 93) (v := undef) rfl rfl (by kernel_rfl) (by kernel_rfl) (by kernel_rfl) (fun _ _ _ h => h) (.inr ⟨by kernel_rfl, rfl⟩) hS ?_
      try simp only [Act.put, List.setIfInBounds_toArray, List.set_cons_zero, List.set_cons_succ]
      refine take_d (i := 9) (d := some 96) (v := undef) rfl rfl (by kernel_rfl) (by kernel_rfl) (by kernel_rfl) (fun _ _ _ h => h) (.inr ⟨by kernel_rfl, rfl⟩) hS ?_
      try simp only [Act.put, List.setIfInBounds_toArray, List.set_cons_zero, List.set_cons_succ]
      refine take_d (i := 10) (d := some 97) (v := undef) rfl rfl (by kernel_rfl) (by kernel_rfl) (by kernel_rfl) (fun _ _ _ h => h) (.inr ⟨by kernel_rfl, rfl⟩) hS ?_
      try simp only [Act.put, List.setIfInBounds_toArray, List.set_cons_zero, List.set_cons_succ]
      refine take_d (i := 11) (d := some 98) (v := undef) rfl rfl (by kernel_rfl) (by kernel_rfl) (by kernel_rfl) (fun _ _ _ h => h) (.inr ⟨by kernel_rfl, rfl⟩) hS ?_
      try simp only [Act.put, List.setIfInBounds_toArray, List.set_cons_zero, List.set_cons_succ]
      refine take_d (i := 13) (d := some 100) (v := undef) rfl rfl (by kernel_rfl) (by kernel_rfl) (by kernel_rfl) (fun _ _ _ h => h) (.inr ⟨by kernel_rfl, rfl⟩) hS ?_
      try simp only [Act.put, List.setIfInBounds_toArray, List.set_cons_zero, List.set_cons_succ]
      refine take_d (i := 14) (d := some 101) (v := undef) rfl rfl (by kernel_rfl) (by kernel_rfl) (by kernel_rfl) (fun _ _ _ h => h) (.inr ⟨by kernel_rfl, rfl⟩) hS ?_
      try simp only [Act.put, List.setIfInBounds_toArray, List.set_cons_zero, List.set_cons_succ]
      refine take_d (i := 12) (d := some 99) (v := undef) rfl rfl (by kernel_rfl) (by kernel_rfl) (by kernel_rfl) (fun _ _ _ h => h) (.inr ⟨by kernel_rfl, rfl⟩) hS ?_
      try simp only [Act.put, List.setIfInBounds_toArray, List.set_cons_zero, List.set_cons_succ]
      refine take_d (i := 15) (d := some 102) (v := undef) rfl rfl (by kernel_rfl) (by kernel_rfl) (by kernel_rfl) (fun _ _ _ h => h) (.inr ⟨by kernel_rfl, rfl⟩) hS ?_
      try simp only [Act.put, List.setIfInBounds_toArray, List.set_cons_zero, List.set_cons_succ]
      refine take_d (i := 16) (d := some 103) (v := undef) rfl rfl (by kernel_rfl) (by kernel_rfl) (by kernel_rfl) (fun _ _ _ h => h) (.inr ⟨by kernel_rfl, rfl⟩) hS ?_
      try simp only [Act.put, List.setIfInBounds_toArray, List.set_cons_zero, List.set_cons_succ]
      refine take_d (i := 17) (d := some 104) (v := .bool false) rfl rfl (by kernel_rfl) (by kernel_rfl) (by kernel_rfl) (fun _ _ _ h => h) (.inl ⟨by rfl, fun W hW => by go_simp⟩) hS ?_
      try simp only [Act.put, List.setIfInBounds_toArray, List.set_cons_zero, List.set_cons_succ]
      refine wpAnyH_done (by kernel_rfl) ?_ _
      clear hK0 HI6
      have hK0 := hS.drew
      clear hS
      have hmk := hmk0.out
      go_wp2_with fail
      refine wp_region_held_drew (S := _) (by kernel_rfl) hK0 (fun _ => ?_)
      have hS := hK0
      clear hK0
      generalize World.drew _ = wd at hS ⊢
      refine take_d (i := 0) (d := some 121) (v := .int .i64 0) rfl rfl (by kernel_rfl) (by kernel_rfl) (by kernel_rfl) (fun _ _ _ h => h) (.inl ⟨by rfl, fun W hW => by go_simp⟩) hS ?_
      try simp only [Act.put, List.setIfInBounds_toArray, List.set_cons_zero, List.set_cons_succ]
      refine wpAnyH_all (rs := [1]) (by kernel_rfl) (by simp) (fun i hi => ?_)
      simp only [List.mem_cons, List.not_mem_nil, or_false] at hi
      subst hi
      refine .inl ?_
      go_simp
      refine (num_any _ _).mono ?_
      rintro e wc ⟨rfl, rfl⟩
      refine ⟨hS, ?_⟩
      try simp only [Act.put, List.setIfInBounds_toArray, List.set_cons_zero, List.set_cons_succ]
      refine take_d (i := 2) (d := some 123) (v := .bool true) rfl rfl (by kernel_rfl) (by kernel_rfl) (by kernel_rfl) (fun _ _ _ h => h) (.inl ⟨by rfl, fun W hW => by go_simp⟩) hS ?_
      try simp only [Act.put, List.setIfInBounds_toArray, List.set_cons_zero, List.set_cons_succ]
      refine take_d (i := 3) (d := some 124) (v := .bool true) rfl rfl (by kernel_rfl) (by kernel_rfl) (by kernel_rfl) (fun _ _ _ h => h) (.inl ⟨by rfl, fun W hW => by go_simp⟩) hS ?_
      try simp only [Act.put, List.setIfInBounds_toArray, List.set_cons_zero, List.set_cons_succ]
      refine take_d (i := 4) (d := some 125) (v := .pointer (some ⟨S1, 0, none⟩)) rfl rfl (by kernel_rfl) (by kernel_rfl) (by kernel_rfl) (fun _ _ _ h => h) (.inl ⟨by rfl, fun W hW => by go_simp⟩) hS ?_
      try simp only [Act.put, List.setIfInBounds_toArray, List.set_cons_zero, List.set_cons_succ]
      refine take_d (i := 7) (d := some 128) (v := .int .i64 (P : Int)) rfl rfl (by kernel_rfl) (by kernel_rfl) (by kernel_rfl) (fun _ _ _ h => h) (.inl ⟨by rfl, fun W hW => by go_simp⟩) hS ?_
      try simp only [Act.put, List.setIfInBounds_toArray, List.set_cons_zero, List.set_cons_succ]
      refine take_d (i := 8) (d := some 129) (v := .int .i64 (64 * (P : Int))) rfl rfl (by kernel_rfl) (by kernel_rfl) (by kernel_rfl) (fun _ _ _ h => h) (.inl ⟨by rfl, fun W hW => by go_simp; rw [IntKind.wrap_i64]; omega⟩) hS ?_
      try simp only [Act.put, List.setIfInBounds_toArray, List.set_cons_zero, List.set_cons_succ]
      refine wpAnyH_all (rs := [5, 9]) (by kernel_rfl) (by simp) (fun i hi => ?_)
      simp only [List.mem_cons, List.not_mem_nil, or_false] at hi
      rcases hi with rfl | rfl
      · refine .inl ?_
        go_simp
        refine (hS.i.2.bytesN).mono ?_
        rintro e wc ⟨vb, rfl, hn, hb⟩
        have hS := (hS.after hb).cons hn
        refine ⟨hS.tail, ?_⟩
        refine anyH_heldG hS ?_
        clear hn hb
        try simp only [Act.put, List.setIfInBounds_toArray, List.set_cons_zero, List.set_cons_succ]
        refine take_d (i := 6) (d := some 127) (v := .string (strOfNums (List.replicate N 0))) rfl rfl (by kernel_rfl) (by kernel_rfl) (by kernel_rfl) (fun _ _ _ h => h) (.inl ⟨by rfl, fun W hW => by have q := hW.reads.conv vb (List.replicate N 0) (by simp); go_simp⟩) hS ?_
        try simp only [Act.put, List.setIfInBounds_toArray, List.set_cons_zero, List.set_cons_succ]
        refine wpAnyH_all (rs := [9]) (by kernel_rfl) (by simp) (fun i hi => ?_)
        simp only [List.mem_cons, List.not_mem_nil, or_false] at hi
        subst hi
        refine .inl ?_
        go_simp
        have hZ : NumsIn .u8 (wc.alloc (.cells (bv (List.replicate N 0)).toArray 5)) (.slice (some ⟨wc.heap.size, 0, none⟩) N N) (List.replicate N 0) := by
          have hr := rowAt_new wc (List.replicate N 0) []
          simp only [List.append_nil] at hr
          have := hr.nums (c := N) (byt_zeros N) (by simp) (by have := HN1.out; simp; unfold maxLen; omega)
          rwa [List.length_replicate] at this
        have hS := (hS.after ((Below.refl _ _).alloc (Nat.le_refl _) (.cells (bv (List.replicate N 0)).toArray 5))).cons hZ
        refine ⟨hS.tail, ?_⟩
        refine anyH_heldG hS ?_
        clear hZ
        try simp only [Act.put, List.setIfInBounds_toArray, List.set_cons_zero, List.set_cons_succ]
        refine take_d (i := 10) (d := some 131) (v := .string (strOfNums (List.replicate N 0))) rfl rfl (by kernel_rfl) (by kernel_rfl) (by kernel_rfl) (fun _ _ _ h => h) (.inl ⟨by rfl, fun W hW => by have q := hW.reads.conv (.slice (some ⟨wc.heap.size, 0, none⟩) N N) (List.replicate N 0) (by simp); go_simp⟩) hS ?_
        try simp only [Act.put, List.setIfInBounds_toArray, List.set_cons_zero, List.set_cons_succ]
        refine take_d (i := 11) (d := some 132) (v := .bool true) rfl rfl (by kernel_rfl) (by kernel_rfl) (by kernel_rfl) (fun _ _ _ h => h) (.inl ⟨by rfl, fun W hW => by go_simp⟩) hS ?_
        try simp only [Act.put, List.setIfInBounds_toArray, List.set_cons_zero, List.set_cons_succ]
        refine take_d (i := 12) (d := some 133) (v := .bool true) rfl rfl (by kernel_rfl) (by kernel_rfl) (by kernel_rfl) (fun _ _ _ h => h) (.inl ⟨by rfl, fun W hW => by go_simp⟩) hS ?_
        try simp only [Act.put, List.setIfInBounds_toArray, List.set_cons_zero, List.set_cons_succ]
        refine take_d (i := 13) (d := some 134) (v := .bool true) rfl rfl (by kernel_rfl) (by kernel_rfl) (by kernel_rfl) (fun _ _ _ h => h) (.inl ⟨by rfl, fun W hW => by go_simp⟩) hS ?_
        try simp only [Act.put, List.setIfInBounds_toArray, List.set_cons_zero, List.set_cons_succ]
        refine wpAnyH_all (rs := [14]) (by kernel_rfl) (by simp) (fun i hi => ?_)
        simp only [List.mem_cons, List.not_mem_nil, or_false] at hi
        subst hi
        refine .inl ?_
        go_simp
        refine (works_any _).mono ?_
        rintro e wc ⟨rfl, hb⟩
        have hS := hS.after hb
        refine ⟨hS, ?_⟩
        clear hb
        try simp only [Act.put, List.setIfInBounds_toArray, List.set_cons_zero, List.set_cons_succ]
        refine take_d (i := 15) (d := some 136) (v := .bool true) rfl rfl (by kernel_rfl) (by kernel_rfl) (by kernel_rfl) (fun _ _ _ h => h) (.inl ⟨by rfl, fun W hW => by go_simp⟩) hS ?_
        try simp only [Act.put, List.setIfInBounds_toArray, List.set_cons_zero, List.set_cons_succ]
        refine take_d (i := 16) (d := some 4) (v := .bool true) rfl rfl (by kernel_rfl) (by kernel_rfl) (by kernel_rfl) (fun _ _ _ h => h) (.inl ⟨by rfl, fun W hW => by go_simp⟩) hS ?_
        try simp only [Act.put, List.setIfInBounds_toArray, List.set_cons_zero, List.set_cons_succ]
        refine wpAnyH_done (by kernel_rfl) ?_ _
        have HF := Lib.hid hS.i.1
        clear hS
        go_wp2
        go_ret
        exact ⟨rfl, HF.out⟩
      · refine .inl ?_
        go_simp
        have hZ : NumsIn .u8 (wd.alloc (.cells (bv (List.replicate N 0)).toArray 5)) (.slice (some ⟨wd.heap.size, 0, none⟩) N N) (List.replicate N 0) := by
          have hr := rowAt_new wd (List.replicate N 0) []
          simp only [List.append_nil] at hr
          have := hr.nums (c := N) (byt_zeros N) (by simp) (by have := HN1.out; simp; unfold maxLen; omega)
          rwa [List.length_replicate] at this
        have hS := (hS.after ((Below.refl _ _).alloc (Nat.le_refl _) (.cells (bv (List.replicate N 0)).toArray 5))).cons hZ
        refine ⟨hS.tail, ?_⟩
        refine anyH_heldG hS ?_
        clear hZ
        try simp only [Act.put, List.setIfInBounds_toArray, List.set_cons_zero, List.set_cons_succ]
        refine take_d (i := 10) (d := some 131) (v := .string (strOfNums (List.replicate N 0))) rfl rfl (by kernel_rfl) (by kernel_rfl) (by kernel_rfl) (fun _ _ _ h => h) (.inl ⟨by rfl, fun W hW => by have q := hW.reads.conv (.slice (some ⟨wd.heap.size, 0, none⟩) N N) (List.replicate N 0) (by simp); go_simp⟩) hS ?_
        try simp only [Act.put, List.setIfInBounds_toArray, List.set_cons_zero, List.set_cons_succ]
        refine wpAnyH_all (rs := [5]) (by kernel_rfl) (by simp) (fun i hi => ?_)
        simp only [List.mem_cons, List.not_mem_nil, or_false] at hi
        subst hi
        refine .inl ?_
        go_simp
        refine (hS.i.2.bytesN).mono ?_
        rintro e wc ⟨vb, rfl, hn, hb⟩
        have hS := (hS.after hb).cons hn
        refine ⟨hS.tail, ?_⟩
        refine anyH_heldG hS ?_
        clear hn hb
        try simp only [Act.put, List.setIfInBounds_toArray, List.set_cons_zero, List.set_cons_succ]
        refine take_d (i := 6) (d := some 127) (v := .string (strOfNums (List.replicate N 0))) rfl rfl (by kernel_rfl) (by kernel_rfl) (by kernel_rfl) (fun _ _ _ h => h) (.inl ⟨by rfl, fun W hW => by have q := hW.reads.conv vb (List.replicate N 0) (by simp); go_simp⟩) hS ?_
        try simp only [Act.put, List.setIfInBounds_toArray, List.set_cons_zero, List.set_cons_succ]
        refine take_d (i := 11) (d := some 132) (v := .bool true) rfl rfl (by kernel_rfl) (by kernel_rfl) (by kernel_rfl) (fun _ _ _ h => h) (.inl ⟨by rfl, fun W hW => by go_simp⟩) hS ?_
        try simp only [Act.put, List.setIfInBounds_toArray, List.set_cons_zero, List.set_cons_succ]
        refine take_d (i := 12) (d := some 133) (v := .bool true) rfl rfl (by kernel_rfl) (by kernel_rfl) (by kernel_rfl) (fun _ _ _ h => h) (.inl ⟨by rfl, fun W hW => by go_simp⟩) hS ?_
        try simp only [Act.put, List.setIfInBounds_toArray, List.set_cons_zero, List.set_cons_succ]
        refine take_d (i := 13) (d := some 134) (v := .bool true) rfl rfl (by kernel_rfl) (by kernel_rfl) (by kernel_rfl) (fun _ _ _ h => h) (.inl ⟨by rfl, fun W hW => by go_simp⟩) hS ?_
        try simp only [Act.put, List.setIfInBounds_toArray, List.set_cons_zero, List.set_cons_succ]
        refine wpAnyH_all (rs := [14]) (by kernel_rfl) (by simp) (fun i hi => ?_)
        simp only [List.mem_cons, List.not_mem_nil, or_false] at hi
        subst hi
        refine .inl ?_
        go_simp
        refine (works_any _).mono ?_
        rintro e wc ⟨rfl, hb⟩
        have hS := hS.after hb
        refine ⟨hS, ?_⟩
        clear hb
        try simp only [Act.put, List.setIfInBounds_toArray, List.set_cons_zero, List.set_cons_succ]
        refine take_d (i := 15) (d := some 136) (v := .bool true) rfl rfl (by kernel_rfl) (by kernel_rfl) (by kernel_rfl) (fun _ _ _ h => h) (.inl ⟨by rfl, fun W hW => by go_simp⟩) hS ?_
        try simp only [Act.put, List.setIfInBounds_toArray, List.set_cons_zero, List.set_cons_succ]
        refine take_d (i := 16) (d := some 4) (v := .bool true) rfl rfl (by kernel_rfl) (by kernel_rfl) (by kernel_rfl) (fun _ _ _ h => h) (.inl ⟨by rfl, fun W hW => by go_simp⟩) hS ?_
        try simp only [Act.put, List.setIfInBounds_toArray, List.set_cons_zero, List.set_cons_succ]
        refine wpAnyH_done (by kernel_rfl) ?_ _
        have HF := Lib.hid hS.i.1
        clear hS
        go_wp2
        go_ret
        exact ⟨rfl, HF.out⟩

set_option maxRecDepth 100000 in
theorem FramesMakes_pg (P : Nat) (hP0 : 1 ≤ P) (hP1 : P ≤ 32) (v : Value) (b : List Int) (w : World) (h : NumsIn .u8 w v b) (hlen : b.length ≤ 5000) (hg : 64 ≤ b.length ∧ b.length ≤ 2048 ∧ b.length % 64 = 0) :
    Calls Try.prog 3 #[.int .i64 (P : Int), v] w fun e w' => e = .returned (.bool true) ∧ Below w.heap.size w w' := by
  have HV := Lib.hid h
  obtain ⟨o, c, hv, _, hm, _⟩ := h.form
  unfold maxLen at hm
  have HG := Lib.hid hg
  have HS : Hid (∀ W, Calls Try.prog 14 #[.int .i64 (b.length : Int)] W fun e w' => e = .returned (.bool true) ∧ W = w') := fun W => by
    have := RSize_any (b.length : Int) W
    rwa [show (decide (64 ≤ (b.length : Int)) && decide ((b.length : Int) ≤ 2048) && decide ((b.length : Int) % 64 = 0)) = true by simp; omega] at this
  have HNew := Lib.hid (New_any P hP0 hP1 w)
  obtain ⟨i0, hi, hz0, hz1, hz2⟩ := info_parts A.infoB
  obtain ⟨N, hN⟩ : ∃ N, N = 64 * P := ⟨_, rfl⟩
  have hmk0 : Hid (∀ W : World, (Instr.makeSlice 22 (.int .i64 (64 * (P : Int))) (.int .i64 (64 * (P : Int)))).run Try.prog W = .ok (.slice (some ⟨W.heap.size, 0, none⟩) N N) (W.alloc (.cells (bv (List.replicate N 0)).toArray 5))) := fun W => by
    have hr := run_make (P := Try.prog) W 22 5 i0 (.int .u8 0) Try.underlying22 hi hz0 .i64 .i64 (64 * (P : Int)) (64 * (P : Int)) (by omega) (by omega) (by rw [hz2]; omega) (by omega)
    rw [hr, hz1]
    have e : (64 * (P : Int)).toNat = N := by omega
    rw [e, Nat.mul_one, made_zeros, List.append_nil]
  rw [← hN] at HNew
  have HN1 : Hid (N ≤ 2048) := by show _ ≤ _; omega
  have qp1 : ¬ (P : Int) < 1 := by omega
  have qp2 : ¬ 32 < (P : Int) := by omega
  clear hi hz0 hz1 hz2 hN
  subst hv
  clear h hg
  go_enter Try.func3, Try.ntmps3
  go_wp2_with fail
  refine HNew.out.mono ?_
  rintro e w1 ⟨S1, F1, rfl, hF, hlo, hb⟩
  have FA1 := Lib.hid hF
  have B1 := Lib.hid hb
  have L1 := Lib.hid hlo
  clear hF hlo hb
  have hA2 := (Below.refl w1.heap.size w1).alloc (Nat.le_refl _) (.cells #[] 5)
  have HV2 := Lib.hid ((HV.out.below B1.out).below hA2)
  have HA2 := Lib.hid hA2
  clear hA2
  go_wp2_with (at_builtin; refine wpList_append_nums _ rfl _ _ rfl w1.heap.size _ 0 [] rfl (World.ownsRow_made w1 #[] 0 (Nat.le_refl _) (Nat.zero_le _) (by simp)) _ b rfl HV2.out (by omega) (by simp) ?_)
  intro v1 w3 hown hgrow hnil
  have B3 := Lib.hid (HA2.out.grown hgrow (by simp) (by intro k hk; simp [Value.ownBlock] at hk; omega))
  have hown1 : w3.ownsRow w1.heap.size 5 1 v1 b.length (bv b) := by simpa using hown
  have HO1 := Lib.hid (hown1.alloc (.cells #[.int .u8 77] 5))
  have HB1 := Lib.hid (fun k (e : v1.ownBlock = some k) => (World.ownsRow.lt hown1 k e).1)
  have HO77 := Lib.hid (one_nums w3)
  have hs3 := B3.out.size
  clear hown hgrow hnil hown1
  go_wp2_with (at_builtin; refine wpList_append_nums _ rfl _ _ rfl w1.heap.size _ b.length b rfl HO1.out _ [77] rfl HO77.out (by simp; omega) (by simp; omega) ?_)
  intro v2 w4 hown hgrow hnil
  have B4 := Lib.hid ((B3.out.alloc hs3 (.cells #[.int .u8 77] 5)).grown hgrow (by simp; omega) HB1.out)
  obtain ⟨gm, cm, rfl, rm, hgm, hcm, _, hcM⟩ := own_slice (n := b.length + 1) (l := b ++ [77]) (by simpa using hown) (by simpa using hnil)
  have RM4 := Lib.hid rm
  have GM := Lib.hid hgm
  have CMM := Lib.hid hcM
  have B04 := Lib.hid (B1.out.trans (B4.out.mono B1.out.size))
  have NM4 := Lib.hid (rm.head.nums (c := cm) HV.out.byt (by omega) (by unfold maxLen; omega))
  have GL : Hid (gm < w4.heap.size) := rm.lt
  clear hown hgrow hnil rm hgm hs3
  unfold maxLen at hcM
  go_wp2_with fail
  refine (Of_any _ b w4 NM4.out HG.out.1 HG.out.2.1 HG.out.2.2).mono ?_
  rintro e w5 ⟨S2, F2, rfl, hF, hlo, hb⟩
  have FB5 := Lib.hid hF
  have L2 := Lib.hid hlo
  have B5 := Lib.hid hb
  clear hF hlo hb
  have RM5 := Lib.hid (RM4.out.keep (B5.out.block gm GL.out))
  have B05 := Lib.hid (B04.out.trans (B5.out.mono B04.out.size))
  have c77 : w5.cell? ⟨gm, b.length, none⟩ = some (.int .u8 77) := by
    have := (RM5.out.cell (i := b.length) (by simp)).1
    rwa [show at0 (b ++ [77]) b.length = 77 by simp [at0]] at this
  have q1 := str_conv (RM5.out.head.nums (c := cm) HV.out.byt (by omega) (by unfold maxLen; omega))
  have q2 := str_conv (HV.out.below B05.out)
  have hcm' : (b.length : Int) + 1 ≤ cm := by omega
  go_wp2_with (first | (go_at_call 13; refine (num_any _ _).mono ?_; rintro e w' ⟨rfl, rfl⟩) | (go_at_call 14; refine (HS.out _).mono ?_; rintro e w' ⟨rfl, rfl⟩))
  clear q1 q2 c77
  have I5 : Hid (Inc w5 gm b.length w5) := ⟨Turned.refl _ _, b, RM5.out.head, rfl, HV.out.byt⟩
  go_loopw [10] (fun i wr => ∃ k : Nat, k ≤ b.length ∧ i = .int .i64 (k : Int) ∧ Hid (Inc w5 gm b.length wr)) (fun i _ => b.length - (intOf i).toNat)
  case atStart => exact ⟨0, by omega, rfl, I5.out⟩
  case round =>
    obtain ⟨k, hk, rfl, hI⟩ := hrel
    by_cases hlt : k < b.length
    · obtain ⟨x, m0, f0, x0, x1⟩ := hI.out.cell hlt
      go_wp2
      go_roundw
      case rel => exact ⟨k + 1, by omega, by go_num, hI.out.step hlt (by omega)⟩
      case measure => simp [intOf]; omega
    · have hkx : k = b.length := by omega
      have B06 := B05.out.trans (hI.out.t.below B05.out.size (fun j e => by subst e; have := GM.out; have := B1.out.size; omega))
      have FB6 := FB5.out.kept hI.out.t (fun j hj e => by subst e; have := L2.out _ hj; have := GL.out; omega)
      have FA6 := ((FA1.out.below B4.out).below (B5.out)).kept hI.out.t (fun j hj e => by subst e; have := FA1.out.lt _ hj; have := GM.out; omega)
      have HI6 : HeldG (fun W => ((Below w.heap.size w W) ∧ Fr W S2 b F2) ∧ Fr W S1 (List.replicate N 0) F1) [((.slice o b.length c : Value), b)] wr := ⟨stable_and (stable_and (stable_below w) (stable_fr S2 b F2)) (stable_fr S1 (List.replicate N 0) F1), ⟨⟨B06, FB6⟩, FA6⟩, (Reads.nil _).cons (HV.out.below B06)⟩
      have hK0 := HI6.drew
      clear hkx
      go_wp2_with fail
      refine wp_region_held_drew (S := _) (by kernel_rfl) hK0 (fun _ => ?_)
      have hS := hK0
      refine take_d (i := 0) (d := some 87) (v := .int .i64 0) rfl rfl (by kernel_rfl) (by kernel_rfl) (by kernel_rfl) (fun _ _ _ h => h) (.inl ⟨by rfl, fun W hW => by go_simp⟩) hS ?_
      try simp only [Act.put, List.setIfInBounds_toArray, List.set_cons_zero, List.set_cons_succ]
      refine wpAnyH_all (rs := [1]) (by kernel_rfl) (by simp) (fun i hi => ?_)
      simp only [List.mem_cons, List.not_mem_nil, or_false] at hi
      subst hi
      refine .inl ?_
      go_simp
      refine (num_any _ _).mono ?_
      rintro e wc ⟨rfl, rfl⟩
      refine ⟨hS, ?_⟩
      try simp only [Act.put, List.setIfInBounds_toArray, List.set_cons_zero, List.set_cons_succ]
      refine take_d (i := 2) (d := some 89) (v := .bool true) rfl rfl (by kernel_rfl) (by kernel_rfl) (by kernel_rfl) (fun _ _ _ h => h) (.inl ⟨by rfl, fun W hW => by go_simp⟩) hS ?_
      try simp only [Act.put, List.setIfInBounds_toArray, List.set_cons_zero, List.set_cons_succ]
      refine take_d (i := 3) (d := some 90) (v := .bool true) rfl rfl (by kernel_rfl) (by kernel_rfl) (by kernel_rfl) (fun _ _ _ h => h) (.inl ⟨by rfl, fun W hW => by go_simp⟩) hS ?_
      try simp only [Act.put, List.setIfInBounds_toArray, List.set_cons_zero, List.set_cons_succ]
      refine take_d (i := 4) (d := some 91) (v := .pointer (some ⟨S2, 0, none⟩)) rfl rfl (by kernel_rfl) (by kernel_rfl) (by kernel_rfl) (fun _ _ _ h => h) (.inl ⟨by rfl, fun W hW => by go_simp⟩) hS ?_
      try simp only [Act.put, List.setIfInBounds_toArray, List.set_cons_zero, List.set_cons_succ]
      refine take_d (i := 7) (d := some 94) (v := .slice o b.length c) rfl rfl (by kernel_rfl) (by kernel_rfl) (by kernel_rfl) (fun _ _ _ h => h) (.inl ⟨by rfl, fun W hW => by go_simp⟩) hS ?_
      try simp only [Act.put, List.setIfInBounds_toArray, List.set_cons_zero, List.set_cons_succ]
      refine take_d (i := 8) (d := some 95) (v := .string (strOfNums b)) rfl rfl (by kernel_rfl) (by kernel_rfl) (by kernel_rfl) (fun _ _ _ h => h) (.inl ⟨by rfl, fun W hW => by have q := hW.reads.conv (.slice o b.length c) b (by simp); go_simp⟩) hS ?_
      try simp only [Act.put, List.setIfInBounds_toArray, List.set_cons_zero, List.set_cons_succ]
      refine wpAnyH_all (rs := [5]) (by kernel_rfl) (by simp) (fun i hi => ?_)
      simp only [List.mem_cons, List.not_mem_nil, or_false] at hi
      subst hi
      refine .inl ?_
      go_simp
      refine (hS.i.1.2.bytesN).mono ?_
      rintro e wc ⟨vb, rfl, hn, hb⟩
      have hS := (hS.after hb).cons hn
      refine ⟨hS.tail, ?_⟩
      refine anyH_heldG hS ?_
      clear hn hb
      try simp only [Act.put, List.setIfInBounds_toArray, List.set_cons_zero, List.set_cons_succ]
      refine take_d (i := 6) (d := some 93) (v := .string (strOfNums b)) rfl rfl (by kernel_rfl) (by kernel_rfl) (by kernel_rfl) (fun _ _ _ h => h) (.inl ⟨by rfl, fun W hW => by have q := hW.reads.conv vb b (by simp); go_simp⟩) hS ?_
      try simp only [Act.put, List.setIfInBounds_toArray, List.set_cons_zero, List.set_cons_succ]
      refine take_d (i := 9) (d := some 96) (v := .bool false) rfl rfl (by kernel_rfl) (by kernel_rfl) (by kernel_rfl) (fun _ _ _ h => h) (.inl ⟨by rfl, fun W hW => by go_simp⟩) hS ?_
      try simp only [Act.put, List.setIfInBounds_toArray, List.set_cons_zero, List.set_cons_succ]
      refine take_d (i := 10) (d := some 97) (v := .bool false) rfl rfl (by kernel_rfl) (by kernel_rfl) (by kernel_rfl) (fun _ _ _ h => h) (.inl ⟨by rfl, fun W hW => by go_simp⟩) hS ?_
      try simp only [Act.put, List.setIfInBounds_toArray, List.set_cons_zero, List.set_cons_succ]
      refine take_d (i := 11) (d := some 98) (v := .pointer (some ⟨S2, 0, none⟩)) rfl rfl (by kernel_rfl) (by kernel_rfl) (by kernel_rfl) (fun _ _ _ h => h) (.inl ⟨by rfl, fun W hW => by go_simp⟩) hS ?_
      try simp only [Act.put, List.setIfInBounds_toArray, List.set_cons_zero, List.set_cons_succ]
      refine take_d (i := 13) (d := some 100) (v := .slice o b.length c) rfl rfl (by kernel_rfl) (by kernel_rfl) (by kernel_rfl) (fun _ _ _ h => h) (.inl ⟨by rfl, fun W hW => by go_simp⟩) hS ?_
      try simp only [Act.put, List.setIfInBounds_toArray, List.set_cons_zero, List.set_cons_succ]
      refine take_d (i := 14) (d := some 101) (v := .int .i64 (b.length : Int)) rfl rfl (by kernel_rfl) (by kernel_rfl) (by kernel_rfl) (fun _ _ _ h => h) (.inl ⟨by rfl, fun W hW => by go_simp⟩) hS ?_
      try simp only [Act.put, List.setIfInBounds_toArray, List.set_cons_zero, List.set_cons_succ]
      refine wpAnyH_all (rs := [12]) (by kernel_rfl) (by simp) (fun i hi => ?_)
      simp only [List.mem_cons, List.not_mem_nil, or_false] at hi
      subst hi
      refine .inl ?_
      go_simp
      refine (hS.i.1.2.sizeN rfl).mono ?_
      rintro e wc ⟨rfl, rfl⟩
      refine ⟨hS, ?_⟩
      try simp only [Act.put, List.setIfInBounds_toArray, List.set_cons_zero, List.set_cons_succ]
      refine take_d (i := 15) (d := some 102) (v := .bool false) rfl rfl (by kernel_rfl) (by kernel_rfl) (by kernel_rfl) (fun _ _ _ h => h) (.inl ⟨by rfl, fun W hW => by go_simp⟩) hS ?_
      try simp only [Act.put, List.setIfInBounds_toArray, List.set_cons_zero, List.set_cons_succ]
      refine take_d (i := 16) (d := some 103) (v := .bool false) rfl rfl (by kernel_rfl) (by kernel_rfl) (by kernel_rfl) (fun _ _ _ h => h) (.inl ⟨by rfl, fun W hW => by go_simp⟩) hS ?_
      try simp only [Act.put, List.setIfInBounds_toArray, List.set_cons_zero, List.set_cons_succ]
      refine take_d (i := 17) (d := some 104) (v := .bool false) rfl rfl (by kernel_rfl) (by kernel_rfl) (by kernel_rfl) (fun _ _ _ h => h) (.inl ⟨by rfl, fun W hW => by go_simp⟩) hS ?_
      try simp only [Act.put, List.setIfInBounds_toArray, List.set_cons_zero, List.set_cons_succ]
      refine wpAnyH_done (by kernel_rfl) ?_ _
      have hS := hS.tail
      clear hK0 HI6
      have hK0 := hS.drew
      clear hS
      have hmk := hmk0.out
      go_wp2_with fail
      refine wp_region_held_drew (S := _) (by kernel_rfl) hK0 (fun _ => ?_)
      have hS := hK0
      clear hK0
      generalize World.drew _ = wd at hS ⊢
      refine take_d (i := 0) (d := some 121) (v := .int .i64 0) rfl rfl (by kernel_rfl) (by kernel_rfl) (by kernel_rfl) (fun _ _ _ h => h) (.inl ⟨by rfl, fun W hW => by go_simp⟩) hS ?_
      try simp only [Act.put, List.setIfInBounds_toArray, List.set_cons_zero, List.set_cons_succ]
      refine wpAnyH_all (rs := [1]) (by kernel_rfl) (by simp) (fun i hi => ?_)
      simp only [List.mem_cons, List.not_mem_nil, or_false] at hi
      subst hi
      refine .inl ?_
      go_simp
      refine (num_any _ _).mono ?_
      rintro e wc ⟨rfl, rfl⟩
      refine ⟨hS, ?_⟩
      try simp only [Act.put, List.setIfInBounds_toArray, List.set_cons_zero, List.set_cons_succ]
      refine take_d (i := 2) (d := some 123) (v := .bool true) rfl rfl (by kernel_rfl) (by kernel_rfl) (by kernel_rfl) (fun _ _ _ h => h) (.inl ⟨by rfl, fun W hW => by go_simp⟩) hS ?_
      try simp only [Act.put, List.setIfInBounds_toArray, List.set_cons_zero, List.set_cons_succ]
      refine take_d (i := 3) (d := some 124) (v := .bool true) rfl rfl (by kernel_rfl) (by kernel_rfl) (by kernel_rfl) (fun _ _ _ h => h) (.inl ⟨by rfl, fun W hW => by go_simp⟩) hS ?_
      try simp only [Act.put, List.setIfInBounds_toArray, List.set_cons_zero, List.set_cons_succ]
      refine take_d (i := 4) (d := some 125) (v := .pointer (some ⟨S1, 0, none⟩)) rfl rfl (by kernel_rfl) (by kernel_rfl) (by kernel_rfl) (fun _ _ _ h => h) (.inl ⟨by rfl, fun W hW => by go_simp⟩) hS ?_
      try simp only [Act.put, List.setIfInBounds_toArray, List.set_cons_zero, List.set_cons_succ]
      refine take_d (i := 7) (d := some 128) (v := .int .i64 (P : Int)) rfl rfl (by kernel_rfl) (by kernel_rfl) (by kernel_rfl) (fun _ _ _ h => h) (.inl ⟨by rfl, fun W hW => by go_simp⟩) hS ?_
      try simp only [Act.put, List.setIfInBounds_toArray, List.set_cons_zero, List.set_cons_succ]
      refine take_d (i := 8) (d := some 129) (v := .int .i64 (64 * (P : Int))) rfl rfl (by kernel_rfl) (by kernel_rfl) (by kernel_rfl) (fun _ _ _ h => h) (.inl ⟨by rfl, fun W hW => by go_simp; rw [IntKind.wrap_i64]; omega⟩) hS ?_
      try simp only [Act.put, List.setIfInBounds_toArray, List.set_cons_zero, List.set_cons_succ]
      refine wpAnyH_all (rs := [5, 9]) (by kernel_rfl) (by simp) (fun i hi => ?_)
      simp only [List.mem_cons, List.not_mem_nil, or_false] at hi
      rcases hi with rfl | rfl
      · refine .inl ?_
        go_simp
        refine (hS.i.2.bytesN).mono ?_
        rintro e wc ⟨vb, rfl, hn, hb⟩
        have hS := (hS.after hb).cons hn
        refine ⟨hS.tail, ?_⟩
        refine anyH_heldG hS ?_
        clear hn hb
        try simp only [Act.put, List.setIfInBounds_toArray, List.set_cons_zero, List.set_cons_succ]
        refine take_d (i := 6) (d := some 127) (v := .string (strOfNums (List.replicate N 0))) rfl rfl (by kernel_rfl) (by kernel_rfl) (by kernel_rfl) (fun _ _ _ h => h) (.inl ⟨by rfl, fun W hW => by have q := hW.reads.conv vb (List.replicate N 0) (by simp); go_simp⟩) hS ?_
        try simp only [Act.put, List.setIfInBounds_toArray, List.set_cons_zero, List.set_cons_succ]
        refine wpAnyH_all (rs := [9]) (by kernel_rfl) (by simp) (fun i hi => ?_)
        simp only [List.mem_cons, List.not_mem_nil, or_false] at hi
        subst hi
        refine .inl ?_
        go_simp
        have hZ : NumsIn .u8 (wc.alloc (.cells (bv (List.replicate N 0)).toArray 5)) (.slice (some ⟨wc.heap.size, 0, none⟩) N N) (List.replicate N 0) := by
          have hr := rowAt_new wc (List.replicate N 0) []
          simp only [List.append_nil] at hr
          have := hr.nums (c := N) (byt_zeros N) (by simp) (by have := HN1.out; simp; unfold maxLen; omega)
          rwa [List.length_replicate] at this
        have hS := (hS.after ((Below.refl _ _).alloc (Nat.le_refl _) (.cells (bv (List.replicate N 0)).toArray 5))).cons hZ
        refine ⟨hS.tail, ?_⟩
        refine anyH_heldG hS ?_
        clear hZ
        try simp only [Act.put, List.setIfInBounds_toArray, List.set_cons_zero, List.set_cons_succ]
        refine take_d (i := 10) (d := some 131) (v := .string (strOfNums (List.replicate N 0))) rfl rfl (by kernel_rfl) (by kernel_rfl) (by kernel_rfl) (fun _ _ _ h => h) (.inl ⟨by rfl, fun W hW => by have q := hW.reads.conv (.slice (some ⟨wc.heap.size, 0, none⟩) N N) (List.replicate N 0) (by simp); go_simp⟩) hS ?_
        try simp only [Act.put, List.setIfInBounds_toArray, List.set_cons_zero, List.set_cons_succ]
        refine take_d (i := 11) (d := some 132) (v := .bool true) rfl rfl (by kernel_rfl) (by kernel_rfl) (by kernel_rfl) (fun _ _ _ h => h) (.inl ⟨by rfl, fun W hW => by go_simp⟩) hS ?_
        try simp only [Act.put, List.setIfInBounds_toArray, List.set_cons_zero, List.set_cons_succ]
        refine take_d (i := 12) (d := some 133) (v := .bool true) rfl rfl (by kernel_rfl) (by kernel_rfl) (by kernel_rfl) (fun _ _ _ h => h) (.inl ⟨by rfl, fun W hW => by go_simp⟩) hS ?_
        try simp only [Act.put, List.setIfInBounds_toArray, List.set_cons_zero, List.set_cons_succ]
        refine take_d (i := 13) (d := some 134) (v := .bool true) rfl rfl (by kernel_rfl) (by kernel_rfl) (by kernel_rfl) (fun _ _ _ h => h) (.inl ⟨by rfl, fun W hW => by go_simp⟩) hS ?_
        try simp only [Act.put, List.setIfInBounds_toArray, List.set_cons_zero, List.set_cons_succ]
        refine wpAnyH_all (rs := [14]) (by kernel_rfl) (by simp) (fun i hi => ?_)
        simp only [List.mem_cons, List.not_mem_nil, or_false] at hi
        subst hi
        refine .inl ?_
        go_simp
        refine (works_any _).mono ?_
        rintro e wc ⟨rfl, hb⟩
        have hS := hS.after hb
        refine ⟨hS, ?_⟩
        clear hb
        try simp only [Act.put, List.setIfInBounds_toArray, List.set_cons_zero, List.set_cons_succ]
        refine take_d (i := 15) (d := some 136) (v := .bool true) rfl rfl (by kernel_rfl) (by kernel_rfl) (by kernel_rfl) (fun _ _ _ h => h) (.inl ⟨by rfl, fun W hW => by go_simp⟩) hS ?_
        try simp only [Act.put, List.setIfInBounds_toArray, List.set_cons_zero, List.set_cons_succ]
        refine take_d (i := 16) (d := some 4) (v := .bool true) rfl rfl (by kernel_rfl) (by kernel_rfl) (by kernel_rfl) (fun _ _ _ h => h) (.inl ⟨by rfl, fun W hW => by go_simp⟩) hS ?_
        try simp only [Act.put, List.setIfInBounds_toArray, List.set_cons_zero, List.set_cons_succ]
        refine wpAnyH_done (by kernel_rfl) ?_ _
        have HF := Lib.hid hS.i.1.1
        clear hS
        go_wp2
        go_ret
        exact ⟨rfl, HF.out⟩
      · refine .inl ?_
        go_simp
        have hZ : NumsIn .u8 (wd.alloc (.cells (bv (List.replicate N 0)).toArray 5)) (.slice (some ⟨wd.heap.size, 0, none⟩) N N) (List.replicate N 0) := by
          have hr := rowAt_new wd (List.replicate N 0) []
          simp only [List.append_nil] at hr
          have := hr.nums (c := N) (byt_zeros N) (by simp) (by have := HN1.out; simp; unfold maxLen; omega)
          rwa [List.length_replicate] at this
        have hS := (hS.after ((Below.refl _ _).alloc (Nat.le_refl _) (.cells (bv (List.replicate N 0)).toArray 5))).cons hZ
        refine ⟨hS.tail, ?_⟩
        refine anyH_heldG hS ?_
        clear hZ
        try simp only [Act.put, List.setIfInBounds_toArray, List.set_cons_zero, List.set_cons_succ]
        refine take_d (i := 10) (d := some 131) (v := .string (strOfNums (List.replicate N 0))) rfl rfl (by kernel_rfl) (by kernel_rfl) (by kernel_rfl) (fun _ _ _ h => h) (.inl ⟨by rfl, fun W hW => by have q := hW.reads.conv (.slice (some ⟨wd.heap.size, 0, none⟩) N N) (List.replicate N 0) (by simp); go_simp⟩) hS ?_
        try simp only [Act.put, List.setIfInBounds_toArray, List.set_cons_zero, List.set_cons_succ]
        refine wpAnyH_all (rs := [5]) (by kernel_rfl) (by simp) (fun i hi => ?_)
        simp only [List.mem_cons, List.not_mem_nil, or_false] at hi
        subst hi
        refine .inl ?_
        go_simp
        refine (hS.i.2.bytesN).mono ?_
        rintro e wc ⟨vb, rfl, hn, hb⟩
        have hS := (hS.after hb).cons hn
        refine ⟨hS.tail, ?_⟩
        refine anyH_heldG hS ?_
        clear hn hb
        try simp only [Act.put, List.setIfInBounds_toArray, List.set_cons_zero, List.set_cons_succ]
        refine take_d (i := 6) (d := some 127) (v := .string (strOfNums (List.replicate N 0))) rfl rfl (by kernel_rfl) (by kernel_rfl) (by kernel_rfl) (fun _ _ _ h => h) (.inl ⟨by rfl, fun W hW => by have q := hW.reads.conv vb (List.replicate N 0) (by simp); go_simp⟩) hS ?_
        try simp only [Act.put, List.setIfInBounds_toArray, List.set_cons_zero, List.set_cons_succ]
        refine take_d (i := 11) (d := some 132) (v := .bool true) rfl rfl (by kernel_rfl) (by kernel_rfl) (by kernel_rfl) (fun _ _ _ h => h) (.inl ⟨by rfl, fun W hW => by go_simp⟩) hS ?_
        try simp only [Act.put, List.setIfInBounds_toArray, List.set_cons_zero, List.set_cons_succ]
        refine take_d (i := 12) (d := some 133) (v := .bool true) rfl rfl (by kernel_rfl) (by kernel_rfl) (by kernel_rfl) (fun _ _ _ h => h) (.inl ⟨by rfl, fun W hW => by go_simp⟩) hS ?_
        try simp only [Act.put, List.setIfInBounds_toArray, List.set_cons_zero, List.set_cons_succ]
        refine take_d (i := 13) (d := some 134) (v := .bool true) rfl rfl (by kernel_rfl) (by kernel_rfl) (by kernel_rfl) (fun _ _ _ h => h) (.inl ⟨by rfl, fun W hW => by go_simp⟩) hS ?_
        try simp only [Act.put, List.setIfInBounds_toArray, List.set_cons_zero, List.set_cons_succ]
        refine wpAnyH_all (rs := [14]) (by kernel_rfl) (by simp) (fun i hi => ?_)
        simp only [List.mem_cons, List.not_mem_nil, or_false] at hi
        subst hi
        refine .inl ?_
        go_simp
        refine (works_any _).mono ?_
        rintro e wc ⟨rfl, hb⟩
        have hS := hS.after hb
        refine ⟨hS, ?_⟩
        clear hb
        try simp only [Act.put, List.setIfInBounds_toArray, List.set_cons_zero, List.set_cons_succ]
        refine take_d (i := 15) (d := some 136) (v := .bool true) rfl rfl (by kernel_rfl) (by kernel_rfl) (by kernel_rfl) (fun _ _ _ h => h) (.inl ⟨by rfl, fun W hW => by go_simp⟩) hS ?_
        try simp only [Act.put, List.setIfInBounds_toArray, List.set_cons_zero, List.set_cons_succ]
        refine take_d (i := 16) (d := some 4) (v := .bool true) rfl rfl (by kernel_rfl) (by kernel_rfl) (by kernel_rfl) (fun _ _ _ h => h) (.inl ⟨by rfl, fun W hW => by go_simp⟩) hS ?_
        try simp only [Act.put, List.setIfInBounds_toArray, List.set_cons_zero, List.set_cons_succ]
        refine wpAnyH_done (by kernel_rfl) ?_ _
        have HF := Lib.hid hS.i.1.1
        clear hS
        go_wp2
        go_ret
        exact ⟨rfl, HF.out⟩

theorem FramesMakes_walk (p : Int) (hp : (Lit.int .i64 p).wf = true) (v : Value) (b : List Int) (w : World) (h : NumsIn .u8 w v b) :
    Calls Try.prog 3 #[.int .i64 p, v] w fun e w' => e = .returned (.bool true) ∧ Below w.heap.size w w' := by
  by_cases hlen : (5000 : Int) < b.length
  · obtain ⟨o, c, rfl, _, hm, _⟩ := h.form
    unfold maxLen at hm
    go_enter Try.func3, Try.ntmps3
    go_wp2_with (go_at_call 10; refine (works_any _).mono ?_; rintro e w' ⟨rfl, hb⟩)
    go_ret
    exact ⟨rfl, hb⟩
  · by_cases hg : 64 ≤ b.length ∧ b.length ≤ 2048 ∧ b.length % 64 = 0
    · by_cases hP : 1 ≤ p ∧ p ≤ 32
      · obtain ⟨P, rfl⟩ := Int.eq_ofNat_of_zero_le (show 0 ≤ p by omega)
        exact FramesMakes_pg P (by omega) (by omega) v b w h (by omega) hg
      · exact FramesMakes_ng p hP v b w h (by omega) hg
    · by_cases hP : 1 ≤ p ∧ p ≤ 32
      · obtain ⟨P, rfl⟩ := Int.eq_ofNat_of_zero_le (show 0 ≤ p by omega)
        exact FramesMakes_pb P (by omega) (by omega) v b w h (by omega) hg
      · exact FramesMakes_nb p hP v b w h (by omega) hg
end Go.Proofs.Ythcipnmcmcihgaa
