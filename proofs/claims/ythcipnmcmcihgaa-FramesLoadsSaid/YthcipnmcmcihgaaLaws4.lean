/-
  Layer 5: the walk of FramesLoads. Written by gen_loads.py out of XLaws4.part.
-/
import Derived.Test.YthcipnmcmcihgaaRegion2
namespace Go.Proofs.Ythcipnmcmcihgaa
open Go.RowKit
set_option maxHeartbeats 1000000
set_option linter.unusedVariables false

theorem RLoad_all {w : World} {g c : Nat} {l : List Int} (hr : RowAt w g l) (hb : Byt l) (hc : l.length ≤ c) (hlen : 64 ≤ l.length ∧ l.length ≤ 2048) (a : Int) (ha : W32 a) (v : Value) (xs : List Int) (hv : NumsIn .u8 w v xs) (hx : xs.length ≤ 65536) :
    Calls Try.prog 24 #[.slice (some ⟨g, 0, none⟩) l.length c, .int .u32 a, v] w fun e w' => ∃ gw cw, e = .returned (.tuple #[.slice (some ⟨gw, 0, none⟩) l.length cw, .int .i64 (ldR l.length a xs.length)]) ∧ RowAt w' gw (ldE l a xs) ∧ l.length ≤ cw ∧ (gw = g ∨ w.heap.size ≤ gw) ∧ Below w.heap.size w w' := by
  by_cases hz : ldR l.length a xs.length = 0
  · obtain ⟨k, rfl⟩ := Int.eq_ofNat_of_zero_le ha.1
    have hfit := ldR_zero hz
    have hld : ldE l k xs = ldV l k xs := by unfold ldE; rw [hz]; simp
    rw [hz, hld]
    refine (RLoad_any hr hb hc (by omega) (by omega) k v xs hv (by omega)).mono ?_
    rintro e w' ⟨v', rfl, gw, cw, rfl, h1, h2, h3, h4⟩
    have e := ldV_length (l := l) (k := k) (xs := xs) (by omega)
    rw [e] at h2 ⊢
    exact ⟨gw, cw, rfl, h1, h2, .inr h3, h4⟩
  · have hld : ldE l a xs = l := by unfold ldE; rw [if_neg hz]
    have h4 : ldR l.length a xs.length = 4 := by unfold ldR at hz ⊢; split at hz <;> simp_all
    obtain ⟨o, c2, rfl, _, _, _⟩ := hv.form
    rw [hld, h4]
    refine (RLoad_no _ _ l.length c xs.length c2 (by omega) hx a ha hz w).mono ?_
    rintro e w' ⟨rfl, rfl⟩
    exact ⟨g, c, rfl, hr, hc, .inl rfl, Below.refl _ _⟩

set_option maxRecDepth 100000 in
theorem FramesLoads_walk (v0 : Value) (b : List Int) (p : Int) (hp : (Lit.int .i64 p).wf = true) (a : Int) (ha : W32 a) (v1 : Value) (xs : List Int) (w : World) (h : NumsIn .u8 w v0 b) (h1 : NumsIn .u8 w v1 xs) :
    Calls Try.prog 6 #[v0, .int .i64 p, .int .u32 a, v1] w fun e w' => e = .returned (.bool true) ∧ Below w.heap.size w w' := by
  have HA := Lib.hid ha
  by_cases hlen : (3000 : Int) < b.length
  · obtain ⟨o, c, rfl, _, hm, _⟩ := h.form
    obtain ⟨o1, c1, rfl, _, hm1, _⟩ := h1.form
    unfold maxLen at hm hm1
    go_enter Try.func6, Try.ntmps6
    go_wp2_with (go_at_call 10; refine (works_any _).mono ?_; rintro e w' ⟨rfl, hb⟩)
    go_ret
    exact ⟨rfl, hb⟩
  by_cases hlen1 : (3000 : Int) < xs.length
  · obtain ⟨o, c, rfl, _, hm, _⟩ := h.form
    obtain ⟨o1, c1, rfl, _, hm1, _⟩ := h1.form
    unfold maxLen at hm hm1
    go_enter Try.func6, Try.ntmps6
    go_wp2_with (go_at_call 10; refine (works_any _).mono ?_; rintro e w' ⟨rfl, hb⟩)
    go_ret
    exact ⟨rfl, hb⟩
  have HP := Lib.hid (paged_any v0 b p w h (by omega))
  have HPl : Hid (64 ≤ (pgd b p).length ∧ (pgd b p).length ≤ 2048 ∧ (pgd b p).length % 64 = 0) := by
    have hlo := pgN_lo p
    have hhi := pgN_hi p
    have hl := pgd_length b p
    exact ⟨by omega, by omega, by omega⟩
  have HPb := Lib.hid (pgd_byt h.byt p)
  have HV1 := Lib.hid h1
  obtain ⟨o, c, rfl, _, hm, _⟩ := h.form
  obtain ⟨o1, c1, hv1, _, hm1, _⟩ := h1.form
  unfold maxLen at hm hm1
  generalize pgd b p = l at HP HPl HPb
  clear h h1
  subst hv1
  go_enter Try.func6, Try.ntmps6
  go_wp2_with fail
  refine HP.out.mono ?_
  rintro e w1 ⟨u, rfl, g, c2, rfl, hr, hc2, hg, hbw⟩
  have R1 := Lib.hid hr
  have C2 := Lib.hid hc2
  have G1 := Lib.hid hg
  have B1 := Lib.hid hbw
  clear hr hc2 hg hbw
  go_wp2_with fail
  refine (Of_any _ l w1 (R1.out.nums HPb.out C2.out (by have := HPl.out; unfold maxLen; omega)) HPl.out.1 HPl.out.2.1 HPl.out.2.2).mono ?_
  rintro e w2 ⟨S, F, rfl, hF, hlo, hbw⟩
  have F2 := Lib.hid hF
  have FL := Lib.hid hlo
  have B2 := Lib.hid hbw
  have B02 := Lib.hid (B1.out.trans (hbw.mono B1.out.size))
  clear hF hlo hbw
  have hA2 := (Below.refl w2.heap.size w2).alloc (Nat.le_refl _) (.cells #[] 5)
  have HV2 := Lib.hid ((HV1.out.below B02.out).below hA2)
  have HA2 := Lib.hid hA2
  clear hA2
  go_wp2_with (at_builtin; refine wpList_append_nums _ rfl _ _ rfl w2.heap.size _ 0 [] rfl (World.ownsRow_made w2 #[] 0 (Nat.le_refl _) (Nat.zero_le _) (by simp)) _ xs rfl HV2.out (by omega) (by simp) ?_)
  intro v' w3 hown hgrow hnil
  obtain ⟨gm, cm, rfl, rm, hgm, hcm, _, hcM⟩ := own_slice (n := xs.length) (l := xs) (by simpa using hown) (by simpa using hnil)
  have B3 := Lib.hid (HA2.out.grown hgrow (by simp) (by intro k hk; simp [Value.ownBlock] at hk; omega))
  have RM3 := Lib.hid rm
  have GM := Lib.hid hgm
  have CM := Lib.hid hcm
  clear hown hgrow hnil rm hgm hcm hcM HA2 HV2
  have NM3 := Lib.hid (RM3.out.nums HV1.out.byt CM.out (by unfold maxLen; omega))
  go_wp2_with fail
  refine (Load_any (F2.out.below B3.out) a HA.out _ xs NM3.out (by omega)).mono ?_
  rintro e w4 ⟨rfl, hF, hT⟩
  have F4 := Lib.hid hF
  have T4 := Lib.hid hT
  have B14 := Lib.hid ((B2.out.trans (B3.out.mono B2.out.size)).trans (hT.below (by have := B2.out.size; have := B3.out.size; omega) FL.out))
  have B04 := Lib.hid (B1.out.trans (B14.out.mono B1.out.size))
  have RM4 := Lib.hid (RM3.out.keep (hT.block gm RM3.out.lt (fun hk => by have := F2.out.lt gm hk; have := GM.out; omega)))
  have R4 := Lib.hid (R1.out.keep (B14.out.block g R1.out.lt))
  clear hF hT
  go_wp2_with fail
  refine (RLoad_all R4.out HPb.out C2.out ⟨HPl.out.1, HPl.out.2.1⟩ a HA.out _ xs (HV1.out.below B04.out) (by omega)).mono ?_
  rintro e w5 ⟨gw, cw, rfl, hrw, hcw, hgw, hb5⟩
  have RW5 := Lib.hid hrw
  have CW := Lib.hid hcw
  have GW : Hid (gw ≠ gm) := by
    have h1 := GM.out; have h2 := R1.out.lt; have h3 := B2.out.size; have h4 := RM4.out.lt
    show gw ≠ gm
    rcases hgw with rfl | h <;> omega
  have F5 := Lib.hid (F4.out.below hb5)
  have RM5 := Lib.hid (RM4.out.keep (hb5.block _ RM4.out.lt))
  have B05 := Lib.hid (B04.out.trans (hb5.mono B04.out.size))
  have q1 := str_conv (RM5.out.nums HV1.out.byt CM.out (by unfold maxLen; omega))
  have q2 := str_conv (HV1.out.below B05.out)
  clear hrw hcw hgw hb5
  go_wp2_with fail
  clear q1 q2
  have I5 : Hid (Inc w5 gm xs.length w5) := ⟨Turned.refl _ _, xs, RM5.out, rfl, HV1.out.byt⟩
  go_loopw [17] (fun i wr => ∃ k : Nat, k ≤ xs.length ∧ i = .int .i64 (k : Int) ∧ Hid (Inc w5 gm xs.length wr)) (fun i _ => xs.length - (intOf i).toNat)
  case atStart => exact ⟨0, by omega, rfl, I5.out⟩
  case round =>
    obtain ⟨k, hk, rfl, hI⟩ := hrel
    by_cases hlt : k < xs.length
    · obtain ⟨x, m0, f0, x0, x1⟩ := hI.out.cell hlt
      go_wp2
      go_roundw
      case rel => exact ⟨k + 1, by omega, by go_num, hI.out.step hlt (by omega)⟩
      case measure => simp [intOf]; omega
    · have hkx : k = xs.length := by omega
      have hF6 := F5.out.kept hI.out.t (fun j hj e => by subst e; have := F2.out.lt _ hj; have := GM.out; omega)
      have B06 := B05.out.trans (hI.out.t.below B05.out.size (fun j e => by subst e; have := GM.out; have := B02.out.size; omega))
      have RW6 := RW5.out.keep (hI.out.t.block gw RW5.out.lt GW.out)
      have hldl := ldE_length (l := l) HA.out.1 (xs := xs)
      have hldb := ldE_byt HPb.out HV1.out.byt a
      have NW6 : NumsIn .u8 wr (.slice (some ⟨gw, 0, none⟩) l.length cw) (ldE l a xs) := by
        have := RW6.nums (c := cw) hldb (by rw [hldl]; exact CW.out) (by rw [hldl]; have := HPl.out; unfold maxLen; omega)
        rwa [hldl] at this
      have hK0 := (HeldG.mk (L := [((.slice (some ⟨gw, 0, none⟩) l.length cw : Value), ldE l a xs)]) (stable_frs w S (ldE l a xs) F) ⟨B06, hF6⟩ ((Reads.nil _).cons NW6)).drew
      clear hF6 B06 RW6 hldl hldb NW6 hkx
      generalize ldE l a xs = l' at *
      generalize ldR l.length a xs.length = r at *
      go_wp2_with fail
      refine wp_region_held_drew (S := _) (by kernel_rfl) hK0 (fun _ => ?_)
      have hS := hK0
      refine take_d (i := 0) (d := some 68) (v := .int .i64 0) rfl rfl (by kernel_rfl) (by kernel_rfl) (by kernel_rfl) (fun _ _ _ h => h) (.inl ⟨by rfl, fun W hW => by go_simp⟩) hS ?_
      try simp only [Act.put, List.setIfInBounds_toArray, List.set_cons_zero, List.set_cons_succ]
      refine wpAnyH_all (rs := [1]) (by kernel_rfl) (by simp) (fun i hi => ?_)
      simp only [List.mem_cons, List.not_mem_nil, or_false] at hi
      subst hi
      refine .inl ?_
      go_simp
      refine (num_any _ _).mono ?_
      rintro e wc ⟨rfl, rfl⟩
      refine ⟨hS, ?_⟩
      try simp only [Act.put, List.setIfInBounds_toArray, List.set_cons_zero, List.set_cons_succ]
      refine take_d (i := 2) (d := some 70) (v := .bool true) rfl rfl (by kernel_rfl) (by kernel_rfl) (by kernel_rfl) (fun _ _ _ h => h) (.inl ⟨by rfl, fun W hW => by go_simp⟩) hS ?_
      try simp only [Act.put, List.setIfInBounds_toArray, List.set_cons_zero, List.set_cons_succ]
      refine take_d (i := 3) (d := some 71) (v := .bool true) rfl rfl (by kernel_rfl) (by kernel_rfl) (by kernel_rfl) (fun _ _ _ h => h) (.inl ⟨by rfl, fun W hW => by go_simp⟩) hS ?_
      try simp only [Act.put, List.setIfInBounds_toArray, List.set_cons_zero, List.set_cons_succ]
      refine take_d (i := 4) (d := some 72) (v := .int .i64 r) rfl rfl (by kernel_rfl) (by kernel_rfl) (by kernel_rfl) (fun _ _ _ h => h) (.inl ⟨by rfl, fun W hW => by go_simp⟩) hS ?_
      try simp only [Act.put, List.setIfInBounds_toArray, List.set_cons_zero, List.set_cons_succ]
      refine take_d (i := 6) (d := some 74) (v := .int .i64 r) rfl rfl (by kernel_rfl) (by kernel_rfl) (by kernel_rfl) (fun _ _ _ h => h) (.inl ⟨by rfl, fun W hW => by go_simp⟩) hS ?_
      try simp only [Act.put, List.setIfInBounds_toArray, List.set_cons_zero, List.set_cons_succ]
      refine wpAnyH_all (rs := [5]) (by kernel_rfl) (by simp) (fun i hi => ?_)
      simp only [List.mem_cons, List.not_mem_nil, or_false] at hi
      subst hi
      refine .inl ?_
      go_simp
      refine (num_any _ _).mono ?_
      rintro e wc ⟨rfl, rfl⟩
      refine ⟨hS, ?_⟩
      try simp only [Act.put, List.setIfInBounds_toArray, List.set_cons_zero, List.set_cons_succ]
      refine take_d (i := 7) (d := some 75) (v := .bool true) rfl rfl (by kernel_rfl) (by kernel_rfl) (by kernel_rfl) (fun _ _ _ h => h) (.inl ⟨by rfl, fun W hW => by go_simp⟩) hS ?_
      try simp only [Act.put, List.setIfInBounds_toArray, List.set_cons_zero, List.set_cons_succ]
      refine take_d (i := 8) (d := some 76) (v := .bool true) rfl rfl (by kernel_rfl) (by kernel_rfl) (by kernel_rfl) (fun _ _ _ h => h) (.inl ⟨by rfl, fun W hW => by go_simp⟩) hS ?_
      try simp only [Act.put, List.setIfInBounds_toArray, List.set_cons_zero, List.set_cons_succ]
      refine take_d (i := 9) (d := some 77) (v := .bool true) rfl rfl (by kernel_rfl) (by kernel_rfl) (by kernel_rfl) (fun _ _ _ h => h) (.inl ⟨by rfl, fun W hW => by go_simp⟩) hS ?_
      try simp only [Act.put, List.setIfInBounds_toArray, List.set_cons_zero, List.set_cons_succ]
      refine take_d (i := 10) (d := some 78) (v := .pointer (some ⟨S, 0, none⟩)) rfl rfl (by kernel_rfl) (by kernel_rfl) (by kernel_rfl) (fun _ _ _ h => h) (.inl ⟨by rfl, fun W hW => by go_simp⟩) hS ?_
      try simp only [Act.put, List.setIfInBounds_toArray, List.set_cons_zero, List.set_cons_succ]
      refine take_d (i := 13) (d := some 81) (v := .slice (some ⟨gw, 0, none⟩) l.length cw) rfl rfl (by kernel_rfl) (by kernel_rfl) (by kernel_rfl) (fun _ _ _ h => h) (.inl ⟨by rfl, fun W hW => by go_simp⟩) hS ?_
      try simp only [Act.put, List.setIfInBounds_toArray, List.set_cons_zero, List.set_cons_succ]
      refine take_d (i := 14) (d := some 82) (v := .string (strOfNums l')) rfl rfl (by kernel_rfl) (by kernel_rfl) (by kernel_rfl) (fun _ _ _ h => h) (.inl ⟨by rfl, fun W hW => by have q := hW.reads.conv (.slice (some ⟨gw, 0, none⟩) l.length cw) l' (by simp); go_simp⟩) hS ?_
      try simp only [Act.put, List.setIfInBounds_toArray, List.set_cons_zero, List.set_cons_succ]
      refine wpAnyH_all (rs := [11]) (by kernel_rfl) (by simp) (fun i hi => ?_)
      simp only [List.mem_cons, List.not_mem_nil, or_false] at hi
      subst hi
      refine .inl ?_
      go_simp
      refine (hS.i.2.bytesN).mono ?_
      rintro e wc ⟨vb, rfl, hn, hb⟩
      have hS := (hS.after hb).cons hn
      refine ⟨hS.tail, ?_⟩
      refine anyH_heldG hS ?_
      clear hn hb
      try simp only [Act.put, List.setIfInBounds_toArray, List.set_cons_zero, List.set_cons_succ]
      refine take_d (i := 12) (d := some 80) (v := .string (strOfNums l')) rfl rfl (by kernel_rfl) (by kernel_rfl) (by kernel_rfl) (fun _ _ _ h => h) (.inl ⟨by rfl, fun W hW => by have q := hW.reads.conv vb l' (by simp); go_simp⟩) hS ?_
      try simp only [Act.put, List.setIfInBounds_toArray, List.set_cons_zero, List.set_cons_succ]
      refine take_d (i := 15) (d := some 83) (v := .bool true) rfl rfl (by kernel_rfl) (by kernel_rfl) (by kernel_rfl) (fun _ _ _ h => h) (.inl ⟨by rfl, fun W hW => by go_simp⟩) hS ?_
      try simp only [Act.put, List.setIfInBounds_toArray, List.set_cons_zero, List.set_cons_succ]
      refine take_d (i := 16) (d := some 84) (v := .bool true) rfl rfl (by kernel_rfl) (by kernel_rfl) (by kernel_rfl) (fun _ _ _ h => h) (.inl ⟨by rfl, fun W hW => by go_simp⟩) hS ?_
      try simp only [Act.put, List.setIfInBounds_toArray, List.set_cons_zero, List.set_cons_succ]
      refine take_d (i := 17) (d := some 85) (v := .bool true) rfl rfl (by kernel_rfl) (by kernel_rfl) (by kernel_rfl) (fun _ _ _ h => h) (.inl ⟨by rfl, fun W hW => by go_simp⟩) hS ?_
      try simp only [Act.put, List.setIfInBounds_toArray, List.set_cons_zero, List.set_cons_succ]
      refine take_d (i := 18) (d := some 86) (v := .bool true) rfl rfl (by kernel_rfl) (by kernel_rfl) (by kernel_rfl) (fun _ _ _ h => h) (.inl ⟨by rfl, fun W hW => by go_simp⟩) hS ?_
      try simp only [Act.put, List.setIfInBounds_toArray, List.set_cons_zero, List.set_cons_succ]
      refine take_d (i := 19) (d := some 87) (v := .bool true) rfl rfl (by kernel_rfl) (by kernel_rfl) (by kernel_rfl) (fun _ _ _ h => h) (.inl ⟨by rfl, fun W hW => by go_simp⟩) hS ?_
      try simp only [Act.put, List.setIfInBounds_toArray, List.set_cons_zero, List.set_cons_succ]
      refine take_d (i := 20) (d := some 88) (v := .bool true) rfl rfl (by kernel_rfl) (by kernel_rfl) (by kernel_rfl) (fun _ _ _ h => h) (.inl ⟨by rfl, fun W hW => by go_simp⟩) hS ?_
      try simp only [Act.put, List.setIfInBounds_toArray, List.set_cons_zero, List.set_cons_succ]
      refine wpAnyH_all (rs := [21]) (by kernel_rfl) (by simp) (fun i hi => ?_)
      simp only [List.mem_cons, List.not_mem_nil, or_false] at hi
      subst hi
      refine .inl ?_
      go_simp
      refine (works_any _).mono ?_
      rintro e wc ⟨rfl, hb⟩
      have hS := hS.after hb
      refine ⟨hS, ?_⟩
      clear hb
      try simp only [Act.put, List.setIfInBounds_toArray, List.set_cons_zero, List.set_cons_succ]
      refine take_d (i := 22) (d := some 90) (v := .bool true) rfl rfl (by kernel_rfl) (by kernel_rfl) (by kernel_rfl) (fun _ _ _ h => h) (.inl ⟨by rfl, fun W hW => by go_simp⟩) hS ?_
      try simp only [Act.put, List.setIfInBounds_toArray, List.set_cons_zero, List.set_cons_succ]
      refine take_d (i := 23) (d := some 8) (v := .bool true) rfl rfl (by kernel_rfl) (by kernel_rfl) (by kernel_rfl) (fun _ _ _ h => h) (.inl ⟨by rfl, fun W hW => by go_simp⟩) hS ?_
      try simp only [Act.put, List.setIfInBounds_toArray, List.set_cons_zero, List.set_cons_succ]
      refine wpAnyH_done (by kernel_rfl) ?_ _
      have HF := Lib.hid hS.i.1
      clear hS hK0
      go_wp2
      go_ret
      exact ⟨rfl, HF.out⟩
end Go.Proofs.Ythcipnmcmcihgaa
