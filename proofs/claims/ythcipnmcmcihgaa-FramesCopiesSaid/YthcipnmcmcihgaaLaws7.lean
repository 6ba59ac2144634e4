/-
  Layer 5: the walk of FramesCopies. Written by gen_copies.py out of XLaws7.part.
-/
import Derived.Test.YthcipnmcmcihgaaLaws2
import Derived.Test.YthcipnmcmcihgaaRegion2
namespace Go.Proofs.Ythcipnmcmcihgaa
open Go.RowKit
set_option maxHeartbeats 8000000
set_option linter.unusedVariables false

theorem Was.turned {w W W' : World} {o : Obj} {l : List Int} {g c gx : Nat} (h : Was w o l g c W) (t : Turned (fun j => j = gx) W W') (hg : g < gx) (hb : w.heap.size < gx) : Was w o l g c W' :=
  ⟨h.below.trans (t.below h.below.size (fun k e => by subst e; omega)), t.keep h.box (by omega), h.row.keep (t.block g h.row.lt (by omega)), h.cap, h.lo, h.byt, h.len⟩
def wideL : List Int := List.replicate (64 * 32) 0
def slimL : List Int := List.replicate (64 * 31) 0
theorem rep_ne {m n : Nat} (h : m ≠ n) : List.replicate m (0 : Int) ≠ List.replicate n 0 := fun e => h (by have := congrArg List.length e; rwa [List.length_replicate, List.length_replicate] at this)
theorem wide_slim : ¬ wideL = slimL := rep_ne (by decide)
theorem New_wide (W : World) : Calls Try.prog 11 #[.int .i64 32] W fun e w' => ∃ S F, e = .returned (.tuple #[.pointer (some ⟨S, 0, none⟩), .int .i64 0]) ∧ Fr w' S wideL F ∧ (∀ k, F k → W.heap.size ≤ k) ∧ Below W.heap.size W w' := New_any 32 (by omega) (by omega) W
theorem New_slim (W : World) : Calls Try.prog 11 #[.int .i64 31] W fun e w' => ∃ S F, e = .returned (.tuple #[.pointer (some ⟨S, 0, none⟩), .int .i64 0]) ∧ Fr w' S slimL F ∧ (∀ k, F k → W.heap.size ≤ k) ∧ Below W.heap.size W w' := New_any 31 (by omega) (by omega) W
/-- All that the last test reads. -/
structure All5 (w : World) (o : Obj) (l : List Int) (g c : Nat) (S : Nat) (l' : List Int) (F1 : Nat → Prop) (S2 : Nat) (F2 : Nat → Prop) (Sw : Nat) (Fw : Nat → Prop) (Ss : Nat) (Fs : Nat → Prop) (W : World) : Prop where
  was : Was w o l g c W
  f : Fr W S l' F1
  c : Fr W S2 l F2
  wide : Fr W Sw wideL Fw
  slim : Fr W Ss slimL Fs
theorem all5_stable (w : World) (o : Obj) (l : List Int) (g c : Nat) (S : Nat) (l' : List Int) (F1 : Nat → Prop) (S2 : Nat) (F2 : Nat → Prop) (Sw : Nat) (Fw : Nat → Prop) (Ss : Nat) (Fs : Nat → Prop) : Stable (All5 w o l g c S l' F1 S2 F2 Sw Fw Ss Fs) :=
  fun W W' h hb => ⟨h.was.kept hb, h.f.below hb, h.c.below hb, h.wide.below hb, h.slim.below hb⟩
theorem All5.unlike {w : World} {o : Obj} {l : List Int} {g c : Nat} {S : Nat} {l' : List Int} {F1 : Nat → Prop} {S2 : Nat} {F2 : Nat → Prop} {Sw : Nat} {Fw : Nat → Prop} {Ss : Nat} {Fs : Nat → Prop} {W : World} (h : All5 w o l g c S l' F1 S2 F2 Sw Fw Ss Fs W) :
    Calls Try.prog 26 #[.pointer (some ⟨Sw, 0, none⟩), .pointer (some ⟨Ss, 0, none⟩)] W fun e w' => e = .returned (.bool false) ∧ Below W.heap.size W w' := by
  have := Same_any h.wide h.slim
  rwa [decide_eq_false wide_slim] at this
theorem All5.same {w : World} {o : Obj} {l : List Int} {g c : Nat} {S : Nat} {l' : List Int} {F1 : Nat → Prop} {S2 : Nat} {F2 : Nat → Prop} {Sw : Nat} {Fw : Nat → Prop} {Ss : Nat} {Fs : Nat → Prop} {W : World} (h : All5 w o l g c S l' F1 S2 F2 Sw Fw Ss Fs W) {q : Bool} (hq : decide (l' = l) = q) :
    Calls Try.prog 26 #[.pointer (some ⟨S, 0, none⟩), .pointer (some ⟨S2, 0, none⟩)] W fun e w' => e = .returned (.bool q) ∧ Below W.heap.size W w' := by
  have := Same_any h.f h.c
  rwa [hq] at this

set_option maxRecDepth 100000 in
theorem FramesCopies_walk (v0 : Value) (b : List Int) (p : Int) (hp : (Lit.int .i64 p).wf = true) (s : Acc3) (hs : s.Ok) (w : World) (h : NumsIn .u8 w v0 b) :
    Calls Try.prog 7 #[v0, .int .i64 p, .agg #[.int .u32 s.a, .int .i64 s.d, .int .u32 s.x]] w fun e w' => e = .returned (.bool true) ∧ Below w.heap.size w w' := by
  have HO := Lib.hid hs
  by_cases hlen : (3000 : Int) < b.length
  · obtain ⟨o, c, rfl, _, hm, _⟩ := h.form
    have HA := Lib.hid ((Below.refl w.heap.size w).alloc (Nat.le_refl _) (.cells #[.int .u32 s.a, .int .i64 s.d, .int .u32 s.x] 36))
    unfold maxLen at hm
    go_enter Try.func7, Try.ntmps7
    go_wp2_with (go_at_call 10; refine (works_any _).mono ?_; rintro e w' ⟨rfl, hb⟩)
    go_ret
    exact ⟨rfl, HA.out.trans (hb.mono HA.out.size)⟩
  · have HP := Lib.hid (paged_was v0 b p w (accO s) h (by omega))
    obtain ⟨o, c, rfl, _, hm, _⟩ := h.form
    unfold maxLen at hm
    generalize pgd b p = l at HP
    clear h
    go_enter Try.func7, Try.ntmps7
    go_wp2_with fail
    refine HP.out.mono ?_
    rintro e w1 ⟨g, c1, rfl, hW⟩
    have W1 := Lib.hid hW
    clear hW HP
    go_wp2_with fail
    refine (At.of (w := w1) _ W1.out.nums W1.out.len.1 W1.out.len.2.1 W1.out.len.2.2 (Below.refl _ _)).mono ?_
    rintro e w2 ⟨S, rfl, hAt, _⟩
    have A2 := Lib.hid hAt
    clear hAt
    go_wp2_with fail
    refine A2.out.copy.mono ?_
    rintro e w3 ⟨S2, rfl, hAt, _⟩
    have A3 := Lib.hid hAt
    clear hAt A2
    go_wp2_with fail
    have HS3 := A3.out.same
    rw [decide_eq_true rfl] at HS3
    refine HS3.mono ?_
    rintro e w4 ⟨rfl, hAt⟩
    have A4 := Lib.hid hAt
    obtain ⟨a0, a1, a2⟩ := acc_cells (W1.out.kept hAt.kept).box
    clear hAt HS3 A3
    go_wp2_with fail
    refine (A4.out.write s.a s.d s.x HO.out.a HO.out.d HO.out.x).mono ?_
    rintro e w5 ⟨rfl, hAt⟩
    have W5 := Lib.hid (W1.out.kept hAt.kept)
    obtain ⟨F1, F2, h1, h2, h3, h4, _, _⟩ := hAt
    have G1 := Lib.hid h1
    have G2 := Lib.hid h2
    clear h1 h2 h3 h4 a0 a1 a2 A4
    have hl' : (wrE l s.a s.d s.x).length ≤ 2048 := by rw [wrE_length]; exact W1.out.len.2.1
    have HLy := Lib.hid (wrE_byt W1.out.byt s.a s.d s.x)
    have hll := W1.out.len
    have HSE := Lib.hid (str_eq (wrE_byt W1.out.byt s.a s.d s.x) W1.out.byt)
    generalize refE l.length s.a s.d = r
    generalize wrE l s.a s.d s.x = l' at *
    clear HO hlen
    go_wp2_with fail
    refine (Bytes_any G1.out).mono ?_
    rintro e w6 ⟨gx, cx, rfl, hrx, hcx, hgx, hnx, hbx⟩
    have RX := Lib.hid hrx
    have GX := Lib.hid hgx
    have BX := Lib.hid hbx
    have q1 := str_conv hnx
    clear hrx hgx hbx hnx
    go_wp2_with fail
    clear q1
    have I5 : Hid (Inc w6 gx l'.length w6) := ⟨Turned.refl _ _, l', RX.out, rfl, HLy.out⟩
    go_loopw [14] (fun i wr => ∃ k : Nat, k ≤ l'.length ∧ i = .int .i64 (k : Int) ∧ Hid (Inc w6 gx l'.length wr)) (fun i _ => l'.length - (intOf i).toNat)
    case atStart => exact ⟨0, by omega, rfl, I5.out⟩
    case round =>
      obtain ⟨k, hk, rfl, hI⟩ := hrel
      by_cases hlt : k < l'.length
      · obtain ⟨x, m0, f0, x0, x1⟩ := hI.out.cell hlt
        go_wp2
        go_roundw
        case rel => exact ⟨k + 1, by omega, by go_num, hI.out.step hlt (by omega)⟩
        case measure => simp [intOf]; omega
      · have hkx : k = l'.length := by omega
        have hgg : g < gx := by have := W5.out.row.lt; have := GX.out; omega
        have hww : w.heap.size < gx := by have h1 := (Array.getElem?_eq_some_iff.1 W5.out.box).1; have := GX.out; omega
        have V7 := Lib.hid ((W5.out.kept BX.out).turned hI.out.t hgg hww)
        have K1 := Lib.hid ((G1.out.below BX.out).kept hI.out.t (fun j hj e => by subst e; have := G1.out.lt _ hj; have := GX.out; omega))
        have K2 := Lib.hid ((G2.out.below BX.out).kept hI.out.t (fun j hj e => by subst e; have := G2.out.lt _ hj; have := GX.out; omega))
        clear hkx hgg hww hI I5 W1 W5 G1 G2 RX GX BX HLy
        go_wp2_with fail
        refine (Read_nil 0 1 (wf_i64 (by omega) (by omega)) _).mono ?_
        rintro e w8 ⟨rfl, hb⟩
        have V8 := Lib.hid (V7.out.kept hb)
        have K18 := Lib.hid (K1.out.below hb)
        have K28 := Lib.hid (K2.out.below hb)
        clear hb V7 K1 K2
        go_wp2_with fail
        refine (New_wide w8).mono ?_
        rintro e w9 ⟨Sw, Fw, rfl, hFw, _, hb⟩
        have V9 := Lib.hid (V8.out.kept hb)
        have K19 := Lib.hid (K18.out.below hb)
        have K29 := Lib.hid (K28.out.below hb)
        have K39 := Lib.hid hFw
        clear hb V8 K18 K28 hFw
        go_wp2_with fail
        refine (New_slim w9).mono ?_
        rintro e w10 ⟨Ss, Fs, rfl, hFs, _, hb⟩
        have HI10 : HeldG (All5 w (accO s) l g c1 S l' F1 S2 F2 Sw Fw Ss Fs) [((.slice (some ⟨g, 0, none⟩) l.length c1 : Value), l)] w10 :=
          ⟨all5_stable _ _ _ _ _ _ _ _ _ _ _ _ _ _, ⟨V9.out.kept hb, K19.out.below hb, K29.out.below hb, K39.out.below hb, hFs⟩, (Reads.nil _).cons (V9.out.kept hb).nums⟩
        have hK0 := HI10.drew
        clear hb V9 K19 K29 K39 hFs HI10
        obtain ⟨q, hq⟩ : ∃ q : Bool, decide (l' = l) = q := ⟨_, rfl⟩
        have HQ := Lib.hid hq
        rw [hq] at HSE
        clear hq hl' hll hcx hk hlt
        go_wp2_with fail
        refine wp_region_held_drew (S := _) (by kernel_rfl) hK0 (fun _ => ?_)
        have hS := hK0
        refine take_d (i := 0) (d := some 78) (v := .int .i64 0) rfl rfl (by kernel_rfl) (by kernel_rfl) (by kernel_rfl) (fun _ _ _ h => h) (.inl ⟨by rfl, fun W hW => by go_simp⟩) hS ?_
        try simp only [Act.put, List.setIfInBounds_toArray, List.set_cons_zero, List.set_cons_succ]
        refine wpAnyH_all (rs := [1]) (by kernel_rfl) (by simp) (fun i hi => ?_)
        simp only [List.mem_cons, List.not_mem_nil, or_false] at hi
        subst hi
        refine .inl ?_
        go_simp
        refine (num_any _ _).mono ?_
        rintro e wc ⟨rfl, rfl⟩
        refine ⟨hS, ?_⟩
        try simp only [Act.put, List.setIfInBounds_toArray, List.set_cons_zero, List.set_cons_succ]
        refine take_d (i := 2) (d := some 80) (v := .bool true) rfl rfl (by kernel_rfl) (by kernel_rfl) (by kernel_rfl) (fun _ _ _ h => h) (.inl ⟨by rfl, fun W hW => by go_simp⟩) hS ?_
        try simp only [Act.put, List.setIfInBounds_toArray, List.set_cons_zero, List.set_cons_succ]
        refine take_d (i := 3) (d := some 81) (v := .bool true) rfl rfl (by kernel_rfl) (by kernel_rfl) (by kernel_rfl) (fun _ _ _ h => h) (.inl ⟨by rfl, fun W hW => by go_simp⟩) hS ?_
        try simp only [Act.put, List.setIfInBounds_toArray, List.set_cons_zero, List.set_cons_succ]
        refine take_d (i := 4) (d := some 82) (v := .bool true) rfl rfl (by kernel_rfl) (by kernel_rfl) (by kernel_rfl) (fun _ _ _ h => h) (.inl ⟨by rfl, fun W hW => by go_simp⟩) hS ?_
        try simp only [Act.put, List.setIfInBounds_toArray, List.set_cons_zero, List.set_cons_succ]
        refine take_d (i := 5) (d := some 83) (v := .bool true) rfl rfl (by kernel_rfl) (by kernel_rfl) (by kernel_rfl) (fun _ _ _ h => h) (.inl ⟨by rfl, fun W hW => by go_simp⟩) hS ?_
        try simp only [Act.put, List.setIfInBounds_toArray, List.set_cons_zero, List.set_cons_succ]
        refine take_d (i := 6) (d := some 84) (v := .bool true) rfl rfl (by kernel_rfl) (by kernel_rfl) (by kernel_rfl) (fun _ _ _ h => h) (.inl ⟨by rfl, fun W hW => by go_simp⟩) hS ?_
        try simp only [Act.put, List.setIfInBounds_toArray, List.set_cons_zero, List.set_cons_succ]
        refine take_d (i := 7) (d := some 85) (v := .pointer (some ⟨S2, 0, none⟩)) rfl rfl (by kernel_rfl) (by kernel_rfl) (by kernel_rfl) (fun _ _ _ h => h) (.inl ⟨by rfl, fun W hW => by go_simp⟩) hS ?_
        try simp only [Act.put, List.setIfInBounds_toArray, List.set_cons_zero, List.set_cons_succ]
        refine take_d (i := 10) (d := some 88) (v := .slice (some ⟨g, 0, none⟩) l.length c1) rfl rfl (by kernel_rfl) (by kernel_rfl) (by kernel_rfl) (fun _ _ _ h => h) (.inl ⟨by rfl, fun W hW => by go_simp⟩) hS ?_
        try simp only [Act.put, List.setIfInBounds_toArray, List.set_cons_zero, List.set_cons_succ]
        as_aux_lemma =>
          refine take_d (i := 11) (d := some 89) (v := .string (strOfNums l)) rfl rfl (by kernel_rfl) (by kernel_rfl) (by kernel_rfl) (fun _ _ _ h => h) (.inl ⟨by rfl, fun W hW => by have q0 := hW.reads.conv (.slice (some ⟨g, 0, none⟩) l.length c1) l (by simp); go_simp⟩) hS ?_
          try simp only [Act.put, List.setIfInBounds_toArray, List.set_cons_zero, List.set_cons_succ]
          refine wpAnyH_all (rs := [8]) (by kernel_rfl) (by simp) (fun i hi => ?_)
          simp only [List.mem_cons, List.not_mem_nil, or_false] at hi
          subst hi
          refine .inl ?_
          go_simp
          refine (hS.i.c.bytesN).mono ?_
          rintro e wc ⟨vb, rfl, hn, hb⟩
          have hS := (hS.after hb).cons hn
          refine ⟨hS.tail, ?_⟩
          refine anyH_heldG hS ?_
          clear hn hb
          try simp only [Act.put, List.setIfInBounds_toArray, List.set_cons_zero, List.set_cons_succ]
          refine take_d (i := 9) (d := some 87) (v := .string (strOfNums l)) rfl rfl (by kernel_rfl) (by kernel_rfl) (by kernel_rfl) (fun _ _ _ h => h) (.inl ⟨by rfl, fun W hW => by have q0 := hW.reads.conv vb l (by simp); go_simp⟩) hS ?_
          try simp only [Act.put, List.setIfInBounds_toArray, List.set_cons_zero, List.set_cons_succ]
          refine take_d (i := 12) (d := some 90) (v := .bool true) rfl rfl (by kernel_rfl) (by kernel_rfl) (by kernel_rfl) (fun _ _ _ h => h) (.inl ⟨by rfl, fun W hW => by go_simp⟩) hS ?_
          try simp only [Act.put, List.setIfInBounds_toArray, List.set_cons_zero, List.set_cons_succ]
          refine take_d (i := 13) (d := some 91) (v := .bool true) rfl rfl (by kernel_rfl) (by kernel_rfl) (by kernel_rfl) (fun _ _ _ h => h) (.inl ⟨by rfl, fun W hW => by go_simp⟩) hS ?_
          try simp only [Act.put, List.setIfInBounds_toArray, List.set_cons_zero, List.set_cons_succ]
          refine take_d (i := 14) (d := some 92) (v := .bool true) rfl rfl (by kernel_rfl) (by kernel_rfl) (by kernel_rfl) (fun _ _ _ h => h) (.inl ⟨by rfl, fun W hW => by go_simp⟩) hS ?_
          try simp only [Act.put, List.setIfInBounds_toArray, List.set_cons_zero, List.set_cons_succ]
          refine take_d (i := 15) (d := some 93) (v := .pointer (some ⟨S, 0, none⟩)) rfl rfl (by kernel_rfl) (by kernel_rfl) (by kernel_rfl) (fun _ _ _ h => h) (.inl ⟨by rfl, fun W hW => by go_simp⟩) hS ?_
          try simp only [Act.put, List.setIfInBounds_toArray, List.set_cons_zero, List.set_cons_succ]
          refine take_d (i := 18) (d := some 96) (v := .string (strOfNums l')) rfl rfl (by kernel_rfl) (by kernel_rfl) (by kernel_rfl) (fun _ _ _ h => h) (.inl ⟨by rfl, fun W hW => by go_simp⟩) hS ?_
          try simp only [Act.put, List.setIfInBounds_toArray, List.set_cons_zero, List.set_cons_succ]
          refine wpAnyH_all (rs := [16]) (by kernel_rfl) (by simp) (fun i hi => ?_)
          simp only [List.mem_cons, List.not_mem_nil, or_false] at hi
          subst hi
          refine .inl ?_
          go_simp
          refine (hS.i.f.bytesN).mono ?_
          rintro e wc ⟨vc, rfl, hn, hb⟩
          have hS := (hS.after hb).cons hn
          refine ⟨hS.tail, ?_⟩
          refine anyH_heldG hS ?_
          clear hn hb
          try simp only [Act.put, List.setIfInBounds_toArray, List.set_cons_zero, List.set_cons_succ]
          as_aux_lemma =>
            refine take_d (i := 17) (d := some 95) (v := .string (strOfNums l')) rfl rfl (by kernel_rfl) (by kernel_rfl) (by kernel_rfl) (fun _ _ _ h => h) (.inl ⟨by rfl, fun W hW => by have q0 := hW.reads.conv vc l' (by simp); go_simp⟩) hS ?_
            try simp only [Act.put, List.setIfInBounds_toArray, List.set_cons_zero, List.set_cons_succ]
            refine take_d (i := 19) (d := some 97) (v := .bool true) rfl rfl (by kernel_rfl) (by kernel_rfl) (by kernel_rfl) (fun _ _ _ h => h) (.inl ⟨by rfl, fun W hW => by go_simp⟩) hS ?_
            try simp only [Act.put, List.setIfInBounds_toArray, List.set_cons_zero, List.set_cons_succ]
            refine take_d (i := 20) (d := some 98) (v := .bool true) rfl rfl (by kernel_rfl) (by kernel_rfl) (by kernel_rfl) (fun _ _ _ h => h) (.inl ⟨by rfl, fun W hW => by go_simp⟩) hS ?_
            try simp only [Act.put, List.setIfInBounds_toArray, List.set_cons_zero, List.set_cons_succ]
            refine take_d (i := 21) (d := some 99) (v := .bool true) rfl rfl (by kernel_rfl) (by kernel_rfl) (by kernel_rfl) (fun _ _ _ h => h) (.inl ⟨by rfl, fun W hW => by go_simp⟩) hS ?_
            try simp only [Act.put, List.setIfInBounds_toArray, List.set_cons_zero, List.set_cons_succ]
            refine take_d (i := 22) (d := some 100) (v := .pointer (some ⟨S, 0, none⟩)) rfl rfl (by kernel_rfl) (by kernel_rfl) (by kernel_rfl) (fun _ _ _ h => h) (.inl ⟨by rfl, fun W hW => by go_simp⟩) hS ?_
            try simp only [Act.put, List.setIfInBounds_toArray, List.set_cons_zero, List.set_cons_succ]
            refine take_d (i := 23) (d := some 101) (v := .pointer (some ⟨S2, 0, none⟩)) rfl rfl (by kernel_rfl) (by kernel_rfl) (by kernel_rfl) (fun _ _ _ h => h) (.inl ⟨by rfl, fun W hW => by go_simp⟩) hS ?_
            try simp only [Act.put, List.setIfInBounds_toArray, List.set_cons_zero, List.set_cons_succ]
            refine take_d (i := 25) (d := some 103) (v := .string (strOfNums l')) rfl rfl (by kernel_rfl) (by kernel_rfl) (by kernel_rfl) (fun _ _ _ h => h) (.inl ⟨by rfl, fun W hW => by go_simp⟩) hS ?_
            try simp only [Act.put, List.setIfInBounds_toArray, List.set_cons_zero, List.set_cons_succ]
            refine take_d (i := 26) (d := some 104) (v := .slice (some ⟨g, 0, none⟩) l.length c1) rfl rfl (by kernel_rfl) (by kernel_rfl) (by kernel_rfl) (fun _ _ _ h => h) (.inl ⟨by rfl, fun W hW => by go_simp⟩) hS ?_
            try simp only [Act.put, List.setIfInBounds_toArray, List.set_cons_zero, List.set_cons_succ]
            refine take_d (i := 27) (d := some 105) (v := .string (strOfNums l)) rfl rfl (by kernel_rfl) (by kernel_rfl) (by kernel_rfl) (fun _ _ _ h => h) (.inl ⟨by rfl, fun W hW => by have q0 := hW.reads.conv (.slice (some ⟨g, 0, none⟩) l.length c1) l (by simp); go_simp⟩) hS ?_
            try simp only [Act.put, List.setIfInBounds_toArray, List.set_cons_zero, List.set_cons_succ]
            as_aux_lemma =>
              refine take_d (i := 28) (d := some 106) (v := .bool q) rfl rfl (by kernel_rfl) (by kernel_rfl) (by kernel_rfl) (fun _ _ _ h => h) (.inl ⟨by rfl, fun W hW => by have q0 := HSE.out; go_simp⟩) hS ?_
              try simp only [Act.put, List.setIfInBounds_toArray, List.set_cons_zero, List.set_cons_succ]
              refine wpAnyH_all (rs := [24]) (by kernel_rfl) (by simp) (fun i hi => ?_)
              simp only [List.mem_cons, List.not_mem_nil, or_false] at hi
              subst hi
              refine .inl ?_
              go_simp
              refine (hS.i.same HQ.out).mono ?_
              rintro e wc ⟨rfl, hb⟩
              have hS := hS.after hb
              refine ⟨hS, ?_⟩
              clear hb
              try simp only [Act.put, List.setIfInBounds_toArray, List.set_cons_zero, List.set_cons_succ]
              refine take_d (i := 29) (d := some 107) (v := .bool true) rfl rfl (by kernel_rfl) (by kernel_rfl) (by kernel_rfl) (fun _ _ _ h => h) (.inl ⟨by rfl, fun W hW => by go_simp⟩) hS ?_
              try simp only [Act.put, List.setIfInBounds_toArray, List.set_cons_zero, List.set_cons_succ]
              refine take_d (i := 30) (d := some 108) (v := .bool true) rfl rfl (by kernel_rfl) (by kernel_rfl) (by kernel_rfl) (fun _ _ _ h => h) (.inl ⟨by rfl, fun W hW => by go_simp⟩) hS ?_
              try simp only [Act.put, List.setIfInBounds_toArray, List.set_cons_zero, List.set_cons_succ]
              refine take_d (i := 31) (d := some 109) (v := .bool true) rfl rfl (by kernel_rfl) (by kernel_rfl) (by kernel_rfl) (fun _ _ _ h => h) (.inl ⟨by rfl, fun W hW => by go_simp⟩) hS ?_
              try simp only [Act.put, List.setIfInBounds_toArray, List.set_cons_zero, List.set_cons_succ]
              refine take_d (i := 32) (d := some 110) (v := .int .i64 1) rfl rfl (by kernel_rfl) (by kernel_rfl) (by kernel_rfl) (fun _ _ _ h => h) (.inl ⟨by rfl, fun W hW => by go_simp⟩) hS ?_
              try simp only [Act.put, List.setIfInBounds_toArray, List.set_cons_zero, List.set_cons_succ]
              refine wpAnyH_all (rs := [33]) (by kernel_rfl) (by simp) (fun i hi => ?_)
              simp only [List.mem_cons, List.not_mem_nil, or_false] at hi
              subst hi
              refine .inl ?_
              go_simp
              refine (num_any _ _).mono ?_
              rintro e wc ⟨rfl, rfl⟩
              refine ⟨hS, ?_⟩
              try simp only [Act.put, List.setIfInBounds_toArray, List.set_cons_zero, List.set_cons_succ]
              refine take_d (i := 34) (d := some 112) (v := .bool true) rfl rfl (by kernel_rfl) (by kernel_rfl) (by kernel_rfl) (fun _ _ _ h => h) (.inl ⟨by rfl, fun W hW => by go_simp⟩) hS ?_
              try simp only [Act.put, List.setIfInBounds_toArray, List.set_cons_zero, List.set_cons_succ]
              refine take_d (i := 35) (d := some 113) (v := .bool true) rfl rfl (by kernel_rfl) (by kernel_rfl) (by kernel_rfl) (fun _ _ _ h => h) (.inl ⟨by rfl, fun W hW => by go_simp⟩) hS ?_
              try simp only [Act.put, List.setIfInBounds_toArray, List.set_cons_zero, List.set_cons_succ]
              as_aux_lemma =>
                refine take_d (i := 36) (d := some 114) (v := .bool true) rfl rfl (by kernel_rfl) (by kernel_rfl) (by kernel_rfl) (fun _ _ _ h => h) (.inl ⟨by rfl, fun W hW => by go_simp⟩) hS ?_
                try simp only [Act.put, List.setIfInBounds_toArray, List.set_cons_zero, List.set_cons_succ]
                refine take_d (i := 37) (d := some 115) (v := .pointer none) rfl rfl (by kernel_rfl) (by kernel_rfl) (by kernel_rfl) (fun _ _ _ h => h) (.inl ⟨by rfl, fun W hW => by go_simp⟩) hS ?_
                try simp only [Act.put, List.setIfInBounds_toArray, List.set_cons_zero, List.set_cons_succ]
                refine wpAnyH_all (rs := [38]) (by kernel_rfl) (by simp) (fun i hi => ?_)
                simp only [List.mem_cons, List.not_mem_nil, or_false] at hi
                subst hi
                refine .inl ?_
                go_simp
                refine (Write_nil 0 1 0 (wf_i64 (by omega) (by omega)) _).mono ?_
                rintro e wc ⟨rfl, hb⟩
                have hS := hS.after hb
                refine ⟨hS, ?_⟩
                clear hb
                try simp only [Act.put, List.setIfInBounds_toArray, List.set_cons_zero, List.set_cons_succ]
                refine wpAnyH_all (rs := [39]) (by kernel_rfl) (by simp) (fun i hi => ?_)
                simp only [List.mem_cons, List.not_mem_nil, or_false] at hi
                subst hi
                refine .inl ?_
                go_simp
                refine (num_any _ _).mono ?_
                rintro e wc ⟨rfl, rfl⟩
                refine ⟨hS, ?_⟩
                try simp only [Act.put, List.setIfInBounds_toArray, List.set_cons_zero, List.set_cons_succ]
                refine take_d (i := 40) (d := some 118) (v := .bool true) rfl rfl (by kernel_rfl) (by kernel_rfl) (by kernel_rfl) (fun _ _ _ h => h) (.inl ⟨by rfl, fun W hW => by go_simp⟩) hS ?_
                try simp only [Act.put, List.setIfInBounds_toArray, List.set_cons_zero, List.set_cons_succ]
                refine take_d (i := 41) (d := some 119) (v := .bool true) rfl rfl (by kernel_rfl) (by kernel_rfl) (by kernel_rfl) (fun _ _ _ h => h) (.inl ⟨by rfl, fun W hW => by go_simp⟩) hS ?_
                try simp only [Act.put, List.setIfInBounds_toArray, List.set_cons_zero, List.set_cons_succ]
                refine take_d (i := 42) (d := some 120) (v := .bool true) rfl rfl (by kernel_rfl) (by kernel_rfl) (by kernel_rfl) (fun _ _ _ h => h) (.inl ⟨by rfl, fun W hW => by go_simp⟩) hS ?_
                try simp only [Act.put, List.setIfInBounds_toArray, List.set_cons_zero, List.set_cons_succ]
                refine take_d (i := 43) (d := some 121) (v := .pointer none) rfl rfl (by kernel_rfl) (by kernel_rfl) (by kernel_rfl) (fun _ _ _ h => h) (.inl ⟨by rfl, fun W hW => by go_simp⟩) hS ?_
                try simp only [Act.put, List.setIfInBounds_toArray, List.set_cons_zero, List.set_cons_succ]
                refine wpAnyH_all (rs := [44]) (by kernel_rfl) (by simp) (fun i hi => ?_)
                simp only [List.mem_cons, List.not_mem_nil, or_false] at hi
                subst hi
                refine .inl ?_
                go_simp
                refine (Load_nil 0 _).mono ?_
                rintro e wc ⟨rfl, hb⟩
                have hS := hS.after hb
                refine ⟨hS, ?_⟩
                clear hb
                try simp only [Act.put, List.setIfInBounds_toArray, List.set_cons_zero, List.set_cons_succ]
                as_aux_lemma =>
                  refine wpAnyH_all (rs := [45]) (by kernel_rfl) (by simp) (fun i hi => ?_)
                  simp only [List.mem_cons, List.not_mem_nil, or_false] at hi
                  subst hi
                  refine .inl ?_
                  go_simp
                  refine (num_any _ _).mono ?_
                  rintro e wc ⟨rfl, rfl⟩
                  refine ⟨hS, ?_⟩
                  try simp only [Act.put, List.setIfInBounds_toArray, List.set_cons_zero, List.set_cons_succ]
                  refine take_d (i := 46) (d := some 124) (v := .bool true) rfl rfl (by kernel_rfl) (by kernel_rfl) (by kernel_rfl) (fun _ _ _ h => h) (.inl ⟨by rfl, fun W hW => by go_simp⟩) hS ?_
                  try simp only [Act.put, List.setIfInBounds_toArray, List.set_cons_zero, List.set_cons_succ]
                  refine take_d (i := 47) (d := some 125) (v := .bool true) rfl rfl (by kernel_rfl) (by kernel_rfl) (by kernel_rfl) (fun _ _ _ h => h) (.inl ⟨by rfl, fun W hW => by go_simp⟩) hS ?_
                  try simp only [Act.put, List.setIfInBounds_toArray, List.set_cons_zero, List.set_cons_succ]
                  refine take_d (i := 48) (d := some 126) (v := .bool true) rfl rfl (by kernel_rfl) (by kernel_rfl) (by kernel_rfl) (fun _ _ _ h => h) (.inl ⟨by rfl, fun W hW => by go_simp⟩) hS ?_
                  try simp only [Act.put, List.setIfInBounds_toArray, List.set_cons_zero, List.set_cons_succ]
                  refine take_d (i := 49) (d := some 127) (v := .pointer none) rfl rfl (by kernel_rfl) (by kernel_rfl) (by kernel_rfl) (fun _ _ _ h => h) (.inl ⟨by rfl, fun W hW => by go_simp⟩) hS ?_
                  try simp only [Act.put, List.setIfInBounds_toArray, List.set_cons_zero, List.set_cons_succ]
                  refine wpAnyH_all (rs := [50]) (by kernel_rfl) (by simp) (fun i hi => ?_)
                  simp only [List.mem_cons, List.not_mem_nil, or_false] at hi
                  subst hi
                  refine .inl ?_
                  go_simp
                  refine (Size_nil _).mono ?_
                  rintro e wc ⟨rfl, rfl⟩
                  refine ⟨hS, ?_⟩
                  try simp only [Act.put, List.setIfInBounds_toArray, List.set_cons_zero, List.set_cons_succ]
                  refine take_d (i := 51) (d := some 129) (v := .bool true) rfl rfl (by kernel_rfl) (by kernel_rfl) (by kernel_rfl) (fun _ _ _ h => h) (.inl ⟨by rfl, fun W hW => by go_simp⟩) hS ?_
                  try simp only [Act.put, List.setIfInBounds_toArray, List.set_cons_zero, List.set_cons_succ]
                  refine take_d (i := 52) (d := some 130) (v := .bool true) rfl rfl (by kernel_rfl) (by kernel_rfl) (by kernel_rfl) (fun _ _ _ h => h) (.inl ⟨by rfl, fun W hW => by go_simp⟩) hS ?_
                  try simp only [Act.put, List.setIfInBounds_toArray, List.set_cons_zero, List.set_cons_succ]
                  refine take_d (i := 53) (d := some 131) (v := .bool true) rfl rfl (by kernel_rfl) (by kernel_rfl) (by kernel_rfl) (fun _ _ _ h => h) (.inl ⟨by rfl, fun W hW => by go_simp⟩) hS ?_
                  try simp only [Act.put, List.setIfInBounds_toArray, List.set_cons_zero, List.set_cons_succ]
                  as_aux_lemma =>
                    refine take_d (i := 54) (d := some 132) (v := .pointer none) rfl rfl (by kernel_rfl) (by kernel_rfl) (by kernel_rfl) (fun _ _ _ h => h) (.inl ⟨by rfl, fun W hW => by go_simp⟩) hS ?_
                    try simp only [Act.put, List.setIfInBounds_toArray, List.set_cons_zero, List.set_cons_succ]
                    refine wpAnyH_all (rs := [55]) (by kernel_rfl) (by simp) (fun i hi => ?_)
                    simp only [List.mem_cons, List.not_mem_nil, or_false] at hi
                    subst hi
                    refine .inl ?_
                    go_simp
                    refine (Bytes_nil _).mono ?_
                    rintro e wc ⟨rfl, rfl⟩
                    refine ⟨hS, ?_⟩
                    try simp only [Act.put, List.setIfInBounds_toArray, List.set_cons_zero, List.set_cons_succ]
                    refine take_d (i := 56) (d := some 134) (v := .int .i64 0) rfl rfl (by kernel_rfl) (by kernel_rfl) (by kernel_rfl) (fun _ _ _ h => h) (.inl ⟨by rfl, fun W hW => by go_simp⟩) hS ?_
                    try simp only [Act.put, List.setIfInBounds_toArray, List.set_cons_zero, List.set_cons_succ]
                    refine take_d (i := 57) (d := some 135) (v := .bool true) rfl rfl (by kernel_rfl) (by kernel_rfl) (by kernel_rfl) (fun _ _ _ h => h) (.inl ⟨by rfl, fun W hW => by go_simp⟩) hS ?_
                    try simp only [Act.put, List.setIfInBounds_toArray, List.set_cons_zero, List.set_cons_succ]
                    refine take_d (i := 58) (d := some 136) (v := .bool true) rfl rfl (by kernel_rfl) (by kernel_rfl) (by kernel_rfl) (fun _ _ _ h => h) (.inl ⟨by rfl, fun W hW => by go_simp⟩) hS ?_
                    try simp only [Act.put, List.setIfInBounds_toArray, List.set_cons_zero, List.set_cons_succ]
                    refine take_d (i := 59) (d := some 137) (v := .bool true) rfl rfl (by kernel_rfl) (by kernel_rfl) (by kernel_rfl) (fun _ _ _ h => h) (.inl ⟨by rfl, fun W hW => by go_simp⟩) hS ?_
                    try simp only [Act.put, List.setIfInBounds_toArray, List.set_cons_zero, List.set_cons_succ]
                    refine take_d (i := 60) (d := some 138) (v := .pointer none) rfl rfl (by kernel_rfl) (by kernel_rfl) (by kernel_rfl) (fun _ _ _ h => h) (.inl ⟨by rfl, fun W hW => by go_simp⟩) hS ?_
                    try simp only [Act.put, List.setIfInBounds_toArray, List.set_cons_zero, List.set_cons_succ]
                    refine wpAnyH_all (rs := [61]) (by kernel_rfl) (by simp) (fun i hi => ?_)
                    simp only [List.mem_cons, List.not_mem_nil, or_false] at hi
                    subst hi
                    refine .inl ?_
                    go_simp
                    refine (Copy_nil _).mono ?_
                    rintro e wc ⟨rfl, rfl⟩
                    refine ⟨hS, ?_⟩
                    try simp only [Act.put, List.setIfInBounds_toArray, List.set_cons_zero, List.set_cons_succ]
                    refine take_d (i := 62) (d := some 140) (v := .bool true) rfl rfl (by kernel_rfl) (by kernel_rfl) (by kernel_rfl) (fun _ _ _ h => h) (.inl ⟨by rfl, fun W hW => by go_simp⟩) hS ?_
                    try simp only [Act.put, List.setIfInBounds_toArray, List.set_cons_zero, List.set_cons_succ]
                    as_aux_lemma =>
                      refine take_d (i := 63) (d := some 141) (v := .bool true) rfl rfl (by kernel_rfl) (by kernel_rfl) (by kernel_rfl) (fun _ _ _ h => h) (.inl ⟨by rfl, fun W hW => by go_simp⟩) hS ?_
                      try simp only [Act.put, List.setIfInBounds_toArray, List.set_cons_zero, List.set_cons_succ]
                      refine take_d (i := 64) (d := some 142) (v := .bool true) rfl rfl (by kernel_rfl) (by kernel_rfl) (by kernel_rfl) (fun _ _ _ h => h) (.inl ⟨by rfl, fun W hW => by go_simp⟩) hS ?_
                      try simp only [Act.put, List.setIfInBounds_toArray, List.set_cons_zero, List.set_cons_succ]
                      refine take_d (i := 65) (d := some 143) (v := .pointer none) rfl rfl (by kernel_rfl) (by kernel_rfl) (by kernel_rfl) (fun _ _ _ h => h) (.inl ⟨by rfl, fun W hW => by go_simp⟩) hS ?_
                      try simp only [Act.put, List.setIfInBounds_toArray, List.set_cons_zero, List.set_cons_succ]
                      refine wpAnyH_all (rs := [66]) (by kernel_rfl) (by simp) (fun i hi => ?_)
                      simp only [List.mem_cons, List.not_mem_nil, or_false] at hi
                      subst hi
                      refine .inl ?_
                      go_simp
                      refine (Same_nil _).mono ?_
                      rintro e wc ⟨rfl, rfl⟩
                      refine ⟨hS, ?_⟩
                      try simp only [Act.put, List.setIfInBounds_toArray, List.set_cons_zero, List.set_cons_succ]
                      refine take_d (i := 67) (d := some 145) (v := .bool true) rfl rfl (by kernel_rfl) (by kernel_rfl) (by kernel_rfl) (fun _ _ _ h => h) (.inl ⟨by rfl, fun W hW => by go_simp⟩) hS ?_
                      try simp only [Act.put, List.setIfInBounds_toArray, List.set_cons_zero, List.set_cons_succ]
                      refine take_d (i := 68) (d := some 146) (v := .bool true) rfl rfl (by kernel_rfl) (by kernel_rfl) (by kernel_rfl) (fun _ _ _ h => h) (.inl ⟨by rfl, fun W hW => by go_simp⟩) hS ?_
                      try simp only [Act.put, List.setIfInBounds_toArray, List.set_cons_zero, List.set_cons_succ]
                      refine take_d (i := 69) (d := some 147) (v := .pointer none) rfl rfl (by kernel_rfl) (by kernel_rfl) (by kernel_rfl) (fun _ _ _ h => h) (.inl ⟨by rfl, fun W hW => by go_simp⟩) hS ?_
                      try simp only [Act.put, List.setIfInBounds_toArray, List.set_cons_zero, List.set_cons_succ]
                      refine take_d (i := 70) (d := some 148) (v := .pointer (some ⟨S, 0, none⟩)) rfl rfl (by kernel_rfl) (by kernel_rfl) (by kernel_rfl) (fun _ _ _ h => h) (.inl ⟨by rfl, fun W hW => by go_simp⟩) hS ?_
                      try simp only [Act.put, List.setIfInBounds_toArray, List.set_cons_zero, List.set_cons_succ]
                      refine wpAnyH_all (rs := [71]) (by kernel_rfl) (by simp) (fun i hi => ?_)
                      simp only [List.mem_cons, List.not_mem_nil, or_false] at hi
                      subst hi
                      refine .inl ?_
                      go_simp
                      refine (Same_right hS.i.f).mono ?_
                      rintro e wc ⟨rfl, hb⟩
                      have hS := hS.after hb
                      refine ⟨hS, ?_⟩
                      clear hb
                      try simp only [Act.put, List.setIfInBounds_toArray, List.set_cons_zero, List.set_cons_succ]
                      as_aux_lemma =>
                        refine take_d (i := 72) (d := some 150) (v := .bool true) rfl rfl (by kernel_rfl) (by kernel_rfl) (by kernel_rfl) (fun _ _ _ h => h) (.inl ⟨by rfl, fun W hW => by go_simp⟩) hS ?_
                        try simp only [Act.put, List.setIfInBounds_toArray, List.set_cons_zero, List.set_cons_succ]
                        refine take_d (i := 73) (d := some 151) (v := .bool true) rfl rfl (by kernel_rfl) (by kernel_rfl) (by kernel_rfl) (fun _ _ _ h => h) (.inl ⟨by rfl, fun W hW => by go_simp⟩) hS ?_
                        try simp only [Act.put, List.setIfInBounds_toArray, List.set_cons_zero, List.set_cons_succ]
                        refine take_d (i := 74) (d := some 152) (v := .bool true) rfl rfl (by kernel_rfl) (by kernel_rfl) (by kernel_rfl) (fun _ _ _ h => h) (.inl ⟨by rfl, fun W hW => by go_simp⟩) hS ?_
                        try simp only [Act.put, List.setIfInBounds_toArray, List.set_cons_zero, List.set_cons_succ]
                        refine take_d (i := 75) (d := some 153) (v := .pointer (some ⟨S, 0, none⟩)) rfl rfl (by kernel_rfl) (by kernel_rfl) (by kernel_rfl) (fun _ _ _ h => h) (.inl ⟨by rfl, fun W hW => by go_simp⟩) hS ?_
                        try simp only [Act.put, List.setIfInBounds_toArray, List.set_cons_zero, List.set_cons_succ]
                        refine take_d (i := 76) (d := some 154) (v := .pointer none) rfl rfl (by kernel_rfl) (by kernel_rfl) (by kernel_rfl) (fun _ _ _ h => h) (.inl ⟨by rfl, fun W hW => by go_simp⟩) hS ?_
                        try simp only [Act.put, List.setIfInBounds_toArray, List.set_cons_zero, List.set_cons_succ]
                        refine wpAnyH_all (rs := [77]) (by kernel_rfl) (by simp) (fun i hi => ?_)
                        simp only [List.mem_cons, List.not_mem_nil, or_false] at hi
                        subst hi
                        refine .inl ?_
                        go_simp
                        refine (Same_left hS.i.f).mono ?_
                        rintro e wc ⟨rfl, hb⟩
                        have hS := hS.after hb
                        refine ⟨hS, ?_⟩
                        clear hb
                        try simp only [Act.put, List.setIfInBounds_toArray, List.set_cons_zero, List.set_cons_succ]
                        refine take_d (i := 78) (d := some 156) (v := .bool true) rfl rfl (by kernel_rfl) (by kernel_rfl) (by kernel_rfl) (fun _ _ _ h => h) (.inl ⟨by rfl, fun W hW => by go_simp⟩) hS ?_
                        try simp only [Act.put, List.setIfInBounds_toArray, List.set_cons_zero, List.set_cons_succ]
                        refine take_d (i := 79) (d := some 157) (v := .bool true) rfl rfl (by kernel_rfl) (by kernel_rfl) (by kernel_rfl) (fun _ _ _ h => h) (.inl ⟨by rfl, fun W hW => by go_simp⟩) hS ?_
                        try simp only [Act.put, List.setIfInBounds_toArray, List.set_cons_zero, List.set_cons_succ]
                        refine take_d (i := 80) (d := some 158) (v := .bool true) rfl rfl (by kernel_rfl) (by kernel_rfl) (by kernel_rfl) (fun _ _ _ h => h) (.inl ⟨by rfl, fun W hW => by go_simp⟩) hS ?_
                        try simp only [Act.put, List.setIfInBounds_toArray, List.set_cons_zero, List.set_cons_succ]
                        as_aux_lemma =>
                          refine take_d (i := 81) (d := some 159) (v := .pointer (some ⟨Sw, 0, none⟩)) rfl rfl (by kernel_rfl) (by kernel_rfl) (by kernel_rfl) (fun _ _ _ h => h) (.inl ⟨by rfl, fun W hW => by go_simp⟩) hS ?_
                          try simp only [Act.put, List.setIfInBounds_toArray, List.set_cons_zero, List.set_cons_succ]
                          refine take_d (i := 82) (d := some 160) (v := .pointer (some ⟨Ss, 0, none⟩)) rfl rfl (by kernel_rfl) (by kernel_rfl) (by kernel_rfl) (fun _ _ _ h => h) (.inl ⟨by rfl, fun W hW => by go_simp⟩) hS ?_
                          try simp only [Act.put, List.setIfInBounds_toArray, List.set_cons_zero, List.set_cons_succ]
                          refine wpAnyH_all (rs := [83]) (by kernel_rfl) (by simp) (fun i hi => ?_)
                          simp only [List.mem_cons, List.not_mem_nil, or_false] at hi
                          subst hi
                          refine .inl ?_
                          go_simp
                          refine (hS.i.unlike).mono ?_
                          rintro e wc ⟨rfl, hb⟩
                          have hS := hS.after hb
                          refine ⟨hS, ?_⟩
                          clear hb
                          try simp only [Act.put, List.setIfInBounds_toArray, List.set_cons_zero, List.set_cons_succ]
                          refine take_d (i := 84) (d := some 162) (v := .bool true) rfl rfl (by kernel_rfl) (by kernel_rfl) (by kernel_rfl) (fun _ _ _ h => h) (.inl ⟨by rfl, fun W hW => by go_simp⟩) hS ?_
                          try simp only [Act.put, List.setIfInBounds_toArray, List.set_cons_zero, List.set_cons_succ]
                          refine take_d (i := 85) (d := some 163) (v := .bool true) rfl rfl (by kernel_rfl) (by kernel_rfl) (by kernel_rfl) (fun _ _ _ h => h) (.inl ⟨by rfl, fun W hW => by go_simp⟩) hS ?_
                          try simp only [Act.put, List.setIfInBounds_toArray, List.set_cons_zero, List.set_cons_succ]
                          refine take_d (i := 86) (d := some 164) (v := .bool true) rfl rfl (by kernel_rfl) (by kernel_rfl) (by kernel_rfl) (fun _ _ _ h => h) (.inl ⟨by rfl, fun W hW => by go_simp⟩) hS ?_
                          try simp only [Act.put, List.setIfInBounds_toArray, List.set_cons_zero, List.set_cons_succ]
                          refine wpAnyH_all (rs := [87]) (by kernel_rfl) (by simp) (fun i hi => ?_)
                          simp only [List.mem_cons, List.not_mem_nil, or_false] at hi
                          subst hi
                          refine .inl ?_
                          go_simp
                          refine (works_any _).mono ?_
                          rintro e wc ⟨rfl, hb⟩
                          have hS := hS.after hb
                          refine ⟨hS, ?_⟩
                          clear hb
                          try simp only [Act.put, List.setIfInBounds_toArray, List.set_cons_zero, List.set_cons_succ]
                          refine take_d (i := 88) (d := some 166) (v := .bool true) rfl rfl (by kernel_rfl) (by kernel_rfl) (by kernel_rfl) (fun _ _ _ h => h) (.inl ⟨by rfl, fun W hW => by go_simp⟩) hS ?_
                          try simp only [Act.put, List.setIfInBounds_toArray, List.set_cons_zero, List.set_cons_succ]
                          refine take_d (i := 89) (d := some 6) (v := .bool true) rfl rfl (by kernel_rfl) (by kernel_rfl) (by kernel_rfl) (fun _ _ _ h => h) (.inl ⟨by rfl, fun W hW => by go_simp⟩) hS ?_
                          try simp only [Act.put, List.setIfInBounds_toArray, List.set_cons_zero, List.set_cons_succ]
                          refine wpAnyH_done (by kernel_rfl) ?_ _
                          have HF := Lib.hid hS.i.was.below
                          clear hS hK0
                          go_wp2
                          go_ret
                          exact ⟨rfl, HF.out⟩
end Go.Proofs.Ythcipnmcmcihgaa
