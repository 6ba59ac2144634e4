/-
  Layer 3: the walk of ShadowCopies: the mutation is a Set.
-/
import Derived.Test.YtepmndadbikijaaCopies
namespace Go.Proofs.Ytepmndadbikijaa
open Go.RowKit Go.Shelf
set_option maxHeartbeats 1000000
set_option linter.unusedSimpArgs false
set_option linter.unusedVariables false
attribute [local go_sem] Oper.semAt_some

set_option maxRecDepth 100000 in
set_option maxHeartbeats 40000000 in
theorem copies_set (P : Nat) (h1 : ¬ (P : Int) < 1) (h2 : ¬ 32 < (P : Int)) (o : Option Addr) (cap : Nat) (xs : List Step4) (hcap : xs.length ≤ cap) (hlen : xs.length ≤ maxLen) (h3 : ¬ 40 < (xs.length : Int)) (xk xa xn xx : Int) (hxx : W32 xx) (hk0 : xk = 0) (w : World) (hin : StepsIn w (.slice o xs.length cap) xs) :
    Calls Try.prog 7 #[.int .i64 (P : Int), .slice o xs.length cap, .agg #[.int .i64 xk, .int .i64 xa, .int .i64 xn, .int .u32 xx]] w fun e w' => e = .returned (.bool true) ∧ Below w.heap.size w w' := by
  have HP1 : Hid (∀ W, StepsIn W (.slice o xs.length cap) xs → Calls Try.prog 26 #[.int .i64 (P : Int), .slice o xs.length cap] W fun e w' => ∃ S g c, e = .returned (.tuple #[.pointer (some ⟨S, 0, none⟩), rwV g c (plays P xs), .bool true]) ∧ Both W S P (plays P xs) g c w') := fun W h => played_any P (by omega) (by omega) W _ xs h
  have HIN := Lib.hid hin
  have HX := Lib.hid hxx
  clear hin hxx
  refine (callsIn_wide (n := 5)).1 ?_
  refine callsIn_of_wp_marks Try.func7 rfl trivial ?_ rfl
  refine wpIn_wide.2 ?_
  simp only [Try.ntmps7, List.size_toArray, List.length_cons, List.length_nil, Nat.reduceAdd, Nat.reduceSub, Array.replicate_succ, Array.replicate_zero, List.push_toArray, List.append_toArray, List.nil_append, List.cons_append]
  go_wp2_with fail
  refine (HP1.out _ (HIN.out.after (((Below.refl _ _).alloc (Nat.le_refl _) _).alloc (by simp) _))).mono ?_; rintro e W1 ⟨S, g, c, rfl, hB⟩
  generalize plays P xs = l at *
  have HB := Lib.hid hB
  have HCP : Hid (Calls Try.prog 21 #[.pointer (some ⟨S, 0, none⟩)] W1 fun e w' => ∃ S' F', e = .returned (.pointer (some ⟨S', 0, none⟩)) ∧ Sh w' S' P l F' ∧ (∀ k, F' k → W1.heap.size ≤ k) ∧ Below W1.heap.size W1 w') := by obtain ⟨F, h, _⟩ := hB; exact Copy_sh h
  have HALL : Hid (∀ W, Below W1.heap.size W1 W → Calls Try.prog 14 #[.pointer (some ⟨S, 0, none⟩)] W fun e w' => ∃ v, e = .returned v ∧ AllPost W P l v w') := fun W hW => by obtain ⟨F, h, _⟩ := hB; exact All_any (h.below hW)
  clear hB
  go_wp2_with fail
  refine HCP.out.mono ?_; rintro e W2 ⟨C, Fc, rfl, hC, hCn, hb1⟩
  go_wp2_with fail
  refine (HALL.out _ hb1).mono ?_; rintro e W3 ⟨v, rfl, B, T, Ft, rfl, hbx, hT, hTn, hBn, hb2⟩
  obtain ⟨F, hPre⟩ := pre_start HB.out hC hCn hb1 hbx hT hTn hBn hb2
  have HPre := Lib.hid hPre
  have HSM : Hid (Calls Try.prog 22 #[.pointer (some ⟨S, 0, none⟩), .pointer (some ⟨C, 0, none⟩)] W3 fun e w' => e = .returned (.bool true) ∧ Below W3.heap.size W3 w') := by
    obtain ⟨F2, h2, _⟩ := hPre.hc
    have := Same_any hPre.hs h2
    rw [decide_eq_true rfl] at this
    exact this
  clear hPre hC hCn hb1 hbx hT hTn hBn hb2 HCP HALL HB HP1 HIN
  go_wp2_with fail
  refine HSM.out.mono ?_; rintro e W4 ⟨rfl, hb⟩
  have HPre4 := Lib.hid (HPre.out.after hb)
  clear HPre HSM hb
  obtain ⟨m0, m1, m2, m3⟩ := box4 HPre4.out.xb
  subst hk0
  go_wp2_with fail
  refine (RSet_any HPre4.out.rl HPre4.out.hs.bytes xa xx HX.out).mono ?_; rintro e W5 ⟨g', c', rfl, hr, hg, hb⟩
  have HS : Hid (Calls Try.prog 16 #[.pointer (some ⟨S, 0, none⟩), .int .i64 xa, .int .u32 xx] W5 fun e W' => e = .returned (.int .i64 (refR P xa 1 xx)) ∧ Cps w S C T B P g c g' c' l (fillR P l xa 1 xx) W') :=
    (Set_any (HPre4.out.after hb).hs xa xx HX.out).mono fun e W' ⟨he, hp⟩ => ⟨he, HPre4.out.mut hr hg hb hp⟩
  obtain ⟨n0, n1, n2, n3⟩ := box4 (HPre4.out.after hb).xb
  generalize fillR P l xa 1 xx = m at *
  clear hr hg hb HPre4 m0 m1 m2 m3
  go_wp2_with fail
  refine HS.out.mono ?_; rintro e W6 ⟨rfl, hC⟩; have HC6 := Lib.hid hC
  clear hC n0 n1 n2 n3 HS
  have HBY : Hid (Bytes P l) := by obtain ⟨F, h⟩ := HC6.out.hc; exact h.bytes
  have hll := HBY.out.len
  obtain ⟨i0, hi, hz0, hz1, hz2⟩ := info_parts A.infoU
  go_wp2_with (at_make; refine wpList_make_full _ rfl _ _ 42 rfl 0 26 i0 (.int .u32 0) 1 Try.underlying42 hi hz0 hz1 .i64 .i64 _ _ (64 * P) rfl rfl (by omega) (by omega) (by rw [hz2]; omega) (by unfold maxLen; omega) (Nat.zero_le _) ?_; intro W7 hown hgrow)
  obtain ⟨hb67, h, hso, hHad⟩ := had_start W6 W7 P l hown hgrow
  have HHad := Lib.hid hHad
  have hC8 := HC6.out.after (hb67.alloc hb67.size (.cells #[.slice (some ⟨W6.heap.size, 0, none⟩) (64 * P) (64 * P)] 42))
  have HC8 := Lib.hid hC8
  obtain ⟨Ft, hT, hTn⟩ := HC6.out.ht
  have hT8 := hT.below (hb67.alloc hb67.size (.cells #[.slice (some ⟨W6.heap.size, 0, none⟩) (64 * P) (64 * P)] 42))
  have hC6lt := (Array.getElem?_eq_some_iff.1 HC6.out.res).1
  have hz8 := hHad.below.size
  have hlt8 := hHad.row.lt
  have hne8 := hHad.ne
  clear hown hgrow hT
  refine (wpIn_wide (n := 5)).1 (wp_over_f (gf := 37) (lb := #[.pointer (some ⟨B, 0, none⟩)]) rfl (enters_of Try.func37 (by kernel_rfl) rfl)
    (All1_gives hT8 B hC8.hb (fun k => k = W6.heap.size) (fun k e => by subst e; exact hlt8) (fun k hk e => by have := hTn k hk; omega))
    (fun k e => by subst e; exact hlt8) (fun _ => rfl)
    (fun pre W => ∃ h, SoFar P l h pre ∧ Had W6 P W7.heap.size h W) (fun _ _ _ => False)
    (had_own (fun pre h => SoFar P l h pre) hlt8) (fun _ _ _ _ _ hs _ _ => hs) ⟨h, hso, hHad⟩
    (fun t x => (((t.setIfInBounds 95 (.int .i64 (x : Int))).setIfInBounds 96 (.int .u32 (at0 l x))).setIfInBounds 14 (.int .i64 (x : Int))).setIfInBounds 15 (.int .u32 (at0 l x)))
    ?assign ?body ?done ?stop)
  case assign =>
    intro ll mm x W1 K hK
    gi_wp2
    simp only [List.setIfInBounds_toArray, List.set_cons_zero, List.set_cons_succ] at hK
    exact hK
  case body =>
    rintro ll mm pre x rest W hf ⟨h9, hso9, hH9⟩
    have hx64 := (mem_els.1 (mem_mid hf)).1
    simp only [List.setIfInBounds_toArray, List.set_cons_zero, List.set_cons_succ]
    have h0x : (0 : Int) ≤ (x : Int) := by omega
    have hxl : (x : Int) < 64 * (P : Int) := by omega
    obtain ⟨cb, _⟩ := boxed_cell hH9.hx
    have cg := hH9.row.cells (k := x) (by rw [hH9.len]; exact hx64)
    have fg := hH9.row.free x
    have HH9 := Lib.hid hH9
    have HSO := Lib.hid hso9
    clear hH9 hso9 hC8 hHad hT8 hTn hb67 hso HHad HC8 hf HC6 HX
    gi_wp2
    exact ⟨KeptBut.cell _ (p := ⟨W6.heap.size, x, none⟩) _ rfl, _, HSO.out.next HH9.out.len hx64, HH9.out.set x _⟩
  case done =>
    rintro D0 W9 hD0 ⟨h9, hso9, hH9⟩ hK
    obtain rfl := hso9.all hH9.len hll
    have HC9 := Lib.hid (HC6.out.after hH9.below)
    have HH9 := Lib.hid hH9
    have HK := Lib.hid hK
    clear hH9 hso9 hC8 hHad hT8 hTn hb67 hso HHad HC8 HC6 HX hK
    go_wp2_with fail
    have hone : One W9 0 (W9.alloc (.cells #[.int .i64 0] 3)) := ⟨(Below.refl _ _).alloc (Nat.le_refl _) _, heap_alloc_new _ _⟩
    have hC10 := HC9.out.after hone.1
    obtain ⟨Ft, hT, hTn⟩ := HC9.out.ht
    have hT10 := hT.below hone.1
    have hn0 : w.heap.size + 1 < D0 := by
      have := (Array.getElem?_eq_some_iff.1 HC9.out.res).1
      have h68 := hD0
      simp at h68
      have := hC6lt
      omega
    clear hT
    refine (wpIn_wide (n := 5)).1 (wp_over_b (id := 2) (gf := 37) (lb := #[.pointer (some ⟨B, 0, none⟩)]) rfl (enters_of Try.func37 (by kernel_rfl) rfl)
      (All1_gives hT10 B hC10.hb (fun k => k = W9.heap.size) (fun k e => by subst e; simp) (fun k hk e => by have := hTn k hk; omega))
      (fun k e => by subst e; simp) (fun _ => rfl)
      (fun pre W => pre = [] ∧ One W9 0 W) (fun c pre W => (c = .exit 2 ∧ pre ≠ []) ∧ One W9 1 W)
      (one_own W9 (fun pre => pre = []) 0 (by simp)) (fun c => one_own W9 (fun pre => c = .exit 2 ∧ pre ≠ []) 1 (by simp)) ⟨rfl, hone⟩
      (fun t x => ((t.setIfInBounds 110 (.int .i64 (x : Int))).setIfInBounds 111 (.int .u32 (at0 h9 x))))
      ?assign2 ?body2 (fun _ _ h => h) (fun c pre W h => h.1.1) ?rest2)
    case assign2 =>
      intro ll mm x W1 K hK
      gi_wp2
      simp only [List.setIfInBounds_toArray, List.set_cons_zero, List.set_cons_succ] at hK
      exact hK
    case body2 =>
      rintro ll mm pre x rest W hf ⟨rfl, hO⟩
      simp only [List.setIfInBounds_toArray, List.set_cons_zero, List.set_cons_succ]
      obtain ⟨co, fo⟩ := boxed_cell hO.2
      have HO := Lib.hid hO
      clear hO hC10 hT10 hone hTn HC9 HH9 HK hf
      gi_wp2
      exact ⟨KeptBut.cell _ (p := ⟨W9.heap.size, 0, none⟩) _ rfl, ⟨rfl, by simp⟩, HO.out.1.setCell (p := ⟨W9.heap.size, 0, none⟩) (Nat.le_refl _) _, boxed_set HO.out.2 _⟩
    rintro D1 W11 hD1 hends hK1
    have hends' : ∃ qq : Int, (if ((privs h9 P).length : Int) < 1 then ((privs h9 P).length : Int) else 1) = qq ∧ One W9 qq W11 := by
      rcases hends with ⟨hem, hO⟩ | ⟨c, pre, rest, hf, ⟨_, hne⟩, hO⟩
      · refine ⟨0, ?_, hO⟩
        rw [(els_none_iff hll).1 hem]; rfl
      · refine ⟨1, ?_, hO⟩
        cases hp : privs h9 P with
        | nil => rw [(els_none_iff hll).2 hp] at hf; simp at hf; exact absurd hf.1 hne
        | cons a r => rw [if_neg (by simp; omega)]
    obtain ⟨qq, hmin, hO⟩ := hends'
    have HTl := Lib.hid (tl_start HC9.out HH9.out HK.out hO hK1 (by simp at hD1; omega) hn0)
    clear hO hC10 hT10 hone hTn HC9 HH9 HK hK1 hends
    have hbm : Bytes P m := by obtain ⟨F, h⟩ := HTl.out.cp.hs; exact h.bytes
    go_wp2_with fail
    refine (RSame_any HTl.out.cp.rl HTl.out.cp.rm HBY.out hbm).mono ?_; rintro e W12 ⟨rfl, n, rfl⟩
    have HT12 := Lib.hid (HTl.out.after (below_drewN _ _ n))
    have htm : Int.tmod (P : Int) 32 = ((P % 32 : Nat) : Int) := by rw [Int.tmod_eq_emod_of_nonneg (by omega)]; omega
    have HNW : Hid (∀ W, Calls Try.prog 11 #[.int .i64 ((P : Int) % 32 + 1)] W fun e w' => ∃ F, e = .returned (.tuple #[.pointer (some ⟨W.heap.size + 1, 0, none⟩), .int .i64 0]) ∧ Sh w' (W.heap.size + 1) (P % 32 + 1) (List.replicate (64 * (P % 32 + 1)) 0) F ∧ (∀ k, F k → W.heap.size ≤ k) ∧ Below W.heap.size W w') := fun W => by
      have := New_any (P % 32 + 1) (by omega) (by omega) W
      rwa [show ((P % 32 + 1 : Nat) : Int) = (P : Int) % 32 + 1 by omega] at this
    generalize W11.drewN n = Wd at *
    generalize hbb : decide (h9 = m) = bb at *
    generalize hN : (privs h9 P).length = N at *
    clear HTl
    go_wp2_with fail
    refine (HNW.out _).mono ?_; rintro e W13 ⟨Fu, rfl, hU, _, hb13⟩
    generalize Wd.heap.size + 1 = U at *
    have HT13 := Lib.hid (HT12.out.after hb13)
    have HU := Lib.hid hU
    clear hU hb13 HT12 HNW
    go_wp2_with fail
    refine (New_any P (by omega) (by omega) _).mono ?_; rintro e W14 ⟨Fv, rfl, hV, _, hb14⟩
    generalize W13.heap.size + 1 = V at *
    have HT14 := Lib.hid (HT13.out.after hb14)
    have HU := Lib.hid (HU.out.below hb14)
    have HV := Lib.hid hV
    clear hV hb14 HT13
    have hFar := HT14.out.cel.2
    have hCel : Cel w W6.heap.size W7.heap.size W9.heap.size P _ W14 := HT14.out.cel.1
    have hCel0 : Cel w W6.heap.size W7.heap.size W9.heap.size P _ W14.drew := Cel.after hCel.1 hCel.2.1 hCel.2.2.1 hCel.2.2.2 ((Below.refl _ _).drew)
    have HF : Hid (Below W14.heap.size W14 W14.drew) := (Below.refl _ _).drew
    have K1 : Hid (∀ W, Below W14.heap.size W14 W → Calls Try.prog 31 #[.slice (some ⟨W6.heap.size, 0, none⟩) (64 * P) (64 * P), rwV g c h9] W fun e w' => e = .returned (.bool true) ∧ Below W.heap.size W w') := fun W hW => by
      have := RSame_any (HT14.out.after hW).row (HT14.out.after hW).cp.rl HBY.out HBY.out
      rw [show rwV W6.heap.size (64 * P) h9 = .slice (some ⟨W6.heap.size, 0, none⟩) (64 * P) (64 * P) by simp [rwV, hll], decide_eq_true rfl] at this
      exact this.mono fun e w' ⟨he, n, hn⟩ => ⟨he, by rw [hn]; exact below_drewN _ _ n⟩
    have K2 : Hid (∀ W, Below W14.heap.size W14 W → Calls Try.prog 32 #[rwV g c h9] W fun e w' => e = .returned (.int .i64 (N : Int)) ∧ W = w') := fun W hW => by
      have := RPages_any (HT14.out.after hW).cp.rl HBY.out
      rwa [hN] at this
    have K3 : Hid (∀ W, Below W14.heap.size W14 W → Calls Try.prog 24 #[.pointer (some ⟨C, 0, none⟩), rwV g c h9] W fun e w' => e = .returned (.bool true) ∧ Below W.heap.size W w') := fun W hW => by
      obtain ⟨F, h⟩ := (HT14.out.after hW).cp.hc
      exact is_any h (HT14.out.after hW).cp.rl
    have K4 : Hid (∀ W, Below W14.heap.size W14 W → Calls Try.prog 24 #[.pointer (some ⟨S, 0, none⟩), rwV g' c' m] W fun e w' => e = .returned (.bool true) ∧ Below W.heap.size W w') := fun W hW => by
      obtain ⟨F, h⟩ := (HT14.out.after hW).cp.hs
      exact is_any h (HT14.out.after hW).cp.rm
    have K5 : Hid (∀ W, Below W14.heap.size W14 W → Calls Try.prog 22 #[.pointer (some ⟨S, 0, none⟩), .pointer (some ⟨C, 0, none⟩)] W fun e w' => e = .returned (.bool bb) ∧ Below W.heap.size W w') := fun W hW => by
      obtain ⟨F, h⟩ := (HT14.out.after hW).cp.hs
      obtain ⟨F', h'⟩ := (HT14.out.after hW).cp.hc
      have := Same_any h h'
      rwa [show decide (m = h9) = bb by rw [← hbb]; simp [eq_comm]] at this
    have K6 : Hid (∀ W, Below W14.heap.size W14 W → Calls Try.prog 22 #[.pointer (some ⟨C, 0, none⟩), .pointer (some ⟨S, 0, none⟩)] W fun e w' => e = .returned (.bool bb) ∧ Below W.heap.size W w') := fun W hW => by
      obtain ⟨F, h⟩ := (HT14.out.after hW).cp.hs
      obtain ⟨F', h'⟩ := (HT14.out.after hW).cp.hc
      have := Same_any h' h
      rwa [hbb] at this
    have K7 : Hid (∀ W, Below W14.heap.size W14 W → Calls Try.prog 22 #[.pointer (some ⟨U, 0, none⟩), .pointer (some ⟨V, 0, none⟩)] W fun e w' => e = .returned (.bool false) ∧ Below W.heap.size W w') := fun W hW => by
      have := Same_any (HU.out.below hW) (HV.out.below hW)
      rwa [decide_eq_false (fun e => by have := congrArg List.length e; simp at this; omega)] at this
    clear hbb hCel
    go_wp2_with fail
    refine wp_region_noPanic ?_
    refine wp_region_held_drew (S := fun W => Cel w W6.heap.size W7.heap.size W9.heap.size P qq W) (by kernel_rfl) hCel0 (fun _ => ?_)
    have hS := hCel0
    refine take_d (i := 0) (d := some 129) (v := .slice (some ⟨W6.heap.size, 0, none⟩) (64 * P) (64 * P)) rfl rfl (by kernel_rfl) (by kernel_rfl) (by kernel_rfl) (fun _ _ _ h => h) (.inl ⟨by rfl, fun W hW => by have q1 := hW.1; have q2 := hW.2.1; go_simp⟩) hS ?_
    try simp only [Act.put, List.setIfInBounds_toArray, List.set_cons_zero, List.set_cons_succ]
    refine take_d (i := 1) (d := some 130) (v := rwV g c h9) rfl rfl (by kernel_rfl) (by kernel_rfl) (by kernel_rfl) (fun _ _ _ h => h) (.inl ⟨by rfl, fun W hW => by have q1 := hW.1; have q2 := hW.2.1; go_simp⟩) hS ?_
    try simp only [Act.put, List.setIfInBounds_toArray, List.set_cons_zero, List.set_cons_succ]
    refine wpAnyH_all (rs := [2]) (by kernel_rfl) (by simp) (fun i hi => ?_)
    simp only [List.mem_cons, List.not_mem_nil, or_false] at hi
    subst hi
    refine .inl ?_
    go_simp
    refine (K1.out _ HF.out).mono ?_; rintro e w1 ⟨rfl, hb1⟩
    have HF := Lib.hid (HF.out.trans (hb1.mono HF.out.size))
    have hS := Cel.after hS.1 hS.2.1 hS.2.2.1 hS.2.2.2 hb1
    refine ⟨hS, ?_⟩
    try simp only [Act.put, List.setIfInBounds_toArray, List.set_cons_zero, List.set_cons_succ]
    refine take_d (i := 3) (d := some 132) (v := .bool true) rfl rfl (by kernel_rfl) (by kernel_rfl) (by kernel_rfl) (fun _ _ _ h => h) (.inl ⟨by rfl, fun W hW => by have q1 := hW.1; have q2 := hW.2.1; go_simp⟩) hS ?_
    try simp only [Act.put, List.setIfInBounds_toArray, List.set_cons_zero, List.set_cons_succ]
    refine take_d (i := 4) (d := some 133) (v := .int .i64 qq) rfl rfl (by kernel_rfl) (by kernel_rfl) (by kernel_rfl) (fun _ _ _ h => h) (.inl ⟨by rfl, fun W hW => by have q1 := hW.1; have q2 := hW.2.1; go_simp⟩) hS ?_
    try simp only [Act.put, List.setIfInBounds_toArray, List.set_cons_zero, List.set_cons_succ]
    refine take_d (i := 5) (d := some 134) (v := rwV g c h9) rfl rfl (by kernel_rfl) (by kernel_rfl) (by kernel_rfl) (fun _ _ _ h => h) (.inl ⟨by rfl, fun W hW => by have q1 := hW.1; have q2 := hW.2.1; go_simp⟩) hS ?_
    try simp only [Act.put, List.setIfInBounds_toArray, List.set_cons_zero, List.set_cons_succ]
    refine wpAnyH_all (rs := [6]) (by kernel_rfl) (by simp) (fun i hi => ?_)
    simp only [List.mem_cons, List.not_mem_nil, or_false] at hi
    subst hi
    refine .inl ?_
    go_simp
    refine (K2.out _ HF.out).mono ?_; rintro e w1 ⟨rfl, rfl⟩
    refine ⟨hS, ?_⟩
    try simp only [Act.put, List.setIfInBounds_toArray, List.set_cons_zero, List.set_cons_succ]
    refine wpAnyH_all (rs := [7]) (by kernel_rfl) (by simp) (fun i hi => ?_)
    simp only [List.mem_cons, List.not_mem_nil, or_false] at hi
    subst hi
    refine .inl ?_
    go_simp
    first | refine ⟨hS, ?_⟩ | skip
    try simp only [Act.put, List.setIfInBounds_toArray, List.set_cons_zero, List.set_cons_succ]
    refine take_d (i := 8) (d := some 137) (v := .bool true) rfl rfl (by kernel_rfl) (by kernel_rfl) (by kernel_rfl) (fun _ _ _ h => h) (.inl ⟨by rfl, fun W hW => by have q1 := hW.1; have q2 := hW.2.1; go_simp⟩) hS ?_
    try simp only [Act.put, List.setIfInBounds_toArray, List.set_cons_zero, List.set_cons_succ]
    refine take_d (i := 9) (d := some 138) (v := .bool true) rfl rfl (by kernel_rfl) (by kernel_rfl) (by kernel_rfl) (fun _ _ _ h => h) (.inl ⟨by rfl, fun W hW => by have q1 := hW.1; have q2 := hW.2.1; go_simp⟩) hS ?_
    try simp only [Act.put, List.setIfInBounds_toArray, List.set_cons_zero, List.set_cons_succ]
    refine take_d (i := 10) (d := some 139) (v := .bool true) rfl rfl (by kernel_rfl) (by kernel_rfl) (by kernel_rfl) (fun _ _ _ h => h) (.inl ⟨by rfl, fun W hW => by have q1 := hW.1; have q2 := hW.2.1; go_simp⟩) hS ?_
    try simp only [Act.put, List.setIfInBounds_toArray, List.set_cons_zero, List.set_cons_succ]
    refine take_d (i := 11) (d := some 140) (v := .pointer (some ⟨C, 0, none⟩)) rfl rfl (by kernel_rfl) (by kernel_rfl) (by kernel_rfl) (fun _ _ _ h => h) (.inl ⟨by rfl, fun W hW => by have q1 := hW.1; have q2 := hW.2.1; go_simp⟩) hS ?_
    try simp only [Act.put, List.setIfInBounds_toArray, List.set_cons_zero, List.set_cons_succ]
    refine take_d (i := 12) (d := some 141) (v := rwV g c h9) rfl rfl (by kernel_rfl) (by kernel_rfl) (by kernel_rfl) (fun _ _ _ h => h) (.inl ⟨by rfl, fun W hW => by have q1 := hW.1; have q2 := hW.2.1; go_simp⟩) hS ?_
    try simp only [Act.put, List.setIfInBounds_toArray, List.set_cons_zero, List.set_cons_succ]
    refine wpAnyH_all (rs := [13]) (by kernel_rfl) (by simp) (fun i hi => ?_)
    simp only [List.mem_cons, List.not_mem_nil, or_false] at hi
    subst hi
    refine .inl ?_
    go_simp
    refine (K3.out _ HF.out).mono ?_; rintro e w1 ⟨rfl, hb1⟩
    have HF := Lib.hid (HF.out.trans (hb1.mono HF.out.size))
    have hS := Cel.after hS.1 hS.2.1 hS.2.2.1 hS.2.2.2 hb1
    refine ⟨hS, ?_⟩
    try simp only [Act.put, List.setIfInBounds_toArray, List.set_cons_zero, List.set_cons_succ]
    refine take_d (i := 14) (d := some 143) (v := .bool true) rfl rfl (by kernel_rfl) (by kernel_rfl) (by kernel_rfl) (fun _ _ _ h => h) (.inl ⟨by rfl, fun W hW => by have q1 := hW.1; have q2 := hW.2.1; go_simp⟩) hS ?_
    try simp only [Act.put, List.setIfInBounds_toArray, List.set_cons_zero, List.set_cons_succ]
    refine take_d (i := 15) (d := some 144) (v := .bool true) rfl rfl (by kernel_rfl) (by kernel_rfl) (by kernel_rfl) (fun _ _ _ h => h) (.inl ⟨by rfl, fun W hW => by have q1 := hW.1; have q2 := hW.2.1; go_simp⟩) hS ?_
    try simp only [Act.put, List.setIfInBounds_toArray, List.set_cons_zero, List.set_cons_succ]
    refine take_d (i := 16) (d := some 145) (v := .pointer (some ⟨S, 0, none⟩)) rfl rfl (by kernel_rfl) (by kernel_rfl) (by kernel_rfl) (fun _ _ _ h => h) (.inl ⟨by rfl, fun W hW => by have q1 := hW.1; have q2 := hW.2.1; go_simp⟩) hS ?_
    try simp only [Act.put, List.setIfInBounds_toArray, List.set_cons_zero, List.set_cons_succ]
    refine take_d (i := 17) (d := some 146) (v := rwV g' c' m) rfl rfl (by kernel_rfl) (by kernel_rfl) (by kernel_rfl) (fun _ _ _ h => h) (.inl ⟨by rfl, fun W hW => by have q1 := hW.1; have q2 := hW.2.1; go_simp⟩) hS ?_
    try simp only [Act.put, List.setIfInBounds_toArray, List.set_cons_zero, List.set_cons_succ]
    refine wpAnyH_all (rs := [18]) (by kernel_rfl) (by simp) (fun i hi => ?_)
    simp only [List.mem_cons, List.not_mem_nil, or_false] at hi
    subst hi
    refine .inl ?_
    go_simp
    refine (K4.out _ HF.out).mono ?_; rintro e w1 ⟨rfl, hb1⟩
    have HF := Lib.hid (HF.out.trans (hb1.mono HF.out.size))
    have hS := Cel.after hS.1 hS.2.1 hS.2.2.1 hS.2.2.2 hb1
    refine ⟨hS, ?_⟩
    try simp only [Act.put, List.setIfInBounds_toArray, List.set_cons_zero, List.set_cons_succ]
    refine take_d (i := 19) (d := some 148) (v := .bool true) rfl rfl (by kernel_rfl) (by kernel_rfl) (by kernel_rfl) (fun _ _ _ h => h) (.inl ⟨by rfl, fun W hW => by have q1 := hW.1; have q2 := hW.2.1; go_simp⟩) hS ?_
    try simp only [Act.put, List.setIfInBounds_toArray, List.set_cons_zero, List.set_cons_succ]
    refine take_d (i := 20) (d := some 149) (v := .bool true) rfl rfl (by kernel_rfl) (by kernel_rfl) (by kernel_rfl) (fun _ _ _ h => h) (.inl ⟨by rfl, fun W hW => by have q1 := hW.1; have q2 := hW.2.1; go_simp⟩) hS ?_
    try simp only [Act.put, List.setIfInBounds_toArray, List.set_cons_zero, List.set_cons_succ]
    refine take_d (i := 21) (d := some 150) (v := .pointer (some ⟨S, 0, none⟩)) rfl rfl (by kernel_rfl) (by kernel_rfl) (by kernel_rfl) (fun _ _ _ h => h) (.inl ⟨by rfl, fun W hW => by have q1 := hW.1; have q2 := hW.2.1; go_simp⟩) hS ?_
    try simp only [Act.put, List.setIfInBounds_toArray, List.set_cons_zero, List.set_cons_succ]
    refine take_d (i := 22) (d := some 151) (v := .pointer (some ⟨C, 0, none⟩)) rfl rfl (by kernel_rfl) (by kernel_rfl) (by kernel_rfl) (fun _ _ _ h => h) (.inl ⟨by rfl, fun W hW => by have q1 := hW.1; have q2 := hW.2.1; go_simp⟩) hS ?_
    try simp only [Act.put, List.setIfInBounds_toArray, List.set_cons_zero, List.set_cons_succ]
    refine take_d (i := 24) (d := some 153) (v := .bool bb) rfl rfl (by kernel_rfl) (by kernel_rfl) (by kernel_rfl) (fun _ _ _ h => h) (.inl ⟨by rfl, fun W hW => by have q1 := hW.1; have q2 := hW.2.1; go_simp⟩) hS ?_
    try simp only [Act.put, List.setIfInBounds_toArray, List.set_cons_zero, List.set_cons_succ]
    refine wpAnyH_all (rs := [23]) (by kernel_rfl) (by simp) (fun i hi => ?_)
    simp only [List.mem_cons, List.not_mem_nil, or_false] at hi
    subst hi
    refine .inl ?_
    go_simp
    refine (K5.out _ HF.out).mono ?_; rintro e w1 ⟨rfl, hb1⟩
    have HF := Lib.hid (HF.out.trans (hb1.mono HF.out.size))
    have hS := Cel.after hS.1 hS.2.1 hS.2.2.1 hS.2.2.2 hb1
    refine ⟨hS, ?_⟩
    try simp only [Act.put, List.setIfInBounds_toArray, List.set_cons_zero, List.set_cons_succ]
    refine take_d (i := 25) (d := some 154) (v := .bool true) rfl rfl (by kernel_rfl) (by kernel_rfl) (by kernel_rfl) (fun _ _ _ h => h) (.inl ⟨by rfl, fun W hW => by have q1 := hW.1; have q2 := hW.2.1; go_simp⟩) hS ?_
    try simp only [Act.put, List.setIfInBounds_toArray, List.set_cons_zero, List.set_cons_succ]
    refine take_d (i := 26) (d := some 155) (v := .bool true) rfl rfl (by kernel_rfl) (by kernel_rfl) (by kernel_rfl) (fun _ _ _ h => h) (.inl ⟨by rfl, fun W hW => by have q1 := hW.1; have q2 := hW.2.1; go_simp⟩) hS ?_
    try simp only [Act.put, List.setIfInBounds_toArray, List.set_cons_zero, List.set_cons_succ]
    refine take_d (i := 27) (d := some 156) (v := .bool true) rfl rfl (by kernel_rfl) (by kernel_rfl) (by kernel_rfl) (fun _ _ _ h => h) (.inl ⟨by rfl, fun W hW => by have q1 := hW.1; have q2 := hW.2.1; go_simp⟩) hS ?_
    try simp only [Act.put, List.setIfInBounds_toArray, List.set_cons_zero, List.set_cons_succ]
    refine take_d (i := 28) (d := some 157) (v := .pointer (some ⟨C, 0, none⟩)) rfl rfl (by kernel_rfl) (by kernel_rfl) (by kernel_rfl) (fun _ _ _ h => h) (.inl ⟨by rfl, fun W hW => by have q1 := hW.1; have q2 := hW.2.1; go_simp⟩) hS ?_
    try simp only [Act.put, List.setIfInBounds_toArray, List.set_cons_zero, List.set_cons_succ]
    refine take_d (i := 29) (d := some 158) (v := .pointer (some ⟨S, 0, none⟩)) rfl rfl (by kernel_rfl) (by kernel_rfl) (by kernel_rfl) (fun _ _ _ h => h) (.inl ⟨by rfl, fun W hW => by have q1 := hW.1; have q2 := hW.2.1; go_simp⟩) hS ?_
    try simp only [Act.put, List.setIfInBounds_toArray, List.set_cons_zero, List.set_cons_succ]
    refine take_d (i := 31) (d := some 160) (v := .bool bb) rfl rfl (by kernel_rfl) (by kernel_rfl) (by kernel_rfl) (fun _ _ _ h => h) (.inl ⟨by rfl, fun W hW => by have q1 := hW.1; have q2 := hW.2.1; go_simp⟩) hS ?_
    try simp only [Act.put, List.setIfInBounds_toArray, List.set_cons_zero, List.set_cons_succ]
    refine wpAnyH_all (rs := [30]) (by kernel_rfl) (by simp) (fun i hi => ?_)
    simp only [List.mem_cons, List.not_mem_nil, or_false] at hi
    subst hi
    refine .inl ?_
    go_simp
    refine (K6.out _ HF.out).mono ?_; rintro e w1 ⟨rfl, hb1⟩
    have HF := Lib.hid (HF.out.trans (hb1.mono HF.out.size))
    have hS := Cel.after hS.1 hS.2.1 hS.2.2.1 hS.2.2.2 hb1
    refine ⟨hS, ?_⟩
    try simp only [Act.put, List.setIfInBounds_toArray, List.set_cons_zero, List.set_cons_succ]
    refine take_d (i := 32) (d := some 161) (v := .bool true) rfl rfl (by kernel_rfl) (by kernel_rfl) (by kernel_rfl) (fun _ _ _ h => h) (.inl ⟨by rfl, fun W hW => by have q1 := hW.1; have q2 := hW.2.1; go_simp⟩) hS ?_
    try simp only [Act.put, List.setIfInBounds_toArray, List.set_cons_zero, List.set_cons_succ]
    refine take_d (i := 33) (d := some 162) (v := .bool true) rfl rfl (by kernel_rfl) (by kernel_rfl) (by kernel_rfl) (fun _ _ _ h => h) (.inl ⟨by rfl, fun W hW => by have q1 := hW.1; have q2 := hW.2.1; go_simp⟩) hS ?_
    try simp only [Act.put, List.setIfInBounds_toArray, List.set_cons_zero, List.set_cons_succ]
    refine take_d (i := 34) (d := some 163) (v := .bool true) rfl rfl (by kernel_rfl) (by kernel_rfl) (by kernel_rfl) (fun _ _ _ h => h) (.inl ⟨by rfl, fun W hW => by have q1 := hW.1; have q2 := hW.2.1; go_simp⟩) hS ?_
    try simp only [Act.put, List.setIfInBounds_toArray, List.set_cons_zero, List.set_cons_succ]
    refine take_d (i := 35) (d := some 164) (v := .pointer (some ⟨U, 0, none⟩)) rfl rfl (by kernel_rfl) (by kernel_rfl) (by kernel_rfl) (fun _ _ _ h => h) (.inl ⟨by rfl, fun W hW => by have q1 := hW.1; have q2 := hW.2.1; go_simp⟩) hS ?_
    try simp only [Act.put, List.setIfInBounds_toArray, List.set_cons_zero, List.set_cons_succ]
    refine take_d (i := 36) (d := some 165) (v := .pointer (some ⟨V, 0, none⟩)) rfl rfl (by kernel_rfl) (by kernel_rfl) (by kernel_rfl) (fun _ _ _ h => h) (.inl ⟨by rfl, fun W hW => by have q1 := hW.1; have q2 := hW.2.1; go_simp⟩) hS ?_
    try simp only [Act.put, List.setIfInBounds_toArray, List.set_cons_zero, List.set_cons_succ]
    refine wpAnyH_all (rs := [37]) (by kernel_rfl) (by simp) (fun i hi => ?_)
    simp only [List.mem_cons, List.not_mem_nil, or_false] at hi
    subst hi
    refine .inl ?_
    go_simp
    refine (K7.out _ HF.out).mono ?_; rintro e w1 ⟨rfl, hb1⟩
    have HF := Lib.hid (HF.out.trans (hb1.mono HF.out.size))
    have hS := Cel.after hS.1 hS.2.1 hS.2.2.1 hS.2.2.2 hb1
    refine ⟨hS, ?_⟩
    try simp only [Act.put, List.setIfInBounds_toArray, List.set_cons_zero, List.set_cons_succ]
    refine take_d (i := 38) (d := some 167) (v := .bool true) rfl rfl (by kernel_rfl) (by kernel_rfl) (by kernel_rfl) (fun _ _ _ h => h) (.inl ⟨by rfl, fun W hW => by have q1 := hW.1; have q2 := hW.2.1; go_simp⟩) hS ?_
    try simp only [Act.put, List.setIfInBounds_toArray, List.set_cons_zero, List.set_cons_succ]
    refine take_d (i := 39) (d := some 168) (v := .bool true) rfl rfl (by kernel_rfl) (by kernel_rfl) (by kernel_rfl) (fun _ _ _ h => h) (.inl ⟨by rfl, fun W hW => by have q1 := hW.1; have q2 := hW.2.1; go_simp⟩) hS ?_
    try simp only [Act.put, List.setIfInBounds_toArray, List.set_cons_zero, List.set_cons_succ]
    refine take_d (i := 40) (d := some 169) (v := .bool true) rfl rfl (by kernel_rfl) (by kernel_rfl) (by kernel_rfl) (fun _ _ _ h => h) (.inl ⟨by rfl, fun W hW => by have q1 := hW.1; have q2 := hW.2.1; go_simp⟩) hS ?_
    try simp only [Act.put, List.setIfInBounds_toArray, List.set_cons_zero, List.set_cons_succ]
    refine wpAnyH_all (rs := [41]) (by kernel_rfl) (by simp) (fun i hi => ?_)
    simp only [List.mem_cons, List.not_mem_nil, or_false] at hi
    subst hi
    refine .inl ?_
    go_simp
    refine (works_any _).mono ?_; rintro e w1 ⟨rfl, hb1⟩
    have HF := Lib.hid (HF.out.trans (hb1.mono HF.out.size))
    have hS := Cel.after hS.1 hS.2.1 hS.2.2.1 hS.2.2.2 hb1
    refine ⟨hS, ?_⟩
    try simp only [Act.put, List.setIfInBounds_toArray, List.set_cons_zero, List.set_cons_succ]
    refine take_d (i := 42) (d := some 171) (v := .bool true) rfl rfl (by kernel_rfl) (by kernel_rfl) (by kernel_rfl) (fun _ _ _ h => h) (.inl ⟨by rfl, fun W hW => by have q1 := hW.1; have q2 := hW.2.1; go_simp⟩) hS ?_
    try simp only [Act.put, List.setIfInBounds_toArray, List.set_cons_zero, List.set_cons_succ]
    refine wpAnyH_all (rs := [43]) (by kernel_rfl) (by simp) (fun i hi => ?_)
    simp only [List.mem_cons, List.not_mem_nil, or_false] at hi
    subst hi
    refine .inl ?_
    have r3 := hS.2.2.1
    have r4 := hS.2.2.2
    go_simp
    refine ⟨Cel.set hFar hS.1 hS.2.1 hS.2.2.1 hS.2.2.2, ?_⟩
    try simp only [Act.put, List.setIfInBounds_toArray, List.set_cons_zero, List.set_cons_succ]
    refine wpAnyH_done (by kernel_rfl) (NoPanic.normal ?_) _
    obtain ⟨f1, f2, f3, f4⟩ := (HT14.out.after HF.out).fin
    clear hS r3 r4 HF hCel0 K1 K2 K3 K4 K5 K6 K7 HU HV HT14
    go_wp2_with fail
    refine ⟨by simp, .inl ⟨_, _, rfl, run_takeDeferred f1, ?_⟩⟩
    refine ⟨by simp, .inl ⟨_, _, rfl, run_takeDeferred f2, ?_⟩⟩
    exact ⟨.bool true, by simp [results, Try.results7, go_sem, f3], rfl, f4⟩
  case stop =>
    rintro D0 c pre rest W1 _ _ hx _
    exact hx.elim
end Go.Proofs.Ytepmndadbikijaa
