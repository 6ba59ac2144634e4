/-
  Layer 7: act of the statements: Take, Push: walks. Written by gen_act.py.
-/
import Derived.Test.YtmnkggnghflcpaaAct
namespace Go.Proofs.Ytmnkggnghflcpaa
open Go.RowKit
set_option maxHeartbeats 1000000
set_option linter.unusedVariables false
set_option linter.unusedSimpArgs false

theorem Qs.cell {w : World} {v : Value} {xs : List Int} (h : Qs w v xs) {i : Nat} (hi : i < xs.length) : ∃ g o c, v = .slice (some ⟨g, o, none⟩) xs.length c ∧ blkOf v = some g ∧ w.cell? ⟨g, o + i, none⟩ = some (.int .u8 (at0 xs i)) ∧ w.frozen? ⟨g, o + i, none⟩ = false := by
  have hb := h.nums
  obtain ⟨_, ao, c, rfl, h2, h3, h4⟩ := h
  obtain ⟨g, o, cur, rfl, e2, e3, e4⟩ := h4 (by omega)
  refine ⟨g, o, c, rfl, by simp [blkOf]; omega, ?_, e2.frozen _⟩
  have h5 : (bv xs)[i]? = some (.int .u8 (at0 xs i)) := by rw [bv_at, at0_lt hi]; rfl
  rw [e2.cell]
  rw [← e4, List.getElem?_take, if_pos hi, List.getElem?_drop] at h5
  simpa using h5
theorem Qs.store {w : World} {g o n c : Nat} {xs : List Int} (h : Qs w (.slice (some ⟨g, o, none⟩) n c) xs) {i : Nat} (hi : i < xs.length) {y : Int} (hy : 0 ≤ y ∧ y < 256) : Qs (w.setCell ⟨g, o + i, none⟩ (.int .u8 y)) (.slice (some ⟨g, o, none⟩) n c) (xs.set i y) := by
  obtain ⟨h0, ao, c', e, h2, h3, h4⟩ := h
  simp at e
  obtain ⟨rfl, rfl, rfl⟩ := e
  obtain ⟨g', o', cur, e1, e2, e3, e4⟩ := h4 (by omega)
  simp at e1
  obtain ⟨rfl, rfl⟩ := e1
  refine ⟨h0.set _ hy, _, c, by rw [List.length_set], by rw [List.length_set]; exact h2, h3, fun _ => ⟨g, o, _, rfl, e2.setCell (o + i) (.int .u8 y), by simpa using e3, ?_⟩⟩
  rw [List.length_set]
  have e5 : (cur.setIfInBounds (o + i) (.int .u8 y)).toList = cur.toList.set (o + i) (.int .u8 y) := by simp
  rw [e5, List.drop_set, if_neg (by omega), show o + i - o = i by omega, List.take_set, e4]
  simp [bv, List.map_set]
/-- In the loop over the bytes that were pushed. -/
structure BLoop (w : World) (S z : Nat) (l' : Ls) (c c' ac : Array Value) (F G F' G' : Nat → Prop) (B : Nat) (vb : Value) (n : Nat) (W : World) : Prop where
  pp : PP w S l' c' F G z F' G' W
  a3 : A3 w c ac W
  box : Rf W B c'
  q : ∃ ys, ys.length = n ∧ Qs W vb ys
theorem BLoop.step {w W : World} {S z B : Nat} {l' : Ls} {c c' ac : Array Value} {F G F' G' : Nat → Prop} {g o n m cc : Nat} (h : BLoop w S z l' c c' ac F G F' G' B (.slice (some ⟨g, o, none⟩) m cc) n W) (hg : w.heap.size + 1 + 1 + 1 ≤ g ∧ g < z) (hzB : z ≤ B) (hF : ∀ k, F k → k < w.heap.size) (hG : ∀ k, G k → k < w.heap.size) {i : Nat} (hi : i < n) {y : Int} (hy : 0 ≤ y ∧ y < 256) :
    BLoop w S z l' c c' ac F G F' G' B (.slice (some ⟨g, o, none⟩) m cc) n (W.setCell ⟨g, o + i, none⟩ (.int .u8 y)) := by
  have ht : Turned (fun k => k = g) W (W.setCell ⟨g, o + i, none⟩ (.int .u8 y)) := (Turned.refl (fun k => k = g) W).setCell (p := ⟨g, o + i, none⟩) (.inl rfl) (.int .u8 y)
  refine ⟨h.pp.keep ht (by intro k e; omega) hF hG, h.a3.turned ht (by intro k e; omega), h.box.turned ht (by omega), ?_⟩
  obtain ⟨ys, h1, h2⟩ := h.q
  exact ⟨_, by rw [List.length_set]; exact h1, h2.store (by omega) hy⟩
set_option maxRecDepth 100000 in
theorem act2 {w : World} {S : Nat} {l : Ls} {c : Array Value} {F G : Nat → Prop} (h : AB w S l c F G) (ln : Int) (bv : Value) (y x : Int) (up : Bool) :
    Calls Try.prog 13 #[.pointer (some ⟨S, 0, none⟩), .agg c, .agg #[.int .i64 2, .int .i64 ln, bv, .int .u8 y, .int .u32 x, .bool up]] w fun e w' => ∃ c', e = .returned (.tuple #[.agg c', .bool true]) ∧ ActC w S l.took F G c' w' := by
  obtain ⟨hA, hb⟩ := a3_start w c (aC 2 ln bv y x up) ⟨h.rv.size, h.rv.one⟩
  have HAB := Lib.hid h
  have HF := Lib.hid h.at_.lt
  have HG := Lib.hid h.rv.lt
  have HA := Lib.hid hA
  have HB := Lib.hid hb
  have HAt := Lib.hid (h.at_.below hb)
  have hrv := h.rv.below hb
  have hsz : l.ps.length ≤ 900000 := by have := h.sz; unfold Ls.sz at this; omega
  have HD := Lib.hid (RTake_any hrv h.ok hsz)
  have HSZ := Lib.hid hsz
  have HOk := Lib.hid h.ok
  clear h hA hb hrv hsz
  go_enter Try.func13, Try.ntmps13
  go_wp2_with ((with_reducible apply wp_load_R); (exact HA.out.a); (rfl))
  refine HD.out.mono ?_
  rintro e w1 ⟨c', rfl, G', rv, gG, hb2⟩
  have hz2 := hb2.size
  have hb3 : Below _ _ (w1.alloc (.cells c' 30)) := (hb2.alloc hz2 (.cells c' 30))
  have H1 := Lib.hid ((HA.out.below hb3))
  have HBX := Lib.hid (show Rf (w1.alloc (.cells c' 30)) w1.heap.size c' from (rv.new w1))
  have HAt2 := Lib.hid ((HAt.out.below hb2).below ((Below.refl _ _).alloc (Nat.le_refl _) (.cells c' 30)))
  have HRv := Lib.hid (rv.below ((Below.refl _ _).alloc (Nat.le_refl _) (.cells c' 30)))
  have HgG := Lib.hid (show ∀ k, G' k → G k ∨ w.heap.size + 1 + 1 + 1 ≤ k from fun k hk => (gG k hk).imp id (fun e => by have := HA.out.z; omega))
  have HB3 := Lib.hid hb3
  have HOK := Lib.hid (show c'.size = 9 ∧ c'.all (·.oneCell') = true from ⟨rv.size, rv.one⟩)
  have HN := Lib.hid (show zR.size = 9 ∧ c'.size = 9 ∧ c'.all (·.oneCell') = true from ⟨rfl, rv.size, rv.one⟩)
  have HZ1 : Hid (w.heap.size + 1 + 1 + 1 ≤ w1.heap.size) := by have := HA.out.z; show _ ≤ _; omega
  clear rv gG hb2 hb3 hz2 HD
  go_wp2_with ((with_reducible apply wp_store_Rn _); (exact HN.out); (rfl); (rfl))
  refine (Take_any HAt2.out HOk.out HSZ.out).mono ?_
  rintro e w2 ⟨rfl, hc⟩
  obtain ⟨F', hpp, ht⟩ := HAB.out.fin2 HB.out HA.out.z HRv.out HgG.out HB3.out (by omega) hc
  have hF2 := HF.out
  have HBX2 := Lib.hid (HBX.out.turned ht (fun e => by have := hF2 _ e; have := HZ1.out; omega))
  have hr := H1.out.r.turned ht (fun e => by have := hF2 _ e; omega)
  have HC := Lib.hid (show _ ∧ c'.size = 9 ∧ c'.all (·.oneCell') = true from ⟨hr, HOK.out.1, HOK.out.2⟩)
  have HT := Lib.hid ((hpp.keep (turned_setRow _ (w.heap.size + 1 + 1) c') (by intro k e; omega) HF.out HG.out).actc (by omega))
  clear hc hpp ht hF2 hr
  go_wp2_with (first | ((with_reducible apply wp_load_R); (exact HBX2.out); (rfl)) | ((with_reducible apply wp_store_R _); (exact HC.out); (rfl); (rfl)))
  refine bodyPost_ret (res_R_tmp (fn := Try.f13) rfl _ (HC.out.1.set HC.out.2.1 HC.out.2.2) rfl) rfl ⟨c', by simp, HT.out⟩
set_option maxRecDepth 100000 in
theorem act1a {w : World} {S : Nat} {l : Ls} {c : Array Value} {F G : Nat → Prop} (h : AB w S l c F G) (ln : Int) (bv : Value) (b : List Int) (y x : Int) (up : Bool) (hbv : NumsIn .u8 w bv b) (hbl : b.length ≤ 100000) (sepb : ∀ k, rdBlk bv = some k → ¬ F k) (hfit : l.wt.length + b.length ≤ 256) :
    Calls Try.prog 13 #[.pointer (some ⟨S, 0, none⟩), .agg c, .agg #[.int .i64 1, .int .i64 ln, bv, .int .u8 y, .int .u32 x, .bool up]] w fun e w' => ∃ c', e = .returned (.tuple #[.agg c', .bool true]) ∧ ActC w S (l.pushed b) F G c' w' := by
  obtain ⟨hA, hb⟩ := a3_start w c (aC 1 ln bv y x up) ⟨h.rv.size, h.rv.one⟩
  have HAB := Lib.hid h
  have HF := Lib.hid h.at_.lt
  have HG := Lib.hid h.rv.lt
  have HA := Lib.hid hA
  have HB := Lib.hid hb
  have HAt := Lib.hid (h.at_.below hb)
  have hrv := h.rv.below hb
  have hsz : l.ps.length ≤ 900000 := by have := h.sz; unfold Ls.sz at this; omega
  have HSZ := Lib.hid hsz
  have HOk := Lib.hid h.ok
  have HBV := Lib.hid hbv
  have HSEP := Lib.hid sepb
  have hZ0 := hb.size
  have e0 : (((w.alloc (.cells c 30)).alloc (.cells (aC 1 ln bv y x up) 39)).alloc (.cells zR 30)).heap.size = w.heap.size + 1 + 1 + 1 := by simp
  have HE0 := Lib.hid e0
  have HBV1 := Lib.hid ((hbv.below hb).alloc (.cells #[] 5))
  have HRV0 := Lib.hid hrv
  obtain ⟨ob, cb, rfl, _, hlb, _⟩ := hbv.form
  obtain ⟨pv, tv, rfl, eG, hri⟩ := h.rv
  obtain ⟨op, np, rfl, _, hlp, _⟩ := hri.p.form
  have E1 : Hid (l.pushN b = l.ps.length) := if_pos hfit
  have E2 : Hid (l.pushE b = 0) := if_pos hfit
  clear h hA hb hrv hsz hbv sepb hZ0 e0 hri eG hfit
  go_enter Try.func13, Try.ntmps13
  go_wp2_with (at_builtin; refine wp_append_q rfl _ _ rfl rfl rfl (Qs.empty _ (some ⟨w.heap.size + 1 + 1 + 1, 0, none⟩)) HBV1.out (by first | omega | (simp; omega)) ?_)
  intro v2 w2 hq2 ht2 hn2
  obtain ⟨ao2, c2, hv2, hc2⟩ := hq2.shape
  try simp only [List.nil_append] at hv2
  try simp only [List.nil_append] at hq2
  subst hv2
  have hb2 : Below (w.heap.size + 1 + 1 + 1) (((w.alloc (.cells (rcL l (.slice op l.ps.length np) tv) 30)).alloc (.cells (aC 1 ln (.slice ob b.length cb) y x up) 39)).alloc (.cells zR 30)) w2 := by
    have h1 := (Below.refl (w.heap.size + 1 + 1 + 1) (((w.alloc (.cells (rcL l (.slice op l.ps.length np) tv) 30)).alloc (.cells (aC 1 ln (.slice ob b.length cb) y x up) 39)).alloc (.cells zR 30))).alloc (by rw [HE0.out]; exact Nat.le_refl _) (.cells #[] 5)
    exact h1.trans (ht2.below (by simp) (fun k e => by simp [blkOf] at e))
  have hn2' : ∀ k, blkOf (.slice ao2 b.length c2) = some k → w.heap.size + 1 + 1 + 1 ≤ k := fun k hk => by
    rcases hn2 k hk with e | e
    · simp [blkOf] at e
    · omega
  rw [← HE0.out] at hb2
  have H1 := Lib.hid (HA.out.below hb2)
  have HB2 := Lib.hid (show Below w.heap.size w w2 from HB.out.trans (hb2.mono (by rw [HE0.out]; omega)))
  have HQ2 := Lib.hid hq2
  have HN2 := Lib.hid hn2'
  have HAt1 := Lib.hid (HAt.out.below hb2)
  have HD := Lib.hid (RPush_any (HRV0.out.below hb2) HOk.out (.slice ob b.length cb) b (HBV.out.below HB2.out) (by omega) HSZ.out)
  have qa := (ac_cells H1.out.x).2.2.1
  clear hq2 ht2 hn2 hn2' hb2 HRV0 HBV1
  go_wp2_with ((with_reducible apply wp_load_R); (exact H1.out.a); (rfl))
  refine HD.out.mono ?_
  rintro e w3 ⟨c', rfl, G', rv, gG, hb3⟩
  rw [E2.out]
  have hb3' : Below w2.heap.size w2 (w3.alloc (.cells c' 30)) := hb3.alloc hb3.size (.cells c' 30)
  have H2 := Lib.hid (H1.out.below hb3')
  have HBX := Lib.hid (show Rf (w3.alloc (.cells c' 30)) w3.heap.size c' from rv.new w3)
  have HAt2 := Lib.hid (HAt1.out.below hb3')
  have HRv := Lib.hid (rv.below ((Below.refl _ _).alloc (Nat.le_refl _) (.cells c' 30)))
  have HgG := Lib.hid gG
  have HB3 := Lib.hid hb3'
  have HOK := Lib.hid (show c'.size = 9 ∧ c'.all (·.oneCell') = true from ⟨rv.size, rv.one⟩)
  have HN := Lib.hid (show zR.size = 9 ∧ c'.size = 9 ∧ c'.all (·.oneCell') = true from ⟨rfl, rv.size, rv.one⟩)
  have HZ3 := Lib.hid hb3.size
  have HQ3 := Lib.hid (HQ2.out.below hb3')
  clear rv gG hb3 hb3' HD HAt1 qa
  go_wp2_with ((with_reducible apply wp_store_Rn _); (exact HN.out); (rfl); (rfl))
  refine (Push_any HAt2.out HOk.out _ b HQ3.out.nums HSZ.out).mono ?_
  rintro e w4 ⟨rfl, hc⟩
  rw [E1.out, E2.out]
  obtain ⟨F', hpp, ht⟩ := HAB.out.fin2 HB2.out (Nat.le_refl _) HRv.out HgG.out HB3.out HB2.out.size hc
  have hF2 := HF.out
  have hz1 := H1.out.z
  have hz3 := HZ3.out
  have hn2 := HN2.out
  have HBX2 := HBX.out.turned ht (fun e => by have := hF2 _ e; omega)
  have H3 := Lib.hid (H2.out.turned ht (fun k hk => .inl (hF2 k hk)))
  have hq4 : Qs w4 (.slice ao2 b.length c2) b := HQ3.out.turned ht (fun k hk e => by have := hF2 _ e; have := hn2 _ hk; omega)
  have hbv4 : NumsIn .u8 w4 (.slice ob b.length cb) b := ((HBV.out.below HB2.out).below HB3.out).keep fun k hk => ht.block k (((HBV.out.below HB2.out).below HB3.out).lt hk) (HSEP.out k hk)
  have hs1 := str_conv hq4.nums
  have hs2 := str_conv hbv4
  have q2 := (ac_cells H3.out.x).2.2.1
  have HL : Hid (BLoop w S w2.heap.size (l.pushed b) (rcL l (.slice op l.ps.length np) tv) c' (aC 1 ln (.slice ob b.length cb) y x up) F G F' G' w3.heap.size (.slice ao2 b.length c2) b.length w4) := ⟨hpp, H3.out, HBX2, b, rfl, hq4⟩
  have HQL := Lib.hid (show ∀ k, blkOf (.slice ao2 b.length c2) = some k → k < w2.heap.size from fun k hk => HQ2.out.lt hk)
  clear hc hpp ht hF2 hz1 hz3 hn2 HBX2 hq4 hbv4 H2 HBX HAt2 HRv HB3 HQ3
  go_wp2
  go_loopw [14] (fun q wr => ∃ k : Nat, k ≤ b.length ∧ q = .int .i64 (k : Int) ∧ Hid (BLoop w S w2.heap.size (l.pushed b) (rcL l (.slice op l.ps.length np) tv) c' (aC 1 ln (.slice ob b.length cb) y x up) F G F' G' w3.heap.size (.slice ao2 b.length c2) b.length wr)) (fun q _ => b.length + 1 - (intOf q).toNat)
  case atStart => exact ⟨0, by omega, rfl, HL.out⟩
  case round =>
    obtain ⟨k, hk, rfl, HI⟩ := hrel
    clear hs1 hs2 q2
    by_cases hlt : k < b.length
    · have hi : (k : Int) < (b.length : Int) := by omega
      obtain ⟨ys, hy1, hy2⟩ := HI.out.q
      obtain ⟨g, o, cc, e, hg, c1, f1⟩ := hy2.cell (i := k) (by omega)
      rw [hy1] at e
      simp at e
      obtain ⟨rfl, rfl⟩ := e
      have hyb := hy2.byt.at0 k
      generalize at0 ys k = t at c1 hyb
      have HS := Lib.hid (fun (u : Int) (hu : 0 ≤ u ∧ u < 256) => HI.out.step ⟨HN2.out g hg, HQL.out g hg⟩ HZ3.out HF.out HG.out hlt hu)
      clear hy1 hy2 hg hyb
      go_wp2
      go_roundw
      case rel => exact ⟨k + 1, by omega, by go_num, HS.out _ (by omega)⟩
      case measure => simp [intOf]; omega
    · obtain rfl : k = b.length := by omega
      have hlt' : ¬ ((b.length : Nat) : Int) < (b.length : Int) := by omega
      have HK := Lib.hid (show (fun W => Rf W w3.heap.size c' ∧ Rf W w.heap.size (rcL l (.slice op l.ps.length np) tv)) wr.drew from ⟨HI.out.box.drew, HI.out.a3.a.drew⟩)
      have hr := HI.out.a3.r.drew
      have hpp := HI.out.pp.drew
      have hz3 := HZ3.out
      have hz1 := H1.out.z
      clear HI HL H3
      go_wp2
      have hK0 := HK.out
      refine wp_region_held_drew (S := (fun W => Rf W w3.heap.size c' ∧ Rf W w.heap.size (rcL l (.slice op l.ps.length np) tv))) (by kernel_rfl) hK0 (fun _ => ?_)
      have hS := hK0
      refine take_d (i := 0) (d := some 77) (v := .agg c') rfl rfl (by kernel_rfl) (by kernel_rfl) (by kernel_rfl) (fun _ _ _ h => h) (y_R (by kernel_rfl) rfl rfl (fun W hW => hW.1) HOK.out.1) hS ?_
      try simp only [Act.put, List.setIfInBounds_toArray, List.set_cons_zero, List.set_cons_succ]
      refine take_d (i := 1) (d := some 78) (v := ?_) rfl rfl (by kernel_rfl) (by kernel_rfl) (by kernel_rfl) (fun _ _ _ h => h) (.inl ⟨by rfl, ?_⟩) hS ?_
      rotate_left
      · intro W hW
        go_simp
        try with_reducible rfl
      try simp only [Act.put, List.setIfInBounds_toArray, List.set_cons_zero, List.set_cons_succ]
      refine take_d (i := 3) (d := some 80) (v := ?_) rfl rfl (by kernel_rfl) (by kernel_rfl) (by kernel_rfl) (fun _ _ _ h => h) (.inl ⟨by rfl, ?_⟩) hS ?_
      rotate_left
      · intro W hW
        go_simp
        try with_reducible rfl
      try simp only [Act.put, List.setIfInBounds_toArray, List.set_cons_zero, List.set_cons_succ]
      refine wpAnyH_all (rs := [2]) (by kernel_rfl) (by simp) (fun i hi => ?_)
      simp only [List.mem_cons, List.not_mem_nil, or_false] at hi
      subst hi
      refine .inl ?_
      go_simp
      refine (num_any _ _).mono ?_
      rintro e wc ⟨rfl, rfl⟩
      refine ⟨hS, ?_⟩
      try simp only [Act.put, List.setIfInBounds_toArray, List.set_cons_zero, List.set_cons_succ]
      refine take_d (i := 4) (d := some 81) (v := ?_) rfl rfl (by kernel_rfl) (by kernel_rfl) (by kernel_rfl) (fun _ _ _ h => h) (.inl ⟨by rfl, ?_⟩) hS ?_
      rotate_left
      · intro W hW
        go_simp
        try with_reducible rfl
      try simp only [Act.put, List.setIfInBounds_toArray, List.set_cons_zero, List.set_cons_succ]
      refine take_d (i := 5) (d := some 82) (v := ?_) rfl rfl (by kernel_rfl) (by kernel_rfl) (by kernel_rfl) (fun _ _ _ h => h) (.inl ⟨by rfl, ?_⟩) hS ?_
      rotate_left
      · intro W hW
        go_simp
        try with_reducible rfl
      try simp only [Act.put, List.setIfInBounds_toArray, List.set_cons_zero, List.set_cons_succ]
      refine take_d (i := 6) (d := some 83) (v := ?_) rfl rfl (by kernel_rfl) (by kernel_rfl) (by kernel_rfl) (fun _ _ _ h => h) (.inl ⟨by rfl, ?_⟩) hS ?_
      rotate_left
      · intro W hW
        go_simp
        try with_reducible rfl
      try simp only [Act.put, List.setIfInBounds_toArray, List.set_cons_zero, List.set_cons_succ]
      refine take_d (i := 7) (d := some 84) (v := ?_) rfl rfl (by kernel_rfl) (by kernel_rfl) (by kernel_rfl) (fun _ _ _ h => h) (.inl ⟨by rfl, ?_⟩) hS ?_
      rotate_left
      · intro W hW
        go_simp
        try with_reducible rfl
      try simp only [Act.put, List.setIfInBounds_toArray, List.set_cons_zero, List.set_cons_succ]
      refine take_d (i := 8) (d := some 85) (v := ?_) rfl rfl (by kernel_rfl) (by kernel_rfl) (by kernel_rfl) (fun _ _ _ h => h) (.inl ⟨by rfl, ?_⟩) hS ?_
      rotate_left
      · intro W hW
        go_simp
        try with_reducible rfl
      try simp only [Act.put, List.setIfInBounds_toArray, List.set_cons_zero, List.set_cons_succ]
      refine take_d (i := 9) (d := some 86) (v := ?_) rfl rfl (by kernel_rfl) (by kernel_rfl) (by kernel_rfl) (fun _ _ _ h => h) (.inl ⟨by rfl, ?_⟩) hS ?_
      rotate_left
      · intro W hW
        go_simp
        try with_reducible rfl
      try simp only [Act.put, List.setIfInBounds_toArray, List.set_cons_zero, List.set_cons_succ]
      refine take_d (i := 10) (d := some 87) (v := ?_) rfl rfl (by kernel_rfl) (by kernel_rfl) (by kernel_rfl) (fun _ _ _ h => h) (.inl ⟨by rfl, ?_⟩) hS ?_
      rotate_left
      · intro W hW
        go_simp
        try with_reducible rfl
      try simp only [Act.put, List.setIfInBounds_toArray, List.set_cons_zero, List.set_cons_succ]
      refine take_d (i := 11) (d := some 88) (v := ?_) rfl rfl (by kernel_rfl) (by kernel_rfl) (by kernel_rfl) (fun _ _ _ h => h) (.inl ⟨by rfl, ?_⟩) hS ?_
      rotate_left
      · intro W hW
        go_simp
        try with_reducible rfl
      try simp only [Act.put, List.setIfInBounds_toArray, List.set_cons_zero, List.set_cons_succ]
      refine take_d (i := 12) (d := some 89) (v := undef) rfl rfl (by kernel_rfl) (by kernel_rfl) (by kernel_rfl) (fun _ _ _ h => h) (.inr ⟨by kernel_rfl, rfl⟩) hS ?_
      try simp only [Act.put, List.setIfInBounds_toArray, List.set_cons_zero, List.set_cons_succ]
      refine take_d (i := 13) (d := some 90) (v := undef) rfl rfl (by kernel_rfl) (by kernel_rfl) (by kernel_rfl) (fun _ _ _ h => h) (.inr ⟨by kernel_rfl, rfl⟩) hS ?_
      try simp only [Act.put, List.setIfInBounds_toArray, List.set_cons_zero, List.set_cons_succ]
      refine take_d (i := 14) (d := some 91) (v := ?_) rfl rfl (by kernel_rfl) (by kernel_rfl) (by kernel_rfl) (fun _ _ _ h => h) (.inl ⟨by rfl, ?_⟩) hS ?_
      rotate_left
      · intro W hW
        go_simp
        try with_reducible rfl
      try simp only [Act.put, List.setIfInBounds_toArray, List.set_cons_zero, List.set_cons_succ]
      refine take_d (i := 15) (d := some 92) (v := ?_) rfl rfl (by kernel_rfl) (by kernel_rfl) (by kernel_rfl) (fun _ _ _ h => h) (.inl ⟨by rfl, ?_⟩) hS ?_
      rotate_left
      · intro W hW
        go_simp
        try with_reducible rfl
      try simp only [Act.put, List.setIfInBounds_toArray, List.set_cons_zero, List.set_cons_succ]
      refine take_d (i := 16) (d := some 93) (v := ?_) rfl rfl (by kernel_rfl) (by kernel_rfl) (by kernel_rfl) (fun _ _ _ h => h) (.inl ⟨by rfl, ?_⟩) hS ?_
      rotate_left
      · intro W hW
        go_simp
        try with_reducible rfl
      try simp only [Act.put, List.setIfInBounds_toArray, List.set_cons_zero, List.set_cons_succ]
      refine take_d (i := 17) (d := some 94) (v := ?_) rfl rfl (by kernel_rfl) (by kernel_rfl) (by kernel_rfl) (fun _ _ _ h => h) (.inl ⟨by rfl, ?_⟩) hS ?_
      rotate_left
      · intro W hW
        go_simp
        try with_reducible rfl
      try simp only [Act.put, List.setIfInBounds_toArray, List.set_cons_zero, List.set_cons_succ]
      refine take_d (i := 18) (d := some 95) (v := ?_) rfl rfl (by kernel_rfl) (by kernel_rfl) (by kernel_rfl) (fun _ _ _ h => h) (.inl ⟨by rfl, ?_⟩) hS ?_
      rotate_left
      · intro W hW
        go_simp
        try with_reducible rfl
      try simp only [Act.put, List.setIfInBounds_toArray, List.set_cons_zero, List.set_cons_succ]
      refine take_d (i := 19) (d := some 96) (v := ?_) rfl rfl (by kernel_rfl) (by kernel_rfl) (by kernel_rfl) (fun _ _ _ h => h) (.inl ⟨by rfl, ?_⟩) hS ?_
      rotate_left
      · intro W hW
        go_simp
        try with_reducible rfl
      try simp only [Act.put, List.setIfInBounds_toArray, List.set_cons_zero, List.set_cons_succ]
      refine take_d (i := 20) (d := some 97) (v := ?_) rfl rfl (by kernel_rfl) (by kernel_rfl) (by kernel_rfl) (fun _ _ _ h => h) (.inl ⟨by rfl, ?_⟩) hS ?_
      rotate_left
      · intro W hW
        go_simp
        try with_reducible rfl
      try simp only [Act.put, List.setIfInBounds_toArray, List.set_cons_zero, List.set_cons_succ]
      refine take_d (i := 21) (d := some 98) (v := ?_) rfl rfl (by kernel_rfl) (by kernel_rfl) (by kernel_rfl) (fun _ _ _ h => h) (.inl ⟨by rfl, ?_⟩) hS ?_
      rotate_left
      · intro W hW
        have q2 := hW.2.cells
        go_simp
        try with_reducible rfl
      try simp only [Act.put, List.setIfInBounds_toArray, List.set_cons_zero, List.set_cons_succ]
      refine take_d (i := 22) (d := some 99) (v := ?_) rfl rfl (by kernel_rfl) (by kernel_rfl) (by kernel_rfl) (fun _ _ _ h => h) (.inl ⟨by rfl, ?_⟩) hS ?_
      rotate_left
      · intro W hW
        go_simp
        try with_reducible rfl
      try simp only [Act.put, List.setIfInBounds_toArray, List.set_cons_zero, List.set_cons_succ]
      refine take_d (i := 23) (d := some 100) (v := ?_) rfl rfl (by kernel_rfl) (by kernel_rfl) (by kernel_rfl) (fun _ _ _ h => h) (.inl ⟨by rfl, ?_⟩) hS ?_
      rotate_left
      · intro W hW
        go_simp
        try with_reducible rfl
      try simp only [Act.put, List.setIfInBounds_toArray, List.set_cons_zero, List.set_cons_succ]
      refine take_d (i := 24) (d := some 101) (v := ?_) rfl rfl (by kernel_rfl) (by kernel_rfl) (by kernel_rfl) (fun _ _ _ h => h) (.inl ⟨by rfl, ?_⟩) hS ?_
      rotate_left
      · intro W hW
        go_simp
        try with_reducible rfl
      try simp only [Act.put, List.setIfInBounds_toArray, List.set_cons_zero, List.set_cons_succ]
      refine take_d (i := 25) (d := some 102) (v := ?_) rfl rfl (by kernel_rfl) (by kernel_rfl) (by kernel_rfl) (fun _ _ _ h => h) (.inl ⟨by rfl, ?_⟩) hS ?_
      rotate_left
      · intro W hW
        go_simp
        try with_reducible rfl
      try simp only [Act.put, List.setIfInBounds_toArray, List.set_cons_zero, List.set_cons_succ]
      refine take_d (i := 26) (d := some 103) (v := ?_) rfl rfl (by kernel_rfl) (by kernel_rfl) (by kernel_rfl) (fun _ _ _ h => h) (.inl ⟨by rfl, ?_⟩) hS ?_
      rotate_left
      · intro W hW
        go_simp
        try with_reducible rfl
      try simp only [Act.put, List.setIfInBounds_toArray, List.set_cons_zero, List.set_cons_succ]
      refine wpAnyH_all (rs := [27]) (by kernel_rfl) (by simp) (fun i hi => ?_)
      simp only [List.mem_cons, List.not_mem_nil, or_false] at hi
      subst hi
      refine .inl ?_
      refine o_store_R c' hr HOK.out rfl rfl rfl ?_
      have HT := Lib.hid ((hpp.keep (turned_setRow _ (w.heap.size + 1 + 1) c') (by intro k e; omega) HF.out HG.out).actc HB2.out.size)
      have hS : (fun W => Rf W w3.heap.size c' ∧ Rf W w.heap.size (rcL l (.slice op l.ps.length np) tv)) (World.setRow _ (w.heap.size + 1 + 1) c') := ⟨hS.1.setOther (by omega) _, hS.2.setOther (by omega) _⟩
      have hr2 := hr.set HOK.out.1 HOK.out.2
      refine ⟨hS, ?_⟩
      try simp only [Act.put, List.setIfInBounds_toArray, List.set_cons_zero, List.set_cons_succ]
      refine take_d (i := 28) (d := some 7) (v := ?_) rfl rfl (by kernel_rfl) (by kernel_rfl) (by kernel_rfl) (fun _ _ _ h => h) (.inl ⟨by rfl, ?_⟩) hS ?_
      rotate_left
      · intro W hW
        go_simp
        try with_reducible rfl
      try simp only [Act.put, List.setIfInBounds_toArray, List.set_cons_zero, List.set_cons_succ]
      refine wpAnyH_done (by kernel_rfl) ?_ _
      go_wp2
      refine bodyPost_ret (res_R_tmp (fn := Try.f13) rfl _ hr2 rfl) rfl ⟨c', rfl, HT.out⟩
set_option maxRecDepth 100000 in
theorem act1b {w : World} {S : Nat} {l : Ls} {c : Array Value} {F G : Nat → Prop} (h : AB w S l c F G) (ln : Int) (bv : Value) (b : List Int) (y x : Int) (up : Bool) (hbv : NumsIn .u8 w bv b) (hbl : b.length ≤ 100000) (sepb : ∀ k, rdBlk bv = some k → ¬ F k) (hfit : ¬ l.wt.length + b.length ≤ 256) :
    Calls Try.prog 13 #[.pointer (some ⟨S, 0, none⟩), .agg c, .agg #[.int .i64 1, .int .i64 ln, bv, .int .u8 y, .int .u32 x, .bool up]] w fun e w' => ∃ c', e = .returned (.tuple #[.agg c', .bool true]) ∧ ActC w S (l.pushed b) F G c' w' := by
  obtain ⟨hA, hb⟩ := a3_start w c (aC 1 ln bv y x up) ⟨h.rv.size, h.rv.one⟩
  have HAB := Lib.hid h
  have HF := Lib.hid h.at_.lt
  have HG := Lib.hid h.rv.lt
  have HA := Lib.hid hA
  have HB := Lib.hid hb
  have HAt := Lib.hid (h.at_.below hb)
  have hrv := h.rv.below hb
  have hsz : l.ps.length ≤ 900000 := by have := h.sz; unfold Ls.sz at this; omega
  have HSZ := Lib.hid hsz
  have HOk := Lib.hid h.ok
  have HBV := Lib.hid hbv
  have HSEP := Lib.hid sepb
  have hZ0 := hb.size
  have e0 : (((w.alloc (.cells c 30)).alloc (.cells (aC 1 ln bv y x up) 39)).alloc (.cells zR 30)).heap.size = w.heap.size + 1 + 1 + 1 := by simp
  have HE0 := Lib.hid e0
  have HBV1 := Lib.hid ((hbv.below hb).alloc (.cells #[] 5))
  have HRV0 := Lib.hid hrv
  obtain ⟨ob, cb, rfl, _, hlb, _⟩ := hbv.form
  obtain ⟨pv, tv, rfl, eG, hri⟩ := h.rv
  obtain ⟨op, np, rfl, _, hlp, _⟩ := hri.p.form
  have E1 : Hid (l.pushN b = 0) := if_neg hfit
  have E2 : Hid (l.pushE b = 3) := if_neg hfit
  clear h hA hb hrv hsz hbv sepb hZ0 e0 hri eG hfit
  go_enter Try.func13, Try.ntmps13
  go_wp2_with (at_builtin; refine wp_append_q rfl _ _ rfl rfl rfl (Qs.empty _ (some ⟨w.heap.size + 1 + 1 + 1, 0, none⟩)) HBV1.out (by first | omega | (simp; omega)) ?_)
  intro v2 w2 hq2 ht2 hn2
  obtain ⟨ao2, c2, hv2, hc2⟩ := hq2.shape
  try simp only [List.nil_append] at hv2
  try simp only [List.nil_append] at hq2
  subst hv2
  have hb2 : Below (w.heap.size + 1 + 1 + 1) (((w.alloc (.cells (rcL l (.slice op l.ps.length np) tv) 30)).alloc (.cells (aC 1 ln (.slice ob b.length cb) y x up) 39)).alloc (.cells zR 30)) w2 := by
    have h1 := (Below.refl (w.heap.size + 1 + 1 + 1) (((w.alloc (.cells (rcL l (.slice op l.ps.length np) tv) 30)).alloc (.cells (aC 1 ln (.slice ob b.length cb) y x up) 39)).alloc (.cells zR 30))).alloc (by rw [HE0.out]; exact Nat.le_refl _) (.cells #[] 5)
    exact h1.trans (ht2.below (by simp) (fun k e => by simp [blkOf] at e))
  have hn2' : ∀ k, blkOf (.slice ao2 b.length c2) = some k → w.heap.size + 1 + 1 + 1 ≤ k := fun k hk => by
    rcases hn2 k hk with e | e
    · simp [blkOf] at e
    · omega
  rw [← HE0.out] at hb2
  have H1 := Lib.hid (HA.out.below hb2)
  have HB2 := Lib.hid (show Below w.heap.size w w2 from HB.out.trans (hb2.mono (by rw [HE0.out]; omega)))
  have HQ2 := Lib.hid hq2
  have HN2 := Lib.hid hn2'
  have HAt1 := Lib.hid (HAt.out.below hb2)
  have HD := Lib.hid (RPush_any (HRV0.out.below hb2) HOk.out (.slice ob b.length cb) b (HBV.out.below HB2.out) (by omega) HSZ.out)
  have qa := (ac_cells H1.out.x).2.2.1
  clear hq2 ht2 hn2 hn2' hb2 HRV0 HBV1
  go_wp2_with ((with_reducible apply wp_load_R); (exact H1.out.a); (rfl))
  refine HD.out.mono ?_
  rintro e w3 ⟨c', rfl, G', rv, gG, hb3⟩
  rw [E2.out]
  have hb3' : Below w2.heap.size w2 (w3.alloc (.cells c' 30)) := hb3.alloc hb3.size (.cells c' 30)
  have H2 := Lib.hid (H1.out.below hb3')
  have HBX := Lib.hid (show Rf (w3.alloc (.cells c' 30)) w3.heap.size c' from rv.new w3)
  have HAt2 := Lib.hid (HAt1.out.below hb3')
  have HRv := Lib.hid (rv.below ((Below.refl _ _).alloc (Nat.le_refl _) (.cells c' 30)))
  have HgG := Lib.hid gG
  have HB3 := Lib.hid hb3'
  have HOK := Lib.hid (show c'.size = 9 ∧ c'.all (·.oneCell') = true from ⟨rv.size, rv.one⟩)
  have HN := Lib.hid (show zR.size = 9 ∧ c'.size = 9 ∧ c'.all (·.oneCell') = true from ⟨rfl, rv.size, rv.one⟩)
  have HZ3 := Lib.hid hb3.size
  have HQ3 := Lib.hid (HQ2.out.below hb3')
  clear rv gG hb3 hb3' HD HAt1 qa
  go_wp2_with ((with_reducible apply wp_store_Rn _); (exact HN.out); (rfl); (rfl))
  refine (Push_any HAt2.out HOk.out _ b HQ3.out.nums HSZ.out).mono ?_
  rintro e w4 ⟨rfl, hc⟩
  rw [E1.out, E2.out]
  obtain ⟨F', hpp, ht⟩ := HAB.out.fin2 HB2.out (Nat.le_refl _) HRv.out HgG.out HB3.out HB2.out.size hc
  have hF2 := HF.out
  have hz1 := H1.out.z
  have hz3 := HZ3.out
  have hn2 := HN2.out
  have HBX2 := HBX.out.turned ht (fun e => by have := hF2 _ e; omega)
  have H3 := Lib.hid (H2.out.turned ht (fun k hk => .inl (hF2 k hk)))
  have hq4 : Qs w4 (.slice ao2 b.length c2) b := HQ3.out.turned ht (fun k hk e => by have := hF2 _ e; have := hn2 _ hk; omega)
  have hbv4 : NumsIn .u8 w4 (.slice ob b.length cb) b := ((HBV.out.below HB2.out).below HB3.out).keep fun k hk => ht.block k (((HBV.out.below HB2.out).below HB3.out).lt hk) (HSEP.out k hk)
  have hs1 := str_conv hq4.nums
  have hs2 := str_conv hbv4
  have q2 := (ac_cells H3.out.x).2.2.1
  have HL : Hid (BLoop w S w2.heap.size (l.pushed b) (rcL l (.slice op l.ps.length np) tv) c' (aC 1 ln (.slice ob b.length cb) y x up) F G F' G' w3.heap.size (.slice ao2 b.length c2) b.length w4) := ⟨hpp, H3.out, HBX2, b, rfl, hq4⟩
  have HQL := Lib.hid (show ∀ k, blkOf (.slice ao2 b.length c2) = some k → k < w2.heap.size from fun k hk => HQ2.out.lt hk)
  clear hc hpp ht hF2 hz1 hz3 hn2 HBX2 hq4 hbv4 H2 HBX HAt2 HRv HB3 HQ3
  go_wp2
  go_loopw [14] (fun q wr => ∃ k : Nat, k ≤ b.length ∧ q = .int .i64 (k : Int) ∧ Hid (BLoop w S w2.heap.size (l.pushed b) (rcL l (.slice op l.ps.length np) tv) c' (aC 1 ln (.slice ob b.length cb) y x up) F G F' G' w3.heap.size (.slice ao2 b.length c2) b.length wr)) (fun q _ => b.length + 1 - (intOf q).toNat)
  case atStart => exact ⟨0, by omega, rfl, HL.out⟩
  case round =>
    obtain ⟨k, hk, rfl, HI⟩ := hrel
    clear hs1 hs2 q2
    by_cases hlt : k < b.length
    · have hi : (k : Int) < (b.length : Int) := by omega
      obtain ⟨ys, hy1, hy2⟩ := HI.out.q
      obtain ⟨g, o, cc, e, hg, c1, f1⟩ := hy2.cell (i := k) (by omega)
      rw [hy1] at e
      simp at e
      obtain ⟨rfl, rfl⟩ := e
      have hyb := hy2.byt.at0 k
      generalize at0 ys k = t at c1 hyb
      have HS := Lib.hid (fun (u : Int) (hu : 0 ≤ u ∧ u < 256) => HI.out.step ⟨HN2.out g hg, HQL.out g hg⟩ HZ3.out HF.out HG.out hlt hu)
      clear hy1 hy2 hg hyb
      go_wp2
      go_roundw
      case rel => exact ⟨k + 1, by omega, by go_num, HS.out _ (by omega)⟩
      case measure => simp [intOf]; omega
    · obtain rfl : k = b.length := by omega
      have hlt' : ¬ ((b.length : Nat) : Int) < (b.length : Int) := by omega
      have HK := Lib.hid (show (fun W => Rf W w3.heap.size c' ∧ Rf W w.heap.size (rcL l (.slice op l.ps.length np) tv)) wr.drew from ⟨HI.out.box.drew, HI.out.a3.a.drew⟩)
      have hr := HI.out.a3.r.drew
      have hpp := HI.out.pp.drew
      have hz3 := HZ3.out
      have hz1 := H1.out.z
      clear HI HL H3
      go_wp2
      have hK0 := HK.out
      refine wp_region_held_drew (S := (fun W => Rf W w3.heap.size c' ∧ Rf W w.heap.size (rcL l (.slice op l.ps.length np) tv))) (by kernel_rfl) hK0 (fun _ => ?_)
      have hS := hK0
      refine take_d (i := 0) (d := some 77) (v := .agg c') rfl rfl (by kernel_rfl) (by kernel_rfl) (by kernel_rfl) (fun _ _ _ h => h) (y_R (by kernel_rfl) rfl rfl (fun W hW => hW.1) HOK.out.1) hS ?_
      try simp only [Act.put, List.setIfInBounds_toArray, List.set_cons_zero, List.set_cons_succ]
      refine take_d (i := 1) (d := some 78) (v := ?_) rfl rfl (by kernel_rfl) (by kernel_rfl) (by kernel_rfl) (fun _ _ _ h => h) (.inl ⟨by rfl, ?_⟩) hS ?_
      rotate_left
      · intro W hW
        go_simp
        try with_reducible rfl
      try simp only [Act.put, List.setIfInBounds_toArray, List.set_cons_zero, List.set_cons_succ]
      refine take_d (i := 3) (d := some 80) (v := ?_) rfl rfl (by kernel_rfl) (by kernel_rfl) (by kernel_rfl) (fun _ _ _ h => h) (.inl ⟨by rfl, ?_⟩) hS ?_
      rotate_left
      · intro W hW
        go_simp
        try with_reducible rfl
      try simp only [Act.put, List.setIfInBounds_toArray, List.set_cons_zero, List.set_cons_succ]
      refine wpAnyH_all (rs := [2]) (by kernel_rfl) (by simp) (fun i hi => ?_)
      simp only [List.mem_cons, List.not_mem_nil, or_false] at hi
      subst hi
      refine .inl ?_
      go_simp
      refine (num_any _ _).mono ?_
      rintro e wc ⟨rfl, rfl⟩
      refine ⟨hS, ?_⟩
      try simp only [Act.put, List.setIfInBounds_toArray, List.set_cons_zero, List.set_cons_succ]
      refine take_d (i := 4) (d := some 81) (v := ?_) rfl rfl (by kernel_rfl) (by kernel_rfl) (by kernel_rfl) (fun _ _ _ h => h) (.inl ⟨by rfl, ?_⟩) hS ?_
      rotate_left
      · intro W hW
        go_simp
        try with_reducible rfl
      try simp only [Act.put, List.setIfInBounds_toArray, List.set_cons_zero, List.set_cons_succ]
      refine take_d (i := 5) (d := some 82) (v := ?_) rfl rfl (by kernel_rfl) (by kernel_rfl) (by kernel_rfl) (fun _ _ _ h => h) (.inl ⟨by rfl, ?_⟩) hS ?_
      rotate_left
      · intro W hW
        go_simp
        try with_reducible rfl
      try simp only [Act.put, List.setIfInBounds_toArray, List.set_cons_zero, List.set_cons_succ]
      refine take_d (i := 6) (d := some 83) (v := ?_) rfl rfl (by kernel_rfl) (by kernel_rfl) (by kernel_rfl) (fun _ _ _ h => h) (.inl ⟨by rfl, ?_⟩) hS ?_
      rotate_left
      · intro W hW
        go_simp
        try with_reducible rfl
      try simp only [Act.put, List.setIfInBounds_toArray, List.set_cons_zero, List.set_cons_succ]
      refine take_d (i := 7) (d := some 84) (v := ?_) rfl rfl (by kernel_rfl) (by kernel_rfl) (by kernel_rfl) (fun _ _ _ h => h) (.inl ⟨by rfl, ?_⟩) hS ?_
      rotate_left
      · intro W hW
        go_simp
        try with_reducible rfl
      try simp only [Act.put, List.setIfInBounds_toArray, List.set_cons_zero, List.set_cons_succ]
      refine take_d (i := 8) (d := some 85) (v := ?_) rfl rfl (by kernel_rfl) (by kernel_rfl) (by kernel_rfl) (fun _ _ _ h => h) (.inl ⟨by rfl, ?_⟩) hS ?_
      rotate_left
      · intro W hW
        go_simp
        try with_reducible rfl
      try simp only [Act.put, List.setIfInBounds_toArray, List.set_cons_zero, List.set_cons_succ]
      refine take_d (i := 9) (d := some 86) (v := ?_) rfl rfl (by kernel_rfl) (by kernel_rfl) (by kernel_rfl) (fun _ _ _ h => h) (.inl ⟨by rfl, ?_⟩) hS ?_
      rotate_left
      · intro W hW
        go_simp
        try with_reducible rfl
      try simp only [Act.put, List.setIfInBounds_toArray, List.set_cons_zero, List.set_cons_succ]
      refine take_d (i := 10) (d := some 87) (v := ?_) rfl rfl (by kernel_rfl) (by kernel_rfl) (by kernel_rfl) (fun _ _ _ h => h) (.inl ⟨by rfl, ?_⟩) hS ?_
      rotate_left
      · intro W hW
        go_simp
        try with_reducible rfl
      try simp only [Act.put, List.setIfInBounds_toArray, List.set_cons_zero, List.set_cons_succ]
      refine take_d (i := 11) (d := some 88) (v := ?_) rfl rfl (by kernel_rfl) (by kernel_rfl) (by kernel_rfl) (fun _ _ _ h => h) (.inl ⟨by rfl, ?_⟩) hS ?_
      rotate_left
      · intro W hW
        go_simp
        try with_reducible rfl
      try simp only [Act.put, List.setIfInBounds_toArray, List.set_cons_zero, List.set_cons_succ]
      refine take_d (i := 12) (d := some 89) (v := ?_) rfl rfl (by kernel_rfl) (by kernel_rfl) (by kernel_rfl) (fun _ _ _ h => h) (.inl ⟨by rfl, ?_⟩) hS ?_
      rotate_left
      · intro W hW
        go_simp
        try with_reducible rfl
      try simp only [Act.put, List.setIfInBounds_toArray, List.set_cons_zero, List.set_cons_succ]
      refine take_d (i := 13) (d := some 90) (v := ?_) rfl rfl (by kernel_rfl) (by kernel_rfl) (by kernel_rfl) (fun _ _ _ h => h) (.inl ⟨by rfl, ?_⟩) hS ?_
      rotate_left
      · intro W hW
        go_simp
        try with_reducible rfl
      try simp only [Act.put, List.setIfInBounds_toArray, List.set_cons_zero, List.set_cons_succ]
      refine take_d (i := 14) (d := some 91) (v := ?_) rfl rfl (by kernel_rfl) (by kernel_rfl) (by kernel_rfl) (fun _ _ _ h => h) (.inl ⟨by rfl, ?_⟩) hS ?_
      rotate_left
      · intro W hW
        go_simp
        try with_reducible rfl
      try simp only [Act.put, List.setIfInBounds_toArray, List.set_cons_zero, List.set_cons_succ]
      refine take_d (i := 15) (d := some 92) (v := ?_) rfl rfl (by kernel_rfl) (by kernel_rfl) (by kernel_rfl) (fun _ _ _ h => h) (.inl ⟨by rfl, ?_⟩) hS ?_
      rotate_left
      · intro W hW
        go_simp
        try with_reducible rfl
      try simp only [Act.put, List.setIfInBounds_toArray, List.set_cons_zero, List.set_cons_succ]
      refine take_d (i := 16) (d := some 93) (v := undef) rfl rfl (by kernel_rfl) (by kernel_rfl) (by kernel_rfl) (fun _ _ _ h => h) (.inr ⟨by kernel_rfl, rfl⟩) hS ?_
      try simp only [Act.put, List.setIfInBounds_toArray, List.set_cons_zero, List.set_cons_succ]
      refine take_d (i := 17) (d := some 94) (v := undef) rfl rfl (by kernel_rfl) (by kernel_rfl) (by kernel_rfl) (fun _ _ _ h => h) (.inr ⟨by kernel_rfl, rfl⟩) hS ?_
      try simp only [Act.put, List.setIfInBounds_toArray, List.set_cons_zero, List.set_cons_succ]
      refine take_d (i := 18) (d := some 95) (v := undef) rfl rfl (by kernel_rfl) (by kernel_rfl) (by kernel_rfl) (fun _ _ _ h => h) (.inr ⟨by kernel_rfl, rfl⟩) hS ?_
      try simp only [Act.put, List.setIfInBounds_toArray, List.set_cons_zero, List.set_cons_succ]
      refine take_d (i := 19) (d := some 96) (v := undef) rfl rfl (by kernel_rfl) (by kernel_rfl) (by kernel_rfl) (fun _ _ _ h => h) (.inr ⟨by kernel_rfl, rfl⟩) hS ?_
      try simp only [Act.put, List.setIfInBounds_toArray, List.set_cons_zero, List.set_cons_succ]
      refine take_d (i := 20) (d := some 97) (v := undef) rfl rfl (by kernel_rfl) (by kernel_rfl) (by kernel_rfl) (fun _ _ _ h => h) (.inr ⟨by kernel_rfl, rfl⟩) hS ?_
      try simp only [Act.put, List.setIfInBounds_toArray, List.set_cons_zero, List.set_cons_succ]
      refine take_d (i := 21) (d := some 98) (v := undef) rfl rfl (by kernel_rfl) (by kernel_rfl) (by kernel_rfl) (fun _ _ _ h => h) (.inr ⟨by kernel_rfl, rfl⟩) hS ?_
      try simp only [Act.put, List.setIfInBounds_toArray, List.set_cons_zero, List.set_cons_succ]
      refine take_d (i := 22) (d := some 99) (v := undef) rfl rfl (by kernel_rfl) (by kernel_rfl) (by kernel_rfl) (fun _ _ _ h => h) (.inr ⟨by kernel_rfl, rfl⟩) hS ?_
      try simp only [Act.put, List.setIfInBounds_toArray, List.set_cons_zero, List.set_cons_succ]
      refine take_d (i := 23) (d := some 100) (v := undef) rfl rfl (by kernel_rfl) (by kernel_rfl) (by kernel_rfl) (fun _ _ _ h => h) (.inr ⟨by kernel_rfl, rfl⟩) hS ?_
      try simp only [Act.put, List.setIfInBounds_toArray, List.set_cons_zero, List.set_cons_succ]
      refine take_d (i := 24) (d := some 101) (v := undef) rfl rfl (by kernel_rfl) (by kernel_rfl) (by kernel_rfl) (fun _ _ _ h => h) (.inr ⟨by kernel_rfl, rfl⟩) hS ?_
      try simp only [Act.put, List.setIfInBounds_toArray, List.set_cons_zero, List.set_cons_succ]
      refine take_d (i := 25) (d := some 102) (v := ?_) rfl rfl (by kernel_rfl) (by kernel_rfl) (by kernel_rfl) (fun _ _ _ h => h) (.inl ⟨by rfl, ?_⟩) hS ?_
      rotate_left
      · intro W hW
        go_simp
        try with_reducible rfl
      try simp only [Act.put, List.setIfInBounds_toArray, List.set_cons_zero, List.set_cons_succ]
      refine take_d (i := 26) (d := some 103) (v := ?_) rfl rfl (by kernel_rfl) (by kernel_rfl) (by kernel_rfl) (fun _ _ _ h => h) (.inl ⟨by rfl, ?_⟩) hS ?_
      rotate_left
      · intro W hW
        go_simp
        try with_reducible rfl
      try simp only [Act.put, List.setIfInBounds_toArray, List.set_cons_zero, List.set_cons_succ]
      refine wpAnyH_all (rs := [27]) (by kernel_rfl) (by simp) (fun i hi => ?_)
      simp only [List.mem_cons, List.not_mem_nil, or_false] at hi
      subst hi
      refine .inl ?_
      refine o_store_R c' hr HOK.out rfl rfl rfl ?_
      have HT := Lib.hid ((hpp.keep (turned_setRow _ (w.heap.size + 1 + 1) c') (by intro k e; omega) HF.out HG.out).actc HB2.out.size)
      have hS : (fun W => Rf W w3.heap.size c' ∧ Rf W w.heap.size (rcL l (.slice op l.ps.length np) tv)) (World.setRow _ (w.heap.size + 1 + 1) c') := ⟨hS.1.setOther (by omega) _, hS.2.setOther (by omega) _⟩
      have hr2 := hr.set HOK.out.1 HOK.out.2
      refine ⟨hS, ?_⟩
      try simp only [Act.put, List.setIfInBounds_toArray, List.set_cons_zero, List.set_cons_succ]
      refine take_d (i := 28) (d := some 7) (v := ?_) rfl rfl (by kernel_rfl) (by kernel_rfl) (by kernel_rfl) (fun _ _ _ h => h) (.inl ⟨by rfl, ?_⟩) hS ?_
      rotate_left
      · intro W hW
        go_simp
        try with_reducible rfl
      try simp only [Act.put, List.setIfInBounds_toArray, List.set_cons_zero, List.set_cons_succ]
      refine wpAnyH_done (by kernel_rfl) ?_ _
      go_wp2
      refine bodyPost_ret (res_R_tmp (fn := Try.f13) rfl _ hr2 rfl) rfl ⟨c', rfl, HT.out⟩
end Go.Proofs.Ytmnkggnghflcpaa
