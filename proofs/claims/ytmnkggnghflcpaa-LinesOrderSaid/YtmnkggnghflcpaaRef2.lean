/-
  Layer 7: the document's answers: Push, Take, Tell, wants, Wants, Pending: walks. Written by gen_ref2.py.
-/
import Derived.Test.YtmnkggnghflcpaaRef
namespace Go.Proofs.Ytmnkggnghflcpaa
open Go.RowKit
set_option maxHeartbeats 1000000
set_option linter.unusedVariables false
set_option linter.unusedSimpArgs false

theorem rdBlk_of {v : Value} {k : Nat} (h : rdBlk v = some k) : ∃ a n c, v = .slice (some a) n c ∧ a.block = k := by
  cases v with
  | slice o n c =>
    cases o with
    | none => simp [rdBlk] at h
    | some a =>
      simp [rdBlk] at h
      exact ⟨a, n, c, rfl, h.2⟩
  | _ => simp [rdBlk] at h
theorem rwaits {w W : World} {l : Ls} {pv tv : Value} (h : RvIs w l pv tv) (hb : Below w.heap.size w W) (hk : l.tk ≤ l.ps.length) : Calls Try.prog 41 #[.agg (rcL l pv tv)] W fun e w' => ∃ v, e = .returned v ∧ NumsIn .u8 w' v l.wt ∧ Below W.heap.size W w' :=
  RWaits_any ⟨pv, tv, rfl, rfl, h.below hb⟩ hk
set_option maxRecDepth 100000 in
theorem RPush_any {w : World} {l : Ls} {c : Array Value} {G : Nat → Prop} (h : Rv w l c G) (hok : l.Ok) (v : Value) (xs : List Int) (hx : NumsIn .u8 w v xs) (hxm : xs.length ≤ 900000) (hm : l.ps.length ≤ 900000) :
    Calls Try.prog 37 #[.agg c, v] w fun e w' => ∃ c', e = .returned (.tuple #[.agg c', .int .i64 (l.pushE xs)]) ∧ RvC w (l.pushed xs) G c' w' := by
  obtain ⟨pv, tv, rfl, rfl, h⟩ := h
  have H2 := Lib.hid (two_start w (rcL l pv tv) (h.ok l))
  have HI := Lib.hid h
  have HX := Lib.hid hx
  obtain ⟨o, n, rfl, hn, hml, _⟩ := hx.form
  have hw2 := hok.wt
  have HW := Lib.hid (rwaits h H2.out.below hok.tk)
  unfold maxLen at hml
  clear h hx hok
  go_enter Try.func37, Try.ntmps37
  go_wp2_with ((with_reducible apply wp_load_R); (exact H2.out.a); (rfl))
  refine HW.out.mono ?_
  rintro e w1 ⟨v1, rfl, hv1, hb1⟩
  obtain ⟨o1, n1, rfl, _, _, _⟩ := hv1.form
  have H3 := Lib.hid (H2.out.after hb1)
  have HZ1 : Hid (w.heap.size + 1 + 1 ≤ w1.heap.size) := by have := hb1.size; simp at this; exact this
  clear hv1 hb1 H2 HW
  by_cases hle : l.wt.length + xs.length ≤ 256
  · have E1 : Hid (l.pushed xs = { l with ps := l.ps ++ xs }) := if_pos hle
    have E3 : Hid (l.pushE xs = 0) := if_pos hle
    have hgt : ¬ (256 : Int) < (l.wt.length : Int) + (xs.length : Int) := by omega
    have HP1 := Lib.hid (((HI.out.below H3.out.below).p).alloc (.cells #[] 5))
    obtain ⟨_, _, _, _, _, _, c6, _⟩ := (H3.out.a.alloc (.cells #[] 5)).cells
    go_wp2_with (at_builtin; refine wp_append_q rfl _ _ rfl rfl rfl (Qs.empty _ (some ⟨w1.heap.size, 0, none⟩)) HP1.out (by first | omega | (simp; omega)) ?_)
    intro v2 w2 hq2 ht2 hn2
    have hb2 : Below w1.heap.size w1 w2 := ((Below.refl _ _).alloc (Nat.le_refl _) (.cells #[] 5)).trans (ht2.below (by simp) (fun k e => by simp [blkOf] at e))
    have H4 := Lib.hid (H3.out.after hb2)
    have hn2' : ∀ k, blkOf v2 = some k → w1.heap.size ≤ k := fun k hk => by
      rcases hn2 k hk with e | e
      · simp [blkOf] at e
      · omega
    have HQ2 := Lib.hid hq2
    have HN2 := Lib.hid hn2'
    have HX2 := Lib.hid ((HX.out.below H4.out.below))
    obtain ⟨ao2, c2, rfl, hc2⟩ := hq2.shape
    try simp only [List.nil_append] at hc2
    clear hq2 ht2 hn2 hn2' hb2 c6
    go_wp2_with (at_builtin; refine wp_append_q rfl _ _ rfl rfl rfl HQ2.out HX2.out (by first | omega | (simp; omega)) ?_)
    intro v3 w3 hq3 ht3 hn3
    obtain ⟨ao3, c3, hv3, hc3⟩ := hq3.shape
    simp only [List.nil_append, List.length_append] at hv3
    subst hv3
    have hN2 := HN2.out
    have hz1 := HZ1.out
    have hT3 := ht3
    have h4 := H4.out
    have H5 : Hid (Two w (rcL l pv tv) w3) := ⟨h4.a.turned ht3 (fun e => by have := hN2 _ e; omega), h4.r.turned ht3 (fun e => by have := hN2 _ e; omega), h4.below.trans (ht3.below h4.below.size (fun k e => by have := hN2 _ e; omega))⟩
    have hn3' : ∀ k, blkOf (.slice ao3 (l.ps.length + xs.length) c3) = some k → w.heap.size + 1 + 1 ≤ k := fun k hk => by
      rcases hn3 k hk with e | e
      · have := hN2 _ e; omega
      · have := h4.r.lt; omega
    have HN3 := Lib.hid hn3'
    have HQ3 := Lib.hid hq3
    have H6 := Lib.hid (H5.out.set 6 (.slice ao3 (l.ps.length + xs.length) c3) (c' := rcL { l with ps := l.ps ++ xs } (.slice ao3 (l.ps.length + xs.length) c3) tv) rfl ⟨rfl, one_rcL _ (.slice ao3 (l.ps.length + xs.length) c3) tv hq3.nums.one HI.out.t.one⟩)
    obtain ⟨_, _, _, _, _, _, c6, _⟩ := H5.out.a.cells
    have f6 := H5.out.a.blk.frozen 6
    have HC := Lib.hid (show Rf (w3.setCell ⟨w.heap.size, 6, none⟩ (.slice ao3 (l.ps.length + xs.length) c3)) (w.heap.size + 1) zR ∧ (rcL { l with ps := l.ps ++ xs } (.slice ao3 (l.ps.length + xs.length) c3) tv).size = 9 ∧ (rcL { l with ps := l.ps ++ xs } (.slice ao3 (l.ps.length + xs.length) c3) tv).all (·.oneCell') = true from ⟨H6.out.r, rfl, one_rcL _ (.slice ao3 (l.ps.length + xs.length) c3) tv hq3.nums.one HI.out.t.one⟩)
    have hqf : Qs ((w3.setCell ⟨w.heap.size, 6, none⟩ (.slice ao3 (l.ps.length + xs.length) c3)).setRow (w.heap.size + 1) (rcL { l with ps := l.ps ++ xs } (.slice ao3 (l.ps.length + xs.length) c3) tv)) (.slice ao3 (l.ps.length + xs.length) c3) (l.ps ++ xs) := by
      have := hq3
      try simp only [List.nil_append] at this
      refine this.keep fun k hk => ?_
      have hk2 := hn3' k hk
      exact (setRow_other _ _ k _ (by omega)).trans (Below.heap_setCell _ _ _ _ (by simp; omega))
    have HQF := Lib.hid hqf
    have HTD := Lib.hid (HI.out.t.below (H6.out.ans (rcL { l with ps := l.ps ++ xs } (.slice ao3 (l.ps.length + xs.length) c3) tv)))
    clear hq3 ht3 hn3 hn3' hN2 hz1 hT3 h4 hqf hc3 HQ3 H4 HQ2 HX2 HN2 H3 HP1
    go_wp2_with (first | ((with_reducible apply wp_load_R); (exact H6.out.a); (rfl)) | ((with_reducible apply wp_store_R _); (exact HC.out); (rfl); (rfl)))
    refine bodyPost_ret (res_R_tmp (fn := Try.f37) rfl _ (HC.out.1.set HC.out.2.1 HC.out.2.2) rfl) rfl ⟨_, by rw [E3.out]; rfl, ?_⟩
    rw [E1.out]
    refine ⟨_, ⟨_, tv, rfl, rfl, HQF.out.nums, HTD.out⟩, ?_, H6.out.ans _⟩
    rintro k (e | e)
    · right
      have := HN3.out k (HQF.out.rd e)
      omega
    · exact .inl (.inr e)
  · have E1 : Hid (l.pushed xs = l) := if_neg hle
    have E3 : Hid (l.pushE xs = 3) := if_neg hle
    have hgt : (256 : Int) < (l.wt.length : Int) + (xs.length : Int) := by omega
    have HC := Lib.hid (show Rf w1 (w.heap.size + 1) zR ∧ (rcL l pv tv).size = 9 ∧ (rcL l pv tv).all (·.oneCell') = true from ⟨H3.out.r, HI.out.ok l⟩)
    go_wp2_with (first | ((with_reducible apply wp_load_R); (exact H3.out.a); (rfl)) | ((with_reducible apply wp_store_R _); (exact HC.out); (rfl); (rfl)))
    refine bodyPost_ret (res_R_tmp (fn := Try.f37) rfl _ (HC.out.1.set HC.out.2.1 HC.out.2.2) rfl) rfl ⟨_, by rw [E3.out]; rfl, ?_⟩
    rw [E1.out]
    exact ⟨_, ⟨pv, tv, rfl, rfl, (HI.out.below (H3.out.ans _)).p, (HI.out.below (H3.out.ans _)).t⟩, fun k hk => .inl hk, H3.out.ans _⟩
structure TkI (N : Nat) (l : Ls) (pv tv : Value) (W : World) : Prop where
  a : Rf W N (rcL l pv tv)
  p : NumsIn .u8 W pv l.ps
set_option maxRecDepth 100000 in
theorem RTake_any {w : World} {l : Ls} {c : Array Value} {G : Nat → Prop} (h : Rv w l c G) (hok : l.Ok) (hm : l.ps.length ≤ 900000) :
    Calls Try.prog 39 #[.agg c] w fun e w' => ∃ c', e = .returned (.tuple #[.agg c', .int .u8 l.takeB, .int .i64 l.takeN, .bool l.takeY]) ∧ RvC w l.took G c' w' := by
  obtain ⟨pv, tv, rfl, rfl, h⟩ := h
  have H2 := Lib.hid (two_start w (rcL l pv tv) (h.ok l))
  have H3 := Lib.hid (two_start w (rcL { l with tk := l.tk + 1 } pv tv) (h.ok _))
  have HI := Lib.hid h
  obtain ⟨o, n, rfl, hn, hml, hcells⟩ := h.p.form
  have htk := hok.tk
  have hc7 := H2.out.a.cells.2.2.2.2.2.2.2.1
  have hf7 := H2.out.a.blk.frozen 7
  unfold maxLen at hml
  by_cases hlt : l.tk < l.ps.length
  · have E1 : Hid (l.took = { l with tk := l.tk + 1 }) := if_pos hlt
    have E2 : Hid (l.takeB = at0 l.ps l.tk) := if_pos hlt
    have E3 : Hid (l.takeN = l.tk) := if_pos hlt
    have E4 : Hid (l.takeY = true) := decide_eq_true hlt
    obtain ⟨a, rfl, hcell⟩ := hcells _ hlt
    have hne : ¬ (l.tk : Int) = (l.ps.length : Int) := by omega
    have hlt' : (l.tk : Int) < (l.ps.length : Int) := by omega
    have hK : TkI w.heap.size { l with tk := l.tk + 1 } (.slice (some a) l.ps.length n) tv ((w.alloc (.cells (rcL { l with tk := l.tk + 1 } (.slice (some a) l.ps.length n) tv) 30)).alloc (.cells zR 30)).drew :=
      ⟨H3.out.a.drew, h.p.below (H3.out.below.drew)⟩
    have HK := Lib.hid hK
    have HR := Lib.hid (show Rf ((w.alloc (.cells (rcL { l with tk := l.tk + 1 } (.slice (some a) l.ps.length n) tv) 30)).alloc (.cells zR 30)).drew (w.heap.size + 1) zR from H3.out.r.drew)
    have hC : ∀ W, TkI w.heap.size { l with tk := l.tk + 1 } (.slice (some a) l.ps.length n) tv W → W.cell? (a.add l.tk) = some (.int .u8 (at0 l.ps l.tk)) := fun W hW => by
      obtain ⟨_, _, e, _, _, hc⟩ := hW.p.form
      obtain ⟨a', e', hc'⟩ := hc _ hlt
      simp at e
      obtain ⟨rfl, _⟩ := e
      cases e'
      exact hc'
    have HCs := Lib.hid hC
    have HOK := Lib.hid (show (rcL { l with tk := l.tk + 1 } (.slice (some a) l.ps.length n) tv).size = 9 ∧ (rcL { l with tk := l.tk + 1 } (.slice (some a) l.ps.length n) tv).all (·.oneCell') = true from h.ok _)
    have hbw := below_setRow H3.out.below.drew (by omega : w.heap.size ≤ w.heap.size + 1) (rcL { l with tk := l.tk + 1 } (.slice (some a) l.ps.length n) tv)
    have HFIN := Lib.hid (show RvC w { l with tk := l.tk + 1 } (rvG (.slice (some a) l.ps.length n) tv) (rcL { l with tk := l.tk + 1 } (.slice (some a) l.ps.length n) tv) _ from ⟨_, ⟨_, tv, rfl, rfl, (HI.out.below hbw).p, (HI.out.below hbw).t⟩, fun k hk => .inl hk, hbw⟩)
    clear hbw
    have hwr : IntKind.i64.wrap (l.tk : Int) = (l.tk : Int) := IntWalk.i64_in _ (by omega)
    have h_ne : ∀ b, rdBlk (.slice (some a) l.ps.length n) = some b → b < w.heap.size := fun b hb => HI.out.p.lt hb
    have h00 : (0 : Int) ≤ (l.tk : Int) := by omega
    clear h hok hcells hcell hlt hK hC H2
    go_enter Try.func39, Try.ntmps39
    go_wp2
    have hK0 := HK.out
    refine wp_region_held_drew (S := _) (by kernel_rfl) hK0 (fun _ => ?_)
    have hS := hK0
    refine take_d (i := 0) (d := some 17) (v := .agg (rcL { l with tk := l.tk + 1 } (.slice (some a) l.ps.length n) tv)) rfl rfl (by kernel_rfl) (by kernel_rfl) (by kernel_rfl) (fun _ _ _ h => h) (y_R (by kernel_rfl) rfl rfl (fun W hW => hW.a) rfl) hS ?_
    try simp only [Act.put, List.setIfInBounds_toArray, List.set_cons_zero, List.set_cons_succ]
    refine take_d (i := 1) (d := some 18) (v := ?_) rfl rfl (by kernel_rfl) (by kernel_rfl) (by kernel_rfl) (fun _ _ _ h => h) (.inl ⟨by rfl, ?_⟩) hS ?_
    rotate_left
    · intro W hW
      go_simp
      try with_reducible rfl
    try simp only [Act.put, List.setIfInBounds_toArray, List.set_cons_zero, List.set_cons_succ]
    refine take_d (i := 2) (d := some 19) (v := ?_) rfl rfl (by kernel_rfl) (by kernel_rfl) (by kernel_rfl) (fun _ _ _ h => h) (.inl ⟨by rfl, ?_⟩) hS ?_
    rotate_left
    · intro W hW
      have q := hW.a.cells; have q2 := HCs.out W hW
      go_simp
      try with_reducible rfl
    try simp only [Act.put, List.setIfInBounds_toArray, List.set_cons_zero, List.set_cons_succ]
    refine take_d (i := 3) (d := some 20) (v := ?_) rfl rfl (by kernel_rfl) (by kernel_rfl) (by kernel_rfl) (fun _ _ _ h => h) (.inl ⟨by rfl, ?_⟩) hS ?_
    rotate_left
    · intro W hW
      go_simp
      try with_reducible rfl
    try simp only [Act.put, List.setIfInBounds_toArray, List.set_cons_zero, List.set_cons_succ]
    refine take_d (i := 4) (d := some 21) (v := ?_) rfl rfl (by kernel_rfl) (by kernel_rfl) (by kernel_rfl) (fun _ _ _ h => h) (.inl ⟨by rfl, ?_⟩) hS ?_
    rotate_left
    · intro W hW
      have q := hW.a.cells; have q2 := HCs.out W hW
      go_simp
      try with_reducible rfl
    try simp only [Act.put, List.setIfInBounds_toArray, List.set_cons_zero, List.set_cons_succ]
    refine take_d (i := 5) (d := some 22) (v := ?_) rfl rfl (by kernel_rfl) (by kernel_rfl) (by kernel_rfl) (fun _ _ _ h => h) (.inl ⟨by rfl, ?_⟩) hS ?_
    rotate_left
    · intro W hW
      go_simp
      try with_reducible rfl
    try simp only [Act.put, List.setIfInBounds_toArray, List.set_cons_zero, List.set_cons_succ]
    refine take_d (i := 6) (d := some 23) (v := ?_) rfl rfl (by kernel_rfl) (by kernel_rfl) (by kernel_rfl) (fun _ _ _ h => h) (.inl ⟨by rfl, ?_⟩) hS ?_
    rotate_left
    · intro W hW
      go_simp
      try with_reducible rfl
    try simp only [Act.put, List.setIfInBounds_toArray, List.set_cons_zero, List.set_cons_succ]
    refine take_d (i := 7) (d := some 24) (v := ?_) rfl rfl (by kernel_rfl) (by kernel_rfl) (by kernel_rfl) (fun _ _ _ h => h) (.inl ⟨by rfl, ?_⟩) hS ?_
    rotate_left
    · intro W hW
      have q := hW.a.cells; have q2 := HCs.out W hW
      go_simp
      try with_reducible rfl
    try simp only [Act.put, List.setIfInBounds_toArray, List.set_cons_zero, List.set_cons_succ]
    refine take_d (i := 8) (d := some 25) (v := ?_) rfl rfl (by kernel_rfl) (by kernel_rfl) (by kernel_rfl) (fun _ _ _ h => h) (.inl ⟨by rfl, ?_⟩) hS ?_
    rotate_left
    · intro W hW
      go_simp
      try with_reducible rfl
    try simp only [Act.put, List.setIfInBounds_toArray, List.set_cons_zero, List.set_cons_succ]
    refine take_d (i := 9) (d := some 26) (v := ?_) rfl rfl (by kernel_rfl) (by kernel_rfl) (by kernel_rfl) (fun _ _ _ h => h) (.inl ⟨by rfl, ?_⟩) hS ?_
    rotate_left
    · intro W hW
      have q := hW.a.cells; have q2 := HCs.out W hW
      go_simp
      try with_reducible rfl
    try simp only [Act.put, List.setIfInBounds_toArray, List.set_cons_zero, List.set_cons_succ]
    refine take_d (i := 10) (d := some 27) (v := ?_) rfl rfl (by kernel_rfl) (by kernel_rfl) (by kernel_rfl) (fun _ _ _ h => h) (.inl ⟨by rfl, ?_⟩) hS ?_
    rotate_left
    · intro W hW
      go_simp
      try with_reducible rfl
    try simp only [Act.put, List.setIfInBounds_toArray, List.set_cons_zero, List.set_cons_succ]
    refine wpAnyH_all (rs := [11]) (by kernel_rfl) (by simp) (fun i hi => ?_)
    simp only [List.mem_cons, List.not_mem_nil, or_false] at hi
    subst hi
    refine .inl ?_
    refine o_store_R (rcL { l with tk := l.tk + 1 } (.slice (some a) l.ps.length n) tv) HR.out HOK.out rfl rfl rfl ?_
    have hS : TkI w.heap.size { l with tk := l.tk + 1 } (.slice (some a) l.ps.length n) tv (World.setRow _ (w.heap.size + 1) (rcL { l with tk := l.tk + 1 } (.slice (some a) l.ps.length n) tv)) := ⟨hS.a.setOther (by omega) _, hS.p.keep fun b hb => setRow_other _ _ b _ (by have := h_ne b hb; omega)⟩
    refine ⟨hS, ?_⟩
    try simp only [Act.put, List.setIfInBounds_toArray, List.set_cons_zero, List.set_cons_succ]
    refine take_d (i := 12) (d := some 3) (v := ?_) rfl rfl (by kernel_rfl) (by kernel_rfl) (by kernel_rfl) (fun _ _ _ h => h) (.inl ⟨by rfl, ?_⟩) hS ?_
    rotate_left
    · intro W hW
      go_simp
      try with_reducible rfl
    try simp only [Act.put, List.setIfInBounds_toArray, List.set_cons_zero, List.set_cons_succ]
    refine take_d (i := 13) (d := some 4) (v := ?_) rfl rfl (by kernel_rfl) (by kernel_rfl) (by kernel_rfl) (fun _ _ _ h => h) (.inl ⟨by rfl, ?_⟩) hS ?_
    rotate_left
    · intro W hW
      go_simp
      try with_reducible rfl
    try simp only [Act.put, List.setIfInBounds_toArray, List.set_cons_zero, List.set_cons_succ]
    refine take_d (i := 14) (d := some 5) (v := ?_) rfl rfl (by kernel_rfl) (by kernel_rfl) (by kernel_rfl) (fun _ _ _ h => h) (.inl ⟨by rfl, ?_⟩) hS ?_
    rotate_left
    · intro W hW
      go_simp
      try with_reducible rfl
    try simp only [Act.put, List.setIfInBounds_toArray, List.set_cons_zero, List.set_cons_succ]
    refine wpAnyH_done (by kernel_rfl) ?_ _
    clear hS hK0
    go_wp2
    refine bodyPost_ret (res_R_tmp3 (fn := Try.f39) rfl _ (HR.out.set HOK.out.1 HOK.out.2) rfl) rfl ⟨rcL { l with tk := l.tk + 1 } (.slice (some a) l.ps.length n) tv, ?_, ?_⟩
    · rw [E2.out, E3.out, E4.out]; rfl
    · rw [E1.out]
      exact HFIN.out
  · have E1 : Hid (l.took = l) := if_neg hlt
    have E2 : Hid (l.takeB = 0) := if_neg hlt
    have E3 : Hid (l.takeN = 0) := if_neg hlt
    have E4 : Hid (l.takeY = false) := decide_eq_false hlt
    have heq : (l.tk : Int) = (l.ps.length : Int) := by omega
    have HC := Lib.hid (show Rf _ (w.heap.size + 1) zR ∧ (rcL l (.slice o l.ps.length n) tv).size = 9 ∧ (rcL l (.slice o l.ps.length n) tv).all (·.oneCell') = true from ⟨H2.out.r, h.ok l⟩)
    clear h hok hcells hlt H3
    go_enter Try.func39, Try.ntmps39
    go_wp2_with (first | ((with_reducible apply wp_load_R); (exact H2.out.a); (rfl)) | ((with_reducible apply wp_store_R _); (exact HC.out); (rfl); (rfl)))
    refine bodyPost_ret (res_R_tmp3 (fn := Try.f39) rfl _ (HC.out.1.set HC.out.2.1 HC.out.2.2) rfl) rfl ⟨rcL l (.slice o l.ps.length n) tv, ?_, ?_⟩
    · rw [E2.out, E3.out, E4.out]; rfl
    · rw [E1.out]
      exact ⟨_, ⟨_, tv, rfl, rfl, (HI.out.below (H2.out.ans _)).p, (HI.out.below (H2.out.ans _)).t⟩, fun k hk => .inl hk, H2.out.ans _⟩
set_option maxRecDepth 100000 in
theorem RTell_any {w : World} {l : Ls} {c : Array Value} {G : Nat → Prop} (h : Rv w l c G) (y : Int) (hy : 0 ≤ y ∧ y < 256) (hm : l.td.length ≤ 900000) :
    Calls Try.prog 40 #[.agg c, .int .u8 y] w fun e w' => ∃ c', e = .returned (.tuple #[.agg c', .int .i64 (l.td.length : Int)]) ∧ RvC w { l with td := l.td ++ [y] } G c' w' := by
  obtain ⟨pv, tv, rfl, rfl, h⟩ := h
  have H2 := Lib.hid (two_start w (rcL l pv tv) (h.ok l))
  have HI := Lib.hid h
  have hsz : ((w.alloc (.cells (rcL l pv tv) 30)).alloc (.cells zR 30)).heap.size = w.heap.size + 1 + 1 := by simp
  have HSZ := Lib.hid hsz
  have hbt : Byt [y] := by intro x hx; simp at hx; subst hx; exact hy
  have HBT := Lib.hid hbt
  have HP1 := Lib.hid (((h.below H2.out.below).t).alloc (.cells #[] 5))
  obtain ⟨_, _, _, _, _, _, _, _, c8⟩ := (H2.out.a.alloc (.cells #[] 5)).cells
  clear h hbt hy hsz
  go_enter Try.func40, Try.ntmps40
  go_wp2_with (at_builtin; refine wp_append_q rfl _ _ rfl rfl rfl (Qs.empty _ (some ⟨w.heap.size + 1 + 1, 0, none⟩)) HP1.out (by first | omega | (simp; omega)) ?_)
  intro v2 w2 hq2 ht2 hn2
  obtain ⟨ao2, c2, hv2, hc2⟩ := hq2.shape
  try simp only [List.nil_append] at hv2
  try simp only [List.nil_append] at hq2
  subst hv2
  have hsz := HSZ.out
  have hb2 : Below (w.heap.size + 1 + 1) ((w.alloc (.cells (rcL l pv tv) 30)).alloc (.cells zR 30)) w2 := by
    have h1 := (Below.refl (w.heap.size + 1 + 1) ((w.alloc (.cells (rcL l pv tv) 30)).alloc (.cells zR 30))).alloc (by rw [hsz]; exact Nat.le_refl _) (.cells #[] 5)
    exact h1.trans (ht2.below (by simp) (fun k e => by simp [blkOf] at e))
  rw [← hsz] at hb2
  have H4 := Lib.hid (H2.out.after hb2)
  have hn2' : ∀ k, blkOf (.slice ao2 l.td.length c2) = some k → w.heap.size + 1 + 1 ≤ k := fun k hk => by
    rcases hn2 k hk with e | e
    · simp [blkOf] at e
    · omega
  have hq2' := hq2.below ((Below.refl _ _).alloc (Nat.le_refl _) (.cells #[.int .u8 y] 5))
  have HQ2 := Lib.hid hq2'
  have HN2 := Lib.hid hn2'
  have HL := Lib.hid (Qs.lit w2 HBT.out (by simp [maxLen])).nums
  clear hq2 ht2 hn2 hn2' hb2 hq2' c8 hsz HP1 H2
  go_wp2_with (at_builtin; refine wp_append_q rfl _ _ rfl rfl rfl HQ2.out HL.out (by first | omega | (simp; omega)) ?_)
  intro v3 w3 hq3 ht3 hn3
  obtain ⟨ao3, c3, hv3, hc3⟩ := hq3.shape
  simp only [List.length_append, List.length_cons, List.length_nil] at hv3
  subst hv3
  have hN2 := HN2.out
  have h4 := H4.out.after ((Below.refl _ _).alloc (Nat.le_refl _) (.cells #[.int .u8 y] 5))
  have H5 : Hid (Two w (rcL l pv tv) w3) := ⟨h4.a.turned ht3 (fun e => by have := hN2 _ e; omega), h4.r.turned ht3 (fun e => by have := hN2 _ e; omega), h4.below.trans (ht3.below h4.below.size (fun k e => by have := hN2 _ e; omega))⟩
  have hn3' : ∀ k, blkOf (.slice ao3 (l.td.length + 1) c3) = some k → w.heap.size + 1 + 1 ≤ k := fun k hk => by
    rcases hn3 k hk with e | e
    · have := hN2 _ e; omega
    · have := h4.r.lt; have := H4.out.r.lt; omega
  have HN3 := Lib.hid hn3'
  have HQ3 := Lib.hid hq3
  have H6 := Lib.hid (H5.out.set 8 (.slice ao3 (l.td.length + 1) c3) (c' := rcL { l with td := l.td ++ [y] } pv (.slice ao3 (l.td.length + 1) c3)) rfl ⟨rfl, one_rcL _ pv _ HI.out.p.one hq3.nums.one⟩)
  obtain ⟨_, _, _, _, _, _, _, _, c8⟩ := H5.out.a.cells
  have f8 := H5.out.a.blk.frozen 8
  have HOK := Lib.hid (show (rcL { l with td := l.td ++ [y] } pv (.slice ao3 (l.td.length + 1) c3)).size = 9 ∧ (rcL { l with td := l.td ++ [y] } pv (.slice ao3 (l.td.length + 1) c3)).all (·.oneCell') = true from ⟨rfl, one_rcL _ pv _ HI.out.p.one hq3.nums.one⟩)
  have hqf : Qs ((w3.setCell ⟨w.heap.size, 8, none⟩ (.slice ao3 (l.td.length + 1) c3)).drew.setRow (w.heap.size + 1) (rcL { l with td := l.td ++ [y] } pv (.slice ao3 (l.td.length + 1) c3))) (.slice ao3 (l.td.length + 1) c3) (l.td ++ [y]) := by
    refine hq3.keep fun k hk => ?_
    have hk2 := hn3' k hk
    exact (setRow_other _ _ k _ (by omega)).trans (Below.heap_setCell _ _ _ _ (by simp; omega))
  have HQF := Lib.hid hqf
  have hans : Below w.heap.size w ((w3.setCell ⟨w.heap.size, 8, none⟩ (.slice ao3 (l.td.length + 1) c3)).drew.setRow (w.heap.size + 1) (rcL { l with td := l.td ++ [y] } pv (.slice ao3 (l.td.length + 1) c3))) := below_setRow H6.out.below.drew (by omega) _
  have HAN := Lib.hid hans
  have HPS := Lib.hid (HI.out.p.below hans)
  have HK : Hid (Rf (w3.setCell ⟨w.heap.size, 8, none⟩ (.slice ao3 (l.td.length + 1) c3)).drew w.heap.size (rcL { l with td := l.td ++ [y] } pv (.slice ao3 (l.td.length + 1) c3))) := H6.out.a.drew
  have HR := Lib.hid (H6.out.r.drew)
  have hwr : IntKind.i64.wrap (l.td.length : Int) = (l.td.length : Int) := IntWalk.i64_in _ (by omega)
  clear hq3 ht3 hn3 hn3' hN2 h4 hqf hc3 HQ3 H4 HQ2 HN2 H5 HL hans
  go_wp2
  have hK0 := HK.out
  refine wp_region_held_drew (S := fun W => Rf W w.heap.size (rcL { l with td := l.td ++ [y] } pv (.slice ao3 (l.td.length + 1) c3))) (by kernel_rfl) hK0 (fun _ => ?_)
  have hS := hK0
  refine take_d (i := 0) (d := some 14) (v := .agg (rcL { l with td := l.td ++ [y] } pv (.slice ao3 (l.td.length + 1) c3))) rfl rfl (by kernel_rfl) (by kernel_rfl) (by kernel_rfl) (fun _ _ _ h => h) (y_R (by kernel_rfl) rfl rfl (fun W hW => hW) rfl) hS ?_
  try simp only [Act.put, List.setIfInBounds_toArray, List.set_cons_zero, List.set_cons_succ]
  refine take_d (i := 1) (d := some 15) (v := ?_) rfl rfl (by kernel_rfl) (by kernel_rfl) (by kernel_rfl) (fun _ _ _ h => h) (.inl ⟨by rfl, ?_⟩) hS ?_
  rotate_left
  · intro W hW
    go_simp
    try with_reducible rfl
  try simp only [Act.put, List.setIfInBounds_toArray, List.set_cons_zero, List.set_cons_succ]
  refine take_d (i := 2) (d := some 16) (v := ?_) rfl rfl (by kernel_rfl) (by kernel_rfl) (by kernel_rfl) (fun _ _ _ h => h) (.inl ⟨by rfl, ?_⟩) hS ?_
  rotate_left
  · intro W hW
    have q := hW.cells
    go_simp
    try with_reducible rfl
  try simp only [Act.put, List.setIfInBounds_toArray, List.set_cons_zero, List.set_cons_succ]
  refine take_d (i := 3) (d := some 17) (v := ?_) rfl rfl (by kernel_rfl) (by kernel_rfl) (by kernel_rfl) (fun _ _ _ h => h) (.inl ⟨by rfl, ?_⟩) hS ?_
  rotate_left
  · intro W hW
    go_simp
    try with_reducible rfl
  try simp only [Act.put, List.setIfInBounds_toArray, List.set_cons_zero, List.set_cons_succ]
  refine take_d (i := 4) (d := some 18) (v := ?_) rfl rfl (by kernel_rfl) (by kernel_rfl) (by kernel_rfl) (fun _ _ _ h => h) (.inl ⟨by rfl, ?_⟩) hS ?_
  rotate_left
  · intro W hW
    have q := hW
    go_simp
    try with_reducible rfl
  try simp only [Act.put, List.setIfInBounds_toArray, List.set_cons_zero, List.set_cons_succ]
  refine wpAnyH_all (rs := [5]) (by kernel_rfl) (by simp) (fun i hi => ?_)
  simp only [List.mem_cons, List.not_mem_nil, or_false] at hi
  subst hi
  refine .inl ?_
  refine o_store_R (rcL { l with td := l.td ++ [y] } pv (.slice ao3 (l.td.length + 1) c3)) HR.out HOK.out rfl rfl rfl ?_
  have hS : Rf (World.setRow _ (w.heap.size + 1) (rcL { l with td := l.td ++ [y] } pv (.slice ao3 (l.td.length + 1) c3))) w.heap.size (rcL { l with td := l.td ++ [y] } pv (.slice ao3 (l.td.length + 1) c3)) := hS.setOther (by omega) _
  refine ⟨hS, ?_⟩
  try simp only [Act.put, List.setIfInBounds_toArray, List.set_cons_zero, List.set_cons_succ]
  refine take_d (i := 6) (d := some 5) (v := ?_) rfl rfl (by kernel_rfl) (by kernel_rfl) (by kernel_rfl) (fun _ _ _ h => h) (.inl ⟨by rfl, ?_⟩) hS ?_
  rotate_left
  · intro W hW
    go_simp
    try with_reducible rfl
  try simp only [Act.put, List.setIfInBounds_toArray, List.set_cons_zero, List.set_cons_succ]
  refine wpAnyH_done (by kernel_rfl) ?_ _
  clear hS hK0
  go_wp2
  refine bodyPost_ret (res_R_tmp (fn := Try.f40) rfl _ (HR.out.set HOK.out.1 HOK.out.2) rfl) rfl ⟨rcL { l with td := l.td ++ [y] } pv (.slice ao3 (l.td.length + 1) c3), ?_, ?_⟩
  · rfl
  · refine ⟨_, ⟨pv, _, rfl, rfl, HPS.out, HQF.out.nums⟩, ?_, HAN.out⟩
    rintro k (e | e)
    · exact .inl (.inl e)
    · right
      have := HN3.out k (HQF.out.rd e)
      omega
end Go.Proofs.Ytmnkggnghflcpaa
