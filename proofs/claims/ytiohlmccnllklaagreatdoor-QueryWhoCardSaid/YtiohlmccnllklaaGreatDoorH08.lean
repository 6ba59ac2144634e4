/-
  Layer 12: marks of the document: a walk. Layer 12: marks of the document: a walk. Written by gen_ref.py. Layer 12: touches applied by the document: what its walk keeps. Layer 12: touches applied by the document: a walk. Written by gen_ref.py.
-/
import Derived.Test.YtiohlmccnllklaaGreatDoorH07
set_option linter.unusedVariables false
set_option linter.unusedSimpArgs false
namespace Go.Proofs.YtiohlmccnllklaaGreatDoor
open Go.RowKit
set_option maxHeartbeats 8000000
set_option maxRecDepth 100000
set_option linter.unusedVariables false
set_option linter.unusedSimpArgs false

/-- The boxes of Mark, and the flow as it is so far. -/
structure MkI (w : World) (G0 : Nat → Prop) (fr se mo : Int) (p : T.Pl) (g ct : Nat) (ss : List Int) (pv : Value) (ps : List T.Pr) (W : World) : Prop where
  b : Below w.heap.size w W
  f : Rf 37 5 W w.heap.size (rfc fr se mo (tbV g ss.length ct) pv)
  p : Rf 42 2 W (w.heap.size + 1) (pla p)
  r : Rf 37 5 W (w.heap.size + 2) zF
  v : RvI W ⟨fr, se, mo, ss, ps⟩ g ct pv
  lo : ∀ k, rdBlk pv = some k → k ≠ w.heap.size ∧ k ≠ w.heap.size + 2
  gl : g ≠ w.heap.size ∧ g ≠ w.heap.size + 2
  o : ∀ k, rvB g pv k → G0 k ∨ w.heap.size ≤ k
section
variable {w W W' : World} {G0 : Nat → Prop} {fr se mo : Int} {p : T.Pl} {g ct : Nat} {ss : List Int} {pv : Value} {ps : List T.Pr}
theorem MkI.after (h : MkI w G0 fr se mo p g ct ss pv ps W) (hb : Below W.heap.size W W') : MkI w G0 fr se mo p g ct ss pv ps W' := ⟨h.b.trans (hb.mono h.b.size), h.f.below hb, h.p.below hb, h.r.below hb, h.v.below hb, h.lo, h.gl, h.o⟩
theorem MkI.size (h : MkI w G0 fr se mo p g ct ss pv ps W) : w.heap.size + 3 ≤ W.heap.size := h.r.lt
theorem MkI.cells (h : MkI w G0 fr se mo p g ct ss pv ps W) : W.cell? ⟨w.heap.size + 1, 0, none⟩ = some (.int .i64 p.1) ∧ W.cell? ⟨w.heap.size + 1, 1, none⟩ = some (.int .i64 p.2) ∧ W.cell? ⟨w.heap.size, 2, none⟩ = some (.int .i64 mo) ∧ W.cell? ⟨w.heap.size, 3, none⟩ = some (tbV g ss.length ct) ∧ W.frozen? ⟨w.heap.size, 2, none⟩ = false ∧ W.frozen? ⟨w.heap.size, 3, none⟩ = false :=
  ⟨h.p.cell 0, h.p.cell 1, h.f.cell 2, h.f.cell 3, h.f.blk.frozen 2, h.f.blk.frozen 3⟩
theorem MkI.table (h : MkI w G0 fr se mo p g ct ss pv ps W) {g' ct' : Nat} {ss' : List Int} (ht : L2.RT W g' ct' ss') (hg : g' ≠ w.heap.size ∧ g' ≠ w.heap.size + 2) (ho : G0 g' ∨ w.heap.size ≤ g') :
    MkI w G0 fr se mo p g' ct' ss' pv ps ((W.setCell ⟨w.heap.size, 2, none⟩ (.int .i64 mo)).setCell ⟨w.heap.size, 3, none⟩ (tbV g' ss'.length ct')) := by
  have tt : Turned (fun k => k = w.heap.size) W ((W.setCell ⟨w.heap.size, 2, none⟩ (.int .i64 mo)).setCell ⟨w.heap.size, 3, none⟩ (tbV g' ss'.length ct')) := ((Turned.refl (fun k => k = w.heap.size) W).setCell (.inl rfl) _).setCell (.inl rfl) _
  refine ⟨h.b.trans (tt.below h.b.size (fun k e => by omega)), ⟨?_, rfl, (rfc_ok fr se mo rfl h.v.p.one).2⟩, h.p.turned tt (by omega), h.r.turned tt (by omega), ⟨?_, ?_⟩, h.lo, hg, fun k hk => by rcases hk with rfl | e; exact ho; exact h.o k (.inr e)⟩
  · have := (h.f.blk.setCell 2 (.int .i64 mo)).setCell 3 (tbV g' ss'.length ct')
    exact this
  · exact ht.kept (toL2 tt) (by simpa using hg.1)
  · exact h.v.p.stay fun k hk => by
      have := h.lo k hk
      exact tt.block k (Rd.lt h.v.p (by omega) hk) this.1
theorem MkI.pairs (h : MkI w G0 fr se mo p g ct ss pv ps W) {pv' : Value} {ps' : List T.Pr} (hp : PrIn W pv' ps') (hl : ∀ k, rdBlk pv' = some k → (k ≠ w.heap.size ∧ k ≠ w.heap.size + 2) ∧ w.heap.size ≤ k) :
    MkI w G0 fr se mo p g ct ss pv' ps' (W.setRow w.heap.size (rfc fr se mo (tbV g ss.length ct) pv')) ∧ Ok1 5 (rfc fr se mo (tbV g ss.length ct) pv') := by
  have tt := turned_setRow W w.heap.size (rfc fr se mo (tbV g ss.length ct) pv')
  have hok : Ok1 5 (rfc fr se mo (tbV g ss.length ct) pv') := rfc_ok _ _ _ rfl hp.one
  refine ⟨⟨h.b.trans (tt.below h.b.size (fun k e => by omega)), h.f.set hok, h.p.turned tt (by omega), h.r.turned tt (by omega), ⟨h.v.t.kept (toL2 tt) (by simpa using h.gl.1), ?_⟩, fun k hk => (hl k hk).1, h.gl, fun k hk => by rcases hk with e | e; exact h.o k (.inl e); exact .inr (hl k e).2⟩, hok⟩
  exact hp.stay fun k hk => tt.block k (Rd.lt hp (by omega) hk) (hl k hk).1.1
theorem MkI.fin (h : MkI w G0 fr se mo p g ct ss pv ps W) : (Rf 37 5 W (w.heap.size + 2) zF ∧ Ok1 5 (rfc fr se mo (tbV g ss.length ct) pv)) ∧
    RvO w G0 (W.setRow (w.heap.size + 2) (rfc fr se mo (tbV g ss.length ct) pv)) ⟨fr, se, mo, ss, ps⟩ (rfc fr se mo (tbV g ss.length ct) pv) ∧ Below w.heap.size w (W.setRow (w.heap.size + 2) (rfc fr se mo (tbV g ss.length ct) pv)) := by
  have tt := turned_setRow W (w.heap.size + 2) (rfc fr se mo (tbV g ss.length ct) pv)
  refine ⟨⟨h.r, rfc_ok _ _ _ rfl h.v.p.one⟩, ⟨g, ct, pv, rfl, ⟨?_, ?_⟩, h.o⟩, h.b.trans (tt.below h.b.size (fun k e => by omega))⟩
  · exact h.v.t.kept (toL2 tt) (by simpa using h.gl.2)
  · exact h.v.p.stay fun k hk => tt.block k (Rd.lt h.v.p (by omega) hk) (h.lo k hk).2
end
theorem mark_arg {f : T.Fl} {p : T.Pl} {n s : Int} (h : T.may f.fr f.se p = false ∨ 65536 ≤ s) : f.mark p n s = (f, 2) := by unfold T.Fl.mark; rw [if_pos h]
theorem mark_rng {f : T.Fl} {p : T.Pl} {n s : Int} (h : T.may f.fr f.se p = true ∧ s < 65536) (k : n < 0 ∨ 65536 < n ∨ (0 < n ∧ T.may f.fr f.se (p.1, p.2 + n - 1) = false)) : f.mark p n s = (f, 4) := by
  unfold T.Fl.mark; rw [if_neg (by rw [h.1]; simp; omega), if_pos k]
theorem mark_ok {f : T.Fl} {p : T.Pl} {n s : Int} (h : T.may f.fr f.se p = true ∧ s < 65536) (k0 : 0 ≤ n ∧ n ≤ 65536) (k : n = 0 ∨ T.may f.fr f.se (p.1, p.2 + n - 1) = true) (r : List Int × Int) (hr : T.keep f.mo f.ss s = r) : f.mark p n s = if r.2 = 0 then ({ f with ss := r.1, ps := T.marks p s n.toNat f.ps }, 0) else (f, r.2) := by
  unfold T.Fl.mark
  rw [if_neg (by rw [h.1]; simp; omega), if_neg (by rcases k with k | k <;> simp [k] <;> omega), hr]
end Go.Proofs.YtiohlmccnllklaaGreatDoor
namespace Go.Proofs.YtiohlmccnllklaaGreatDoor
open Go.RowKit
set_option maxHeartbeats 8000000
set_option maxRecDepth 100000
set_option linter.unusedVariables false
set_option linter.unusedSimpArgs false

theorem may_num {fr se : Int} (h : Bd fr se) {p : T.Pl} (hm : T.may fr se p = true) : 0 ≤ p.2 ∧ p.2 < 2147483648 := by
  obtain ⟨h1, h2⟩ := T.may_iff.1 hm
  refine ⟨h1, ?_⟩
  have : T.most fr se p.1 ≤ 2147483648 := by
    obtain ⟨⟨a, b⟩, c, d⟩ := h
    unfold T.most
    repeat' split
    all_goals omega
  omega
theorem RMark_any {w : World} {fr se mo : Int} {g ct : Nat} {ss : List Int} {pv : Value} {ps : List T.Pr} (h : RvI w ⟨fr, se, mo, ss, ps⟩ g ct pv) (HBd : Bd fr se) (hs : L2.Sets mo ss) (p : T.Pl) (hp : Pi p) (n s : Int) (hn : I64 n) (hx : W32 s) (hl : 0 ≤ n → n ≤ 65536 → (ps.length : Int) + n ≤ 900000) :
    Calls Tryz.prog 9 #[.agg (rfc fr se mo (tbV g ss.length ct) pv), .agg (pla p), .int .i64 n, .int .u32 s] w fun e w' => ∃ c, e = .returned (.tuple #[.agg c, .int .i64 ((T.Fl.mk fr se mo ss ps).mark p n s).2]) ∧ RvO w (rvB g pv) w' ((T.Fl.mk fr se mo ss ps).mark p n s).1 c ∧ Below w.heap.size w w' := by
  obtain ⟨q, hq⟩ : ∃ q, Hid (q = (T.Fl.mk fr se mo ss ps).mark p n s) := ⟨_, rfl⟩
  rw [← hq.out]
  obtain ⟨G0, hG0⟩ : ∃ G0, G0 = rvB g pv := ⟨_, rfl⟩
  rw [← hG0]
  have hpc : PrIn w pv ps := h.p
  have H : Hid (MkI w G0 fr se mo p g ct ss pv ps (((w.alloc (.cells (rfc fr se mo (tbV g ss.length ct) pv) 37)).alloc (.cells (pla p) 42)).alloc (.cells zF 37))) := by
    have h1 := (rfc_ok fr se mo (tv := tbV g ss.length ct) rfl hpc.one).new 37 w
    have h2 := (pla_ok p).new 42 (w.alloc (.cells (rfc fr se mo (tbV g ss.length ct) pv) 37))
    have h3 := zF_ok.new 37 ((w.alloc (.cells (rfc fr se mo (tbV g ss.length ct) pv) 37)).alloc (.cells (pla p) 42))
    simp only [World.size_alloc] at h2 h3
    have hb : Below w.heap.size w (((w.alloc (.cells (rfc fr se mo (tbV g ss.length ct) pv) 37)).alloc (.cells (pla p) 42)).alloc (.cells zF 37)) := (bel2 w _ _).alloc (by simp; omega) _
    refine ⟨hb, (h1.alloc _).alloc _, h2.alloc _, h3, h.below hb, fun k hk => ?_, ?_, fun k hk => .inl (by rw [hG0]; exact hk)⟩
    · have := Rd.lt hpc (by omega) hk; omega
    · have : g < w.heap.size := h.t.lt; omega
  obtain ⟨oa, ca, rfl, _, hla⟩ := hpc.shape
  obtain ⟨n0, n1⟩ := hn
  obtain ⟨x0, x1⟩ := hx
  have HSet := Lib.hid hs
  have hkl : ∀ x, 0 ≤ x → ((L2.keepR mo ss x).1.length : Int) ≤ 65536 := fun x hx => by have h1 := hs.keep hx; have := h1.len; have := h1.most; omega
  clear h hpc hs hG0
  obtain ⟨z0, z1, z2, z3, z4, z5⟩ := H.out.cells
  go_enter Tryz.func9, Tryz.ntmps9
  go_wp2_with (first | ((with_reducible refine wp_load_R rowF H.out.f ?_ ?_); (kernel_rfl)))
  refine (RMay_any fr se mo (tbV g ss.length ct) _ HBd p hp _).mono ?_
  rintro e w1 ⟨rfl, hb⟩
  replace H := Lib.hid (H.out.after hb)
  clear hb z0 z1 z2 z3 z4 z5
  cases hmay : T.may fr se p with
  | false =>
    have HQ := Lib.hid (hq.out.trans (mark_arg (f := ⟨fr, se, mo, ss, ps⟩) (.inl hmay)))
    clear hmay
    obtain ⟨z0, z1, z2, z3, z4, z5⟩ := H.out.cells
    have HFi := Lib.hid H.out.fin
    clear z2 z3 z4 z5
    go_wp2_with (first | ((with_reducible refine wp_load_R rowF H.out.f ?_ ?_); (kernel_rfl)) | ((with_reducible refine wp_store_R _ rowF HFi.out.1 ?_ ?_ ?_); (kernel_rfl); (kernel_rfl)))
    refine bodyPost_ret (res_R_tmp rowF (fn := Tryz.f9) rfl _ (HFi.out.1.1.set HFi.out.1.2) rfl) rfl ⟨rfc fr se mo (tbV g ss.length ct) (.slice oa ps.length ca), ?_, ?_, HFi.out.2.2⟩
    · rw [HQ.out]; rfl
    · rw [HQ.out]; exact HFi.out.2.1
  | true =>
    by_cases hbig : 65536 ≤ s
    · have HQ := Lib.hid (hq.out.trans (mark_arg (f := ⟨fr, se, mo, ss, ps⟩) (p := p) (n := n) (.inr hbig)))
      clear hmay
      obtain ⟨z0, z1, z2, z3, z4, z5⟩ := H.out.cells
      have HFi := Lib.hid H.out.fin
      clear z2 z3 z4 z5
      go_wp2_with (first | ((with_reducible refine wp_load_R rowF H.out.f ?_ ?_); (kernel_rfl)) | ((with_reducible refine wp_store_R _ rowF HFi.out.1 ?_ ?_ ?_); (kernel_rfl); (kernel_rfl)))
      refine bodyPost_ret (res_R_tmp rowF (fn := Tryz.f9) rfl _ (HFi.out.1.1.set HFi.out.1.2) rfl) rfl ⟨rfc fr se mo (tbV g ss.length ct) (.slice oa ps.length ca), ?_, ?_, HFi.out.2.2⟩
      · rw [HQ.out]; rfl
      · rw [HQ.out]; exact HFi.out.2.1
    · have hb2 : s < 65536 := by omega
      clear hbig
      by_cases hn0 : n < 0
      · have HQ := Lib.hid (hq.out.trans (mark_rng (f := ⟨fr, se, mo, ss, ps⟩) ⟨hmay, hb2⟩ (.inl hn0)))
        clear hmay
        obtain ⟨z0, z1, z2, z3, z4, z5⟩ := H.out.cells
        have HFi := Lib.hid H.out.fin
        clear z2 z3 z4 z5
        go_wp2_with (first | ((with_reducible refine wp_load_R rowF H.out.f ?_ ?_); (kernel_rfl)) | ((with_reducible refine wp_store_R _ rowF HFi.out.1 ?_ ?_ ?_); (kernel_rfl); (kernel_rfl)))
        refine bodyPost_ret (res_R_tmp rowF (fn := Tryz.f9) rfl _ (HFi.out.1.1.set HFi.out.1.2) rfl) rfl ⟨rfc fr se mo (tbV g ss.length ct) (.slice oa ps.length ca), ?_, ?_, HFi.out.2.2⟩
        · rw [HQ.out]; rfl
        · rw [HQ.out]; exact HFi.out.2.1
      · by_cases hn2 : 65536 < n
        · have HQ := Lib.hid (hq.out.trans (mark_rng (f := ⟨fr, se, mo, ss, ps⟩) ⟨hmay, hb2⟩ (.inr (.inl hn2))))
          clear hmay
          obtain ⟨z0, z1, z2, z3, z4, z5⟩ := H.out.cells
          have HFi := Lib.hid H.out.fin
          clear z2 z3 z4 z5
          go_wp2_with (first | ((with_reducible refine wp_load_R rowF H.out.f ?_ ?_); (kernel_rfl)) | ((with_reducible refine wp_store_R _ rowF HFi.out.1 ?_ ?_ ?_); (kernel_rfl); (kernel_rfl)))
          refine bodyPost_ret (res_R_tmp rowF (fn := Tryz.f9) rfl _ (HFi.out.1.1.set HFi.out.1.2) rfl) rfl ⟨rfc fr se mo (tbV g ss.length ct) (.slice oa ps.length ca), ?_, ?_, HFi.out.2.2⟩
          · rw [HQ.out]; rfl
          · rw [HQ.out]; exact HFi.out.2.1
        · have hpn := may_num HBd hmay
          have HN : Hid (n = 0 ∨ T.may fr se (p.1, p.2 + n - 1) = true) → Hid (0 ≤ n ∧ n ≤ 65536) := fun _ => ⟨by omega, by omega⟩
          by_cases hz : n = 0
          · subst hz
            have HR := Lib.hid (mark_ok (f := ⟨fr, se, mo, ss, ps⟩) (n := 0) ⟨hmay, hb2⟩ ⟨by omega, by omega⟩ (.inl rfl) _ rfl)
            clear hmay
            obtain ⟨z0, z1, z2, z3, z4, z5⟩ := H.out.cells
            go_wp2_with (first | ((with_reducible refine wp_load_R rowF H.out.f ?_ ?_); (kernel_rfl)))
            have HSz := Lib.hid H.out.size
            refine (L2.RKeep_any mo g ct ss HSet.out s ⟨x0, x1⟩ _ H.out.v.t).mono ?_
            rintro e w2 ⟨g', c', rfl, hrt, hg', hb⟩
            replace H := Lib.hid (H.out.after hb)
            clear hb z0 z1 z2 z3 z4 z5
            obtain ⟨K, hK⟩ : ∃ K, Hid (K = L2.keepR mo ss s) := ⟨_, rfl⟩
            have hgs := H.out.size
            have hgn : g' ≠ w.heap.size ∧ g' ≠ w.heap.size + 2 := by
              rcases hg' with e | e
              · rw [e]; exact H.out.gl
              · have := HSz.out; omega
            have hgo : G0 g' ∨ w.heap.size ≤ g' := by
              rcases hg' with e | e
              · rw [e]; exact H.out.o g (.inl rfl)
              · exact .inr (by have := HSz.out; omega)
            have HGo := Lib.hid hgo
            have HK := Lib.hid hkl
            have hk1 := hkl s x0
            rw [← hK.out] at hrt hk1
            have HRT := Lib.hid hrt
            unfold L2.rtab
            rw [← hK.out]
            have hkl2 : ((K.1.length : Nat) : Int) ≤ 65536 := hk1
            have y0 := (blk_new w2 #[.int .i64 mo, .slice (some ⟨g', 0, none⟩) K.1.length c'] 34).cell 0
            have y1 := (blk_new w2 #[.int .i64 mo, .slice (some ⟨g', 0, none⟩) K.1.length c'] 34).cell 1
            have hbx : Ok1 2 #[.int .i64 mo, .slice (some ⟨g', 0, none⟩) K.1.length c'] := ⟨rfl, by simp; exact ⟨rfl, rfl⟩⟩
            have hgn2 := Lib.hid hgn
            replace H := Lib.hid (H.out.after (bel1 w2 (.cells #[.int .i64 mo, .slice (some ⟨g', 0, none⟩) K.1.length c'] 34)))
            have HRT2 := Lib.hid (HRT.out.below (bel1 w2 (.cells #[.int .i64 mo, .slice (some ⟨g', 0, none⟩) K.1.length c'] 34)))
            clear hrt hg' hgn hkl hk1 hgo
            by_cases hk0 : K.2.2 = 0
            · have HQ : Hid (q = (⟨fr, se, mo, K.1, T.marks p s (0 : Int).toNat ps⟩, 0)) := by
                have h1 := hq.out.trans HR.out
                rw [if_pos (by show (L2.keepR mo ss s).2.2 = 0; rw [← hK.out]; exact hk0)] at h1
                rw [h1, hK.out]; rfl
              have HM := Lib.hid (H.out.table HRT2.out hgn2.out HGo.out)
              obtain ⟨z0, z1, z2, z3, z4, z5⟩ := H.out.cells
              clear HR H HRT HRT2
              go_wp2
              generalize ((w2.alloc (.cells #[.int .i64 mo, .slice (some ⟨g', 0, none⟩) K.1.length c'] 34)).setCell ⟨w.heap.size, 2, none⟩ (.int .i64 mo)).setCell ⟨w.heap.size, 3, none⟩ (.slice (some ⟨g', 0, none⟩) K.1.length c') = W5 at HM ⊢
              clear z0 z1 z2 z3 z4 z5 y0 y1
              go_loopw [13] (fun i wr => ∃ (j : Nat) (pvj : Value), (j : Int) ≤ 0 ∧ i = .int .i64 (j : Int) ∧ Hid (MkI w G0 fr se mo p g' c' K.1 pvj (T.marks p s j ps) wr)) (fun i _ => (0 : Int).toNat + 1 - (intOf i).toNat)
              case atStart => exact ⟨0, _, by omega, rfl, HM.out⟩
              case round =>
                obtain ⟨j, pvj, hj, rfl, H⟩ := hrel
                obtain ⟨oj, cj, rfl, _, hlj⟩ := H.out.v.p.shape
                have hml := T.marks_len ps p s j
                obtain ⟨z0, z1, z2, z3, z4, z5⟩ := H.out.cells
                clear HM
                by_cases hjn : (j : Int) < 0
                · exact absurd hjn (by omega)
                · obtain rfl : j = 0 := by omega
                  have HFi := Lib.hid H.out.fin
                  clear z2 z3 z4 z5
                  go_wp2_with (first | ((with_reducible refine wp_load_R rowF H.out.f ?_ ?_); (kernel_rfl)) | ((with_reducible refine wp_store_R _ rowF HFi.out.1 ?_ ?_ ?_); (kernel_rfl); (kernel_rfl)))
                  refine bodyPost_ret (res_R_tmp rowF (fn := Tryz.f9) rfl _ (HFi.out.1.1.set HFi.out.1.2) rfl) rfl ⟨rfc fr se mo (tbV g' K.1.length c') (.slice oj (T.marks p s 0 ps).length cj), ?_, ?_, HFi.out.2.2⟩
                  · rw [HQ.out]; rfl
                  · rw [HQ.out]; exact HFi.out.2.1

            · have HQ : Hid (q = (⟨fr, se, mo, ss, ps⟩, K.2.2)) := by
                have h1 := hq.out.trans HR.out
                rw [if_neg (by show ¬ (L2.keepR mo ss s).2.2 = 0; rw [← hK.out]; exact hk0)] at h1
                rw [h1, hK.out]; rfl
              obtain ⟨z0, z1, z2, z3, z4, z5⟩ := H.out.cells
              have HFi := Lib.hid H.out.fin
              clear z2 z3 z4 z5
              go_wp2_with (first | ((with_reducible refine wp_load_R rowF H.out.f ?_ ?_); (kernel_rfl)) | ((with_reducible refine wp_store_R _ rowF HFi.out.1 ?_ ?_ ?_); (kernel_rfl); (kernel_rfl)))
              refine bodyPost_ret (res_R_tmp rowF (fn := Tryz.f9) rfl _ (HFi.out.1.1.set HFi.out.1.2) rfl) rfl ⟨rfc fr se mo (tbV g ss.length ct) (.slice oa ps.length ca), ?_, ?_, HFi.out.2.2⟩
              · rw [HQ.out]; rfl
              · rw [HQ.out]; exact HFi.out.2.1
          · have hz1 : 0 < n := by omega
            clear hz
            obtain ⟨z0, z1, z2, z3, z4, z5⟩ := H.out.cells
            have HMy := Lib.hid hmay
            clear hmay
            go_wp2_with (first | ((with_reducible refine wp_load_Rg ?_ rowF H.out.f ?_ ?_); (kernel_rfl); (rfl)) | ((with_reducible refine wp_load_R rowF H.out.f ?_ ?_); (kernel_rfl)))
            refine (RMay_any fr se mo (tbV g ss.length ct) _ HBd (p.1, p.2 + n - 1) ⟨hp.1, by simp only [I64]; omega⟩ _).mono ?_
            rintro e w3 ⟨rfl, hb⟩
            replace H := Lib.hid (H.out.after hb)
            clear hb z0 z1 z2 z3 z4 z5
            cases hmay2 : T.may fr se (p.1, p.2 + n - 1) with
            | false =>
              have HQ := Lib.hid (hq.out.trans (mark_rng (f := ⟨fr, se, mo, ss, ps⟩) ⟨HMy.out, hb2⟩ (.inr (.inr ⟨hz1, hmay2⟩))))
              clear hmay2
              obtain ⟨z0, z1, z2, z3, z4, z5⟩ := H.out.cells
              have HFi := Lib.hid H.out.fin
              clear z2 z3 z4 z5
              go_wp2_with (first | ((with_reducible refine wp_load_R rowF H.out.f ?_ ?_); (kernel_rfl)) | ((with_reducible refine wp_store_R _ rowF HFi.out.1 ?_ ?_ ?_); (kernel_rfl); (kernel_rfl)))
              refine bodyPost_ret (res_R_tmp rowF (fn := Tryz.f9) rfl _ (HFi.out.1.1.set HFi.out.1.2) rfl) rfl ⟨rfc fr se mo (tbV g ss.length ct) (.slice oa ps.length ca), ?_, ?_, HFi.out.2.2⟩
              · rw [HQ.out]; rfl
              · rw [HQ.out]; exact HFi.out.2.1
            | true =>
              have HR := Lib.hid (mark_ok (f := ⟨fr, se, mo, ss, ps⟩) ⟨HMy.out, hb2⟩ ⟨by omega, by omega⟩ (.inr hmay2) _ rfl)
              clear hmay2
              obtain ⟨z0, z1, z2, z3, z4, z5⟩ := H.out.cells
              go_wp2_with (first | ((with_reducible refine wp_load_R rowF H.out.f ?_ ?_); (kernel_rfl)))
              have HSz := Lib.hid H.out.size
              refine (L2.RKeep_any mo g ct ss HSet.out s ⟨x0, x1⟩ _ H.out.v.t).mono ?_
              rintro e w2 ⟨g', c', rfl, hrt, hg', hb⟩
              replace H := Lib.hid (H.out.after hb)
              clear hb z0 z1 z2 z3 z4 z5
              obtain ⟨K, hK⟩ : ∃ K, Hid (K = L2.keepR mo ss s) := ⟨_, rfl⟩
              have hgs := H.out.size
              have hgn : g' ≠ w.heap.size ∧ g' ≠ w.heap.size + 2 := by
                rcases hg' with e | e
                · rw [e]; exact H.out.gl
                · have := HSz.out; omega
              have hgo : G0 g' ∨ w.heap.size ≤ g' := by
                rcases hg' with e | e
                · rw [e]; exact H.out.o g (.inl rfl)
                · exact .inr (by have := HSz.out; omega)
              have HGo := Lib.hid hgo
              have HK := Lib.hid hkl
              have hk1 := hkl s x0
              rw [← hK.out] at hrt hk1
              have HRT := Lib.hid hrt
              unfold L2.rtab
              rw [← hK.out]
              have hkl2 : ((K.1.length : Nat) : Int) ≤ 65536 := hk1
              have y0 := (blk_new w2 #[.int .i64 mo, .slice (some ⟨g', 0, none⟩) K.1.length c'] 34).cell 0
              have y1 := (blk_new w2 #[.int .i64 mo, .slice (some ⟨g', 0, none⟩) K.1.length c'] 34).cell 1
              have hbx : Ok1 2 #[.int .i64 mo, .slice (some ⟨g', 0, none⟩) K.1.length c'] := ⟨rfl, by simp; exact ⟨rfl, rfl⟩⟩
              have hgn2 := Lib.hid hgn
              replace H := Lib.hid (H.out.after (bel1 w2 (.cells #[.int .i64 mo, .slice (some ⟨g', 0, none⟩) K.1.length c'] 34)))
              have HRT2 := Lib.hid (HRT.out.below (bel1 w2 (.cells #[.int .i64 mo, .slice (some ⟨g', 0, none⟩) K.1.length c'] 34)))
              clear hrt hg' hgn hkl hk1 hgo
              by_cases hk0 : K.2.2 = 0
              · have HQ : Hid (q = (⟨fr, se, mo, K.1, T.marks p s n.toNat ps⟩, 0)) := by
                  have h1 := hq.out.trans HR.out
                  rw [if_pos (by show (L2.keepR mo ss s).2.2 = 0; rw [← hK.out]; exact hk0)] at h1
                  rw [h1, hK.out]; rfl
                have HM := Lib.hid (H.out.table HRT2.out hgn2.out HGo.out)
                obtain ⟨z0, z1, z2, z3, z4, z5⟩ := H.out.cells
                clear HR H HRT HRT2
                go_wp2
                generalize ((w2.alloc (.cells #[.int .i64 mo, .slice (some ⟨g', 0, none⟩) K.1.length c'] 34)).setCell ⟨w.heap.size, 2, none⟩ (.int .i64 mo)).setCell ⟨w.heap.size, 3, none⟩ (.slice (some ⟨g', 0, none⟩) K.1.length c') = W5 at HM ⊢
                clear z0 z1 z2 z3 z4 z5 y0 y1
                go_loopw [13] (fun i wr => ∃ (j : Nat) (pvj : Value), (j : Int) ≤ n ∧ i = .int .i64 (j : Int) ∧ Hid (MkI w G0 fr se mo p g' c' K.1 pvj (T.marks p s j ps) wr)) (fun i _ => n.toNat + 1 - (intOf i).toNat)
                case atStart => exact ⟨0, _, by omega, rfl, HM.out⟩
                case round =>
                  obtain ⟨j, pvj, hj, rfl, H⟩ := hrel
                  obtain ⟨oj, cj, rfl, _, hlj⟩ := H.out.v.p.shape
                  have hml := T.marks_len ps p s j
                  obtain ⟨z0, z1, z2, z3, z4, z5⟩ := H.out.cells
                  clear HM
                  by_cases hjn : (j : Int) < n
                  · have hln : (T.marks p s j ps).length ≤ 900000 := by have := hl (by omega) (by omega); omega
                    clear hlj hml
                    go_wp2_with (first | ((with_reducible refine wp_load_R rowF H.out.f ?_ ?_); (kernel_rfl)))
                    refine (RPut_any fr se mo (tv := tbV g' K.1.length c') rfl (p.1, p.2 + j) s H.out.v.p hln).mono ?_
                    rintro e w4 ⟨pv4, rfl, hp4, hlo4, hb4⟩
                    have hz4 := H.out.size
                    obtain ⟨H6, hok6⟩ := (H.out.after hb4).pairs hp4 (fun k hk => by have := hlo4 k hk; exact ⟨by omega, by omega⟩)
                    have HX := Lib.hid (And.intro (H.out.after hb4).f hok6)
                    have H7 := Lib.hid H6
                    clear z0 z1 z2 z3 z4 z5 H hb4 hp4 hlo4 H6 hok6 hln
                    go_wp2_with (first | ((with_reducible refine wp_store_R _ rowF HX.out ?_ ?_ ?_); (kernel_rfl); (kernel_rfl)))
                    refine ⟨⟨j + 1, pv4, by omega, by go_num, H7⟩, ?_⟩
                    simp [intOf]; omega
                  · obtain rfl : n = (j : Int) := by omega
                    have HFi := Lib.hid H.out.fin
                    clear z2 z3 z4 z5
                    go_wp2_with (first | ((with_reducible refine wp_load_R rowF H.out.f ?_ ?_); (kernel_rfl)) | ((with_reducible refine wp_store_R _ rowF HFi.out.1 ?_ ?_ ?_); (kernel_rfl); (kernel_rfl)))
                    refine bodyPost_ret (res_R_tmp rowF (fn := Tryz.f9) rfl _ (HFi.out.1.1.set HFi.out.1.2) rfl) rfl ⟨rfc fr se mo (tbV g' K.1.length c') (.slice oj (T.marks p s j ps).length cj), ?_, ?_, HFi.out.2.2⟩
                    · rw [HQ.out]; rfl
                    · rw [HQ.out]; exact HFi.out.2.1

              · have HQ : Hid (q = (⟨fr, se, mo, ss, ps⟩, K.2.2)) := by
                  have h1 := hq.out.trans HR.out
                  rw [if_neg (by show ¬ (L2.keepR mo ss s).2.2 = 0; rw [← hK.out]; exact hk0)] at h1
                  rw [h1, hK.out]; rfl
                obtain ⟨z0, z1, z2, z3, z4, z5⟩ := H.out.cells
                have HFi := Lib.hid H.out.fin
                clear z2 z3 z4 z5
                go_wp2_with (first | ((with_reducible refine wp_load_R rowF H.out.f ?_ ?_); (kernel_rfl)) | ((with_reducible refine wp_store_R _ rowF HFi.out.1 ?_ ?_ ?_); (kernel_rfl); (kernel_rfl)))
                refine bodyPost_ret (res_R_tmp rowF (fn := Tryz.f9) rfl _ (HFi.out.1.1.set HFi.out.1.2) rfl) rfl ⟨rfc fr se mo (tbV g ss.length ct) (.slice oa ps.length ca), ?_, ?_, HFi.out.2.2⟩
                · rw [HQ.out]; rfl
                · rw [HQ.out]; exact HFi.out.2.1
end Go.Proofs.YtiohlmccnllklaaGreatDoor
namespace Go.Proofs.YtiohlmccnllklaaGreatDoor
open Go.RowKit
set_option maxHeartbeats 8000000
set_option maxRecDepth 100000
set_option linter.unusedVariables false
set_option linter.unusedSimpArgs false

theorem infoU32 : (Tryz.prog.info? 23).map (fun i => (i.zero, i.size, i.bytes)) = some (some (.int .u32 0), 1, 4) := by kernel_rfl
theorem u_src (w : World) (x : Int) : Src Tryz.prog 1 32 (.slice (some ⟨w.heap.size, 0, none⟩) 1 1) 1 [.int .u32 x] (w.alloc (.cells #[.int .u32 x] 23)) := by
  refine Src.ofSlice _ Tryz.underlying32 _ 1 1 _ rfl (fun j u hj => ?_) (fun u hu => ?_)
  · rw [add_lit, (blk_new w _ _).cell, Nat.zero_add]
    simpa using hj
  · simp at hu
    subst hu; rfl
/-- The boxes of Apply, the flow as it is so far, and the sets so far. -/
structure ApI (w : World) (G0 : Nat → Prop) (fr se mo : Int) (g ct : Nat) (ss : List Int) (pv : Value) (ps : List T.Pr) (sv : Value) (sl : List Int) (W : World) : Prop where
  b : Below w.heap.size w W
  f : Rf 37 5 W w.heap.size (rfc fr se mo (tbV g ss.length ct) pv)
  r : Rf 37 5 W (w.heap.size + 1) zF
  v : RvI W ⟨fr, se, mo, ss, ps⟩ g ct pv
  lo : ∀ k, rdBlk pv = some k → k ≠ w.heap.size ∧ k ≠ w.heap.size + 1 ∧ ∀ j, blkOf sv = some j → k ≠ j
  gl : g ≠ w.heap.size ∧ g ≠ w.heap.size + 1
  s : Gs 23 1 W sv sl.length (sl.map (Value.int .u32))
  sg : ∀ k, blkOf sv = some k → w.heap.size + 2 ≤ k ∧ k ≠ g
  o : ∀ k, rvB g pv k → G0 k ∨ w.heap.size ≤ k
section
variable {w W W' : World} {G0 : Nat → Prop} {fr se mo : Int} {g ct : Nat} {ss sl : List Int} {pv sv : Value} {ps : List T.Pr}
theorem ApI.after (h : ApI w G0 fr se mo g ct ss pv ps sv sl W) (hb : Below W.heap.size W W') : ApI w G0 fr se mo g ct ss pv ps sv sl W' := ⟨h.b.trans (hb.mono h.b.size), h.f.below hb, h.r.below hb, h.v.below hb, h.lo, h.gl, h.s.below hb, h.sg, h.o⟩
theorem ApI.size (h : ApI w G0 fr se mo g ct ss pv ps sv sl W) : w.heap.size + 2 ≤ W.heap.size := h.r.lt
theorem ApI.cells (h : ApI w G0 fr se mo g ct ss pv ps sv sl W) : W.cell? ⟨w.heap.size, 2, none⟩ = some (.int .i64 mo) ∧ W.cell? ⟨w.heap.size, 3, none⟩ = some (tbV g ss.length ct) ∧ W.frozen? ⟨w.heap.size, 2, none⟩ = false ∧ W.frozen? ⟨w.heap.size, 3, none⟩ = false :=
  ⟨h.f.cell 2, h.f.cell 3, h.f.blk.frozen 2, h.f.blk.frozen 3⟩
theorem ApI.table (h : ApI w G0 fr se mo g ct ss pv ps sv sl W) {g' ct' : Nat} {ss' : List Int} (ht : L2.RT W g' ct' ss') (hg : g' ≠ w.heap.size ∧ g' ≠ w.heap.size + 1) (hs : ∀ k, blkOf sv = some k → k ≠ g') (ho : G0 g' ∨ w.heap.size ≤ g') :
    ApI w G0 fr se mo g' ct' ss' pv ps sv sl ((W.setCell ⟨w.heap.size, 2, none⟩ (.int .i64 mo)).setCell ⟨w.heap.size, 3, none⟩ (tbV g' ss'.length ct')) := by
  have tt : Turned (fun k => k = w.heap.size) W ((W.setCell ⟨w.heap.size, 2, none⟩ (.int .i64 mo)).setCell ⟨w.heap.size, 3, none⟩ (tbV g' ss'.length ct')) := ((Turned.refl (fun k => k = w.heap.size) W).setCell (.inl rfl) _).setCell (.inl rfl) _
  refine ⟨h.b.trans (tt.below h.b.size (fun k e => by omega)), ⟨?_, rfl, (rfc_ok fr se mo rfl h.v.p.one).2⟩, h.r.turned tt (by omega), ⟨?_, ?_⟩, h.lo, hg, h.s.turned tt (fun k hk e => by have := h.sg k hk; omega), fun k hk => ⟨(h.sg k hk).1, hs k hk⟩, fun k hk => by rcases hk with rfl | e; exact ho; exact h.o k (.inr e)⟩
  · have := (h.f.blk.setCell 2 (.int .i64 mo)).setCell 3 (tbV g' ss'.length ct')
    exact this
  · exact ht.kept (toL2 tt) (by simpa using hg.1)
  · exact h.v.p.stay fun k hk => tt.block k (Rd.lt h.v.p (by omega) hk) (h.lo k hk).1
theorem ApI.app (h : ApI w G0 fr se mo g ct ss pv ps sv sl W) {sv' : Value} {x : Int} (hg : Gs 23 1 W' sv' (sl.length + 1) (sl.map (Value.int .u32) ++ [.int .u32 x])) (ht : Turned (fun k => blkOf sv = some k) W W') (hn : ∀ k, blkOf sv' = some k → blkOf sv = some k ∨ W.heap.size ≤ k) :
    ApI w G0 fr se mo g ct ss pv ps sv' (sl ++ [x]) W' := by
  have hz := h.size
  refine ⟨h.b.trans (ht.below h.b.size (fun k e => by have := h.sg k e; omega)), h.f.turned ht (fun e => by have := h.sg _ e; omega), h.r.turned ht (fun e => by have := h.sg _ e; omega), ⟨?_, ?_⟩, fun k hk => ⟨(h.lo k hk).1, (h.lo k hk).2.1, fun j hj => ?_⟩, h.gl, ?_, fun k hk => ?_, h.o⟩
  · have : ∀ k, blkOf sv = some k → k ≠ g := fun k hk => (h.sg k hk).2
    have tl : g < W.heap.size := h.v.t.lt
    refine L2.Turned.row (F := (blkOf sv).toList) ⟨ht.os, ht.tape, ht.output, ht.size, fun k hk hn' => ht.block k hk (fun e => hn' (by rw [e]; simp))⟩ h.v.t (fun k e => ?_)
    simp [Value.ownBlock] at e
    subst e
    intro hm
    cases hb : blkOf sv with
    | none => rw [hb] at hm; cases hm
    | some j => rw [hb] at hm; simp at hm; exact this j hb hm.symm
  · exact h.v.p.stay fun k hk => ht.block k (Rd.lt h.v.p (by omega) hk) (fun e => (h.lo k hk).2.2 k e rfl)
  · rcases hn j hj with e | e
    · exact (h.lo k hk).2.2 j e
    · have := Rd.lt h.v.p (by omega) hk; omega
  · rw [List.length_append, List.length_singleton, List.map_append]; exact hg
  · rcases hn k hk with e | e
    · exact h.sg k e
    · have : g < W.heap.size := h.v.t.lt; omega
theorem ApI.pairs (h : ApI w G0 fr se mo g ct ss pv ps sv sl W) {pv' : Value} {ps' : List T.Pr} (hp : PrIn W pv' ps') (hl : ∀ k, rdBlk pv' = some k → (k ≠ w.heap.size ∧ k ≠ w.heap.size + 1 ∧ ∀ j, blkOf sv = some j → k ≠ j) ∧ w.heap.size ≤ k) :
    ApI w G0 fr se mo g ct ss pv' ps' sv sl (W.setRow w.heap.size (rfc fr se mo (tbV g ss.length ct) pv')) ∧ Ok1 5 (rfc fr se mo (tbV g ss.length ct) pv') := by
  have tt := turned_setRow W w.heap.size (rfc fr se mo (tbV g ss.length ct) pv')
  have hok : Ok1 5 (rfc fr se mo (tbV g ss.length ct) pv') := rfc_ok _ _ _ rfl hp.one
  refine ⟨⟨h.b.trans (tt.below h.b.size (fun k e => by omega)), h.f.set hok, h.r.turned tt (by omega), ⟨h.v.t.kept (toL2 tt) (by simpa using h.gl.1), ?_⟩, fun k hk => (hl k hk).1, h.gl, h.s.turned tt (fun k hk e => by have := h.sg k hk; omega), h.sg, fun k hk => by rcases hk with e | e; exact h.o k (.inl e); exact .inr (hl k e).2⟩, hok⟩
  exact hp.stay fun k hk => tt.block k (Rd.lt hp (by omega) hk) (hl k hk).1.1
theorem ApI.fin (h : ApI w G0 fr se mo g ct ss pv ps sv sl W) : (Rf 37 5 W (w.heap.size + 1) zF ∧ Ok1 5 (rfc fr se mo (tbV g ss.length ct) pv)) ∧
    RvO w G0 (W.setRow (w.heap.size + 1) (rfc fr se mo (tbV g ss.length ct) pv)) ⟨fr, se, mo, ss, ps⟩ (rfc fr se mo (tbV g ss.length ct) pv) ∧ Below w.heap.size w (W.setRow (w.heap.size + 1) (rfc fr se mo (tbV g ss.length ct) pv)) := by
  have tt := turned_setRow W (w.heap.size + 1) (rfc fr se mo (tbV g ss.length ct) pv)
  refine ⟨⟨h.r, rfc_ok _ _ _ rfl h.v.p.one⟩, ⟨g, ct, pv, rfl, ⟨?_, ?_⟩, h.o⟩, h.b.trans (tt.below h.b.size (fun k e => by omega))⟩
  · exact h.v.t.kept (toL2 tt) (by simpa using h.gl.2)
  · exact h.v.p.stay fun k hk => tt.block k (Rd.lt h.v.p (by omega) hk) (h.lo k hk).2.1
end
theorem apply_arg {f : T.Fl} {l : List T.Tc} (h : T.mayAll f.fr f.se l = false) : f.apply l = (f, 2) := by unfold T.Fl.apply; rw [if_pos h]
theorem apply_ok {f : T.Fl} {l : List T.Tc} (h : T.mayAll f.fr f.se l = true) (k : List Int × Int) (hk : T.keeps f.mo f.ps f.ss l = k) : f.apply l = if k.2 = 0 then ({ f with ss := k.1, ps := T.lays f.ps f.ps l }, 0) else ({ f with ss := k.1 }, k.2) := by
  unfold T.Fl.apply; rw [if_neg (by simp [h]), hk]
theorem keeps_drop {mo : Int} {ps : List T.Pr} {ss : List Int} {ts : List T.Tc} {k : Nat} {t : T.Tc} (h : ts[k]? = some t) : T.keeps mo ps ss (ts.drop k) = if t.1 = T.none0 then T.keeps mo ps ss (ts.drop (k + 1)) else if (T.keep mo ss (T.tog ps 0 t.2)).2 = 0 then T.keeps mo ps (T.keep mo ss (T.tog ps 0 t.2)).1 (ts.drop (k + 1)) else T.keep mo ss (T.tog ps 0 t.2) := by
  obtain ⟨h1, h2⟩ := List.getElem?_eq_some_iff.1 h
  rw [List.drop_eq_getElem_cons h1, h2]; rfl
theorem lays_drop {ps o : List T.Pr} {ts : List T.Tc} {k : Nat} {t : T.Tc} (h : ts[k]? = some t) : T.lays ps o (ts.drop k) = T.lays ps (if t.1 = T.none0 then o else T.put o t.1 (T.tog ps 0 t.2)) (ts.drop (k + 1)) := by
  obtain ⟨h1, h2⟩ := List.getElem?_eq_some_iff.1 h
  rw [List.drop_eq_getElem_cons h1, h2]; rfl
theorem gives_bd {ps : List T.Pr} (h : T.Small ps) (t : T.Tc) : 0 ≤ T.gives ps t ∧ T.gives ps t < 65536 := by
  unfold T.gives
  split
  · omega
  · exact h.tog (by omega) _
theorem gives_succ (ps : List T.Pr) (ts : List T.Tc) (k : Nat) (t : T.Tc) (h : ts[k]? = some t) : (ts.take (k + 1)).map (T.gives ps) = (ts.take k).map (T.gives ps) ++ [T.gives ps t] := by
  rw [List.take_add_one, h]; simp
theorem Gs.u32at {w : World} {v : Value} {sl : List Int} (h : Gs 23 1 w v sl.length (sl.map (Value.int .u32))) {k : Nat} {x : Int} (hk : sl[k]? = some x) : ∃ g o c, v = .slice (some ⟨g, o, none⟩) sl.length c ∧ w.cell? ⟨g, o + k, none⟩ = some (.int .u32 x) := by
  obtain ⟨g, o, c, e, h1, _⟩ := h.cell (j := k) (u := .int .u32 x) (by rw [List.getElem?_map, hk]; rfl)
  exact ⟨g, o, c, e, h1⟩
theorem setRow_cell (W : World) (B : Nat) (c : Array Value) {g o : Nat} (h : g ≠ B) : (W.setRow B c).cell? ⟨g, o, none⟩ = W.cell? ⟨g, o, none⟩ := by
  unfold World.cell?
  rw [setRow_other W B g c h]
end Go.Proofs.YtiohlmccnllklaaGreatDoor
namespace Go.Proofs.YtiohlmccnllklaaGreatDoor
open Go.RowKit
set_option maxHeartbeats 8000000
set_option maxRecDepth 100000
set_option linter.unusedVariables false
set_option linter.unusedSimpArgs false

end Go.Proofs.YtiohlmccnllklaaGreatDoor
