/-
  Layer 12: marks of the document: a walk. Layer 12: marks of the document: a walk. Written by gen_ref.py. Layer 12: touches applied by the document: what its walk keeps. Layer 12: touches applied by the document: a walk. Written by gen_ref.py.
-/
import Derived.Test.YtdpdoclhdjhjkaaGreatG04
set_option linter.unusedVariables false
set_option linter.unusedSimpArgs false
namespace Go.Proofs.YtdpdoclhdjhjkaaGreat
open Go.RowKit
set_option maxHeartbeats 8000000
set_option maxRecDepth 100000
set_option linter.unusedVariables false
set_option linter.unusedSimpArgs false

/-- The boxes of Mark, and the flow as it is so far. -/
structure MkI (w : World) (G0 : Nat → Prop) (fr se mo : Int) (p : T.Pl) (g ct : Nat) (ss : List Int) (pv : Value) (ps : List T.Pr) (W : World) : Prop where
  b : Below w.heap.size w W
  f : Rf 59 5 W w.heap.size (rfc fr se mo (tbV g ss.length ct) pv)
  p : Rf 35 2 W (w.heap.size + 1) (pla p)
  r : Rf 59 5 W (w.heap.size + 2) zF
  v : RvI W ⟨fr, se, mo, ss, ps⟩ g ct pv
  lo : ∀ k, rdBlk pv = some k → k ≠ w.heap.size ∧ k ≠ w.heap.size + 2
  gl : g ≠ w.heap.size ∧ g ≠ w.heap.size + 2
  o : ∀ k, rvB g pv k → G0 k ∨ w.heap.size ≤ k
section
variable {w W W' : World} {G0 : Nat → Prop} {fr se mo : Int} {p : T.Pl} {g ct : Nat} {ss : List Int} {pv : Value} {ps : List T.Pr}
theorem MkI.after (h : MkI w G0 fr se mo p g ct ss pv ps W) (hb : Below W.heap.size W W') : MkI w G0 fr se mo p g ct ss pv ps W' := ⟨h.b.trans (hb.mono h.b.size), h.f.below hb, h.p.below hb, h.r.below hb, h.v.below hb, h.lo, h.gl, h.o⟩
theorem MkI.size (h : MkI w G0 fr se mo p g ct ss pv ps W) : w.heap.size + 3 ≤ W.heap.size := h.r.lt
theorem MkI.cells (h : MkI w G0 fr se mo p g ct ss pv ps W) : W.cell? ⟨w.heap.size + 1, 0, none⟩ = some (.int .i64 p.1) ∧ W.cell? ⟨w.heap.size + 1, 1, none⟩ = some (.int .i64 p.2) ∧ W.cell? ⟨w.heap.size, 2, none⟩ = some (.int .i64 mo) ∧ W.cell? ⟨w.heap.size, 3, none⟩ = some (tbV g ss.length ct) ∧ W.frozen? ⟨w.heap.size, 2, none⟩ = false ∧ W.frozen? ⟨w.heap.size, 3, none⟩ = false :=
  ⟨h.p.cell 0, h.p.cell 1, h.f.cell 2, h.f.cell 3, h.f.blk.frozen 2, h.f.blk.frozen 3⟩
theorem MkI.table (h : MkI w G0 fr se mo p g ct ss pv ps W) {g' ct' : Nat} {ss' : List Int} (ht : L2.RT W g' ct' ss') (hg : g' ≠ w.heap.size ∧ g' ≠ w.heap.size + 2) (ho : G0 g' ∨ w.heap.size ≤ g') :
    MkI w G0 fr se mo p g' ct' ss' pv ps ((W.setCell ⟨w.heap.size, 2, none⟩ (.int .i64 mo)).setCell ⟨w.heap.size, 3, none⟩ (tbV g' ss'.length ct')) := by
  have tt : Turned (fun k => k = w.heap.size) W ((W.setCell ⟨w.heap.size, 2, none⟩ (.int .i64 mo)).setCell ⟨w.heap.size, 3, none⟩ (tbV g' ss'.length ct')) := ((Turned.refl (fun k => k = w.heap.size) W).setCell (.inl rfl) _).setCell (.inl rfl) _
  refine ⟨h.b.trans (tt.below h.b.size (fun k e => by omega)), ⟨?_, rfl, (rfc_ok fr se mo rfl h.v.p.one).2⟩, h.p.turned tt (by omega), h.r.turned tt (by omega), ⟨?_, ?_⟩, h.lo, hg, fun k hk => by rcases hk with rfl | e; exact ho; exact h.o k (.inr e)⟩
  · have := (h.f.blk.setCell 2 (.int .i64 mo)).setCell 3 (tbV g' ss'.length ct')
    exact this
  · exact ht.kept (toL2 tt) (by simpa using hg.1)
  · exact h.v.p.stay fun k hk => by
      have := h.lo k hk
      exact tt.block k (Rd.lt h.v.p (by omega) hk) this.1
theorem MkI.pairs (h : MkI w G0 fr se mo p g ct ss pv ps W) {pv' : Value} {ps' : List T.Pr} (hp : PrIn W pv' ps') (hl : ∀ k, rdBlk pv' = some k → (k ≠ w.heap.size ∧ k ≠ w.heap.size + 2) ∧ w.heap.size ≤ k) :
    MkI w G0 fr se mo p g ct ss pv' ps' (W.setRow w.heap.size (rfc fr se mo (tbV g ss.length ct) pv')) ∧ Ok1 5 (rfc fr se mo (tbV g ss.length ct) pv') := by
  have tt := turned_setRow W w.heap.size (rfc fr se mo (tbV g ss.length ct) pv')
  have hok : Ok1 5 (rfc fr se mo (tbV g ss.length ct) pv') := rfc_ok _ _ _ rfl hp.one
  refine ⟨⟨h.b.trans (tt.below h.b.size (fun k e => by omega)), h.f.set hok, h.p.turned tt (by omega), h.r.turned tt (by omega), ⟨h.v.t.kept (toL2 tt) (by simpa using h.gl.1), ?_⟩, fun k hk => (hl k hk).1, h.gl, fun k hk => by rcases hk with e | e; exact h.o k (.inl e); exact .inr (hl k e).2⟩, hok⟩
  exact hp.stay fun k hk => tt.block k (Rd.lt hp (by omega) hk) (hl k hk).1.1
theorem MkI.fin (h : MkI w G0 fr se mo p g ct ss pv ps W) : (Rf 59 5 W (w.heap.size + 2) zF ∧ Ok1 5 (rfc fr se mo (tbV g ss.length ct) pv)) ∧
    RvO w G0 (W.setRow (w.heap.size + 2) (rfc fr se mo (tbV g ss.length ct) pv)) ⟨fr, se, mo, ss, ps⟩ (rfc fr se mo (tbV g ss.length ct) pv) ∧ Below w.heap.size w (W.setRow (w.heap.size + 2) (rfc fr se mo (tbV g ss.length ct) pv)) := by
  have tt := turned_setRow W (w.heap.size + 2) (rfc fr se mo (tbV g ss.length ct) pv)
  refine ⟨⟨h.r, rfc_ok _ _ _ rfl h.v.p.one⟩, ⟨g, ct, pv, rfl, ⟨?_, ?_⟩, h.o⟩, h.b.trans (tt.below h.b.size (fun k e => by omega))⟩
  · exact h.v.t.kept (toL2 tt) (by simpa using h.gl.2)
  · exact h.v.p.stay fun k hk => tt.block k (Rd.lt h.v.p (by omega) hk) (h.lo k hk).2
end
theorem mark_arg {f : T.Fl} {p : T.Pl} {n s : Int} (h : T.may f.fr f.se p = false ∨ 65536 ≤ s) : f.mark p n s = (f, 2) := by unfold T.Fl.mark; rw [if_pos h]
theorem mark_rng {f : T.Fl} {p : T.Pl} {n s : Int} (h : T.may f.fr f.se p = true ∧ s < 65536) (k : n < 0 ∨ 65536 < n ∨ (0 < n ∧ T.may f.fr f.se (p.1, p.2 + n - 1) = false)) : f.mark p n s = (f, 4) := by
  unfold T.Fl.mark; rw [if_neg (by rw [h.1]; simp; omega), if_pos k]
theorem mark_ok {f : T.Fl} {p : T.Pl} {n s : Int} (h : T.may f.fr f.se p = true ∧ s < 65536) (k0 : 0 ≤ n ∧ n ≤ 65536) (k : n = 0 ∨ T.may f.fr f.se (p.1, p.2 + n - 1) = true) (r : List Int × Int) (hr : T.keep f.mo f.ss s = r) : f.mark p n s = if r.2 = 0 then ({ f with ss := r.1, ps := T.marks p s n.toNat f.ps }, 0) else (f, r.2) := by
  unfold T.Fl.mark
  rw [if_neg (by rw [h.1]; simp; omega), if_neg (by rcases k with k | k <;> simp [k] <;> omega), hr]
end Go.Proofs.YtdpdoclhdjhjkaaGreat
namespace Go.Proofs.YtdpdoclhdjhjkaaGreat
open Go.RowKit
set_option maxHeartbeats 8000000
set_option maxRecDepth 100000
set_option linter.unusedVariables false
set_option linter.unusedSimpArgs false

theorem may_num {fr se : Int} (h : Bd fr se) {p : T.Pl} (hm : T.may fr se p = true) : 0 ≤ p.2 ∧ p.2 < 2147483648 := by
  obtain ⟨h1, h2⟩ := T.may_iff.1 hm
  refine ⟨h1, ?_⟩
  have : T.most fr se p.1 ≤ 2147483648 := by
    obtain ⟨⟨a, b⟩, c, d⟩ := h
    unfold T.most
    repeat' split
    all_goals omega
  omega
theorem RMark_any {w : World} {fr se mo : Int} {g ct : Nat} {ss : List Int} {pv : Value} {ps : List T.Pr} (h : RvI w ⟨fr, se, mo, ss, ps⟩ g ct pv) (HBd : Bd fr se) (hs : L2.Sets mo ss) (p : T.Pl) (hp : Pi p) (n s : Int) (hn : I64 n) (hx : W32 s) (hl : 0 ≤ n → n ≤ 65536 → (ps.length : Int) + n ≤ 900000) :
    Calls Tryz.prog 56 #[.agg (rfc fr se mo (tbV g ss.length ct) pv), .agg (pla p), .int .i64 n, .int .u32 s] w fun e w' => ∃ c, e = .returned (.tuple #[.agg c, .int .i64 ((T.Fl.mk fr se mo ss ps).mark p n s).2]) ∧ RvO w (rvB g pv) w' ((T.Fl.mk fr se mo ss ps).mark p n s).1 c ∧ Below w.heap.size w w' := by
  obtain ⟨q, hq⟩ : ∃ q, Hid (q = (T.Fl.mk fr se mo ss ps).mark p n s) := ⟨_, rfl⟩
  rw [← hq.out]
  obtain ⟨G0, hG0⟩ : ∃ G0, G0 = rvB g pv := ⟨_, rfl⟩
  rw [← hG0]
  have hpc : PrIn w pv ps := h.p
  have H : Hid (MkI w G0 fr se mo p g ct ss pv ps (((w.alloc (.cells (rfc fr se mo (tbV g ss.length ct) pv) 59)).alloc (.cells (pla p) 35)).alloc (.cells zF 59))) := by
    have h1 := (rfc_ok fr se mo (tv := tbV g ss.length ct) rfl hpc.one).new 59 w
    have h2 := (pla_ok p).new 35 (w.alloc (.cells (rfc fr se mo (tbV g ss.length ct) pv) 59))
    have h3 := zF_ok.new 59 ((w.alloc (.cells (rfc fr se mo (tbV g ss.length ct) pv) 59)).alloc (.cells (pla p) 35))
    simp only [World.size_alloc] at h2 h3
    have hb : Below w.heap.size w (((w.alloc (.cells (rfc fr se mo (tbV g ss.length ct) pv) 59)).alloc (.cells (pla p) 35)).alloc (.cells zF 59)) := (bel2 w _ _).alloc (by simp; omega) _
    refine ⟨hb, (h1.alloc _).alloc _, h2.alloc _, h3, h.below hb, fun k hk => ?_, ?_, fun k hk => .inl (by rw [hG0]; exact hk)⟩
    · have := Rd.lt hpc (by omega) hk; omega
    · have : g < w.heap.size := h.t.lt; omega
  obtain ⟨oa, ca, rfl, _, hla⟩ := hpc.shape
  obtain ⟨n0, n1⟩ := hn
  obtain ⟨x0, x1⟩ := hx
  have HSet := Lib.hid hs
  have hkl : ∀ x, 0 ≤ x → ((L2.keepR mo ss x).1.length : Int) ≤ 65536 := fun x hx => by have h1 := hs.keep hx; have := h1.len; have := h1.most; omega
  clear h hpc hs hG0
  obtain ⟨z0, z1, z2, z3, z4, z5⟩ := H.out.cells
  go_enter Tryz.func56, Tryz.ntmps56
  go_wp2_with (first | ((with_reducible refine wp_load_R rowF H.out.f ?_ ?_); (kernel_rfl)))
  refine (RMay_any fr se mo (tbV g ss.length ct) _ HBd p hp _).mono ?_
  rintro e w1 ⟨rfl, hb⟩
  replace H := Lib.hid (H.out.after hb)
  clear hb z0 z1 z2 z3 z4 z5
  cases hmay : T.may fr se p with
  | false =>
    have HQ := Lib.hid (hq.out.trans (mark_arg (f := ⟨fr, se, mo, ss, ps⟩) (.inl hmay)))
    clear hmay
    obtain ⟨z0, z1, z2, z3, z4, z5⟩ := H.out.cells
    have HFi := Lib.hid H.out.fin
    clear z2 z3 z4 z5
    go_wp2_with (first | ((with_reducible refine wp_load_R rowF H.out.f ?_ ?_); (kernel_rfl)) | ((with_reducible refine wp_store_R _ rowF HFi.out.1 ?_ ?_ ?_); (kernel_rfl); (kernel_rfl)))
    refine bodyPost_ret (res_R_tmp rowF (fn := Tryz.f56) rfl _ (HFi.out.1.1.set HFi.out.1.2) rfl) rfl ⟨rfc fr se mo (tbV g ss.length ct) (.slice oa ps.length ca), ?_, ?_, HFi.out.2.2⟩
    · rw [HQ.out]; rfl
    · rw [HQ.out]; exact HFi.out.2.1
  | true =>
    by_cases hbig : 65536 ≤ s
    · have HQ := Lib.hid (hq.out.trans (mark_arg (f := ⟨fr, se, mo, ss, ps⟩) (p := p) (n := n) (.inr hbig)))
      clear hmay
      obtain ⟨z0, z1, z2, z3, z4, z5⟩ := H.out.cells
      have HFi := Lib.hid H.out.fin
      clear z2 z3 z4 z5
      go_wp2_with (first | ((with_reducible refine wp_load_R rowF H.out.f ?_ ?_); (kernel_rfl)) | ((with_reducible refine wp_store_R _ rowF HFi.out.1 ?_ ?_ ?_); (kernel_rfl); (kernel_rfl)))
      refine bodyPost_ret (res_R_tmp rowF (fn := Tryz.f56) rfl _ (HFi.out.1.1.set HFi.out.1.2) rfl) rfl ⟨rfc fr se mo (tbV g ss.length ct) (.slice oa ps.length ca), ?_, ?_, HFi.out.2.2⟩
      · rw [HQ.out]; rfl
      · rw [HQ.out]; exact HFi.out.2.1
    · have hb2 : s < 65536 := by omega
      clear hbig
      by_cases hn0 : n < 0
      · have HQ := Lib.hid (hq.out.trans (mark_rng (f := ⟨fr, se, mo, ss, ps⟩) ⟨hmay, hb2⟩ (.inl hn0)))
        clear hmay
        obtain ⟨z0, z1, z2, z3, z4, z5⟩ := H.out.cells
        have HFi := Lib.hid H.out.fin
        clear z2 z3 z4 z5
        go_wp2_with (first | ((with_reducible refine wp_load_R rowF H.out.f ?_ ?_); (kernel_rfl)) | ((with_reducible refine wp_store_R _ rowF HFi.out.1 ?_ ?_ ?_); (kernel_rfl); (kernel_rfl)))
        refine bodyPost_ret (res_R_tmp rowF (fn := Tryz.f56) rfl _ (HFi.out.1.1.set HFi.out.1.2) rfl) rfl ⟨rfc fr se mo (tbV g ss.length ct) (.slice oa ps.length ca), ?_, ?_, HFi.out.2.2⟩
        · rw [HQ.out]; rfl
        · rw [HQ.out]; exact HFi.out.2.1
      · by_cases hn2 : 65536 < n
        · have HQ := Lib.hid (hq.out.trans (mark_rng (f := ⟨fr, se, mo, ss, ps⟩) ⟨hmay, hb2⟩ (.inr (.inl hn2))))
          clear hmay
          obtain ⟨z0, z1, z2, z3, z4, z5⟩ := H.out.cells
          have HFi := Lib.hid H.out.fin
          clear z2 z3 z4 z5
          go_wp2_with (first | ((with_reducible refine wp_load_R rowF H.out.f ?_ ?_); (kernel_rfl)) | ((with_reducible refine wp_store_R _ rowF HFi.out.1 ?_ ?_ ?_); (kernel_rfl); (kernel_rfl)))
          refine bodyPost_ret (res_R_tmp rowF (fn := Tryz.f56) rfl _ (HFi.out.1.1.set HFi.out.1.2) rfl) rfl ⟨rfc fr se mo (tbV g ss.length ct) (.slice oa ps.length ca), ?_, ?_, HFi.out.2.2⟩
          · rw [HQ.out]; rfl
          · rw [HQ.out]; exact HFi.out.2.1
        · have hpn := may_num HBd hmay
          have HN : Hid (n = 0 ∨ T.may fr se (p.1, p.2 + n - 1) = true) → Hid (0 ≤ n ∧ n ≤ 65536) := fun _ => ⟨by omega, by omega⟩
          by_cases hz : n = 0
          · subst hz
            have HR := Lib.hid (mark_ok (f := ⟨fr, se, mo, ss, ps⟩) (n := 0) ⟨hmay, hb2⟩ ⟨by omega, by omega⟩ (.inl rfl) _ rfl)
            clear hmay
            obtain ⟨z0, z1, z2, z3, z4, z5⟩ := H.out.cells
            go_wp2_with (first | ((with_reducible refine wp_load_R rowF H.out.f ?_ ?_); (kernel_rfl)))
            have HSz := Lib.hid H.out.size
            refine (L2.RKeep_any mo g ct ss HSet.out s ⟨x0, x1⟩ _ H.out.v.t).mono ?_
            rintro e w2 ⟨g', c', rfl, hrt, hg', hb⟩
            replace H := Lib.hid (H.out.after hb)
            clear hb z0 z1 z2 z3 z4 z5
            obtain ⟨K, hK⟩ : ∃ K, Hid (K = L2.keepR mo ss s) := ⟨_, rfl⟩
            have hgs := H.out.size
            have hgn : g' ≠ w.heap.size ∧ g' ≠ w.heap.size + 2 := by
              rcases hg' with e | e
              · rw [e]; exact H.out.gl
              · have := HSz.out; omega
            have hgo : G0 g' ∨ w.heap.size ≤ g' := by
              rcases hg' with e | e
              · rw [e]; exact H.out.o g (.inl rfl)
              · exact .inr (by have := HSz.out; omega)
            have HGo := Lib.hid hgo
            have HK := Lib.hid hkl
            have hk1 := hkl s x0
            rw [← hK.out] at hrt hk1
            have HRT := Lib.hid hrt
            unfold L2.rtab
            rw [← hK.out]
            have hkl2 : ((K.1.length : Nat) : Int) ≤ 65536 := hk1
            have y0 := (blk_new w2 #[.int .i64 mo, .slice (some ⟨g', 0, none⟩) K.1.length c'] 56).cell 0
            have y1 := (blk_new w2 #[.int .i64 mo, .slice (some ⟨g', 0, none⟩) K.1.length c'] 56).cell 1
            have hbx : Ok1 2 #[.int .i64 mo, .slice (some ⟨g', 0, none⟩) K.1.length c'] := ⟨rfl, by simp; exact ⟨rfl, rfl⟩⟩
            have hgn2 := Lib.hid hgn
            replace H := Lib.hid (H.out.after (bel1 w2 (.cells #[.int .i64 mo, .slice (some ⟨g', 0, none⟩) K.1.length c'] 56)))
            have HRT2 := Lib.hid (HRT.out.below (bel1 w2 (.cells #[.int .i64 mo, .slice (some ⟨g', 0, none⟩) K.1.length c'] 56)))
            clear hrt hg' hgn hkl hk1 hgo
            by_cases hk0 : K.2.2 = 0
            · have HQ : Hid (q = (⟨fr, se, mo, K.1, T.marks p s (0 : Int).toNat ps⟩, 0)) := by
                have h1 := hq.out.trans HR.out
                rw [if_pos (by show (L2.keepR mo ss s).2.2 = 0; rw [← hK.out]; exact hk0)] at h1
                rw [h1, hK.out]; rfl
              have HM := Lib.hid (H.out.table HRT2.out hgn2.out HGo.out)
              obtain ⟨z0, z1, z2, z3, z4, z5⟩ := H.out.cells
              clear HR H HRT HRT2
              go_wp2
              generalize ((w2.alloc (.cells #[.int .i64 mo, .slice (some ⟨g', 0, none⟩) K.1.length c'] 56)).setCell ⟨w.heap.size, 2, none⟩ (.int .i64 mo)).setCell ⟨w.heap.size, 3, none⟩ (.slice (some ⟨g', 0, none⟩) K.1.length c') = W5 at HM ⊢
              clear z0 z1 z2 z3 z4 z5 y0 y1
              go_loopw [13] (fun i wr => ∃ (j : Nat) (pvj : Value), (j : Int) ≤ 0 ∧ i = .int .i64 (j : Int) ∧ Hid (MkI w G0 fr se mo p g' c' K.1 pvj (T.marks p s j ps) wr)) (fun i _ => (0 : Int).toNat + 1 - (intOf i).toNat)
              case atStart => exact ⟨0, _, by omega, rfl, HM.out⟩
              case round =>
                obtain ⟨j, pvj, hj, rfl, H⟩ := hrel
                obtain ⟨oj, cj, rfl, _, hlj⟩ := H.out.v.p.shape
                have hml := T.marks_len ps p s j
                obtain ⟨z0, z1, z2, z3, z4, z5⟩ := H.out.cells
                clear HM
                by_cases hjn : (j : Int) < 0
                · exact absurd hjn (by omega)
                · obtain rfl : j = 0 := by omega
                  have HFi := Lib.hid H.out.fin
                  clear z2 z3 z4 z5
                  go_wp2_with (first | ((with_reducible refine wp_load_R rowF H.out.f ?_ ?_); (kernel_rfl)) | ((with_reducible refine wp_store_R _ rowF HFi.out.1 ?_ ?_ ?_); (kernel_rfl); (kernel_rfl)))
                  refine bodyPost_ret (res_R_tmp rowF (fn := Tryz.f56) rfl _ (HFi.out.1.1.set HFi.out.1.2) rfl) rfl ⟨rfc fr se mo (tbV g' K.1.length c') (.slice oj (T.marks p s 0 ps).length cj), ?_, ?_, HFi.out.2.2⟩
                  · rw [HQ.out]; rfl
                  · rw [HQ.out]; exact HFi.out.2.1

            · have HQ : Hid (q = (⟨fr, se, mo, ss, ps⟩, K.2.2)) := by
                have h1 := hq.out.trans HR.out
                rw [if_neg (by show ¬ (L2.keepR mo ss s).2.2 = 0; rw [← hK.out]; exact hk0)] at h1
                rw [h1, hK.out]; rfl
              obtain ⟨z0, z1, z2, z3, z4, z5⟩ := H.out.cells
              have HFi := Lib.hid H.out.fin
              clear z2 z3 z4 z5
              go_wp2_with (first | ((with_reducible refine wp_load_R rowF H.out.f ?_ ?_); (kernel_rfl)) | ((with_reducible refine wp_store_R _ rowF HFi.out.1 ?_ ?_ ?_); (kernel_rfl); (kernel_rfl)))
              refine bodyPost_ret (res_R_tmp rowF (fn := Tryz.f56) rfl _ (HFi.out.1.1.set HFi.out.1.2) rfl) rfl ⟨rfc fr se mo (tbV g ss.length ct) (.slice oa ps.length ca), ?_, ?_, HFi.out.2.2⟩
              · rw [HQ.out]; rfl
              · rw [HQ.out]; exact HFi.out.2.1
          · have hz1 : 0 < n := by omega
            clear hz
            obtain ⟨z0, z1, z2, z3, z4, z5⟩ := H.out.cells
            have HMy := Lib.hid hmay
            clear hmay
            go_wp2_with (first | ((with_reducible refine wp_load_Rg ?_ rowF H.out.f ?_ ?_); (kernel_rfl); (rfl)) | ((with_reducible refine wp_load_R rowF H.out.f ?_ ?_); (kernel_rfl)))
            refine (RMay_any fr se mo (tbV g ss.length ct) _ HBd (p.1, p.2 + n - 1) ⟨hp.1, by simp only [I64]; omega⟩ _).mono ?_
            rintro e w3 ⟨rfl, hb⟩
            replace H := Lib.hid (H.out.after hb)
            clear hb z0 z1 z2 z3 z4 z5
            cases hmay2 : T.may fr se (p.1, p.2 + n - 1) with
            | false =>
              have HQ := Lib.hid (hq.out.trans (mark_rng (f := ⟨fr, se, mo, ss, ps⟩) ⟨HMy.out, hb2⟩ (.inr (.inr ⟨hz1, hmay2⟩))))
              clear hmay2
              obtain ⟨z0, z1, z2, z3, z4, z5⟩ := H.out.cells
              have HFi := Lib.hid H.out.fin
              clear z2 z3 z4 z5
              go_wp2_with (first | ((with_reducible refine wp_load_R rowF H.out.f ?_ ?_); (kernel_rfl)) | ((with_reducible refine wp_store_R _ rowF HFi.out.1 ?_ ?_ ?_); (kernel_rfl); (kernel_rfl)))
              refine bodyPost_ret (res_R_tmp rowF (fn := Tryz.f56) rfl _ (HFi.out.1.1.set HFi.out.1.2) rfl) rfl ⟨rfc fr se mo (tbV g ss.length ct) (.slice oa ps.length ca), ?_, ?_, HFi.out.2.2⟩
              · rw [HQ.out]; rfl
              · rw [HQ.out]; exact HFi.out.2.1
            | true =>
              have HR := Lib.hid (mark_ok (f := ⟨fr, se, mo, ss, ps⟩) ⟨HMy.out, hb2⟩ ⟨by omega, by omega⟩ (.inr hmay2) _ rfl)
              clear hmay2
              obtain ⟨z0, z1, z2, z3, z4, z5⟩ := H.out.cells
              go_wp2_with (first | ((with_reducible refine wp_load_R rowF H.out.f ?_ ?_); (kernel_rfl)))
              have HSz := Lib.hid H.out.size
              refine (L2.RKeep_any mo g ct ss HSet.out s ⟨x0, x1⟩ _ H.out.v.t).mono ?_
              rintro e w2 ⟨g', c', rfl, hrt, hg', hb⟩
              replace H := Lib.hid (H.out.after hb)
              clear hb z0 z1 z2 z3 z4 z5
              obtain ⟨K, hK⟩ : ∃ K, Hid (K = L2.keepR mo ss s) := ⟨_, rfl⟩
              have hgs := H.out.size
              have hgn : g' ≠ w.heap.size ∧ g' ≠ w.heap.size + 2 := by
                rcases hg' with e | e
                · rw [e]; exact H.out.gl
                · have := HSz.out; omega
              have hgo : G0 g' ∨ w.heap.size ≤ g' := by
                rcases hg' with e | e
                · rw [e]; exact H.out.o g (.inl rfl)
                · exact .inr (by have := HSz.out; omega)
              have HGo := Lib.hid hgo
              have HK := Lib.hid hkl
              have hk1 := hkl s x0
              rw [← hK.out] at hrt hk1
              have HRT := Lib.hid hrt
              unfold L2.rtab
              rw [← hK.out]
              have hkl2 : ((K.1.length : Nat) : Int) ≤ 65536 := hk1
              have y0 := (blk_new w2 #[.int .i64 mo, .slice (some ⟨g', 0, none⟩) K.1.length c'] 56).cell 0
              have y1 := (blk_new w2 #[.int .i64 mo, .slice (some ⟨g', 0, none⟩) K.1.length c'] 56).cell 1
              have hbx : Ok1 2 #[.int .i64 mo, .slice (some ⟨g', 0, none⟩) K.1.length c'] := ⟨rfl, by simp; exact ⟨rfl, rfl⟩⟩
              have hgn2 := Lib.hid hgn
              replace H := Lib.hid (H.out.after (bel1 w2 (.cells #[.int .i64 mo, .slice (some ⟨g', 0, none⟩) K.1.length c'] 56)))
              have HRT2 := Lib.hid (HRT.out.below (bel1 w2 (.cells #[.int .i64 mo, .slice (some ⟨g', 0, none⟩) K.1.length c'] 56)))
              clear hrt hg' hgn hkl hk1 hgo
              by_cases hk0 : K.2.2 = 0
              · have HQ : Hid (q = (⟨fr, se, mo, K.1, T.marks p s n.toNat ps⟩, 0)) := by
                  have h1 := hq.out.trans HR.out
                  rw [if_pos (by show (L2.keepR mo ss s).2.2 = 0; rw [← hK.out]; exact hk0)] at h1
                  rw [h1, hK.out]; rfl
                have HM := Lib.hid (H.out.table HRT2.out hgn2.out HGo.out)
                obtain ⟨z0, z1, z2, z3, z4, z5⟩ := H.out.cells
                clear HR H HRT HRT2
                go_wp2
                generalize ((w2.alloc (.cells #[.int .i64 mo, .slice (some ⟨g', 0, none⟩) K.1.length c'] 56)).setCell ⟨w.heap.size, 2, none⟩ (.int .i64 mo)).setCell ⟨w.heap.size, 3, none⟩ (.slice (some ⟨g', 0, none⟩) K.1.length c') = W5 at HM ⊢
                clear z0 z1 z2 z3 z4 z5 y0 y1
                go_loopw [13] (fun i wr => ∃ (j : Nat) (pvj : Value), (j : Int) ≤ n ∧ i = .int .i64 (j : Int) ∧ Hid (MkI w G0 fr se mo p g' c' K.1 pvj (T.marks p s j ps) wr)) (fun i _ => n.toNat + 1 - (intOf i).toNat)
                case atStart => exact ⟨0, _, by omega, rfl, HM.out⟩
                case round =>
                  obtain ⟨j, pvj, hj, rfl, H⟩ := hrel
                  obtain ⟨oj, cj, rfl, _, hlj⟩ := H.out.v.p.shape
                  have hml := T.marks_len ps p s j
                  obtain ⟨z0, z1, z2, z3, z4, z5⟩ := H.out.cells
                  clear HM
                  by_cases hjn : (j : Int) < n
                  · have hln : (T.marks p s j ps).length ≤ 900000 := by have := hl (by omega) (by omega); omega
                    clear hlj hml
                    go_wp2_with (first | ((with_reducible refine wp_load_R rowF H.out.f ?_ ?_); (kernel_rfl)))
                    refine (RPut_any fr se mo (tv := tbV g' K.1.length c') rfl (p.1, p.2 + j) s H.out.v.p hln).mono ?_
                    rintro e w4 ⟨pv4, rfl, hp4, hlo4, hb4⟩
                    have hz4 := H.out.size
                    obtain ⟨H6, hok6⟩ := (H.out.after hb4).pairs hp4 (fun k hk => by have := hlo4 k hk; exact ⟨by omega, by omega⟩)
                    have HX := Lib.hid (And.intro (H.out.after hb4).f hok6)
                    have H7 := Lib.hid H6
                    clear z0 z1 z2 z3 z4 z5 H hb4 hp4 hlo4 H6 hok6 hln
                    go_wp2_with (first | ((with_reducible refine wp_store_R _ rowF HX.out ?_ ?_ ?_); (kernel_rfl); (kernel_rfl)))
                    refine ⟨⟨j + 1, pv4, by omega, by go_num, H7⟩, ?_⟩
                    simp [intOf]; omega
                  · obtain rfl : n = (j : Int) := by omega
                    have HFi := Lib.hid H.out.fin
                    clear z2 z3 z4 z5
                    go_wp2_with (first | ((with_reducible refine wp_load_R rowF H.out.f ?_ ?_); (kernel_rfl)) | ((with_reducible refine wp_store_R _ rowF HFi.out.1 ?_ ?_ ?_); (kernel_rfl); (kernel_rfl)))
                    refine bodyPost_ret (res_R_tmp rowF (fn := Tryz.f56) rfl _ (HFi.out.1.1.set HFi.out.1.2) rfl) rfl ⟨rfc fr se mo (tbV g' K.1.length c') (.slice oj (T.marks p s j ps).length cj), ?_, ?_, HFi.out.2.2⟩
                    · rw [HQ.out]; rfl
                    · rw [HQ.out]; exact HFi.out.2.1

              · have HQ : Hid (q = (⟨fr, se, mo, ss, ps⟩, K.2.2)) := by
                  have h1 := hq.out.trans HR.out
                  rw [if_neg (by show ¬ (L2.keepR mo ss s).2.2 = 0; rw [← hK.out]; exact hk0)] at h1
                  rw [h1, hK.out]; rfl
                obtain ⟨z0, z1, z2, z3, z4, z5⟩ := H.out.cells
                have HFi := Lib.hid H.out.fin
                clear z2 z3 z4 z5
                go_wp2_with (first | ((with_reducible refine wp_load_R rowF H.out.f ?_ ?_); (kernel_rfl)) | ((with_reducible refine wp_store_R _ rowF HFi.out.1 ?_ ?_ ?_); (kernel_rfl); (kernel_rfl)))
                refine bodyPost_ret (res_R_tmp rowF (fn := Tryz.f56) rfl _ (HFi.out.1.1.set HFi.out.1.2) rfl) rfl ⟨rfc fr se mo (tbV g ss.length ct) (.slice oa ps.length ca), ?_, ?_, HFi.out.2.2⟩
                · rw [HQ.out]; rfl
                · rw [HQ.out]; exact HFi.out.2.1
end Go.Proofs.YtdpdoclhdjhjkaaGreat
namespace Go.Proofs.YtdpdoclhdjhjkaaGreat
open Go.RowKit
set_option maxHeartbeats 8000000
set_option maxRecDepth 100000
set_option linter.unusedVariables false
set_option linter.unusedSimpArgs false

theorem infoU32 : (Tryz.prog.info? 31).map (fun i => (i.zero, i.size, i.bytes)) = some (some (.int .u32 0), 1, 4) := by kernel_rfl
theorem u_src (w : World) (x : Int) : Src Tryz.prog 1 48 (.slice (some ⟨w.heap.size, 0, none⟩) 1 1) 1 [.int .u32 x] (w.alloc (.cells #[.int .u32 x] 31)) := by
  refine Src.ofSlice _ Tryz.underlying48 _ 1 1 _ rfl (fun j u hj => ?_) (fun u hu => ?_)
  · rw [add_lit, (blk_new w _ _).cell, Nat.zero_add]
    simpa using hj
  · simp at hu
    subst hu; rfl
/-- The boxes of Apply, the flow as it is so far, and the sets so far. -/
structure ApI (w : World) (G0 : Nat → Prop) (fr se mo : Int) (g ct : Nat) (ss : List Int) (pv : Value) (ps : List T.Pr) (sv : Value) (sl : List Int) (W : World) : Prop where
  b : Below w.heap.size w W
  f : Rf 59 5 W w.heap.size (rfc fr se mo (tbV g ss.length ct) pv)
  r : Rf 59 5 W (w.heap.size + 1) zF
  v : RvI W ⟨fr, se, mo, ss, ps⟩ g ct pv
  lo : ∀ k, rdBlk pv = some k → k ≠ w.heap.size ∧ k ≠ w.heap.size + 1 ∧ ∀ j, blkOf sv = some j → k ≠ j
  gl : g ≠ w.heap.size ∧ g ≠ w.heap.size + 1
  s : Gs 31 1 W sv sl.length (sl.map (Value.int .u32))
  sg : ∀ k, blkOf sv = some k → w.heap.size + 2 ≤ k ∧ k ≠ g
  o : ∀ k, rvB g pv k → G0 k ∨ w.heap.size ≤ k
section
variable {w W W' : World} {G0 : Nat → Prop} {fr se mo : Int} {g ct : Nat} {ss sl : List Int} {pv sv : Value} {ps : List T.Pr}
theorem ApI.after (h : ApI w G0 fr se mo g ct ss pv ps sv sl W) (hb : Below W.heap.size W W') : ApI w G0 fr se mo g ct ss pv ps sv sl W' := ⟨h.b.trans (hb.mono h.b.size), h.f.below hb, h.r.below hb, h.v.below hb, h.lo, h.gl, h.s.below hb, h.sg, h.o⟩
theorem ApI.size (h : ApI w G0 fr se mo g ct ss pv ps sv sl W) : w.heap.size + 2 ≤ W.heap.size := h.r.lt
theorem ApI.cells (h : ApI w G0 fr se mo g ct ss pv ps sv sl W) : W.cell? ⟨w.heap.size, 2, none⟩ = some (.int .i64 mo) ∧ W.cell? ⟨w.heap.size, 3, none⟩ = some (tbV g ss.length ct) ∧ W.frozen? ⟨w.heap.size, 2, none⟩ = false ∧ W.frozen? ⟨w.heap.size, 3, none⟩ = false :=
  ⟨h.f.cell 2, h.f.cell 3, h.f.blk.frozen 2, h.f.blk.frozen 3⟩
theorem ApI.table (h : ApI w G0 fr se mo g ct ss pv ps sv sl W) {g' ct' : Nat} {ss' : List Int} (ht : L2.RT W g' ct' ss') (hg : g' ≠ w.heap.size ∧ g' ≠ w.heap.size + 1) (hs : ∀ k, blkOf sv = some k → k ≠ g') (ho : G0 g' ∨ w.heap.size ≤ g') :
    ApI w G0 fr se mo g' ct' ss' pv ps sv sl ((W.setCell ⟨w.heap.size, 2, none⟩ (.int .i64 mo)).setCell ⟨w.heap.size, 3, none⟩ (tbV g' ss'.length ct')) := by
  have tt : Turned (fun k => k = w.heap.size) W ((W.setCell ⟨w.heap.size, 2, none⟩ (.int .i64 mo)).setCell ⟨w.heap.size, 3, none⟩ (tbV g' ss'.length ct')) := ((Turned.refl (fun k => k = w.heap.size) W).setCell (.inl rfl) _).setCell (.inl rfl) _
  refine ⟨h.b.trans (tt.below h.b.size (fun k e => by omega)), ⟨?_, rfl, (rfc_ok fr se mo rfl h.v.p.one).2⟩, h.r.turned tt (by omega), ⟨?_, ?_⟩, h.lo, hg, h.s.turned tt (fun k hk e => by have := h.sg k hk; omega), fun k hk => ⟨(h.sg k hk).1, hs k hk⟩, fun k hk => by rcases hk with rfl | e; exact ho; exact h.o k (.inr e)⟩
  · have := (h.f.blk.setCell 2 (.int .i64 mo)).setCell 3 (tbV g' ss'.length ct')
    exact this
  · exact ht.kept (toL2 tt) (by simpa using hg.1)
  · exact h.v.p.stay fun k hk => tt.block k (Rd.lt h.v.p (by omega) hk) (h.lo k hk).1
theorem ApI.app (h : ApI w G0 fr se mo g ct ss pv ps sv sl W) {sv' : Value} {x : Int} (hg : Gs 31 1 W' sv' (sl.length + 1) (sl.map (Value.int .u32) ++ [.int .u32 x])) (ht : Turned (fun k => blkOf sv = some k) W W') (hn : ∀ k, blkOf sv' = some k → blkOf sv = some k ∨ W.heap.size ≤ k) :
    ApI w G0 fr se mo g ct ss pv ps sv' (sl ++ [x]) W' := by
  have hz := h.size
  refine ⟨h.b.trans (ht.below h.b.size (fun k e => by have := h.sg k e; omega)), h.f.turned ht (fun e => by have := h.sg _ e; omega), h.r.turned ht (fun e => by have := h.sg _ e; omega), ⟨?_, ?_⟩, fun k hk => ⟨(h.lo k hk).1, (h.lo k hk).2.1, fun j hj => ?_⟩, h.gl, ?_, fun k hk => ?_, h.o⟩
  · have : ∀ k, blkOf sv = some k → k ≠ g := fun k hk => (h.sg k hk).2
    have tl : g < W.heap.size := h.v.t.lt
    refine L2.Turned.row (F := (blkOf sv).toList) ⟨ht.os, ht.tape, ht.output, ht.size, fun k hk hn' => ht.block k hk (fun e => hn' (by rw [e]; simp))⟩ h.v.t (fun k e => ?_)
    simp [Value.ownBlock] at e
    subst e
    intro hm
    cases hb : blkOf sv with
    | none => rw [hb] at hm; cases hm
    | some j => rw [hb] at hm; simp at hm; exact this j hb hm.symm
  · exact h.v.p.stay fun k hk => ht.block k (Rd.lt h.v.p (by omega) hk) (fun e => (h.lo k hk).2.2 k e rfl)
  · rcases hn j hj with e | e
    · exact (h.lo k hk).2.2 j e
    · have := Rd.lt h.v.p (by omega) hk; omega
  · rw [List.length_append, List.length_singleton, List.map_append]; exact hg
  · rcases hn k hk with e | e
    · exact h.sg k e
    · have : g < W.heap.size := h.v.t.lt; omega
theorem ApI.pairs (h : ApI w G0 fr se mo g ct ss pv ps sv sl W) {pv' : Value} {ps' : List T.Pr} (hp : PrIn W pv' ps') (hl : ∀ k, rdBlk pv' = some k → (k ≠ w.heap.size ∧ k ≠ w.heap.size + 1 ∧ ∀ j, blkOf sv = some j → k ≠ j) ∧ w.heap.size ≤ k) :
    ApI w G0 fr se mo g ct ss pv' ps' sv sl (W.setRow w.heap.size (rfc fr se mo (tbV g ss.length ct) pv')) ∧ Ok1 5 (rfc fr se mo (tbV g ss.length ct) pv') := by
  have tt := turned_setRow W w.heap.size (rfc fr se mo (tbV g ss.length ct) pv')
  have hok : Ok1 5 (rfc fr se mo (tbV g ss.length ct) pv') := rfc_ok _ _ _ rfl hp.one
  refine ⟨⟨h.b.trans (tt.below h.b.size (fun k e => by omega)), h.f.set hok, h.r.turned tt (by omega), ⟨h.v.t.kept (toL2 tt) (by simpa using h.gl.1), ?_⟩, fun k hk => (hl k hk).1, h.gl, h.s.turned tt (fun k hk e => by have := h.sg k hk; omega), h.sg, fun k hk => by rcases hk with e | e; exact h.o k (.inl e); exact .inr (hl k e).2⟩, hok⟩
  exact hp.stay fun k hk => tt.block k (Rd.lt hp (by omega) hk) (hl k hk).1.1
theorem ApI.fin (h : ApI w G0 fr se mo g ct ss pv ps sv sl W) : (Rf 59 5 W (w.heap.size + 1) zF ∧ Ok1 5 (rfc fr se mo (tbV g ss.length ct) pv)) ∧
    RvO w G0 (W.setRow (w.heap.size + 1) (rfc fr se mo (tbV g ss.length ct) pv)) ⟨fr, se, mo, ss, ps⟩ (rfc fr se mo (tbV g ss.length ct) pv) ∧ Below w.heap.size w (W.setRow (w.heap.size + 1) (rfc fr se mo (tbV g ss.length ct) pv)) := by
  have tt := turned_setRow W (w.heap.size + 1) (rfc fr se mo (tbV g ss.length ct) pv)
  refine ⟨⟨h.r, rfc_ok _ _ _ rfl h.v.p.one⟩, ⟨g, ct, pv, rfl, ⟨?_, ?_⟩, h.o⟩, h.b.trans (tt.below h.b.size (fun k e => by omega))⟩
  · exact h.v.t.kept (toL2 tt) (by simpa using h.gl.2)
  · exact h.v.p.stay fun k hk => tt.block k (Rd.lt h.v.p (by omega) hk) (h.lo k hk).2.1
end
theorem apply_arg {f : T.Fl} {l : List T.Tc} (h : T.mayAll f.fr f.se l = false) : f.apply l = (f, 2) := by unfold T.Fl.apply; rw [if_pos h]
theorem apply_ok {f : T.Fl} {l : List T.Tc} (h : T.mayAll f.fr f.se l = true) (k : List Int × Int) (hk : T.keeps f.mo f.ps f.ss l = k) : f.apply l = if k.2 = 0 then ({ f with ss := k.1, ps := T.lays f.ps f.ps l }, 0) else ({ f with ss := k.1 }, k.2) := by
  unfold T.Fl.apply; rw [if_neg (by simp [h]), hk]
theorem keeps_drop {mo : Int} {ps : List T.Pr} {ss : List Int} {ts : List T.Tc} {k : Nat} {t : T.Tc} (h : ts[k]? = some t) : T.keeps mo ps ss (ts.drop k) = if t.1 = T.none0 then T.keeps mo ps ss (ts.drop (k + 1)) else if (T.keep mo ss (T.tog ps 0 t.2)).2 = 0 then T.keeps mo ps (T.keep mo ss (T.tog ps 0 t.2)).1 (ts.drop (k + 1)) else T.keep mo ss (T.tog ps 0 t.2) := by
  obtain ⟨h1, h2⟩ := List.getElem?_eq_some_iff.1 h
  rw [List.drop_eq_getElem_cons h1, h2]; rfl
theorem lays_drop {ps o : List T.Pr} {ts : List T.Tc} {k : Nat} {t : T.Tc} (h : ts[k]? = some t) : T.lays ps o (ts.drop k) = T.lays ps (if t.1 = T.none0 then o else T.put o t.1 (T.tog ps 0 t.2)) (ts.drop (k + 1)) := by
  obtain ⟨h1, h2⟩ := List.getElem?_eq_some_iff.1 h
  rw [List.drop_eq_getElem_cons h1, h2]; rfl
theorem gives_bd {ps : List T.Pr} (h : T.Small ps) (t : T.Tc) : 0 ≤ T.gives ps t ∧ T.gives ps t < 65536 := by
  unfold T.gives
  split
  · omega
  · exact h.tog (by omega) _
theorem gives_succ (ps : List T.Pr) (ts : List T.Tc) (k : Nat) (t : T.Tc) (h : ts[k]? = some t) : (ts.take (k + 1)).map (T.gives ps) = (ts.take k).map (T.gives ps) ++ [T.gives ps t] := by
  rw [List.take_add_one, h]; simp
theorem Gs.u32at {w : World} {v : Value} {sl : List Int} (h : Gs 31 1 w v sl.length (sl.map (Value.int .u32))) {k : Nat} {x : Int} (hk : sl[k]? = some x) : ∃ g o c, v = .slice (some ⟨g, o, none⟩) sl.length c ∧ w.cell? ⟨g, o + k, none⟩ = some (.int .u32 x) := by
  obtain ⟨g, o, c, e, h1, _⟩ := h.cell (j := k) (u := .int .u32 x) (by rw [List.getElem?_map, hk]; rfl)
  exact ⟨g, o, c, e, h1⟩
theorem setRow_cell (W : World) (B : Nat) (c : Array Value) {g o : Nat} (h : g ≠ B) : (W.setRow B c).cell? ⟨g, o, none⟩ = W.cell? ⟨g, o, none⟩ := by
  unfold World.cell?
  rw [setRow_other W B g c h]
end Go.Proofs.YtdpdoclhdjhjkaaGreat
namespace Go.Proofs.YtdpdoclhdjhjkaaGreat
open Go.RowKit
set_option maxHeartbeats 8000000
set_option maxRecDepth 100000
set_option linter.unusedVariables false
set_option linter.unusedSimpArgs false

theorem RApply_any {w : World} {fr se mo : Int} {g ct : Nat} {ss : List Int} {pv v : Value} {ps : List T.Pr} {ts : List T.Tc} (h : RvI w ⟨fr, se, mo, ss, ps⟩ g ct pv) (HBd : Bd fr se) (hs : L2.Sets mo ss) (hsm : T.Small ps) (hv : TsIn w v ts) (hl : ps.length + ts.length ≤ 900000) :
    Calls Tryz.prog 59 #[.agg (rfc fr se mo (tbV g ss.length ct) pv), v] w fun e w' => ∃ c, e = .returned (.tuple #[.agg c, .int .i64 ((T.Fl.mk fr se mo ss ps).apply ts).2]) ∧ RvO w (rvB g pv) w' ((T.Fl.mk fr se mo ss ps).apply ts).1 c ∧ Below w.heap.size w w' := by
  obtain ⟨q, hq⟩ : ∃ q, Hid (q = (T.Fl.mk fr se mo ss ps).apply ts) := ⟨_, rfl⟩
  rw [← hq.out]
  obtain ⟨G0, hG0⟩ : ∃ G0, G0 = rvB g pv := ⟨_, rfl⟩
  rw [← hG0]
  have hpc : PrIn w pv ps := h.p
  have HPv := Lib.hid (fun k hk => (show k < w.heap.size from Rd.lt hpc (by omega) hk))
  have H : Hid (ApI w G0 fr se mo g ct ss pv ps (.slice none 0 0) [] ((w.alloc (.cells (rfc fr se mo (tbV g ss.length ct) pv) 59)).alloc (.cells zF 59))) := by
    have h1 := (rfc_ok fr se mo (tv := tbV g ss.length ct) rfl hpc.one).new 59 w
    have h3 := zF_ok.new 59 (w.alloc (.cells (rfc fr se mo (tbV g ss.length ct) pv) 59))
    simp only [World.size_alloc] at h3
    have hb : Below w.heap.size w ((w.alloc (.cells (rfc fr se mo (tbV g ss.length ct) pv) 59)).alloc (.cells zF 59)) := bel2 w _ _
    refine ⟨hb, h1.alloc _, h3, h.below hb, fun k hk => ?_, ?_, Gs.nil _ _ _, (fun k hk => by simp [blkOf] at hk), fun k hk => .inl (by rw [hG0]; exact hk)⟩
    · have := HPv.out k hk; exact ⟨by omega, by omega, fun j hj => by simp [blkOf] at hj⟩
    · have : g < w.heap.size := h.t.lt; omega
  have HA := Lib.hid (fun W (hb : Below w.heap.size w W) => (show TsIn W v ts from hv.below hb))
  obtain ⟨oa, ca, rfl, _, hla⟩ := hpc.shape
  obtain ⟨ov, cv, rfl, _, hlv⟩ := hv.shape
  unfold maxLen at hlv
  have HSet := Lib.hid hs
  clear h hpc hs hv hG0
  go_enter Tryz.func59, Tryz.ntmps59
  go_wp2_with (first | ((with_reducible refine wp_load_R rowF H.out.f ?_ ?_); (kernel_rfl)))
  refine (RMayAll_any fr se mo HBd (tv := tbV g ss.length ct) rfl H.out.v.p.one (HA.out _ H.out.b)).mono ?_
  rintro e w1 ⟨rfl, hb⟩
  replace H := Lib.hid (H.out.after hb)
  clear hb
  cases hmay : T.mayAll fr se ts with
  | false =>
    have HQ := Lib.hid (hq.out.trans (apply_arg (f := ⟨fr, se, mo, ss, ps⟩) hmay))
    clear hmay
    have HFi := Lib.hid H.out.fin
    go_wp2_with (first | ((with_reducible refine wp_load_R rowF H.out.f ?_ ?_); (kernel_rfl)) | ((with_reducible refine wp_store_R _ rowF HFi.out.1 ?_ ?_ ?_); (kernel_rfl); (kernel_rfl)))
    refine bodyPost_ret (res_R_tmp rowF (fn := Tryz.f59) rfl _ (HFi.out.1.1.set HFi.out.1.2) rfl) rfl ⟨rfc fr se mo (tbV g ss.length ct) (.slice oa ps.length ca), ?_, ?_, HFi.out.2.2⟩
    · rw [HQ.out]; rfl
    · rw [HQ.out]; exact HFi.out.2.1
  | true =>
    have HR := Lib.hid (apply_ok (f := ⟨fr, se, mo, ss, ps⟩) hmay (T.keeps mo ps ss ts) rfl)
    obtain ⟨KK, hKK⟩ : ∃ KK, Hid (KK = T.keeps mo ps ss ts) := ⟨_, rfl⟩
    clear hmay
    go_wp2
    go_loopw [6, 7] (fun sv i wr => ∃ (k g1 c1 : Nat) (s1 : List Int) (svv : Value), k ≤ ts.length ∧ sv = svv ∧ i = .int .i64 (k : Int) ∧ Hid (ApI w G0 fr se mo g1 c1 s1 (.slice oa ps.length ca) ps svv ((ts.take k).map (T.gives ps)) wr) ∧ Hid (KK = T.keeps mo ps s1 (ts.drop k)) ∧ Hid (L2.Sets mo s1)) (fun _ i _ => ts.length + 1 - (intOf i).toNat)
    case atStart => exact ⟨0, g, ct, ss, _, by omega, rfl, rfl, H.out, hKK.out, HSet.out⟩
    case round =>
      obtain ⟨k, g1, c1, s1, sv, hk, rfl, rfl, H, HQk, HSt⟩ := hrel
      obtain ⟨sl, hsl0⟩ : ∃ sl, Hid (sl = (ts.take k).map (T.gives ps)) := ⟨_, rfl⟩
      rw [← hsl0.out] at H
      obtain ⟨os, cs, es, _⟩ := H.out.s.shape
      have hsl : sl.length = k := by rw [hsl0.out]; simp; omega
      rw [hsl] at es
      subst es
      by_cases hlt : k < ts.length
      · have hi : (k : Int) < (ts.length : Int) := by omega
        obtain ⟨gt, ot, ctt, tc, fv, e1, l1, hpi, hpl, r1⟩ := (HA.out _ H.out.b).at_ hlt
        obtain ⟨oc, cc, rfl, _, hlm⟩ := hpl.shape
        obtain ⟨q1, q2, q3⟩ := rng3 r1
        simp at e1
        obtain ⟨rfl, rfl⟩ := e1
        have hkd := keeps_drop (mo := mo) (ps := ps) (ss := s1) l1
        have hgs := gives_succ ps ts k tc l1
        rw [← hsl0.out] at hgs
        by_cases hc : tc.1 = T.none0
        · have hne := neq_place tc.1 T.none0
          rw [decide_eq_true hc] at hne
          simp only [Bool.not_true] at hne
          unfold T.none0 at hne
          rw [if_pos hc] at hkd
          have hg0 : T.gives ps tc = 0 := by unfold T.gives; rw [if_pos hc]
          rw [hg0] at hgs
          have HGs := Lib.hid hgs
          have HQ2 := Lib.hid (HQk.out.trans hkd)
          clear hkd hgs hg0 hc r1 l1 hpl
          have HG := Lib.hid ((H.out.after (bel1 wr (.cells #[.int .u32 0] 31))).s)
          have hsr := u_src wr 0
          try simp only [World.size_alloc] at hsr
          have HSr := Lib.hid hsr
          have HA2 := Lib.hid (H.out.after (bel1 wr (.cells #[.int .u32 0] 31)))
          go_wp2_with (first | (at_builtin; refine wp_append_g rfl _ _ rfl Tryz.underlying48 infoU32 rfl (by omega) (by omega) rfl rfl HG.out HSr.out (by simp; omega) ?_))
          intro sv2 w2 hg ht hn
          have H := Lib.hid (HA2.out.app (by rw [hsl]; exact hg) ht (by simp only [World.size_alloc]; exact hn))
          clear HG HSr HA2 hg ht hn
          rw [← HGs.out] at H
          go_wp2
          refine ⟨⟨k + 1, g1, c1, s1, sv2, by omega, rfl, by go_num, H, HQ2, HSt⟩, ?_⟩
          simp [intOf]; omega
        · have hne := neq_place tc.1 T.none0
          rw [decide_eq_false hc] at hne
          simp only [Bool.not_false] at hne
          unfold T.none0 at hne
          rw [if_neg hc] at hkd
          have hxb := hsm.tog (s := 0) (by omega) tc.2
          have hg0 : T.gives ps tc = T.tog ps 0 tc.2 := by unfold T.gives; rw [if_neg hc]
          rw [hg0] at hgs
          obtain ⟨x, hx⟩ : ∃ x, Hid (x = T.tog ps 0 tc.2) := ⟨_, rfl⟩
          rw [← hx.out] at hkd hgs hxb
          have HGs := Lib.hid hgs
          have HKd := Lib.hid hkd
          obtain ⟨hx0, hx1⟩ := hxb
          have hfa : Fa wr (tbV g1 s1.length c1) (.slice oa ps.length ca) ps := ⟨rfl, H.out.v.p, hsm⟩
          have hS : Hl (fun W => Rf 59 5 W w.heap.size (rfc fr se mo (tbV g1 s1.length c1) (.slice oa ps.length ca)) ∧ W.cell? ⟨gt, ot + k * 3 + 2, none⟩ = some (.slice oc tc.2.length cc) ∧ Fa W (tbV g1 s1.length c1) (.slice oa ps.length ca) ps ∧ PlsIn W (.slice oc tc.2.length cc) tc.2) wr wr.drew := Hl.start ((st_rf _ _ _ _).and ((st_cell _ _).and ((st_fa _ _ _).and (st_pls _ _)))) ⟨H.out.f, q3, hfa, hpl⟩
          clear hkd hgs hg0 hc r1 l1 hpl hfa
          go_wp2
          refine wp_region_held_drew (S := fun W => Rf 59 5 W w.heap.size (rfc fr se mo (tbV g1 s1.length c1) (.slice oa ps.length ca)) ∧ W.cell? ⟨gt, ot + k * 3 + 2, none⟩ = some (.slice oc tc.2.length cc) ∧ Fa W (tbV g1 s1.length c1) (.slice oa ps.length ca) ps ∧ PlsIn W (.slice oc tc.2.length cc) tc.2) (by kernel_rfl) hS.i (fun _ => ?_)
          refine Dense.tv 0 (some 31) rfl (y_R rowF (by rfl) rfl rfl (fun W hW => hW.1)) hS.i ?_
          refine Dense.tk 1 (some 32) hS.i ?_
          refine Dense.tk 2 (some 33) hS.i ?_
          refine Dense.tk 3 (some 34) hS.i ?_ (hy := by intro W hW; obtain ⟨q0, q1, q2, q3⟩ := hW; go_simp; try with_reducible rfl)
          refine Dense.tk 4 (some 35) hS.i ?_ (hy := by intro W hW; obtain ⟨q0, q1, q2, q3⟩ := hW; go_simp; try with_reducible rfl)
          refine Dense.tk 5 (some 36) hS.i ?_ (hy := by intro W hW; obtain ⟨q0, q1, q2, q3⟩ := hW; go_simp; try with_reducible rfl)
          refine Dense.o1 6 ?_
          go_simp
          refine (Rtog_any fr se mo hS.i.2.2.1 hS.i.2.2.2).mono ?_
          rintro e wc ⟨rfl, hb⟩
          replace hS := hS.after ((st_rf _ _ _ _).and ((st_cell _ _).and ((st_fa _ _ _).and (st_pls _ _)))) hb
          clear hb
          refine ⟨hS.i, ?_⟩
          refine Dense.nm ?_
          refine Dense.tk 7 (some 8) hS.i ?_
          refine wpAnyH_done (by kernel_rfl) ?_ _
          have HB9 := hS.b
          have H := Lib.hid (H.out.after HB9)
          clear hS HB9 q3 hne
          rw [← hx.out]
          obtain ⟨z2, z3, z4, z5⟩ := H.out.cells
          go_wp2_with fail
          have HSz := Lib.hid H.out.size
          have HSg := Lib.hid (fun j hj => (show j < _ from H.out.s.lt hj))
          refine (L2.RKeep_any mo g1 c1 s1 HSt.out x ⟨by omega, by omega⟩ _ H.out.v.t).mono ?_
          rintro e w2 ⟨g', c', rfl, hrt, hg', hb⟩
          have hgn : (g' ≠ w.heap.size ∧ g' ≠ w.heap.size + 1) ∧ (∀ j, blkOf (.slice os k cs) = some j → j ≠ g') := by
            rcases hg' with e | e
            · rw [e]; exact ⟨H.out.gl, fun j hj => (H.out.sg j hj).2⟩
            · refine ⟨by have := HSz.out; omega, fun j hj => ?_⟩
              have := HSg.out j hj
              omega
          have hgo : G0 g' ∨ w.heap.size ≤ g' := by
            rcases hg' with e | e
            · rw [e]; exact H.out.o g1 (.inl rfl)
            · exact .inr (by have := HSz.out; omega)
          have HGo := Lib.hid hgo
          replace H := Lib.hid (H.out.after hb)
          obtain ⟨K, hK⟩ : ∃ K, Hid (K = L2.keepR mo s1 x) := ⟨_, rfl⟩
          have hs2 : L2.Sets mo K.1 := by rw [hK.out]; exact HSt.out.keep (by omega)
          have hkl : ((K.1.length : Nat) : Int) ≤ 65536 := by have := hs2.len; have := hs2.most; omega
          have HSt2 := Lib.hid hs2
          clear hb z2 z3 z4 z5 hs2
          rw [← hK.out] at hrt
          have HRT := Lib.hid hrt
          unfold L2.rtab
          rw [← hK.out]
          have y0 := (blk_new w2 #[.int .i64 mo, .slice (some ⟨g', 0, none⟩) K.1.length c'] 56).cell 0
          have y1 := (blk_new w2 #[.int .i64 mo, .slice (some ⟨g', 0, none⟩) K.1.length c'] 56).cell 1
          have hbx : Ok1 2 #[.int .i64 mo, .slice (some ⟨g', 0, none⟩) K.1.length c'] := ⟨rfl, by simp; exact ⟨rfl, rfl⟩⟩
          have hgn2 := Lib.hid hgn
          replace H := Lib.hid (H.out.after (bel1 w2 (.cells #[.int .i64 mo, .slice (some ⟨g', 0, none⟩) K.1.length c'] 56)))
          have HRT2 := Lib.hid (HRT.out.below (bel1 w2 (.cells #[.int .i64 mo, .slice (some ⟨g', 0, none⟩) K.1.length c'] 56)))
          clear hrt hg' hgn hgo
          have hkp : T.keep mo s1 x = (K.1, K.2.2) := by unfold T.keep; rw [← hK.out]
          have hkd := HKd.out
          rw [hkp] at hkd
          by_cases hk0 : K.2.2 = 0
          · rw [if_pos hk0] at hkd
            have HQ2 := Lib.hid (HQk.out.trans hkd)
            have HM := Lib.hid (H.out.table HRT2.out hgn2.out.1 hgn2.out.2 HGo.out)
            obtain ⟨z2, z3, z4, z5⟩ := H.out.cells
            clear H HRT HRT2 hkd hkp HQk
            have HG := Lib.hid ((HM.out.after (bel1 _ (.cells #[.int .u32 x] 31))).s)
            have hsr := u_src (((w2.alloc (.cells #[.int .i64 mo, .slice (some ⟨g', 0, none⟩) K.1.length c'] 56)).setCell ⟨w.heap.size, 2, none⟩ (.int .i64 mo)).setCell ⟨w.heap.size, 3, none⟩ (.slice (some ⟨g', 0, none⟩) K.1.length c')) x
            have hez : (((w2.alloc (.cells #[.int .i64 mo, .slice (some ⟨g', 0, none⟩) K.1.length c'] 56)).setCell ⟨w.heap.size, 2, none⟩ (.int .i64 mo)).setCell ⟨w.heap.size, 3, none⟩ (.slice (some ⟨g', 0, none⟩) K.1.length c')).heap.size = w2.heap.size + 1 := by simp [World.setCell]
            rw [hez] at hsr
            have HSr := Lib.hid hsr
            have HA2 := Lib.hid (HM.out.after (bel1 _ (.cells #[.int .u32 x] 31)))
            clear hsr HM
            go_wp2_with (first | (at_builtin; refine wp_append_g rfl _ _ rfl Tryz.underlying48 infoU32 rfl (by omega) (by omega) rfl rfl HG.out HSr.out (by simp; omega) ?_))
            intro sv2 w3 hg ht hn
            have H := Lib.hid (HA2.out.app (by rw [hsl]; exact hg) ht (by simp only [World.size_alloc, hez]; exact hn))
            clear HG HSr HA2 hg ht hn y0 y1 z2 z3 z4 z5
            rw [← HGs.out] at H
            go_wp2
            refine ⟨⟨k + 1, g', c', K.1, sv2, by omega, rfl, by go_num, H, HQ2, HSt2⟩, ?_⟩
            simp [intOf]; omega
          · have HQ : Hid (q = (⟨fr, se, mo, s1, ps⟩, K.2.2)) := by
              rw [if_neg hk0] at hkd
              have he : K = (s1, 0, 120) := by
                rw [hK.out]; exact L2.keepR_err ⟨hx0, hx1⟩ (by rw [← hK.out]; exact hk0)
              have e1 : T.keeps mo ps ss ts = (K.1, K.2.2) := hKK.out.symm.trans (HQk.out.trans hkd)
              have h1 := hq.out.trans HR.out
              rw [e1, if_neg hk0] at h1
              rw [h1, he]; rfl
            have HFi := Lib.hid H.out.fin
            go_wp2_with (first | ((with_reducible refine wp_load_R rowF H.out.f ?_ ?_); (kernel_rfl)) | ((with_reducible refine wp_store_R _ rowF HFi.out.1 ?_ ?_ ?_); (kernel_rfl); (kernel_rfl)))
            refine bodyPost_ret (res_R_tmp rowF (fn := Tryz.f59) rfl _ (HFi.out.1.1.set HFi.out.1.2) rfl) rfl ⟨rfc fr se mo (tbV g1 s1.length c1) (.slice oa ps.length ca), ?_, ?_, HFi.out.2.2⟩
            · rw [HQ.out]; rfl
            · rw [HQ.out]; exact HFi.out.2.1
      · obtain rfl : k = ts.length := by omega
        have hkn := HQk.out
        rw [List.drop_length] at hkn
        have HQ0 : Hid (q = (⟨fr, se, mo, s1, T.lays ps ps ts⟩, 0)) := by
          have h1 := hq.out.trans HR.out
          rw [← hKK.out, hkn] at h1
          exact Lib.hid h1
        obtain ⟨LL, hLL⟩ : ∃ LL, Hid (LL = T.lays ps ps ts) := ⟨_, rfl⟩
        rw [← hLL.out] at HQ0
        clear hkn
        have HSl := Lib.hid hsl0.out
        go_wp2
        go_loopw [12] (fun i wr => ∃ (j : Nat) (pvj : Value) (oj : List T.Pr), j ≤ ts.length ∧ i = .int .i64 (j : Int) ∧ oj.length ≤ ps.length + j ∧ Hid (ApI w G0 fr se mo g1 c1 s1 pvj oj (.slice os ts.length cs) sl wr) ∧ Hid (LL = T.lays ps oj (ts.drop j))) (fun i _ => ts.length + 1 - (intOf i).toNat)
        case atStart => exact ⟨0, _, ps, by omega, rfl, by omega, H.out, hLL.out⟩
        case round =>
          obtain ⟨j, pvj, oj, hj, rfl, hoj, H, HL⟩ := hrel
          obtain ⟨opj, cpj, rfl, _, _⟩ := H.out.v.p.shape
          by_cases hjt : j < ts.length
          · have hi2 : (j : Int) < (ts.length : Int) := by omega
            obtain ⟨gt, ot, ctt, tc, fv, e1, l1, hpi, hpl, r1⟩ := (HA.out _ H.out.b).at_ hjt
            obtain ⟨q1, q2, _⟩ := rng3 r1
            simp at e1
            obtain ⟨rfl, rfl⟩ := e1
            have hgt : gt < w.heap.size := by
              obtain ⟨g3, o3, c3, t3, f3, e3, _, _, _, r3⟩ := (HA.out _ (Below.refl _ _)).at_ hjt
              simp at e3
              rw [e3.1.1]
              exact World.block_lt_of_cell? _ _ (rng3 r3).1
            have hld := HL.out.trans (lays_drop l1)
            have hln : oj.length ≤ 900000 := by omega
            by_cases hc : tc.1 = T.none0
            · have hne := neq_place tc.1 T.none0
              rw [decide_eq_true hc] at hne
              simp only [Bool.not_true] at hne
              unfold T.none0 at hne
              rw [if_pos hc] at hld
              have HL2 := Lib.hid hld
              clear hld hc r1 l1 hpl
              go_wp2
              refine ⟨⟨j + 1, _, oj, by omega, by go_num, by omega, H, HL2⟩, ?_⟩
              simp [intOf]; omega
            · have hne := neq_place tc.1 T.none0
              rw [decide_eq_false hc] at hne
              simp only [Bool.not_false] at hne
              unfold T.none0 at hne
              rw [if_neg hc] at hld
              have hxe : sl[j]? = some (T.tog ps 0 tc.2) := by
                rw [HSl.out, List.getElem?_map, List.take_length, l1]
                simp [T.gives, hc]
              obtain ⟨gs, os2, cs2, es, hsc⟩ := H.out.s.u32at hxe
              rw [hsl] at es
              simp at es
              obtain ⟨rfl, rfl⟩ := es
              obtain ⟨x, hx⟩ : ∃ x, Hid (x = T.tog ps 0 tc.2) := ⟨_, rfl⟩
              rw [← hx.out] at hld hsc
              have hgs : gs ≠ w.heap.size := by
                have := (H.out.sg gs (by simp [blkOf]; omega)).1; omega
              have HL2 := Lib.hid hld
              have hS : Hl (fun W => W.cell? ⟨gt, ot + j * 3, none⟩ = some (.int .i64 tc.1.1) ∧ W.cell? ⟨gt, ot + j * 3 + 1, none⟩ = some (.int .i64 tc.1.2) ∧ W.cell? ⟨gs, os2 + j, none⟩ = some (.int .u32 x)) wr wr.drew := Hl.start ((st_cell _ _).and ((st_cell _ _).and (st_cell _ _))) ⟨q1, q2, hsc⟩
              clear hld hc r1 l1 hpl hxe
              go_wp2
              refine wp_region_held_drew (S := fun W => W.cell? ⟨gt, ot + j * 3, none⟩ = some (.int .i64 tc.1.1) ∧ W.cell? ⟨gt, ot + j * 3 + 1, none⟩ = some (.int .i64 tc.1.2) ∧ W.cell? ⟨gs, os2 + j, none⟩ = some (.int .u32 x)) (by kernel_rfl) hS.i (fun _ => ?_)
              refine Dense.tk 1 (some 70) hS.i ?_
              refine Dense.tk 2 (some 71) hS.i ?_
              refine Dense.tk 3 (some 72) hS.i ?_ (hy := by intro W hW; obtain ⟨q0, q1, q2⟩ := hW; go_simp; try with_reducible rfl)
              refine Dense.tk 4 (some 73) hS.i ?_ (hy := by intro W hW; obtain ⟨q0, q1, q2⟩ := hW; go_simp; try with_reducible rfl)
              refine Dense.tk 5 (some 74) hS.i ?_ (hy := by intro W hW; obtain ⟨q0, q1, q2⟩ := hW; go_simp; try with_reducible rfl)
              refine Dense.tk 6 (some 75) hS.i ?_
              refine Dense.tk 7 (some 76) hS.i ?_
              refine Dense.tk 8 (some 77) hS.i ?_ (hy := by intro W hW; obtain ⟨q0, q1, q2⟩ := hW; go_simp; try with_reducible rfl)
              refine Dense.tk 9 (some 78) hS.i ?_ (hy := by intro W hW; obtain ⟨q0, q1, q2⟩ := hW; go_simp; try with_reducible rfl)
              refine Dense.o1 0 ?_
              have Hd := H.out.after hS.b
              refine o_load_R (d := some 69) rfl rowF Hd.f rfl rfl ?_
              refine ⟨hS.i, ?_⟩
              refine Dense.nm ?_
              refine Dense.o1 10 ?_
              go_simp
              refine (RPut_any fr se mo (tv := tbV g1 s1.length c1) rfl tc.1 x Hd.v.p hln).mono ?_
              rintro e wc ⟨pv4, rfl, hp4, hlo4, hb⟩
              have hz4 := Hd.size
              obtain ⟨H6, hok6⟩ := (Hd.after hb).pairs hp4 (fun k hk => by
                have h5 := hlo4 k hk
                exact ⟨⟨by omega, by omega, fun i hi => by have := Hd.s.lt hi; omega⟩, by omega⟩)
              have hf6 := (Hd.after hb).f
              replace hS := hS.after ((st_cell _ _).and ((st_cell _ _).and (st_cell _ _))) hb
              clear hb
              refine ⟨hS.i, ?_⟩
              refine Dense.nm ?_
              refine Dense.o1 11 ?_
              refine o_store_R (d := none) rfl (rfc fr se mo (tbV g1 s1.length c1) pv4) rowF hf6 hok6 rfl rfl rfl ?_
              refine ⟨⟨(setRow_cell _ _ _ (by omega)).trans hS.i.1, (setRow_cell _ _ _ (by omega)).trans hS.i.2.1, (setRow_cell _ _ _ hgs).trans hS.i.2.2⟩, ?_⟩
              refine Dense.nm ?_
              refine wpAnyH_done (by kernel_rfl) ?_ _
              have H7 := Lib.hid H6
              have hpl2 := T.put_len oj tc.1 x
              clear hS H6 Hd hp4 hlo4 hok6 hf6 q1 q2 hsc hne
              go_wp2
              refine ⟨⟨j + 1, pv4, T.put oj tc.1 x, by omega, by go_num, by omega, H7, HL2⟩, ?_⟩
              simp [intOf]; omega
          · obtain rfl : j = ts.length := by omega
            have hl2 := HL.out
            rw [List.drop_length] at hl2
            have HQ : Hid (q = (⟨fr, se, mo, s1, oj⟩, 0)) := by rw [HQ0.out, hl2]; rfl
            clear hl2
            have HFi := Lib.hid H.out.fin
            go_wp2_with (first | ((with_reducible refine wp_load_R rowF H.out.f ?_ ?_); (kernel_rfl)) | ((with_reducible refine wp_store_R _ rowF HFi.out.1 ?_ ?_ ?_); (kernel_rfl); (kernel_rfl)))
            refine bodyPost_ret (res_R_tmp rowF (fn := Tryz.f59) rfl _ (HFi.out.1.1.set HFi.out.1.2) rfl) rfl ⟨rfc fr se mo (tbV g1 s1.length c1) (.slice opj oj.length cpj), ?_, ?_, HFi.out.2.2⟩
            · rw [HQ.out]; rfl
            · rw [HQ.out]; exact HFi.out.2.1
end Go.Proofs.YtdpdoclhdjhjkaaGreat
