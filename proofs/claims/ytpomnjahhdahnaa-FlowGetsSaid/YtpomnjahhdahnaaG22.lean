/-
  Layer 12: the statement FlowGets: a walk. Written by gen_ref.py.
-/
import Derived.Test.YtpomnjahhdahnaaG20
set_option linter.unusedVariables false
set_option linter.unusedSimpArgs false
namespace Go.Proofs.Ytpomnjahhdahnaa
open Go.RowKit
set_option maxHeartbeats 8000000
set_option maxRecDepth 100000
set_option linter.unusedVariables false
set_option linter.unusedSimpArgs false

theorem get_not_may {f : T.Fl} (h : FOk f) {p : T.Pl} (hp : T.may f.fr f.se p = false) : T.get f.ps p = 0 := by
  refine T.get_none fun y hy e => ?_
  have := h.may y hy
  rw [e, hp] at this
  cases this
theorem FlowGets_walk {w : World} {v v2 : Value} {xs : List Ac} {pl : List T.Pl} (h : ActsIn w v xs) (h2 : PlsIn w v2 pl) :
    Calls Try.prog 3 #[v, v2] w fun e w' => e = .returned (.bool true) ∧ Below w.heap.size w w' := by
  have HA := Lib.hid (fun W (hb : Below w.heap.size w W) => (show ActsIn W v xs from h.below hb))
  have HP := Lib.hid (fun W (hb : Below w.heap.size w W) => (show PlsIn W v2 pl from h2.below hb))
  obtain ⟨oa, ca, rfl, _, hla⟩ := h.shape
  obtain ⟨op, cp, rfl, _, hlp⟩ := h2.shape
  unfold maxLen at hla hlp
  clear h h2
  go_enter Try.func3, Try.ntmps3
  go_wp2_with fail
  refine (vast_any (HA.out _ (Below.refl _ _))).mono ?_
  rintro e w1 ⟨rfl, hb⟩
  have HB1 := Lib.hid hb
  clear hb
  cases hv : vastS xs with
  | true =>
    clear hv
    go_wp2_with fail
    refine (known_any _).mono ?_
    rintro e w2 ⟨rfl, hb⟩
    have HB2 := Lib.hid (HB1.out.trans (hb.mono HB1.out.size))
    clear hb
    go_wp2
    go_ret
    exact ⟨rfl, HB2.out⟩
  | false =>
    obtain ⟨hx30, hxa⟩ := vast_no hv
    clear hv
    by_cases h40 : 40 < pl.length
    · have h40' : (40 : Int) < (pl.length : Int) := by omega
      go_wp2_with fail
      refine (known_any _).mono ?_
      rintro e w2 ⟨rfl, hb⟩
      have HB2 := Lib.hid (HB1.out.trans (hb.mono HB1.out.size))
      clear hb
      go_wp2
      go_ret
      exact ⟨rfl, HB2.out⟩
    · have h40' : (pl.length : Int) ≤ 40 := by omega
      have hff : Blk (w1.alloc (.cells #[.int .i64 2, .int .i64 2] 27)) w1.heap.size #[.int .i64 2, .int .i64 2] 27 := blk_new _ _ _
      have hba := bel1 w1 (.cells #[.int .i64 2, .int .i64 2] 27)
      have HB1b := Lib.hid (HB1.out.trans (hba.mono HB1.out.size))
      have HFf := Lib.hid hff
      have x0 := hff.cell 0
      have x1 := hff.cell 1
      clear hff hba
      go_wp2_with fail
      refine (New_any 2 2 20 (by omega) _).mono ?_
      rintro e w2 ⟨S, F, rfl, hat, hF, hb⟩
      have HB2 := Lib.hid (HB1b.out.trans (hb.mono HB1b.out.size))
      have HF2 := Lib.hid (HFf.out.below hb)
      have HAt := Lib.hid hat
      have HLo : Hid (∀ k, F k → w.heap.size ≤ k) := fun k hk => by have := hF k hk; have := HB1b.out.size; omega
      clear hb hat hF x0 x1
      have x0 := HF2.out.cell 0
      have x1 := HF2.out.cell 1
      go_wp2_with fail
      refine (RNew_any 2 2 20 _).mono ?_
      rintro e w4 ⟨c, rfl, hro, hb⟩
      have HW4 : Hid (w.heap.size ≤ w4.heap.size) := by have h1 := HB2.out.size; have h3 := hb.size; exact Lib.hid (by omega)
      have hT := two_new HAt.out HLo.out HB2.out (Below.refl _ _) hb hro
      have hok := hT.ok.1
      have hba := bel1 w4 (.cells c 37)
      have HT := Lib.hid (hT.more (Y := fun k => k = w4.heap.size) (Y2 := fun k => k = w4.heap.size) hba (fun k hk => .inr ⟨by omega, by simp; omega⟩) (fun k hk => .inr ⟨by omega, by simp; omega⟩))
      have HZ : Hid ((zF.size = 5) ∧ Ok1 5 c) := ⟨rfl, hok⟩
      have HR := Lib.hid (hok.new 37 w4)
      have hBl : w.heap.size ≤ w4.heap.size := HW4.out
      clear hro hb hT hok hba x0 x1 HF2 HAt HLo
      go_wp2_with (first | ((with_reducible apply wp_store_Rn _ rowF); (exact HZ.out); (rfl); (rfl)))
      generalize w4.alloc (.cells c 37) = w5 at HT HR ⊢
      have hB5 : w4.heap.size < w5.heap.size := HR.out.lt
      generalize w4.heap.size = B at HT HR hBl hB5 ⊢
      go_loopw [9] (fun i wr => ∃ (k : Nat) (f : T.Fl) (c : Array Value), k ≤ xs.length ∧ i = .int .i64 (k : Int) ∧ f.ps.length ≤ 200 * k ∧ Hid (Two (fun k => k = B) (fun k => k = B) w S f c wr) ∧ Hid (Rf 37 5 wr B c)) (fun i _ => xs.length + 1 - natI i)
      case atStart => exact ⟨0, _, c, by omega, rfl, by simp, HT.out, HR.out⟩
      case round =>
        obtain ⟨k, f, c, hk, rfl, hfl, HT, HR⟩ := hrel
        have HBw : Hid (Below w.heap.size w wr) := by
          obtain ⟨g0, ct0, pv0, F0, _, _, _, _, _, hbw, _, _⟩ := HT.out
          exact Lib.hid hbw
        by_cases hlt : k < xs.length
        · have hi : (k : Int) < (xs.length : Int) := by omega
          obtain ⟨g1, o1, c1, a, tv, e1, l1, hac, hts, hat, hrg⟩ := (HA.out _ HBw.out).at_ hlt
          simp at e1
          obtain ⟨rfl, rfl⟩ := e1
          obtain ⟨hnv, htl⟩ := hxa a (List.mem_of_getElem? l1)
          have hgw : g1 < w.heap.size := by
            obtain ⟨g3, o3, c3, a3, t3, e3, _, _, _, at3, _⟩ := (HA.out _ (Below.refl _ _)).at_ hlt
            simp at e3
            rw [e3.1.1]
            exact World.block_lt_of_cell? _ _ at3.k
          have HTs : Hid (∀ W, Below w.heap.size w W → TsIn W tv a.ts) := by
            refine Lib.hid fun W hb => ?_
            obtain ⟨g3, o3, c3, a3, t3, e3, l3, _, h3, at3, _⟩ := (HA.out W hb).at_ hlt
            rw [l1] at l3
            cases l3
            simp at e3
            obtain ⟨⟨rfl, rfl⟩, rfl⟩ := e3
            have e5 := at3.t.symm.trans ((cell_of_below hb hgw _).trans ((cell_of_below HBw.out hgw _).symm.trans hat.t))
            cases e5; exact h3
          have HSl := Lib.hid (step_len f a hnv htl)
          have hln : f.ps.length ≤ 800000 := by omega
          have hT := HT.out.after (Below.refl _ _).drew
          have hS0z := HR.out.lt
          have hdz : wr.drew.heap.size = wr.heap.size := rfl
          have hS : Hl (fun W => Rf 37 5 W B c ∧ W.rangeAt g1 (o1 + k * 6) (acc a tv).toList) wr wr.drew := Hl.start ((st_rf _ _ _ _).and (st_rng _ _ _)) ⟨HR.out, hrg⟩
          clear hts hat hrg l1 HT HBw
          go_wp2
          refine wp_region_held_drew (S := fun W => Rf 37 5 W B c ∧ W.rangeAt g1 (o1 + k * 6) (acc a tv).toList) (by kernel_rfl) hS.i (fun _ => ?_)
          refine Dense.tk 0 (some 38) hS.i ?_
          refine Dense.tv 1 (some 39) rfl (y_R rowF (by rfl) rfl rfl (fun W hW => hW.1)) hS.i ?_
          refine Dense.tk 2 (some 40) hS.i ?_
          refine Dense.tk 3 (some 41) hS.i ?_
          refine Dense.tk 4 (some 42) hS.i ?_ (hy := by intro W hW; obtain ⟨p1, p2⟩ := hW; go_simp; try with_reducible rfl)
          refine Dense.tv 5 (some 43) rfl (y_M rowA (by rfl) rfl rfl rfl (fun W hW => hW.2)) hS.i ?_
          refine Dense.o2 6 10 ?_ ?_
          · go_simp
            refine (does_any hT a hac (fun W hb => HTs.out W hb) hnv htl hln).mono ?_
            rintro e wc ⟨c2, rfl, hT2, ht2⟩
            have hcz := ht2.size
            have hi6 : Rf 37 5 wc B c ∧ wc.rangeAt g1 (o1 + k * 6) (acc a tv).toList := ⟨hS.i.1.turned ht2 (fun e => e.2 rfl), rng_turned hS.i.2 ht2 (fun e => by omega) (by simp [acc])⟩
            clear hS
            have hS : Hl (fun W => Rf 37 5 W B c ∧ W.rangeAt g1 (o1 + k * 6) (acc a tv).toList) wc wc := ⟨hi6, Below.refl _ _⟩
            have hok2 := hT2.ok.1
            refine ⟨hS.i, ?_⟩
            refine Dense.nm ?_
            refine Dense.tk 7 (some 37) hS.i ?_
            refine Dense.tk 8 (some 45) hS.i ?_
            refine Dense.tk 9 (some 46) hS.i ?_
            refine Dense.o1 10 ?_
            refine o_alloc (ty := 37) (n := 5) (d := some 10) rfl zF zF_ok (by go_simp; try rfl) ?_
            intro gz WA hgz hZ hbz hgl
            have hzz := hbz.size
            replace hS := hS.after ((st_rf _ _ _ _).and (st_rng _ _ _)) hbz
            have hBz : B ≠ gz := by have := hS0z; omega
            replace hT2 := hT2.more (Y := fun k => k = B ∨ k = gz) (Y2 := fun k => k = B ∨ k = gz) hbz (fun k hk => by rcases hk with e | e; exact .inl e; exact .inr ⟨by omega, by omega⟩) (fun k hk => by rcases hk with e | e; exact .inl e; exact .inr ⟨by omega, by omega⟩)
            refine ⟨hS.i, ?_⟩
            refine Dense.nm ?_
            refine Dense.o1 11 ?_
            refine o_store_R (d := none) rfl c2 rowF hZ hok2 rfl rfl rfl ?_
            have hZ2 := hZ.set hok2
            have hT3 := hT2.turned (turned_setRow _ gz c2) (fun k e => ⟨.inr e, by omega⟩)
            have hi3 := And.intro (hS.i.1.setOther hBz c2) (rng_turned hS.i.2 (turned_setRow _ gz c2) (by omega) (by simp [acc]))
            clear hS
            have hS : Hl (fun W => Rf 37 5 W B c ∧ W.rangeAt g1 (o1 + k * 6) (acc a tv).toList) _ _ := ⟨hi3, Below.refl _ _⟩
            refine ⟨hS.i, ?_⟩
            refine Dense.nm ?_
            refine Dense.tk 12 (some 11) hS.i ?_
            refine wpAnyH_done (by kernel_rfl) ?_ _
            have HT3 := Lib.hid hT3
            have HZ2 := Lib.hid hZ2
            have HO2 := Lib.hid hok2
            have HR7 := Lib.hid (And.intro hS.i.1 hok2)
            have HT8 := Lib.hid (HT3.out.turned (turned_setRow _ B c2) (fun k e => ⟨.inl e, by omega⟩))
            have HT9 := Lib.hid (HT8.out.more (Y := fun k => k = B) (Y2 := fun k => k = B) (Below.refl _ _) (fun k hk => .inl (.inl hk)) (fun k hk => .inl (.inl hk)))
            have HR9 := Lib.hid (HR7.out.1.set HO2.out)
            have hfl2 : (stepS f a).ps.length ≤ 200 * (k + 1) := by have := HSl.out; omega
            have HFl2 := Lib.hid hfl2
            clear hS hT3 hZ2 hT2 hZ hok2 hi3 hi6 hfl2
            go_wp2_with (first | ((with_reducible refine wp_load_R rowF HZ2.out ?_ ?_); (kernel_rfl)) | ((with_reducible refine wp_store_R _ rowF HR7.out ?_ ?_ ?_); (kernel_rfl); (kernel_rfl)))
            refine ⟨⟨k + 1, stepS f a, c2, by omega, by go_num, HFl2.out, HT9, HR9⟩, ?_⟩
            simp [natI]; omega
          · refine o_alloc (ty := 37) (n := 5) (d := some 10) rfl zF zF_ok (by go_simp; try rfl) ?_
            intro gz WA hgz hZ hbz hgl
            have hzz := hbz.size
            replace hS := hS.after ((st_rf _ _ _ _).and (st_rng _ _ _)) hbz
            have hBz : B ≠ gz := by have := hS0z; omega
            replace hT := hT.more (Y := fun k => k = B ∨ k = gz) (Y2 := fun k => k = B ∨ k = gz) hbz (fun k hk => by rcases hk with e | e; exact .inl e; exact .inr ⟨by omega, by omega⟩) (fun k hk => by rcases hk with e | e; exact .inl e; exact .inr ⟨by omega, by omega⟩)
            refine ⟨hS.i, ?_⟩
            refine Dense.nm ?_
            refine Dense.o1 6 ?_
            go_simp
            refine (does_any hT a hac (fun W hb => HTs.out W hb) hnv htl hln).mono ?_
            rintro e wc ⟨c2, rfl, hT2, ht2⟩
            have hcz := ht2.size
            replace hZ := hZ.turned ht2 (fun e => e.2 (.inr rfl))
            have hi6 : Rf 37 5 wc B c ∧ wc.rangeAt g1 (o1 + k * 6) (acc a tv).toList := ⟨hS.i.1.turned ht2 (fun e => e.2 (.inl rfl)), rng_turned hS.i.2 ht2 (fun e => by omega) (by simp [acc])⟩
            clear hS
            have hS : Hl (fun W => Rf 37 5 W B c ∧ W.rangeAt g1 (o1 + k * 6) (acc a tv).toList) wc wc := ⟨hi6, Below.refl _ _⟩
            have hok2 := hT2.ok.1
            refine ⟨hS.i, ?_⟩
            refine Dense.nm ?_
            refine Dense.tk 7 (some 37) hS.i ?_
            refine Dense.tk 8 (some 45) hS.i ?_
            refine Dense.tk 9 (some 46) hS.i ?_
            refine Dense.o1 11 ?_
            refine o_store_R (d := none) rfl c2 rowF hZ hok2 rfl rfl rfl ?_
            have hZ2 := hZ.set hok2
            have hT3 := hT2.turned (turned_setRow _ gz c2) (fun k e => ⟨.inr e, by omega⟩)
            have hi3 := And.intro (hS.i.1.setOther hBz c2) (rng_turned hS.i.2 (turned_setRow _ gz c2) (by omega) (by simp [acc]))
            clear hS
            have hS : Hl (fun W => Rf 37 5 W B c ∧ W.rangeAt g1 (o1 + k * 6) (acc a tv).toList) _ _ := ⟨hi3, Below.refl _ _⟩
            refine ⟨hS.i, ?_⟩
            refine Dense.nm ?_
            refine Dense.tk 12 (some 11) hS.i ?_
            refine wpAnyH_done (by kernel_rfl) ?_ _
            have HT3 := Lib.hid hT3
            have HZ2 := Lib.hid hZ2
            have HO2 := Lib.hid hok2
            have HR7 := Lib.hid (And.intro hS.i.1 hok2)
            have HT8 := Lib.hid (HT3.out.turned (turned_setRow _ B c2) (fun k e => ⟨.inl e, by omega⟩))
            have HT9 := Lib.hid (HT8.out.more (Y := fun k => k = B) (Y2 := fun k => k = B) (Below.refl _ _) (fun k hk => .inl (.inl hk)) (fun k hk => .inl (.inl hk)))
            have HR9 := Lib.hid (HR7.out.1.set HO2.out)
            have hfl2 : (stepS f a).ps.length ≤ 200 * (k + 1) := by have := HSl.out; omega
            have HFl2 := Lib.hid hfl2
            clear hS hT3 hZ2 hT2 hZ hok2 hi3 hi6 hfl2
            go_wp2_with (first | ((with_reducible refine wp_load_R rowF HZ2.out ?_ ?_); (kernel_rfl)) | ((with_reducible refine wp_store_R _ rowF HR7.out ?_ ?_ ?_); (kernel_rfl); (kernel_rfl)))
            refine ⟨⟨k + 1, stepS f a, c2, by omega, by go_num, HFl2.out, HT9, HR9⟩, ?_⟩
            simp [natI]; omega
        · obtain rfl : k = xs.length := by omega
          obtain ⟨g0, ct0, pv0, F0, e0, hat0, hrv0, hse0, hlo0, hbw0, hxx0, hzz0⟩ := HT.out
          subst e0
          have HTw := Lib.hid (fun W (hb : Below wr.heap.size wr W) => And.intro (hat0.below hb) (hrv0.below hb))
          have hok := hat0.ok
          have HBw0 := Lib.hid hbw0
          clear hat0 hrv0 hse0 hlo0 hbw0 hxx0 hzz0 HT HBw
          go_wp2
          go_loopw [12] (fun i wr2 => ∃ k : Nat, k ≤ pl.length ∧ i = .int .i64 (k : Int) ∧ Hid (Below wr.heap.size wr wr2) ∧ Hid (Rf 37 5 wr2 B (rfc f.fr f.se f.mo (tbV g0 f.ss.length ct0) pv0))) (fun i _ => pl.length + 1 - natI i)
          case atStart => exact ⟨0, by omega, rfl, Below.refl _ _, HR.out⟩
          case round =>
            obtain ⟨k, hk, rfl, HBx, HRx⟩ := hrel
            by_cases hlt : k < pl.length
            · have hi : (k : Int) < (pl.length : Int) := by omega
              obtain ⟨g1, o1, c1, p, e1, l1, hpp, r1⟩ := (HP.out _ (HBw0.out.trans (HBx.out.mono HBw0.out.size))).at_ hlt
              obtain ⟨q1, q2⟩ := rng2 r1
              simp at e1
              obtain ⟨rfl, rfl⟩ := e1
              clear r1 l1
              go_wp2_with fail
              refine (Get_any (HTw.out _ HBx.out).1 p hpp).mono ?_
              rintro e w8 ⟨rfl, hb⟩
              have hr8 := HRx.out.below hb
              have z1 := cell_below q1 hb
              have z2 := cell_below q2 hb
              replace HBx := Lib.hid (HBx.out.trans (hb.mono HBx.out.size))
              have hS : Hl (fun W => Rf 37 5 W B (rfc f.fr f.se f.mo (tbV g0 f.ss.length ct0) pv0) ∧ W.cell? ⟨g1, o1 + k * 2, none⟩ = some (.int .i64 p.1) ∧ W.cell? ⟨g1, o1 + k * 2 + 1, none⟩ = some (.int .i64 p.2)) w8 w8.drew := Hl.start ((st_rf _ _ _ _).and ((st_cell _ _).and (st_cell _ _))) ⟨hr8, z1, z2⟩
              clear hb hr8 q1 q2 z1 z2
              cases hmay0 : T.may f.fr f.se p with
              | true =>
                have hmay := Lib.hid hmay0
                clear hmay0
                simp only [if_true]
                obtain ⟨Nn, hN⟩ : ∃ Nn, Hid (Nn = T.get f.ps p) := ⟨_, rfl⟩
                rw [← hN.out]
                go_wp2
                refine wp_region_held_drew (S := fun W => Rf 37 5 W B (rfc f.fr f.se f.mo (tbV g0 f.ss.length ct0) pv0) ∧ W.cell? ⟨g1, o1 + k * 2, none⟩ = some (.int .i64 p.1) ∧ W.cell? ⟨g1, o1 + k * 2 + 1, none⟩ = some (.int .i64 p.2)) (by kernel_rfl) hS.i (fun _ => ?_)
                refine Dense.tv 0 (some 65) rfl (y_R rowF (by rfl) rfl rfl (fun W hW => hW.1)) hS.i ?_
                refine Dense.tk 1 (some 66) hS.i ?_
                refine Dense.tk 2 (some 67) hS.i ?_
                refine Dense.tk 3 (some 68) hS.i ?_ (hy := by intro W hW; obtain ⟨p1, p2, p3⟩ := hW; go_simp; try with_reducible rfl)
                refine Dense.tk 4 (some 69) hS.i ?_ (hy := by intro W hW; obtain ⟨p1, p2, p3⟩ := hW; go_simp; try with_reducible rfl)
                refine Dense.tk 6 (some 71) hS.i ?_
                refine Dense.tk 7 (some 72) hS.i ?_ (hy := by intro W hW; obtain ⟨p1, p2, p3⟩ := hW; go_simp; try with_reducible rfl)
                refine Dense.o1 5 ?_
                go_simp
                refine (RMay_any f.fr f.se f.mo (tbV g0 f.ss.length ct0) pv0 hok.bd p hpp _).mono ?_
                rintro e wc ⟨rfl, hb⟩
                replace hS := hS.after ((st_rf _ _ _ _).and ((st_cell _ _).and (st_cell _ _))) hb
                clear hb
                rw [hmay.out]
                refine ⟨hS.i, ?_⟩
                refine Dense.nm ?_
                refine Dense.tk 8 (some 73) hS.i ?_ (hy := by intro W hW; obtain ⟨p1, p2, p3⟩ := hW; go_simp; try with_reducible rfl)
                refine Dense.tk 9 (some 74) hS.i ?_
                refine Dense.tk 10 (some 75) hS.i ?_
                refine Dense.tv 11 (some 76) rfl (y_R rowF (by rfl) rfl rfl (fun W hW => hW.1)) hS.i ?_
                refine Dense.tk 12 (some 77) hS.i ?_
                refine Dense.tk 13 (some 78) hS.i ?_
                refine Dense.tk 14 (some 79) hS.i ?_ (hy := by intro W hW; obtain ⟨p1, p2, p3⟩ := hW; go_simp; try with_reducible rfl)
                refine Dense.tk 15 (some 80) hS.i ?_ (hy := by intro W hW; obtain ⟨p1, p2, p3⟩ := hW; go_simp; try with_reducible rfl)
                refine Dense.o1 16 ?_
                go_simp
                refine (RGet_any f.fr f.se f.mo (tbV g0 f.ss.length ct0) pv0 rfl p (HTw.out _ (HBx.out.trans (hS.b.mono HBx.out.size))).2.p).mono ?_
                rintro e wc ⟨rfl, hb⟩
                replace hS := hS.after ((st_rf _ _ _ _).and ((st_cell _ _).and (st_cell _ _))) hb
                clear hb
                rw [← hN.out]
                refine ⟨hS.i, ?_⟩
                refine Dense.nm ?_
                refine Dense.tk 17 (some 82) hS.i ?_ (hy := by intro W hW; obtain ⟨p1, p2, p3⟩ := hW; go_simp; try with_reducible rfl)
                refine Dense.tk 18 (some 83) hS.i ?_
                refine Dense.tk 19 (some 84) hS.i ?_
                refine Dense.tk 20 (some 85) hS.i ?_
                refine Dense.tk 21 (some 86) hS.i ?_ (hy := by intro W hW; obtain ⟨p1, p2, p3⟩ := hW; go_simp; try with_reducible rfl)
                refine Dense.tk 22 (some 87) hS.i ?_
                refine Dense.tv 23 (some 88) rfl (.inr ⟨by kernel_rfl, rfl⟩) hS.i ?_
                refine Dense.tv 24 (some 89) rfl (.inr ⟨by kernel_rfl, rfl⟩) hS.i ?_
                refine Dense.tv 25 (some 90) rfl (.inr ⟨by kernel_rfl, rfl⟩) hS.i ?_
                refine Dense.tv 26 (some 91) rfl (.inr ⟨by kernel_rfl, rfl⟩) hS.i ?_
                refine Dense.tv 27 (some 92) rfl (.inr ⟨by kernel_rfl, rfl⟩) hS.i ?_
                refine Dense.tv 28 (some 93) rfl (.inr ⟨by kernel_rfl, rfl⟩) hS.i ?_
                refine Dense.tk 29 (some 94) hS.i ?_
                refine Dense.tk 30 (some 95) hS.i ?_
                refine wpAnyH_done (by kernel_rfl) ?_ _
                have HB9 := Lib.hid (HBx.out.trans (hS.b.mono HBx.out.size))
                have HR9 := Lib.hid hS.i.1
                clear hS
                go_wp2
                refine ⟨⟨k + 1, by omega, by go_num, HB9, HR9⟩, ?_⟩
                simp [natI]; omega
              | false =>
                have hgp := get_not_may hok hmay0
                have hmay := Lib.hid hmay0
                clear hmay0
                simp only [Bool.false_eq_true, if_false]
                go_wp2
                refine wp_region_held_drew (S := fun W => Rf 37 5 W B (rfc f.fr f.se f.mo (tbV g0 f.ss.length ct0) pv0) ∧ W.cell? ⟨g1, o1 + k * 2, none⟩ = some (.int .i64 p.1) ∧ W.cell? ⟨g1, o1 + k * 2 + 1, none⟩ = some (.int .i64 p.2)) (by kernel_rfl) hS.i (fun _ => ?_)
                refine Dense.tv 0 (some 65) rfl (y_R rowF (by rfl) rfl rfl (fun W hW => hW.1)) hS.i ?_
                refine Dense.tk 1 (some 66) hS.i ?_
                refine Dense.tk 2 (some 67) hS.i ?_
                refine Dense.tk 3 (some 68) hS.i ?_ (hy := by intro W hW; obtain ⟨p1, p2, p3⟩ := hW; go_simp; try with_reducible rfl)
                refine Dense.tk 4 (some 69) hS.i ?_ (hy := by intro W hW; obtain ⟨p1, p2, p3⟩ := hW; go_simp; try with_reducible rfl)
                refine Dense.tk 6 (some 71) hS.i ?_
                refine Dense.tk 7 (some 72) hS.i ?_ (hy := by intro W hW; obtain ⟨p1, p2, p3⟩ := hW; go_simp; try with_reducible rfl)
                refine Dense.o1 5 ?_
                go_simp
                refine (RMay_any f.fr f.se f.mo (tbV g0 f.ss.length ct0) pv0 hok.bd p hpp _).mono ?_
                rintro e wc ⟨rfl, hb⟩
                replace hS := hS.after ((st_rf _ _ _ _).and ((st_cell _ _).and (st_cell _ _))) hb
                clear hb
                rw [hmay.out]
                refine ⟨hS.i, ?_⟩
                refine Dense.nm ?_
                refine Dense.tk 8 (some 73) hS.i ?_ (hy := by intro W hW; obtain ⟨p1, p2, p3⟩ := hW; go_simp; try with_reducible rfl)
                refine Dense.tk 9 (some 74) hS.i ?_
                refine Dense.tk 10 (some 75) hS.i ?_
                refine Dense.tv 11 (some 76) rfl (y_R rowF (by rfl) rfl rfl (fun W hW => hW.1)) hS.i ?_
                refine Dense.tk 12 (some 77) hS.i ?_
                refine Dense.tk 13 (some 78) hS.i ?_
                refine Dense.tk 14 (some 79) hS.i ?_ (hy := by intro W hW; obtain ⟨p1, p2, p3⟩ := hW; go_simp; try with_reducible rfl)
                refine Dense.tk 15 (some 80) hS.i ?_ (hy := by intro W hW; obtain ⟨p1, p2, p3⟩ := hW; go_simp; try with_reducible rfl)
                refine Dense.o1 16 ?_
                go_simp
                refine (RGet_any f.fr f.se f.mo (tbV g0 f.ss.length ct0) pv0 rfl p (HTw.out _ (HBx.out.trans (hS.b.mono HBx.out.size))).2.p).mono ?_
                rintro e wc ⟨rfl, hb⟩
                replace hS := hS.after ((st_rf _ _ _ _).and ((st_cell _ _).and (st_cell _ _))) hb
                clear hb
                rw [hgp]
                refine ⟨hS.i, ?_⟩
                refine Dense.nm ?_
                refine Dense.tk 17 (some 82) hS.i ?_ (hy := by intro W hW; obtain ⟨p1, p2, p3⟩ := hW; go_simp; try with_reducible rfl)
                refine Dense.tk 18 (some 83) hS.i ?_
                refine Dense.tk 19 (some 84) hS.i ?_
                refine Dense.tk 20 (some 85) hS.i ?_
                refine Dense.tk 21 (some 86) hS.i ?_ (hy := by intro W hW; obtain ⟨p1, p2, p3⟩ := hW; go_simp; try with_reducible rfl)
                refine Dense.tk 22 (some 87) hS.i ?_
                refine Dense.tk 23 (some 88) hS.i ?_
                refine Dense.tk 24 (some 89) hS.i ?_ (hy := by intro W hW; obtain ⟨p1, p2, p3⟩ := hW; go_simp; try with_reducible rfl)
                refine Dense.tk 25 (some 90) hS.i ?_
                refine Dense.tk 26 (some 91) hS.i ?_
                refine Dense.tk 27 (some 92) hS.i ?_ (hy := by intro W hW; obtain ⟨p1, p2, p3⟩ := hW; go_simp; try with_reducible rfl)
                refine Dense.tk 28 (some 93) hS.i ?_
                refine Dense.tk 29 (some 94) hS.i ?_
                refine Dense.tk 30 (some 95) hS.i ?_
                refine wpAnyH_done (by kernel_rfl) ?_ _
                have HB9 := Lib.hid (HBx.out.trans (hS.b.mono HBx.out.size))
                have HR9 := Lib.hid hS.i.1
                clear hS
                go_wp2
                refine ⟨⟨k + 1, by omega, by go_num, HB9, HR9⟩, ?_⟩
                simp [natI]; omega
            · obtain rfl : k = pl.length := by omega
              go_wp2_with fail
              refine (known_any _).mono ?_
              rintro e w9 ⟨rfl, hb⟩
              have HB9 := Lib.hid ((HBw0.out.trans (HBx.out.mono HBw0.out.size)).trans (hb.mono (by have := HBw0.out.size; have := HBx.out.size; omega)))
              clear hb
              go_wp2
              go_ret
              exact ⟨rfl, HB9.out⟩
end Go.Proofs.Ytpomnjahhdahnaa
