/-
  Layer 12: the statement FlowPlay: a walk. Written by gen_ref.py.
-/
import Derived.Test.YtpomnjahhdahnaaGreatG26
import Derived.Test.YtpomnjahhdahnaaGreatG27
set_option linter.unusedVariables false
set_option linter.unusedSimpArgs false
namespace Go.Proofs.YtpomnjahhdahnaaGreat
open Go.RowKit
set_option maxHeartbeats 8000000
set_option maxRecDepth 100000
set_option linter.unusedVariables false
set_option linter.unusedSimpArgs false

theorem FlowPlay_walk (fr se mo : Int) (hfr : I64 fr) (hse : I64 se) (hmo : I64 mo) {w : World} {v : Value} {xs : List Ac} (h : ActsIn w v xs) :
    Calls Tryz.prog 3 #[.agg #[.int .i64 fr, .int .i64 se], .int .i64 mo, v] w fun e w' => e = .returned (.bool true) ∧ Below w.heap.size w w' := by
  have HA := Lib.hid (fun W (hb : Below w.heap.size w W) => (show ActsIn W v xs from h.below hb))
  obtain ⟨oa, ca, rfl, _, hla⟩ := h.shape
  unfold maxLen at hla
  have RF : Hid (Rf 23 2 (w.alloc (.cells #[.int .i64 fr, .int .i64 se] 23)) w.heap.size #[.int .i64 fr, .int .i64 se]) := ⟨blk_new _ _ _, rfl, by simp; exact ⟨rfl, rfl⟩⟩
  have HB := Lib.hid (bel1 w (.cells #[.int .i64 fr, .int .i64 se] 23))
  clear h
  go_enter Tryz.func3, Tryz.ntmps3
  go_wp2_with fail
  refine (vast_any (HA.out _ HB.out)).mono ?_
  rintro e w1 ⟨rfl, hb⟩
  have HB1 := Lib.hid (HB.out.trans (hb.mono HB.out.size))
  have HF1 := Lib.hid (RF.out.below hb)
  clear hb HB RF
  cases hv : vastS xs with
  | true =>
    clear hv
    go_wp2_with fail
    refine (known_any _).mono ?_
    rintro e w2 ⟨rfl, hb⟩
    have HB2 := Lib.hid (HB1.out.trans (hb.mono HB1.out.size))
    clear hb
    go_wp2
    go_ret
    exact ⟨rfl, HB2.out⟩
  | false =>
    obtain ⟨hx30, hxa⟩ := vast_no hv
    clear hv
    have x0 := HF1.out.cell 0
    have x1 := HF1.out.cell 1
    by_cases hr : (1 ≤ fr ∧ fr ≤ 32) ∧ (1 ≤ se ∧ se ≤ 32) ∧ 1 ≤ mo ∧ mo ≤ 65536
    · go_wp2_with fail
      refine (New_any fr se mo hr _).mono ?_
      rintro e w2 ⟨S, F, rfl, hat, hF, hb⟩
      have HB2 := Lib.hid (HB1.out.trans (hb.mono HB1.out.size))
      have HF2 := Lib.hid (HF1.out.below hb)
      have HAt := Lib.hid hat
      have HLo : Hid (∀ k, F k → w.heap.size ≤ k) := fun k hk => by have := hF k hk; have := HB1.out.size; omega
      clear hb hat hF x0 x1
      have x0 := HF2.out.cell 0
      have x1 := HF2.out.cell 1
      go_wp2_with fail
      refine (Right_any fr se mo _).mono ?_
      rintro e w3 ⟨rfl, hb⟩
      rw [decide_eq_true hr]
      have HB3 := Lib.hid hb
      have HF3 := Lib.hid (HF2.out.below hb)
      clear hb x0 x1
      have x0 := HF3.out.cell 0
      have x1 := HF3.out.cell 1
      go_wp2_with fail
      refine (RNew_any fr se mo _).mono ?_
      rintro e w4 ⟨c, rfl, hro, hb⟩
      have HW4 : Hid (w.heap.size ≤ w4.heap.size) := by have h1 := HB2.out.size; have h2 := HB3.out.size; have h3 := hb.size; exact Lib.hid (by omega)
      have hT := two_new HAt.out HLo.out HB2.out HB3.out hb hro
      have hok := hT.ok.1
      have hba := bel1 w4 (.cells c 37)
      have HT := Lib.hid (hT.more (Y := fun k => k = w4.heap.size) (Y2 := fun k => k = w4.heap.size) hba (fun k hk => .inr ⟨by omega, by simp; omega⟩) (fun k hk => .inr ⟨by omega, by simp; omega⟩))
      have HZ : Hid ((zF.size = 5) ∧ Ok1 5 c) := ⟨rfl, hok⟩
      have HR := Lib.hid (hok.new 37 w4)
      clear hro hb hT hok hba x0 x1 HF3 HF2 HB3 HB2 HAt HLo
      go_wp2_with (first | ((with_reducible apply wp_store_Rn _ rowF); (exact HZ.out); (rfl); (rfl)) | ((with_reducible refine wp_load_Rg ?_ rowF HR.out ?_ ?_); (kernel_rfl); (rfl)))
      refine (same_any HT.out (by simp)).mono ?_
      rintro e w5 ⟨rfl, hb⟩
      have HT5 := Lib.hid (HT.out.after hb)
      have HR5 := Lib.hid (HR.out.below hb)
      clear hb HT HR
      have hx2 := HT5.out
      have HT6 : Hid (Two (fun k => k = w4.heap.size) (fun k => k = w4.heap.size) w S ⟨fr, se, mo, [0], []⟩ c w5) := HT5.out
      have hBl : w.heap.size ≤ w4.heap.size := HW4.out
      have hB5 : w4.heap.size < w5.heap.size := HR5.out.lt
      clear HT5 hx2
      go_wp2
      generalize w4.heap.size = B at HT6 HR5 hBl hB5 ⊢
      go_loopw [10] (fun i wr => ∃ (k : Nat) (f : T.Fl) (c : Array Value), k ≤ xs.length ∧ i = .int .i64 (k : Int) ∧ f.ps.length ≤ 200 * k ∧ Hid (Two (fun k => k = B) (fun k => k = B) w S f c wr) ∧ Hid (Rf 37 5 wr B c)) (fun i _ => xs.length + 1 - natI i)
      case atStart => exact ⟨0, _, c, by omega, rfl, by simp, HT6.out, HR5.out⟩
      case round =>
        obtain ⟨k, f, c, hk, rfl, hfl, HT, HR⟩ := hrel
        have HBw : Hid (Below w.heap.size w wr) := by
          obtain ⟨g0, ct0, pv0, F0, _, _, _, _, _, hbw, _, _⟩ := HT.out
          exact Lib.hid hbw
        by_cases hlt : k < xs.length
        · have hi : (k : Int) < (xs.length : Int) := by omega
          obtain ⟨g1, o1, c1, a, tv, e1, l1, hac, hts, hat, hrg⟩ := (HA.out _ HBw.out).at_ hlt
          simp at e1
          obtain ⟨rfl, rfl⟩ := e1
          obtain ⟨hnv, htl⟩ := hxa a (List.mem_of_getElem? l1)
          have hgw : g1 < w.heap.size := by
            obtain ⟨g3, o3, c3, a3, t3, e3, _, _, _, at3, _⟩ := (HA.out _ (Below.refl _ _)).at_ hlt
            simp at e3
            rw [e3.1.1]
            exact World.block_lt_of_cell? _ _ at3.k
          have HTs : Hid (∀ W, Below w.heap.size w W → TsIn W tv a.ts) := by
            refine Lib.hid fun W hb => ?_
            obtain ⟨g3, o3, c3, a3, t3, e3, l3, _, h3, at3, _⟩ := (HA.out W hb).at_ hlt
            rw [l1] at l3
            cases l3
            simp at e3
            obtain ⟨⟨rfl, rfl⟩, rfl⟩ := e3
            have e5 := at3.t.symm.trans ((cell_of_below hb hgw _).trans ((cell_of_below HBw.out hgw _).symm.trans hat.t))
            cases e5; exact h3
          have HSl := Lib.hid (step_len f a hnv htl)
          have hln : f.ps.length ≤ 800000 := by omega
          have hT := HT.out.after (Below.refl _ _).drew
          have hS0z := HR.out.lt
          have hdz : wr.drew.heap.size = wr.heap.size := rfl
          have hS : Hl (fun W => Rf 37 5 W B c ∧ W.rangeAt g1 (o1 + k * 6) (acc a tv).toList) wr wr.drew := Hl.start ((st_rf _ _ _ _).and (st_rng _ _ _)) ⟨HR.out, hrg⟩
          clear hts hat hrg l1 HT HBw
          go_wp2
          refine wp_region_held_drew (S := fun W => Rf 37 5 W B c ∧ W.rangeAt g1 (o1 + k * 6) (acc a tv).toList) (by kernel_rfl) hS.i (fun _ => ?_)
          refine Dense.tk 0 (some 53) hS.i ?_
          refine Dense.tv 1 (some 54) rfl (y_R rowF (by rfl) rfl rfl (fun W hW => hW.1)) hS.i ?_
          refine Dense.tk 2 (some 55) hS.i ?_
          refine Dense.tk 3 (some 56) hS.i ?_
          refine Dense.tk 4 (some 57) hS.i ?_ (hy := by intro W hW; obtain ⟨p1, p2⟩ := hW; go_simp; try with_reducible rfl)
          refine Dense.tv 5 (some 58) rfl (y_M rowA (by rfl) rfl rfl rfl (fun W hW => hW.2)) hS.i ?_
          refine Dense.o2 6 10 ?_ ?_
          · go_simp
            refine (does_any hT a hac (fun W hb => HTs.out W hb) hnv htl hln).mono ?_
            rintro e wc ⟨c2, rfl, hT2, ht2⟩
            have hcz := ht2.size
            have hi6 : Rf 37 5 wc B c ∧ wc.rangeAt g1 (o1 + k * 6) (acc a tv).toList := ⟨hS.i.1.turned ht2 (fun e => e.2 rfl), rng_turned hS.i.2 ht2 (fun e => by omega) (by simp [acc])⟩
            clear hS
            have hS : Hl (fun W => Rf 37 5 W B c ∧ W.rangeAt g1 (o1 + k * 6) (acc a tv).toList) wc wc := ⟨hi6, Below.refl _ _⟩
            have hok2 := hT2.ok.1
            refine ⟨hS.i, ?_⟩
            refine Dense.nm ?_
            refine Dense.tk 7 (some 52) hS.i ?_
            refine Dense.tk 8 (some 60) hS.i ?_
            refine Dense.tk 9 (some 61) hS.i ?_
            refine Dense.o1 10 ?_
            refine o_alloc (ty := 37) (n := 5) (d := some 11) rfl zF zF_ok (by go_simp; try rfl) ?_
            intro gz WA hgz hZ hbz hgl
            have hzz := hbz.size
            replace hS := hS.after ((st_rf _ _ _ _).and (st_rng _ _ _)) hbz
            have hBz : B ≠ gz := by have := hS0z; omega
            replace hT2 := hT2.more (Y := fun k => k = B ∨ k = gz) (Y2 := fun k => k = B ∨ k = gz) hbz (fun k hk => by rcases hk with e | e; exact .inl e; exact .inr ⟨by omega, by omega⟩) (fun k hk => by rcases hk with e | e; exact .inl e; exact .inr ⟨by omega, by omega⟩)
            refine ⟨hS.i, ?_⟩
            refine Dense.nm ?_
            refine Dense.o1 11 ?_
            refine o_store_R (d := none) rfl c2 rowF hZ hok2 rfl rfl rfl ?_
            have hZ2 := hZ.set hok2
            have hT3 := hT2.turned (turned_setRow _ gz c2) (fun k e => ⟨.inr e, by omega⟩)
            have hi3 := And.intro (hS.i.1.setOther hBz c2) (rng_turned hS.i.2 (turned_setRow _ gz c2) (by omega) (by simp [acc]))
            clear hS
            have hS : Hl (fun W => Rf 37 5 W B c ∧ W.rangeAt g1 (o1 + k * 6) (acc a tv).toList) _ _ := ⟨hi3, Below.refl _ _⟩
            refine ⟨hS.i, ?_⟩
            refine Dense.nm ?_
            refine Dense.tk 12 (some 12) hS.i ?_
            refine wpAnyH_done (by kernel_rfl) ?_ _
            have HT3 := Lib.hid hT3
            have HZ2 := Lib.hid hZ2
            have HR3 := Lib.hid hS.i.1
            have HO2 := Lib.hid hok2
            clear hS hT3 hZ2 hT2 hZ hok2 hi3 hi6
            go_wp2_with (first | ((with_reducible refine wp_load_Rg ?_ rowF HZ2.out ?_ ?_); (kernel_rfl); (rfl)))
            have hfl2 : (stepS f a).ps.length ≤ 200 * (k + 1) := by have := HSl.out; omega
            refine (same_any HT3.out (by omega)).mono ?_
            rintro e w7 ⟨rfl, hb⟩
            have HT7 := Lib.hid (HT3.out.after hb)
            have HZ7 := Lib.hid (HZ2.out.below hb)
            have HR7 := Lib.hid (And.intro (HR3.out.below hb) HO2.out)
            have HT8 := Lib.hid (HT7.out.turned (turned_setRow _ B c2) (fun k e => ⟨.inl e, by omega⟩))
            have HT9 : Hid (Two (fun k => k = B) (fun k => k = B) w S (stepS f a) c2 (w7.setRow B c2)) := HT8.out.more (Below.refl _ _) (fun k hk => .inl (.inl hk)) (fun k hk => .inl (.inl hk))
            have HR9 := Lib.hid (HR7.out.1.set HO2.out)
            have HFl2 := Lib.hid hfl2
            clear hb HT3 HZ2 HR3 hfl2 HT7 HT8
            go_wp2_with (first | ((with_reducible refine wp_load_R rowF HZ7.out ?_ ?_); (kernel_rfl)) | ((with_reducible refine wp_store_R _ rowF HR7.out ?_ ?_ ?_); (kernel_rfl); (kernel_rfl)))
            refine ⟨⟨k + 1, stepS f a, c2, by omega, by go_num, HFl2.out, HT9, HR9⟩, ?_⟩
            simp [natI]; omega
          · refine o_alloc (ty := 37) (n := 5) (d := some 11) rfl zF zF_ok (by go_simp; try rfl) ?_
            intro gz WA hgz hZ hbz hgl
            have hzz := hbz.size
            replace hS := hS.after ((st_rf _ _ _ _).and (st_rng _ _ _)) hbz
            have hBz : B ≠ gz := by have := hS0z; omega
            replace hT := hT.more (Y := fun k => k = B ∨ k = gz) (Y2 := fun k => k = B ∨ k = gz) hbz (fun k hk => by rcases hk with e | e; exact .inl e; exact .inr ⟨by omega, by omega⟩) (fun k hk => by rcases hk with e | e; exact .inl e; exact .inr ⟨by omega, by omega⟩)
            refine ⟨hS.i, ?_⟩
            refine Dense.nm ?_
            refine Dense.o1 6 ?_
            go_simp
            refine (does_any hT a hac (fun W hb => HTs.out W hb) hnv htl hln).mono ?_
            rintro e wc ⟨c2, rfl, hT2, ht2⟩
            have hcz := ht2.size
            replace hZ := hZ.turned ht2 (fun e => e.2 (.inr rfl))
            have hi6 : Rf 37 5 wc B c ∧ wc.rangeAt g1 (o1 + k * 6) (acc a tv).toList := ⟨hS.i.1.turned ht2 (fun e => e.2 (.inl rfl)), rng_turned hS.i.2 ht2 (fun e => by omega) (by simp [acc])⟩
            clear hS
            have hS : Hl (fun W => Rf 37 5 W B c ∧ W.rangeAt g1 (o1 + k * 6) (acc a tv).toList) wc wc := ⟨hi6, Below.refl _ _⟩
            have hok2 := hT2.ok.1
            refine ⟨hS.i, ?_⟩
            refine Dense.nm ?_
            refine Dense.tk 7 (some 52) hS.i ?_
            refine Dense.tk 8 (some 60) hS.i ?_
            refine Dense.tk 9 (some 61) hS.i ?_
            refine Dense.o1 11 ?_
            refine o_store_R (d := none) rfl c2 rowF hZ hok2 rfl rfl rfl ?_
            have hZ2 := hZ.set hok2
            have hT3 := hT2.turned (turned_setRow _ gz c2) (fun k e => ⟨.inr e, by omega⟩)
            have hi3 := And.intro (hS.i.1.setOther hBz c2) (rng_turned hS.i.2 (turned_setRow _ gz c2) (by omega) (by simp [acc]))
            clear hS
            have hS : Hl (fun W => Rf 37 5 W B c ∧ W.rangeAt g1 (o1 + k * 6) (acc a tv).toList) _ _ := ⟨hi3, Below.refl _ _⟩
            refine ⟨hS.i, ?_⟩
            refine Dense.nm ?_
            refine Dense.tk 12 (some 12) hS.i ?_
            refine wpAnyH_done (by kernel_rfl) ?_ _
            have HT3 := Lib.hid hT3
            have HZ2 := Lib.hid hZ2
            have HR3 := Lib.hid hS.i.1
            have HO2 := Lib.hid hok2
            clear hS hT3 hZ2 hT2 hZ hok2 hi3 hi6
            go_wp2_with (first | ((with_reducible refine wp_load_Rg ?_ rowF HZ2.out ?_ ?_); (kernel_rfl); (rfl)))
            have hfl2 : (stepS f a).ps.length ≤ 200 * (k + 1) := by have := HSl.out; omega
            refine (same_any HT3.out (by omega)).mono ?_
            rintro e w7 ⟨rfl, hb⟩
            have HT7 := Lib.hid (HT3.out.after hb)
            have HZ7 := Lib.hid (HZ2.out.below hb)
            have HR7 := Lib.hid (And.intro (HR3.out.below hb) HO2.out)
            have HT8 := Lib.hid (HT7.out.turned (turned_setRow _ B c2) (fun k e => ⟨.inl e, by omega⟩))
            have HT9 : Hid (Two (fun k => k = B) (fun k => k = B) w S (stepS f a) c2 (w7.setRow B c2)) := HT8.out.more (Below.refl _ _) (fun k hk => .inl (.inl hk)) (fun k hk => .inl (.inl hk))
            have HR9 := Lib.hid (HR7.out.1.set HO2.out)
            have HFl2 := Lib.hid hfl2
            clear hb HT3 HZ2 HR3 hfl2 HT7 HT8
            go_wp2_with (first | ((with_reducible refine wp_load_R rowF HZ7.out ?_ ?_); (kernel_rfl)) | ((with_reducible refine wp_store_R _ rowF HR7.out ?_ ?_ ?_); (kernel_rfl); (kernel_rfl)))
            refine ⟨⟨k + 1, stepS f a, c2, by omega, by go_num, HFl2.out, HT9, HR9⟩, ?_⟩
            simp [natI]; omega
        · obtain rfl : k = xs.length := by omega
          go_wp2_with fail
          refine (known_any _).mono ?_
          rintro e w8 ⟨rfl, hb⟩
          have HB8 := Lib.hid (HBw.out.trans (hb.mono HBw.out.size))
          clear hb
          go_wp2
          go_ret
          exact ⟨rfl, HB8.out⟩
    · go_wp2_with fail
      refine (New_no fr se mo hr hfr hse hmo _).mono ?_
      rintro e w2 ⟨rfl, hb⟩
      have HB2 := Lib.hid (HB1.out.trans (hb.mono HB1.out.size))
      have HF2 := Lib.hid (HF1.out.below hb)
      clear hb x0 x1
      have x0 := HF2.out.cell 0
      have x1 := HF2.out.cell 1
      go_wp2_with fail
      refine (Right_any fr se mo _).mono ?_
      rintro e w3 ⟨rfl, hb⟩
      rw [decide_eq_false hr]
      have HB3 := Lib.hid (HB2.out.trans (hb.mono HB2.out.size))
      clear hb x0 x1
      go_wp2_with fail
      refine (known_any _).mono ?_
      rintro e w4 ⟨rfl, hb⟩
      have HB4 := Lib.hid (HB3.out.trans (hb.mono HB3.out.size))
      clear hb
      go_wp2
      go_ret
      exact ⟨rfl, HB4.out⟩
end Go.Proofs.YtpomnjahhdahnaaGreat
