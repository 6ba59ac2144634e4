/-
  Layer 12: the statement FlowCopies: a walk.
-/
import Derived.Test.YtdpdoclhdjhjkaaGreatG26
import Derived.Test.YtdpdoclhdjhjkaaGreatG27
import Derived.Test.YtdpdoclhdjhjkaaGreatG46
import Derived.Test.YtdpdoclhdjhjkaaGreatG54
set_option linter.unusedVariables false
set_option linter.unusedSimpArgs false
namespace Go.Proofs.YtdpdoclhdjhjkaaGreat
open Go.RowKit Go.Shelf
set_option maxHeartbeats 8000000
set_option maxRecDepth 100000
set_option linter.unusedVariables false
set_option linter.unusedSimpArgs false
attribute [local go_sem] Oper.semAt_some

theorem FlowCopies_walk (bd : Int) {v v' : Value} {xs ys : List Ac} {w : World} (h : ActsIn w v xs) (h' : ActsIn w v' ys) (hl : I64 bd) : Calls Tryz.prog 5 #[v, v', .int .i64 bd] w fun e w' => e = .returned (.bool true) ∧ Below w.heap.size w w' := by
  by_cases hq : vastS xs = true ∨ vastS ys = true ∨ 30 < xs.length + ys.length
  · exact Copies_few bd h h' hq
  have hv : vastS xs = false := by
    cases e : vastS xs with
    | false => rfl
    | true => exact absurd (.inl e) hq
  have hv' : vastS ys = false := by
    cases e : vastS ys with
    | false => rfl
    | true => exact absurd (.inr (.inl e)) hq
  have hs : xs.length + ys.length ≤ 30 := by omega
  obtain ⟨hx30, hxa⟩ := vast_no hv
  obtain ⟨hy30, hya⟩ := vast_no hv'
  have HB := Lib.hid (bel1 w (.cells #[.int .i64 bd] 3))
  have HC0 := Lib.hid (blk_new w #[.int .i64 bd] 3)
  obtain ⟨wB, hwB⟩ : ∃ wB : World, wB = w.alloc (.cells #[.int .i64 bd] 3) := ⟨_, rfl⟩
  rw [← hwB] at HB HC0
  have HXs := Lib.hid (h.below HB.out)
  have HYs := Lib.hid (h'.below HB.out)
  have hvs := vast_any HXs.out
  rw [hv] at hvs
  have HV := Lib.hid hvs
  have HVy := Lib.hid (fun W (hb : Below wB.heap.size wB W) => (show ActsIn W v' ys from HYs.out.below hb))
  have HW := Lib.hid hwB
  obtain ⟨oa, ca, rfl, _, hla⟩ := h.shape
  obtain ⟨ob, cb, rfl, _, hlb⟩ := h'.shape
  unfold maxLen at hla hlb
  have HNv := Lib.hid hv'
  clear h h' hq hv hv' hvs hwB hl
  refine (callsIn_wide (n := 5)).1 ?_
  refine callsIn_of_wp_marks Tryz.func5 rfl trivial ?_ rfl
  refine wpIn_wide.2 ?_
  simp only [Tryz.ntmps5, List.size_toArray, List.length_cons, List.length_nil, Nat.reduceAdd, Nat.reduceSub, Array.replicate_succ, Array.replicate_zero, List.push_toArray, List.append_toArray, List.nil_append, List.cons_append]
  go_wp2_with fail
  rw [← HW.out]
  refine HV.out.mono ?_
  rintro e w1 ⟨rfl, hb⟩
  have HB1 := Lib.hid hb
  clear hb HV
  go_wp2_with fail
  refine (vast_any (HVy.out _ HB1.out)).mono ?_
  rintro e w2 ⟨rfl, hb⟩
  rw [HNv.out]
  have HB2 := Lib.hid (HB1.out.trans (hb.mono HB1.out.size))
  clear hb HNv HB1
  have hsi : (xs.length : Int) + (ys.length : Int) ≤ 30 := by omega
  have b0 := blk_new w2 #[.int .i64 2, .int .i64 2] 26
  have x0 := b0.cell 0
  have x1 := b0.cell 1
  have HF := Lib.hid b0
  have HB3 := Lib.hid (HB2.out.trans ((bel1 w2 (.cells #[.int .i64 2, .int .i64 2] 26)).mono HB2.out.size))
  clear b0 HB2
  go_wp2_with fail
  refine (New_any 2 2 12 (by omega) _).mono ?_
  rintro e w3 ⟨S, F, rfl, hat, hF, hb⟩
  have HAt := Lib.hid hat
  have HB4 := Lib.hid (HB3.out.trans (hb.mono HB3.out.size))
  have HLo : Hid (∀ k, F k → wB.heap.size ≤ k) := fun k hk => by have := hF k hk; have := HB3.out.size; omega
  have HF3 := Lib.hid (HF.out.below hb)
  clear hat hF hb HF HB3 x0 x1
  have x0 := HF3.out.cell 0
  have x1 := HF3.out.cell 1
  go_wp2_with fail
  refine (RNew_any 2 2 12 _).mono ?_
  rintro e w4 ⟨c, rfl, hro, hb⟩
  have HW4 : Hid (wB.heap.size ≤ w4.heap.size) := by have h2 := HB4.out.size; have h3 := hb.size; exact Lib.hid (by omega)
  have hT := two_new HAt.out HLo.out HB4.out (Below.refl _ _) hb hro
  have hok := hT.ok.1
  have hba := bel1 w4 (.cells c 59)
  have HT := Lib.hid (hT.more (Y := fun k => k = w4.heap.size) (Y2 := fun k => k = w4.heap.size) hba (fun k hk => .inr ⟨by omega, by simp; omega⟩) (fun k hk => .inr ⟨by omega, by simp; omega⟩))
  have HZ : Hid ((zF.size = 5) ∧ Ok1 5 c) := ⟨rfl, hok⟩
  have HR := Lib.hid (hok.new 59 w4)
  clear hro hb hT hok hba x0 x1 HF3 HB4 HAt HLo
  go_wp2_with (first | ((with_reducible apply wp_store_Rn _ rowF); (exact HZ.out); (rfl); (rfl)))
  have HB4z : w4.heap.size < (w4.alloc (.cells c 59)).heap.size := by simp
  have hBl := HW4.out
  generalize w4.alloc (.cells c 59) = w5 at HT HR HB4z ⊢
  generalize w4.heap.size = B at HT HR hBl HB4z ⊢
  clear HZ HW4
  go_loopw [11] (fun i wr => ∃ (k : Nat) (f : T.Fl) (c : Array Value), k ≤ xs.length ∧ i = .int .i64 (k : Int) ∧ f.ps.length ≤ 200 * k ∧ Hid (Two (fun k => k = B) (fun k => k = B) wB S f c wr) ∧ Hid (Rf 59 5 wr B c)) (fun i _ => xs.length + 1 - natI i)
  case atStart => exact ⟨0, _, c, by omega, rfl, by simp, HT.out, HR.out⟩
  case round =>
    clear HT HR
    obtain ⟨k, f, c, hk, rfl, hfl, HT, HR⟩ := hrel
    by_cases hlt : k < xs.length
    · have hi : (k : Int) < (xs.length : Int) := by omega
      obtain ⟨g1, o1, c1, a, tv, e1, ha1, hac, hg1, hfx⟩ := HXs.out.fix hlt
      simp at e1
      obtain ⟨rfl, rfl⟩ := e1
      obtain ⟨hnv, htl⟩ := hxa a (List.mem_of_getElem? ha1)
      have HFx := Lib.hid hfx
      have hln : f.ps.length ≤ 800000 := by omega
      have HSl := Lib.hid (step_len f a hnv htl)
      have HB0 : Hid (Below wB.heap.size wB wr.drew) := HT.out.b.trans ((Below.refl _ _).drew.mono HT.out.b.size)
      clear hfx ha1
      go_wp2
      refine wp_region_noPanic ?_
      refine Free.any (fun W => Below wB.heap.size wB W) (fun W W' h hb => h.trans (hb.mono h.size)) HB0.out (fun st => ?_)
      refine Free.tk 0 (some 47) ?_
      refine Free.tk 2 (some 49) ?_
      refine Free.tk 3 (some 50) ?_
      refine Free.tk 4 (some 51) ?_
      refine Free.tk 5 (some 52) (v := .agg (acc a tv)) ?_ (hy := run_M rowA rfl rfl rfl (fun W hW => (HFx.out W hW).2.2))
      refine Free.one 1 (fun W hb hW => ?_)
      have hR3 := HR.out.drew.below hb
      have hT3 := (HT.out.after (Below.refl _ _).drew).after hb
      refine o_load_R (d := some 48) rfl rowF hR3 rfl rfl ?_
      refine ⟨hW, ?_⟩
      refine Free.one 6 (fun W3 hb3 hW3 => ?_)
      refine o_callb (some 53) (by go_simp; first | exact ⟨rfl, rfl⟩ | rfl) ?_
      refine (does_any (hT3.after hb3) a hac (fun W hb => (HFx.out W hb).2.1) hnv htl hln).mono ?_
      rintro e V ⟨c2, rfl, hT4, ht4⟩
      have hR4 := (hR3.below hb3).turned ht4 (fun e => e.2 rfl)
      have hok2 := hT4.ok.1
      refine ⟨_, rfl, hT4.b, ?_⟩
      refine Free.tk 7 (some 46) ?_
      refine Free.tk 8 (some 54) ?_
      refine Free.tk 9 (some 55) ?_
      refine Free.one 10 (fun W5 hb5 hW5 => ?_)
      refine o_store_R (d := none) rfl c2 rowF (hR4.below hb5) hok2 rfl rfl rfl ?_
      have hT6 := (hT4.after hb5).turned (turned_setRow _ B c2) (fun k e => ⟨e, by omega⟩)
      have hR6 := (hR4.below hb5).set hok2
      refine ⟨hT6.b, ?_⟩
      refine Free.done (fun W7 hb7 hW7 => NoPanic.normal ?_)
      have HT7 := Lib.hid (hT6.after hb7)
      have HR7 := Lib.hid (hR6.below hb7)
      clear hb hW hR3 hT3 hb3 hW3 hT4 ht4 hR4 hb5 hW5 hT6 hR6 hb7 hW7 st HB0
      have hfl2 : (stepS f a).ps.length ≤ 200 * (k + 1) := by have := HSl.out; omega
      have HFl2 := Lib.hid hfl2
      clear hfl2
      go_wp2
      exact ⟨⟨k + 1, stepS f a, c2, by omega, by go_num, HFl2.out, HT7, HR7⟩, by simp [natI]; omega⟩
    · obtain rfl : k = xs.length := by omega
      go_wp2_with fail
      obtain ⟨g0, ct0, pv0, F0, q1, hat, q2⟩ := id HT.out
      have HCp := Lib.hid (Copy_any hat)
      have hok := HT.out.ok
      clear hat q1 q2
      refine HCp.out.mono ?_
      rintro e w6 ⟨S', F', rfl, hat', hF', hb⟩
      have HC := Lib.hid (Cp.of (Z := fun k => k = B) HT.out hb hat' hF')
      have HR6 := Lib.hid (HR.out.below hb)
      have HOk := Lib.hid hok.1
      clear hat' hF' hb HCp hok
      go_wp2_with fail
      obtain ⟨FA, FB, hA, hB⟩ := HC.out.ats
      refine (Same_any hA hB ⟨rfl, rfl, rfl⟩).mono ?_
      rintro e w7 ⟨he, hb⟩
      rw [show decide (f.ss = f.ss ∧ f.ps = f.ps) = true by simp] at he
      obtain rfl := he
      have HC7 := Lib.hid (HC.out.after hb)
      have HR7 := Lib.hid (HR6.out.below hb)
      clear hb hA hB
      have hba := bel1 w7 (.cells c 59)
      have HC8 := Lib.hid (HC7.out.more (Y := fun k => k = B ∨ k = w7.heap.size) hba (fun k hk => by rcases hk with e | e; exact .inl e; exact .inr ⟨by omega, by simp; omega⟩))
      have HZ : Hid ((zF.size = 5) ∧ Ok1 5 c) := ⟨rfl, HOk.out⟩
      have HRa := Lib.hid (HR7.out.below hba)
      have HRb := Lib.hid (HOk.out.new 59 w7)
      clear hba
      go_wp2_with (first | ((with_reducible refine wp_load_R rowF HR7.out ?_ ?_); (kernel_rfl)) | ((with_reducible apply wp_store_Rn _ rowF); (exact HZ.out); (rfl); (rfl)))
      have hlt7 : w7.heap.size < (w7.alloc (.cells c 59)).heap.size := by simp
      have hBlt : B < w7.heap.size := HR7.out.lt
      clear HR7 HC7 HC HR6 HR HT HZ HOk
      generalize w7.alloc (.cells c 59) = w8 at HC8 HRa HRb hlt7 ⊢
      generalize w7.heap.size = B2 at HC8 HRa HRb hlt7 hBlt ⊢
      go_loopw [14] (fun i wr => ∃ (k : Nat) (c2 : Array Value), k ≤ ys.length ∧ i = .int .i64 (k : Int) ∧ (runF f (ys.take k)).ps.length ≤ 200 * (xs.length + k) ∧ Hid (Cp (fun k => k = B ∨ k = B2) wB S S' f (runF f (ys.take k)) c c2 wr) ∧ Hid (Rf 59 5 wr B c) ∧ Hid (Rf 59 5 wr B2 c2)) (fun i _ => ys.length + 1 - natI i)
      case atStart => exact ⟨0, c, by omega, rfl, by simpa [runF] using hfl, HC8.out, HRa.out, HRb.out⟩
      case round =>
        clear HC8 HRa HRb
        obtain ⟨k, cc, hk, rfl, hfl2, HC, HRa, HRb⟩ := hrel
        by_cases hlt : k < ys.length
        · have hi : (k : Int) < (ys.length : Int) := by omega
          obtain ⟨g1, o1, c1, a, tv, e1, ha1, hac, hg1, hfx⟩ := HYs.out.fix hlt
          simp at e1
          obtain ⟨rfl, rfl⟩ := e1
          obtain ⟨hnv, htl⟩ := hya a (List.mem_of_getElem? ha1)
          have HFx := Lib.hid hfx
          have HNx := Lib.hid (runF_next (f := f) ha1)
          generalize runF f (ys.take k) = f2 at hfl2 HC HNx
          have hln : f2.ps.length ≤ 800000 := by omega
          have HSl := Lib.hid (step_len f2 a hnv htl)
          have HB0 : Hid (Below wB.heap.size wB wr.drew) := HC.out.b.trans ((Below.refl _ _).drew.mono HC.out.b.size)
          clear hfx ha1
          go_wp2
          refine wp_region_noPanic ?_
          refine Free.any (fun W => Below wB.heap.size wB W) (fun W W' h hb => h.trans (hb.mono h.size)) HB0.out (fun st => ?_)
          refine Free.tk 0 (some 70) ?_
          refine Free.tk 2 (some 72) ?_
          refine Free.tk 3 (some 73) ?_
          refine Free.tk 4 (some 74) ?_
          refine Free.tk 5 (some 75) (v := .agg (acc a tv)) ?_ (hy := run_M rowA rfl rfl rfl (fun W hW => (HFx.out W hW).2.2))
          refine Free.one 1 (fun W hb hW => ?_)
          have hR3 := HRb.out.drew.below hb
          have hT3 := (HC.out.swap.after (Below.refl _ _).drew).after hb
          refine o_load_R (d := some 71) rfl rowF hR3 rfl rfl ?_
          refine ⟨hW, ?_⟩
          refine Free.one 6 (fun W3 hb3 hW3 => ?_)
          refine o_callb (some 76) (by go_simp; first | exact ⟨rfl, rfl⟩ | rfl) ?_
          refine (Cp.does (hT3.after hb3) a hac (fun W hb => (HFx.out W hb).2.1) hnv htl hln).mono ?_
          rintro e V ⟨c2, rfl, hT4, ht4⟩
          have hR4 := (hR3.below hb3).turned ht4 (fun e => e.2 (.inr rfl))
          have hQ4 := ((HRa.out.drew.below hb).below hb3).turned ht4 (fun e => e.2 (.inl rfl))
          have hok2 := hT4.ok.1
          refine ⟨_, rfl, hT4.b, ?_⟩
          refine Free.tk 7 (some 69) ?_
          refine Free.tk 8 (some 77) ?_
          refine Free.tk 9 (some 78) ?_
          refine Free.one 10 (fun W5 hb5 hW5 => ?_)
          refine o_store_R (d := none) rfl c2 rowF (hR4.below hb5) hok2 rfl rfl rfl ?_
          have hT6 := (hT4.after hb5).turned (turned_setRow _ B2 c2) (fun k e => ⟨.inr e, by omega⟩)
          have hR6 := (hR4.below hb5).set hok2
          have hQ6 := (hQ4.below hb5).setOther (show B ≠ B2 by omega) c2
          refine ⟨hT6.b, ?_⟩
          refine Free.done (fun W7 hb7 hW7 => NoPanic.normal ?_)
          have HT7 := Lib.hid (hT6.after hb7)
          have HR7 := Lib.hid (hR6.below hb7)
          have HQ7 := Lib.hid (hQ6.below hb7)
          clear hQ4 hQ6
          clear hb hW hR3 hT3 hb3 hW3 hT4 ht4 hR4 hb5 hW5 hT6 hR6 hb7 hW7 st HB0
          have hfl3 : (runF f (ys.take (k + 1))).ps.length ≤ 200 * (xs.length + (k + 1)) := by rw [HNx.out]; have := HSl.out; omega
          have HFl2 := Lib.hid hfl3
          have HT8 := Lib.hid HT7.out.swap
          rw [← HNx.out] at HT8
          clear hfl3 HT7
          go_wp2
          exact ⟨⟨k + 1, c2, by omega, by go_num, HFl2.out, HT8, HQ7, HR7⟩, by simp [natI]; omega⟩
        · obtain rfl : k = ys.length := by omega
          rw [List.take_length] at HC hfl2
          go_wp2_with (first | ((with_reducible refine wp_load_R rowF HRa.out ?_ ?_); (kernel_rfl)))
          refine (same_any HC.out.two (by omega)).mono ?_
          rintro e w9 ⟨rfl, hb⟩
          have HC9 := Lib.hid (HC.out.after hb)
          have HRa9 := Lib.hid (HRa.out.below hb)
          have HRb9 := Lib.hid (HRb.out.below hb)
          clear hb HC HRa HRb
          go_wp2_with (first | ((with_reducible refine wp_load_Rg ?_ rowF HRb9.out ?_ ?_); (kernel_rfl); (rfl)))
          refine (same_any HC9.out.swap.two (by omega)).mono ?_
          rintro e w10 ⟨rfl, hb⟩
          have HC10 := Lib.hid (HC9.out.after hb)
          have HRa10 := Lib.hid (HRa9.out.below hb)
          clear hb HC9 HRa9 HRb9
          have hba := bel1 w10 (.cells #[.int .i64 ((0 : Nat) : Int)] 3)
          have HC11 := Lib.hid (HC10.out.more (Y := fun k => k = B ∨ k = B2 ∨ k = w10.heap.size) hba (fun k hk => by rcases hk with e | e | e; exact .inl (.inl e); exact .inl (.inr e); exact .inr ⟨by omega, by simp; omega⟩))
          have HRa11 := Lib.hid (HRa10.out.below hba)
          have HX0 := Lib.hid ((Bxs.nil w10).alloc #[.int .i64 ((0 : Nat) : Int)] 3)
          have hB0 := HC10.out.b.size
          have HBw := Lib.hid HC10.out.b
          clear hba
          go_wp2_with fail
          obtain ⟨FA, FB, hA, hB⟩ := HC11.out.ats
          refine (All_any hA).mono ?_
          rintro e w12 ⟨v1, rfl, fn, lb, rfl, heg, hgv, hb1⟩
          have hgv1 := hgv (fun k => k = w10.heap.size) (fun k hk => by simp [hk]) w12 (Below.refl _ _)
          have HC12 := Lib.hid (HC11.out.after hb1)
          have HRa12 := Lib.hid (HRa11.out.below hb1)
          have HX12 := Lib.hid (HX0.out.after hb1)
          have hz12 := hb1.size
          simp only [World.size_alloc] at hz12
          have hpl := HC11.out.swap.ok.2
          clear hb1 hA hB hgv HC11 HRa11 HX0 hpl HC12 HRa12
          go_wp2_with fail
          refine (wpIn_wide (n := 5)).1 (wp_over_b (id := 4) (gf := fn) (lb := lb) rfl heg hgv1 (fun k hk => by omega) (fun _ => rfl)
            (fun pre W => ∃ q : Nat, (q = pre.length ∧ (q = 0 ∨ (q : Int) < bd)) ∧ Bxs w10 (ctL w10.heap.size q) W)
            (fun c pre W => ∃ q : Nat, (c = .exit 4 ∧ q = pre.length ∧ ((q : Int) = 1 ∨ (q : Int) - 1 < bd)) ∧ Bxs w10 (ctL w10.heap.size q) W)
            (bxs_own w10 _ _ (by omega)) (fun c => bxs_own w10 _ _ (by omega)) ⟨0, ⟨rfl, .inl rfl⟩, HX12.out⟩
            (fun tm x => (tm.setIfInBounds 91 (.agg #[.int .i64 x.1.1, .int .i64 x.1.2])).setIfInBounds 92 (.int .u32 x.2))
            ?assign ?body (fun a w h => h) (fun c pre W h => by obtain ⟨q, ⟨h, _⟩, _⟩ := h; exact h) ?rest)
          case assign =>
            intro ll mm x W1 K hK
            gi_wp2
            simp only [List.setIfInBounds_toArray, List.set_cons_zero, List.set_cons_succ] at hK
            exact hK
          case body =>
            rintro ll mm pre x rest W hf ⟨q, ⟨hq, hq2⟩, hX⟩
            simp only [List.setIfInBounds_toArray, List.set_cons_zero, List.set_cons_succ]
            have hqb : q < 6000 := by
              have := congrArg List.length hf
              simp at this
              omega
            have hbd := (HC0.out.below (HBw.out.trans (hX.below.mono hB0))).cell 0
            have hk := hX.get w10.heap.size (cs := #[.int .i64 (q : Int)]) (ty := 3) (by simp)
            have y0 := hk.cell 0
            have f0 := hk.frozen 0
            simp only [List.getElem?_toArray, List.getElem?_cons_zero, List.getElem?_cons_succ] at y0 hbd
            obtain ⟨hS, hT⟩ := ct_set hX ((q : Int) + 1) (by omega)
            have HS := Lib.hid hS
            have HTn := Lib.hid hT
            have HQ := Lib.hid hq
            have hq1 : (pre ++ [x]).length = q + 1 := by simp [hq]
            have HQ1 := Lib.hid hq1
            have hne : w.heap.size ≠ w10.heap.size := by have := HC0.out.lt; omega
            clear hf hX hk hS hT hq hq1
            by_cases hge : bd ≤ (q : Int) + 1
            · gi_wp2
              exact ⟨KeptBut.ofTurned HTn.out, q + 1, ⟨rfl, HQ1.out.symm, by omega⟩, HS.out⟩
            · gi_wp2
              exact ⟨KeptBut.ofTurned HTn.out, q + 1, ⟨HQ1.out.symm, .inr (by omega)⟩, HS.out⟩
          case rest =>
            rintro D0 W hD0 hIx hK
            have hq : ∃ q : Nat, ((q : Int) ≤ 1 ∨ (q : Int) ≤ bd) ∧ q ≤ 6000 ∧ Bxs w10 (ctL w10.heap.size q) W := by
              rcases hIx with ⟨q, ⟨h1, h2⟩, h3⟩ | ⟨c, pre, rest, hf, q, ⟨_, h1, h2⟩, h3⟩
              · exact ⟨q, by omega, by omega, h3⟩
              · have := congrArg List.length hf
                simp at this
                exact ⟨q, by omega, by omega, h3⟩
            obtain ⟨q, hq1, hq6, hX⟩ := hq
            have hD1 : D0 < W.heap.size := (Array.getElem?_eq_some_iff.1 hK).1
            have hz10 : w10.heap.size < W.heap.size := by omega
            have HC13 := Lib.hid (HC10.out.more (Y := fun k => (k = B ∨ k = B2) ∨ (k = w10.heap.size ∨ k = D0)) hX.below (fun k hk => by rcases hk with e | e | e; exact .inl e; exact .inr ⟨by omega, by omega⟩; exact .inr ⟨by omega, by omega⟩))
            have HR13 := Lib.hid (HRa10.out.below hX.below)
            have HKp := Lib.hid (Kp9.start (P := fun k => k = w10.heap.size ∨ k = D0) (W := W) (fun k hk => by rcases hk with e | e <;> omega))
            have HB3 := Lib.hid (hX.get w10.heap.size (cs := #[.int .i64 (q : Int)]) (ty := 3) (by simp))
            have HD0 := Lib.hid hK
            have hBB : B ≠ w10.heap.size ∧ B ≠ D0 := by have := HRa10.out.lt; omega
            clear hX hK hIx HC10 HRa10 HX12 heg hgv1
            go_wp2_with fail
            go_loopw [16] (fun i wr => ∃ (k : Nat) (c1 : Array Value), k ≤ ys.length ∧ i = .int .i64 (k : Int) ∧ (runF f (ys.take k)).ps.length ≤ 200 * (xs.length + k) ∧ Hid (Cp (fun k => (k = B ∨ k = B2) ∨ (k = w10.heap.size ∨ k = D0)) wB S S' (runF f (ys.take k)) (runF f ys) c1 cc wr) ∧ Hid (Rf 59 5 wr B c1) ∧ Hid (Kp9 (fun k => k = w10.heap.size ∨ k = D0) W wr)) (fun i _ => ys.length + 1 - natI i)
            case atStart => exact ⟨0, c, by omega, rfl, by simpa [runF] using hfl, HC13.out, HR13.out, HKp.out⟩
            case round =>
              clear HC13 HR13 HKp
              obtain ⟨k, ce, hk, rfl, hfl3, HC, HRa, HKp⟩ := hrel
              by_cases hlt : k < ys.length
              · have hi : (k : Int) < (ys.length : Int) := by omega
                obtain ⟨g1, o1, c1, a, tv, e1, ha1, hac, hg1, hfx⟩ := HYs.out.fix hlt
                simp at e1
                obtain ⟨rfl, rfl⟩ := e1
                obtain ⟨hnv, htl⟩ := hya a (List.mem_of_getElem? ha1)
                have HFx := Lib.hid hfx
                have HNx := Lib.hid (runF_next (f := f) ha1)
                generalize runF f (ys.take k) = f2 at hfl3 HC HNx
                have hln : f2.ps.length ≤ 800000 := by omega
                have HSl := Lib.hid (step_len f2 a hnv htl)
                have HB0 : Hid (Below wB.heap.size wB wr.drew) := HC.out.b.trans ((Below.refl _ _).drew.mono HC.out.b.size)
                clear hfx ha1
                go_wp2
                refine wp_region_noPanic ?_
                refine Free.any (fun W => Below wB.heap.size wB W) (fun W W' h hb => h.trans (hb.mono h.size)) HB0.out (fun st => ?_)
                refine Free.tk 0 (some 105) ?_
                refine Free.tk 2 (some 107) ?_
                refine Free.tk 3 (some 108) ?_
                refine Free.tk 4 (some 109) ?_
                refine Free.tk 5 (some 110) (v := .agg (acc a tv)) ?_ (hy := run_M rowA rfl rfl rfl (fun W hW => (HFx.out W hW).2.2))
                refine Free.one 1 (fun W hb hW => ?_)
                have hR3 := HRa.out.drew.below hb
                have hT3 := (HC.out.after (Below.refl _ _).drew).after hb
                refine o_load_R (d := some 106) rfl rowF hR3 rfl rfl ?_
                refine ⟨hW, ?_⟩
                refine Free.one 6 (fun W3 hb3 hW3 => ?_)
                refine o_callb (some 111) (by go_simp; first | exact ⟨rfl, rfl⟩ | rfl) ?_
                refine (Cp.does (hT3.after hb3) a hac (fun W hb => (HFx.out W hb).2.1) hnv htl hln).mono ?_
                rintro e V ⟨c2, rfl, hT4, ht4⟩
                have hR4 := (hR3.below hb3).turned ht4 (fun e => e.2 (.inl (.inl rfl)))
                have hQ4 := ((HKp.out.drew.below hb).below hb3).turned ht4 (fun k hp e => e.2 (.inr hp))
                have hok2 := hT4.ok.1
                refine ⟨_, rfl, hT4.b, ?_⟩
                refine Free.tk 7 (some 104) ?_
                refine Free.tk 8 (some 112) ?_
                refine Free.tk 9 (some 113) ?_
                refine Free.one 10 (fun W5 hb5 hW5 => ?_)
                refine o_store_R (d := none) rfl c2 rowF (hR4.below hb5) hok2 rfl rfl rfl ?_
                have hT6 := (hT4.after hb5).turned (turned_setRow _ B c2) (fun k e => ⟨.inl (.inl e), by omega⟩)
                have hR6 := (hR4.below hb5).set hok2
                have hQ6 := (hQ4.below hb5).turned (turned_setRow _ B c2) (fun k hp e => by rcases hp with e2 | e2 <;> omega)
                refine ⟨hT6.b, ?_⟩
                refine Free.done (fun W7 hb7 hW7 => NoPanic.normal ?_)
                have HT7 := Lib.hid (hT6.after hb7)
                have HR7 := Lib.hid (hR6.below hb7)
                have HQ7 := Lib.hid (hQ6.below hb7)
                clear hQ4 hQ6
                clear hb hW hR3 hT3 hb3 hW3 hT4 ht4 hR4 hb5 hW5 hT6 hR6 hb7 hW7 st HB0
                have hfl4 : (runF f (ys.take (k + 1))).ps.length ≤ 200 * (xs.length + (k + 1)) := by rw [HNx.out]; have := HSl.out; omega
                have HFl2 := Lib.hid hfl4
                have HT8 := Lib.hid HT7.out
                rw [← HNx.out] at HT8
                clear hfl4 HT7
                go_wp2
                exact ⟨⟨k + 1, c2, by omega, by go_num, HFl2.out, HT8, HR7, HQ7⟩, by simp [natI]; omega⟩
              · obtain rfl : k = ys.length := by omega
                rw [List.take_length] at HC hfl3
                go_wp2_with fail
                obtain ⟨FA, FB, hA, hB⟩ := HC.out.ats
                refine (Same_any hA hB ⟨rfl, rfl, rfl⟩).mono ?_
                rintro e w14 ⟨he, hb⟩
                rw [show decide ((runF f ys).ss = (runF f ys).ss ∧ (runF f ys).ps = (runF f ys).ps) = true by simp] at he
                obtain rfl := he
                have HC14 := Lib.hid (HC.out.after hb)
                have HK14 := Lib.hid (HKp.out.below hb)
                have e3 : Blk w14 w10.heap.size #[.int .i64 (q : Int)] 3 := (HK14.out.2.2 _ (.inl rfl)).trans HB3.out
                have y3 := e3.cell 0
                have hbd := (HC0.out.below HC14.out.b).cell 0
                simp only [List.getElem?_toArray, List.getElem?_cons_zero, List.getElem?_cons_succ] at y3 hbd
                have HE := Lib.hid ((HK14.out.2.2 D0 (.inr rfl)).trans HD0.out)
                have hmx : (q : Int) ≤ max bd 1 := by omega
                have HBf := Lib.hid HC14.out.b
                clear hb hA hB e3 HC HKp HRa HC14 HK14
                go_wp2_with fail
                refine (known_any _).mono ?_
                rintro e w15 ⟨rfl, hb⟩
                have HE15 := Lib.hid ((hb.block D0 (Array.getElem?_eq_some_iff.1 HE.out).1).trans HE.out)
                have HB15 := Lib.hid (HBf.out.trans (hb.mono HBf.out.size))
                clear hb
                go_wp2
                refine ⟨by simp, .inl ⟨_, _, rfl, run_takeDeferred HE15.out, ?_⟩⟩
                have hbl : Below w.heap.size w (w15.putObj D0 (.deferred none)) := (HB.out.trans (HB15.out.mono HB.out.size)).trans (belowK_b (w := w) (Nat.le_refl _) _ D0 _ _ (by have := HC0.out.lt; omega) HE15.out rfl rfl)
                refine ⟨.bool true, by simp [results, Tryz.results5, go_sem], by first | rfl | trivial, ?_⟩
                first | exact hbl | exact ⟨rfl, hbl⟩
end Go.Proofs.YtdpdoclhdjhjkaaGreat
