/-
  Layer 13: the statement PolicyMore: a walk.
-/
import Derived.Test.YtdpdoclhdjhjkaaG29
import Derived.Test.YtdpdoclhdjhjkaaG28
set_option linter.unusedVariables false
set_option linter.unusedSimpArgs false
namespace Go.Proofs.Ytdpdoclhdjhjkaa
open Go.RowKit
set_option maxHeartbeats 8000000
set_option maxRecDepth 100000
set_option linter.unusedVariables false
set_option linter.unusedSimpArgs false

theorem Tw2.at_ {X : Nat → Prop} {w0 W : World} {S : Nat} {f r : T.Fl} {c : Array Value} (h : Tw2 X w0 S f r c W) : ∃ F, At W S f F ∧ ∀ k, F k → k < W.heap.size := by
  obtain ⟨g, ct, pv, F, h1, h2, h3, h4, h5, h6, h8⟩ := h
  exact ⟨F, h2, fun k hk => h2.lt hk⟩
/-- A policy beside a flow. -/
def PoF (w : World) (P : Nat) (r : Ru) (S : Nat) (f : T.Fl) (W : World) : Prop := Below w.heap.size w W ∧ w.heap.size < P ∧ Po W P r ∧ ∃ F, At W S f F ∧ ¬ F P
theorem PoF.after {w : World} {P : Nat} {r : Ru} {S : Nat} {f : T.Fl} {W W' : World} (h : PoF w P r S f W) (hb : Below W.heap.size W W') : PoF w P r S f W' := by
  obtain ⟨h1, h2, h3, F, h4, h5⟩ := h
  exact ⟨h1.trans (hb.mono h1.size), h2, h3.below hb, F, h4.below hb, h5⟩
theorem PoF.stops {w : World} {P : Nat} {r : Ru} {S : Nat} {f : T.Fl} {W : World} (h : PoF w P r S f W) (hr : RuW r) {v : Value} {ts : List T.Tc} (hv : TsIn W v ts) :
    Calls Try.prog 16 #[.pointer (some ⟨P, 0, none⟩), .pointer (some ⟨S, 0, none⟩), v] W fun e w' => e = .returned (.tuple #[.bool (stopB r f ts), .int .i64 (f.decides ts).2]) ∧ PoF w P r S f w' ∧ Below W.heap.size W w' := by
  obtain ⟨h1, h2, h3, F, h4, h5⟩ := id h
  exact (Stops_any h3 hr h4 hv).mono fun e w' ⟨e1, hb⟩ => ⟨e1, h.after hb, hb⟩
theorem PoF.strict {w : World} {P : Nat} {r : Ru} {S : Nat} {f : T.Fl} {W : World} (h : PoF w P r S f W) (x : Int) (hx : W32 x) :
    Calls Try.prog 11 #[.pointer (some ⟨P, 0, none⟩), .int .u32 x] W fun e w' => e = .returned (.int .i64 (refE true x)) ∧ PoF w P (r.turn (decide (x < 65536)) 10 x) S f w' ∧ Turned (fun k => k = P) W w' := by
  obtain ⟨h1, h2, h3, F, h4, h5⟩ := h
  exact (Strict_any h3 x hx).mono fun e w' ⟨e1, hp, ht⟩ => ⟨e1, ⟨h1.trans (ht.below h1.size (fun k e => by omega)), h2, hp, F, h4.turned ht (fun k hk e => h5 (e ▸ hk)), h5⟩, ht⟩
theorem stop_more {f : T.Fl} {ts : List T.Tc} {r r' : Ru} {s t : Int} (h1 : r 10 = s) (h2 : r' 10 = L2.orI s t) (h : stopB r f ts = true) : stopB r' f ts = true := by
  unfold stopB at *
  simp only [Bool.and_eq_true, Bool.not_eq_true', decide_eq_true_eq, decide_eq_false_iff_not] at *
  rw [h1] at h
  rw [h2]
  exact ⟨h.1, andI_more _ _ _ h.2⟩
theorem stop_none {f : T.Fl} {ts : List T.Tc} : stopB ru0 f ts = false := by
  unfold stopB
  rw [show ru0 10 = 0 from rfl, andI_none]; simp
theorem turn_yesM (r : Ru) (j : Nat) (x : Int) : r.turn true j x = r.set j x := rfl
theorem More_few (s0 s1 : Int) {vm v : Value} {ms : List T.Pr} {ts : List T.Tc} {w : World} (h0 : W32 s0) (h1 : W32 s1) (hm : MksIn w vm ms) (hv : TsIn w v ts) (hq : brd ms.length ts = true ∨ 65536 ≤ s0 ∨ 65536 ≤ s1) :
    Calls Try.prog 4 #[.agg #[.int .u32 s0, .int .u32 s1], vm, v] w fun e w' => e = .returned (.bool true) ∧ Below w.heap.size w w' := by
  have hb0 := bel1 w (.cells #[.int .u32 s0, .int .u32 s1] 42)
  have hbk := blk_new w #[.int .u32 s0, .int .u32 s1] 42
  have HB0 := Lib.hid hb0
  have HK0 := Lib.hid hbk
  obtain ⟨om, cm, rfl, _, hlm⟩ := hm.1.shape
  have hbr := broad13_any (om := om) (cm := cm) hlm (hv.below hb0)
  obtain ⟨ot, ct, rfl, _, _⟩ := hv.shape
  clear hm hv hb0 hbk h0 h1
  cases hbrd : brd ms.length ts with
  | true =>
    rw [hbrd] at hbr
    clear hq hbrd
    have HBr := Lib.hid hbr
    clear hbr
    go_enter Try.func4, Try.ntmps4
    go_wp2_with fail
    refine HBr.out.mono ?_
    rintro e w1 ⟨rfl, hb⟩
    have HB1 := Lib.hid (HB0.out.trans (hb.mono HB0.out.size))
    have HK1 := Lib.hid (HK0.out.below hb)
    clear hb HBr HB0 HK0
    have x0 := HK1.out.cell 0
    have x1 := HK1.out.cell 1
    simp only [List.getElem?_toArray, List.getElem?_cons_zero, List.getElem?_cons_succ] at x0 x1
    go_wp2_with fail
    refine (known13_any _).mono ?_
    rintro e w2 ⟨rfl, hb⟩
    have HB2 := Lib.hid (HB1.out.trans (hb.mono HB1.out.size))
    clear hb
    go_wp2
    go_ret
    exact ⟨rfl, HB2.out⟩
  | false =>
    rw [hbrd] at hbr
    by_cases k0 : 65536 ≤ s0
    · clear hq hbrd
      have HBr := Lib.hid hbr
      clear hbr
      go_enter Try.func4, Try.ntmps4
      go_wp2_with fail
      refine HBr.out.mono ?_
      rintro e w1 ⟨rfl, hb⟩
      have HB1 := Lib.hid (HB0.out.trans (hb.mono HB0.out.size))
      have HK1 := Lib.hid (HK0.out.below hb)
      clear hb HBr HB0 HK0
      have x0 := HK1.out.cell 0
      have x1 := HK1.out.cell 1
      simp only [List.getElem?_toArray, List.getElem?_cons_zero, List.getElem?_cons_succ] at x0 x1
      go_wp2_with fail
      refine (known13_any _).mono ?_
      rintro e w2 ⟨rfl, hb⟩
      have HB2 := Lib.hid (HB1.out.trans (hb.mono HB1.out.size))
      clear hb
      go_wp2
      go_ret
      exact ⟨rfl, HB2.out⟩
    · have k0' : s0 < 65536 := by omega
      have k1 : 65536 ≤ s1 := by
        rcases hq with e | e | e
        · rw [hbrd] at e; cases e
        · exact absurd e k0
        · exact e
      clear hq hbrd k0
      have HBr := Lib.hid hbr
      clear hbr
      go_enter Try.func4, Try.ntmps4
      go_wp2_with fail
      refine HBr.out.mono ?_
      rintro e w1 ⟨rfl, hb⟩
      have HB1 := Lib.hid (HB0.out.trans (hb.mono HB0.out.size))
      have HK1 := Lib.hid (HK0.out.below hb)
      clear hb HBr HB0 HK0
      have x0 := HK1.out.cell 0
      have x1 := HK1.out.cell 1
      simp only [List.getElem?_toArray, List.getElem?_cons_zero, List.getElem?_cons_succ] at x0 x1
      go_wp2_with fail
      refine (known13_any _).mono ?_
      rintro e w2 ⟨rfl, hb⟩
      have HB2 := Lib.hid (HB1.out.trans (hb.mono HB1.out.size))
      clear hb
      go_wp2
      go_ret
      exact ⟨rfl, HB2.out⟩
theorem PolicyMore_walk (s0 s1 : Int) {vm v : Value} {ms : List T.Pr} {ts : List T.Tc} {w : World} (h0 : W32 s0) (h1 : W32 s1) (hm : MksIn w vm ms) (hv : TsIn w v ts) :
    Calls Try.prog 4 #[.agg #[.int .u32 s0, .int .u32 s1], vm, v] w fun e w' => e = .returned (.bool true) ∧ Below w.heap.size w w' := by
  by_cases hq : brd ms.length ts = true ∨ 65536 ≤ s0 ∨ 65536 ≤ s1
  · exact More_few s0 s1 h0 h1 hm hv hq
  have hbrd : brd ms.length ts = false := by
    cases e : brd ms.length ts with
    | false => rfl
    | true => exact absurd (.inl e) hq
  have k0 : s0 < 65536 := by omega
  have k1 : s1 < 65536 := by omega
  have hlen := (brd_no hbrd).1
  have hb0 := bel1 w (.cells #[.int .u32 s0, .int .u32 s1] 42)
  have hbk := blk_new w #[.int .u32 s0, .int .u32 s1] 42
  have HM := Lib.hid (hm.below hb0)
  have HTs := Lib.hid (fun W (hb : Below w.heap.size w W) => (show TsIn W v ts from hv.below hb))
  have HB0 := Lib.hid hb0
  have HK0 := Lib.hid hbk
  obtain ⟨om, cm, rfl, _, hlm⟩ := hm.1.shape
  have hbr := broad13_any (om := om) (cm := cm) hlm (hv.below hb0)
  rw [hbrd] at hbr
  have HBr := Lib.hid hbr
  obtain ⟨ot, ct, rfl, _, _⟩ := hv.shape
  clear hm hv hb0 hbk hq hbr hbrd
  have H0 := Lib.hid h0
  have H1 := Lib.hid h1
  have HOr := Lib.hid (L2.orI_bits s0 s1 h0 h1)
  have HO16 := Lib.hid (L2.orI_s16 (a := s0) (b := s1) ⟨h0.1, k0⟩ ⟨h1.1, k1⟩)
  clear h0 h1
  go_enter Try.func4, Try.ntmps4
  go_wp2_with fail
  refine HBr.out.mono ?_
  rintro e w1 ⟨rfl, hb⟩
  have HB1 := Lib.hid (HB0.out.trans (hb.mono HB0.out.size))
  have HK1 := Lib.hid (HK0.out.below hb)
  have HM1 := Lib.hid (HM.out.below hb)
  clear hb HBr HB0 HK0 HM
  have x0 := HK1.out.cell 0
  have x1 := HK1.out.cell 1
  simp only [List.getElem?_toArray, List.getElem?_cons_zero, List.getElem?_cons_succ] at x0 x1
  go_wp2_with fail
  refine (made_any HM1.out (by omega)).mono ?_
  rintro e w2 ⟨S, c, rfl, hT⟩
  have HK2 := Lib.hid (HK1.out.below hT.b)
  have hok := hT.ok.1
  have hba := bel1 w2 (.cells c 54)
  obtain ⟨F, hat, hFl⟩ := hT.at_
  have HA2 := Lib.hid (hat.below hba)
  have HFl := Lib.hid hFl
  have HB2 := Lib.hid (HB1.out.trans ((hT.b.trans (hba.mono hT.b.size)).mono HB1.out.size))
  have HK3 := Lib.hid (HK2.out.below hba)
  have HZ : Hid ((zF.size = 5) ∧ Ok1 5 c) := ⟨rfl, hok⟩
  clear hT hok hba hat hFl x0 x1 HK1 HB1 HM1
  go_wp2_with (first | ((with_reducible apply wp_store_Rn _ rowF); (exact HZ.out); (rfl); (rfl)))
  refine (pNew_any _).mono ?_
  rintro e w3 ⟨rfl, hp, hb⟩
  have HK4 := Lib.hid (HK3.out.below hb)
  have HP3 : Hid (PoF w (w2.alloc (.cells c 54)).heap.size ru0 S (mkF ms) w3) := ⟨HB2.out.trans (hb.mono HB2.out.size), HK3.out.lt, hp, F, HA2.out.below hb, fun e => by have := HA2.out.lt e; omega⟩
  clear hp hb HK3 HB2
  generalize (w2.alloc (.cells c 54)).heap.size = P at HP3 ⊢
  go_wp2_with fail
  refine (HP3.out.stops (fun _ _ => (show W32 0 from ⟨by decide, by decide⟩)) (HTs.out _ HP3.out.1)).mono ?_
  rintro e w4 ⟨rfl, hpf, hb⟩
  rw [stop_none]
  have HK5 := Lib.hid (HK4.out.below hb)
  generalize mkF ms = f at HP3 HA2 hpf ⊢
  obtain ⟨E, hE⟩ : ∃ E, Hid (E = (f.decides ts).2) := ⟨_, rfl⟩
  rw [← hE.out]
  have HP4 := Lib.hid hpf
  clear hpf hb HP3 HK4
  have x0 := HK5.out.cell 0
  have x1 := HK5.out.cell 1
  simp only [List.getElem?_toArray, List.getElem?_cons_zero, List.getElem?_cons_succ] at x0 x1
  go_wp2_with fail
  refine (HP4.out.strict s0 H0.out).mono ?_
  rintro e w5 ⟨rfl, hpf, ht⟩
  have HK6 := Lib.hid (HK5.out.turned ht (fun e => by have := HP4.out.2.1; omega))
  rw [decide_eq_true k0, turn_yesM] at hpf
  have HP5 := Lib.hid hpf
  have HR5 : Hid (RuW (ru0.set 10 s0)) := Lib.hid (RuW.set (fun _ _ => (show W32 0 from ⟨by decide, by decide⟩)) 10 H0.out)
  clear hpf ht HP4 HK5 x0 x1
  go_wp2_with fail
  refine (HP5.out.stops HR5.out (HTs.out _ HP5.out.1)).mono ?_
  rintro e w6 ⟨rfl, hpf, hb⟩
  obtain ⟨b, hbq⟩ : ∃ b, Hid (b = stopB (ru0.set 10 s0) f ts) := ⟨_, rfl⟩
  rw [← hbq.out, ← hE.out]
  have HK7 := Lib.hid (HK6.out.below hb)
  have HP6 := Lib.hid hpf
  clear hpf hb HP5 HK6
  have x0 := HK7.out.cell 0
  have x1 := HK7.out.cell 1
  simp only [List.getElem?_toArray, List.getElem?_cons_zero, List.getElem?_cons_succ] at x0 x1
  go_wp2_with fail
  rw [HOr.out]
  have hor := HO16.out
  refine (HP6.out.strict (L2.orI s0 s1) ⟨hor.1, by have := hor.2; omega⟩).mono ?_
  rintro e w7 ⟨rfl, hpf, ht⟩
  rw [decide_eq_true hor.2, turn_yesM] at hpf
  have HP7 := Lib.hid hpf
  have HR7 : Hid (RuW ((ru0.set 10 s0).set 10 (L2.orI s0 s1))) := Lib.hid (RuW.set HR5.out 10 ⟨hor.1, by have := hor.2; omega⟩)
  clear hpf ht hor HP6 HK7 x0 x1
  go_wp2_with fail
  refine (HP7.out.stops HR7.out (HTs.out _ HP7.out.1)).mono ?_
  rintro e w8 ⟨rfl, hpf, hb⟩
  obtain ⟨c2, hcq⟩ : ∃ c2, Hid (c2 = stopB ((ru0.set 10 s0).set 10 (L2.orI s0 s1)) f ts) := ⟨_, rfl⟩
  rw [← hcq.out, ← hE.out]
  have HB8 := Lib.hid hpf.1
  have himp : b = true → c2 = true := fun e => by rw [hcq.out]; rw [hbq.out] at e; exact stop_more (s := s0) (t := s1) rfl rfl e
  have hee : (E == E) = true := by simp
  clear hpf hb HP7
  cases b with
  | false =>
    clear himp
    go_wp2_with fail
    refine (known13_any _).mono ?_
    rintro e w9 ⟨rfl, hb⟩
    have HB9 := Lib.hid (HB8.out.trans (hb.mono HB8.out.size))
    clear hb
    go_wp2
    go_ret
    exact ⟨rfl, HB9.out⟩
  | true =>
    obtain rfl := himp rfl
    go_wp2_with fail
    refine (known13_any _).mono ?_
    rintro e w9 ⟨rfl, hb⟩
    have HB9 := Lib.hid (HB8.out.trans (hb.mono HB8.out.size))
    clear hb
    go_wp2
    go_ret
    exact ⟨rfl, HB9.out⟩
end Go.Proofs.Ytdpdoclhdjhjkaa
