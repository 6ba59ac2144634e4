/-
  Layer 8: DiskMakes: walk. Written by gen_makes.py.
-/
import Derived.Test.YtbinpapgfddafaaWorks
import Derived.Test.YtbinpapgfddafaaIs
import Derived.Test.YtbinpapgfddafaaArgs
import Derived.Test.YtbinpapgfddafaaLaws2
namespace Go.Proofs.Ytbinpapgfddafaa
open Go.RowKit
set_option maxHeartbeats 4000000
set_option linter.unusedVariables false
set_option linter.unusedSimpArgs false

theorem Dk.not_u8 {w : World} {S P : Nat} {b : List Int} {F : Nat → Prop} (h : Dk w S P b F) {z : Nat} {cs : Array Value} (hz : Blk w z cs 5) : ¬ F z := by
  obtain ⟨mb, D, rfl, h⟩ := h
  obtain ⟨es, ck, hm⟩ := h.mapBlk
  rintro (e | e)
  · subst e
    have := h.blk
    unfold Blk at this hz
    rw [this] at hz
    simp at hz
  · subst e
    unfold Blk at hz
    rw [hm] at hz
    cases hz
/-- The copy of the bytes, a byte behind them. -/
structure Cp (w : World) (b : List Int) (g o c : Nat) (W : World) : Prop where
  q : Qs W (.slice (some ⟨g, o, none⟩) (b.length + 1) c) (b ++ [77])
  cap : b.length + 1 ≤ c
  lo : w.heap.size ≤ g
  below : Below w.heap.size w W
theorem Cp.after {w W W' : World} {b : List Int} {g o c : Nat} (h : Cp w b g o c W) (hb : Below W.heap.size W W') : Cp w b g o c W' := ⟨h.q.below hb, h.cap, h.lo, h.below.trans (hb.mono h.below.size)⟩
theorem Cp.blk {w W : World} {b : List Int} {g o c : Nat} (h : Cp w b g o c W) : ∃ cur, Blk W g cur 5 := h.q.in_ (k := g) (by have := h.cap; simp [blkOf]; omega)
/-- What it reads ahead of the byte. -/
theorem Cp.nums {w W : World} {b : List Int} {g o c : Nat} (h : Cp w b g o c W) (hl : b.length ≤ 5000) : NumsIn .u8 W (.slice (some ⟨g, o, none⟩) b.length c) b := by
  have hn := h.q.nums
  rcases hn with ⟨e, _⟩ | ⟨a, c', e, h2, h3, h4, h5⟩
  · cases e
  · simp at e
    obtain ⟨rfl, rfl⟩ := e
    exact .inr ⟨_, c, rfl, by have := h.cap; omega, by unfold maxLen; omega, fun i x hi => h4 i x (by rw [List.getElem?_append_left (by have := (List.getElem?_eq_some_iff.1 hi).1; omega)]; exact hi), fun x hx => h5 x (by simp [hx])⟩
theorem Cp.last {w W : World} {b : List Int} {g o c : Nat} (h : Cp w b g o c W) : W.cell? ⟨g, o + b.length, none⟩ = some (.int .u8 77) := by
  have hq : Qs W (.slice (some ⟨g, o, none⟩) (b ++ [77]).length c) (b ++ [77]) := by rw [List.length_append]; exact h.q
  have := (hq.cellAt (i := b.length) (by simp)).1
  rw [this]
  simp [at0]
/-- In the loop that turns the copy. -/
structure Tw (g o c L : Nat) (W0 W : World) : Prop where
  q : ∃ zs : List Int, zs.length = L + 1 ∧ Qs W (.slice (some ⟨g, o, none⟩) (L + 1) c) zs
  t : Turned (fun k => k = g) W0 W
theorem Tw.at_ {g o c L : Nat} {W0 W : World} (h : Tw g o c L W0 W) {k : Nat} (hk : k < L) : ∃ y, (0 ≤ y ∧ y < 256) ∧ W.cell? ⟨g, o + k, none⟩ = some (.int .u8 y) ∧ W.frozen? ⟨g, o + k, none⟩ = false := by
  obtain ⟨zs, hz, hq⟩ := h.q
  rw [← hz] at hq
  obtain ⟨h1, h2⟩ := hq.cellAt (i := k) (by omega)
  exact ⟨_, hq.byt.at0 k, h1, h2⟩
theorem Tw.set {g o c L : Nat} {W0 W : World} (h : Tw g o c L W0 W) {k : Nat} (hk : k < L) {y : Int} (hy : 0 ≤ y ∧ y < 256) : Tw g o c L W0 (W.setCell ⟨g, o + k, none⟩ (.int .u8 y)) := by
  obtain ⟨zs, hz, hq⟩ := h.q
  rw [← hz] at hq
  have h1 := hq.setAt (i := k) (by omega) hy
  rw [List.length_set, hz] at h1
  exact ⟨⟨_, by rw [List.length_set, hz], h1⟩, h.t.trans ((Turned.refl (fun k => k = g) W).setCell (p := ⟨g, o + k, none⟩) (.inl rfl) _) (fun k e => .inl e)⟩
theorem NumsIn.cp {w W0 W : World} {v : Value} {b : List Int} {g o c : Nat} (h : NumsIn .u8 w v b) (hc : Cp w b g o c W0) (ht : Turned (fun k => k = g) W0 W) : NumsIn .u8 W v b :=
  (h.below hc.below).turned ht (fun k hk e => by have := h.lt hk; have := hc.lo; omega)
theorem Cp.b2 {w W0 W : World} {b : List Int} {g o c : Nat} (hc : Cp w b g o c W0) (ht : Turned (fun k => k = g) W0 W) : Below w.heap.size w W := hc.below.trans (ht.below hc.below.size (fun k e => by have := hc.lo; omega))
theorem DiskMakes_long {n : Int} {v : Value} {b : List Int} {w : World} (hv : NumsIn .u8 w v b) (h : 5000 < b.length) : Calls Try.prog 3 #[.int .i64 n, v] w fun e w' => e = .returned (.bool true) ∧ Below w.heap.size w w' := by
  obtain ⟨ao, c, rfl, hc, hml, _⟩ := hv.form
  unfold maxLen at hml
  clear hv
  go_enter Try.func3, Try.ntmps3
  go_wp2_with fail
  refine (works_any _).mono ?_
  rintro e w3 ⟨rfl, hb3⟩
  have HB3 := Lib.hid hb3
  clear hb3
  go_wp2
  go_ret
  exact ⟨rfl, HB3.out⟩
set_option maxRecDepth 100000 in
theorem mk_in_yes {w : World} {P : Nat} (h0 : 1 ≤ P) (h1 : P ≤ 32) {v : Value} {b : List Int} (hv : NumsIn .u8 w v b) (hl : b.length ≤ 5000) (hsz : sizeB (b.length : Int) = true) : Calls Try.prog 3 #[.int .i64 (P : Int), v] w fun e w' => e = .returned (.bool true) ∧ Below w.heap.size w w' := by
  have HN := Lib.hid (New_any w h0 h1)
  have HV := Lib.hid hv
  have HSZ := Lib.hid hsz
  have hbl : ([] : List Int).length + b.length ≤ 1000000 := by simp; omega
  have hbl2 : ([] ++ b).length + [(77 : Int)].length ≤ 1000000 := by simp; omega
  obtain ⟨ao, c, rfl, hc, _⟩ := hv.form
  clear hv hsz
  go_enter Try.func3, Try.ntmps3
  go_wp2_with fail
  refine HN.out.mono ?_
  rintro e w1 ⟨S1, rfl, F1, hd1, hF1, hb1⟩
  have HD1 := Lib.hid hd1
  have HB1 := Lib.hid hb1
  clear hd1 hF1 hb1
  have HI := Lib.hid (HV.out.below (HB1.out.alloc HB1.out.size (.cells #[] 5)))
  go_wp2_with (at_builtin; refine wp_append_q rfl _ _ rfl rfl rfl (Qs.empty _ (some ⟨w1.heap.size, 0, none⟩)) HI.out hbl ?_)
  intro v1 w2 hq1 ht1 hf1
  have hb2 : Below w.heap.size w w2 := (HB1.out.alloc HB1.out.size _).trans (ht1.below (by have := HB1.out.size; simp <;> omega) (fun k hk => by simp [blkOf] at hk))
  have HB2 := Lib.hid hb2
  have HQ1 := Lib.hid (hq1.below ((Below.refl _ w2).alloc (Nat.le_refl _) (.cells #[.int .u8 77] 5)))
  have HL1 := Lib.hid (show ∀ k, blkOf v1 = some k → w.heap.size ≤ k from fun k hk => by have := hf1 k hk; simp [blkOf] at this; have := HB1.out.size; omega)
  have HD2 := Lib.hid ((HD1.out.alloc (.cells #[] 5)).turned ht1 (fun k _ e => by simp [blkOf] at e))
  have HS7 := Lib.hid (show NumsIn .u8 (w2.alloc (.cells #[.int .u8 77] 5)) (.slice (some ⟨w2.heap.size, 0, none⟩) 1 1) [77] from (Qs.lit w2 (xs := [77]) (fun x hx => by simp at hx; omega) (by simp [maxLen])).nums)
  clear hq1 ht1 hf1 hb2
  go_wp2_with (at_builtin; refine wp_append_q rfl _ _ rfl rfl rfl HQ1.out HS7.out hbl2 ?_)
  intro v2 w3 hq2 ht2 hf2
  obtain ⟨g, o, c2, rfl, hc2, hb9⟩ := hq2.shape' (by simp)
  have hlg : w.heap.size ≤ g := by rcases hf2 g hb9 with e | e; exact HL1.out g e; have := HB2.out.size; (try simp at e); omega
  have hb3 : Below w.heap.size w w3 := (HB2.out.alloc HB2.out.size _).trans (ht2.below (by have := HB2.out.size; simp; omega) (fun k hk => HL1.out k hk))
  simp only [List.length_append, List.length_cons, List.length_nil, Nat.zero_add, List.nil_append] at hq2 hc2
  have hc3 : (b.length : Int) + 1 ≤ (c2 : Int) := by omega
  have HC := Lib.hid (show Cp w b g o c2 w3 from ⟨hq2, hc2, hlg, hb3⟩)
  have HD3 := Lib.hid ((HD2.out.alloc (.cells #[.int .u8 77] 5)).turned ht2 (fun k hF hk => (HD2.out.alloc (.cells #[.int .u8 77] 5)).not_u8 ((HQ1.out.in_ hk).choose_spec) hF))
  clear hq2 ht2 hf2 hb9 hlg hb3 hbl2
  have HM := Lib.hid (HC.out.nums hl)
  have HO := Lib.hid (Of_any HM.out (dsk_of HV.out HSZ.out))
  have hq7 := c2
  clear hq7
  go_wp2_with fail
  refine HO.out.mono ?_
  rintro e w4 ⟨S2, rfl, F2, hd4, hF4, hb4⟩
  have HE4 := Lib.hid hd4
  have HC4 := Lib.hid (HC.out.after hb4)
  have HD4 := Lib.hid (HD3.out.below hb4)
  clear hd4 hF4 hb4
  have hcv1 := str_conv (HC4.out.nums hl)
  have hcv2 := str_conv (HV.out.below HC4.out.below)
  have h77 := HC4.out.last
  have HRS := Lib.hid (fun W => RSize_any b.length W)
  rw [HSZ.out] at HRS
  go_wp2_with (first | (go_at_call 12; refine (num_any _ _).mono ?_; rintro e w' ⟨rfl, rfl⟩) | (go_at_call 13; refine (HRS.out _).mono ?_; rintro e w' ⟨rfl, rfl⟩))
  have HT0 := Lib.hid (show Tw g o c2 b.length w4 w4 from ⟨⟨b ++ [77], by simp, HC4.out.q⟩, Turned.refl _ _⟩)
  clear hcv1 hcv2 h77
  go_loopw [10] (fun q wr => ∃ k : Nat, k ≤ b.length ∧ q = .int .i64 (k : Int) ∧ Hid (Tw g o c2 b.length w4 wr)) (fun q _ => b.length + 1 - natI q)
  case atStart => exact ⟨0, by omega, rfl, HT0.out⟩
  case round =>
    obtain ⟨k, hk, rfl, HT⟩ := hrel
    by_cases hlt : k < b.length
    · have hi : (k : Int) < (b.length : Int) := by omega
      obtain ⟨y, hy, hcell, hfz⟩ := HT.out.at_ hlt
      have hw8 : 0 ≤ IntKind.u8.wrap (y + 1) ∧ IntKind.u8.wrap (y + 1) < 256 := by rw [IntKind.wrap_u8]; omega
      have HT1 := Lib.hid (HT.out.set hlt hw8)
      rw [IntKind.wrap_u8] at HT1
      obtain ⟨y0, y1⟩ := hy
      clear hw8
      go_wp2
      refine ⟨⟨k + 1, by omega, by go_num, HT1.out⟩, ?_⟩
      simp [natI]; omega
    · obtain rfl : k = b.length := by omega
      have HN9 := Lib.hid (HV.out.cp HC4.out HT.out.t)
      have HB9 := Lib.hid (HC4.out.b2 HT.out.t)
      have HE9 := Lib.hid (HE4.out.turned HT.out.t (fun k hF e => by subst e; exact HE4.out.not_u8 HC4.out.blk.choose_spec hF))
      have HI9 := Lib.hid (is_any HE9.out HN9.out)
      have HD9 := Lib.hid (HD4.out.turned HT.out.t (fun k hF e => by subst e; exact HD4.out.not_u8 HC4.out.blk.choose_spec hF))
      have hmk := fun W => make_bytes h1 (z := 64 * (P : Int)) rfl W
      go_wp2_with (first | (go_at_call 12; refine (num_any _ _).mono ?_; rintro e w' ⟨rfl, rfl⟩))
      refine HI9.out.mono ?_
      rintro e w5 ⟨rfl, hb5⟩
      have HB5 := Lib.hid (HB9.out.trans (hb5.mono HB9.out.size))
      have HD5 := Lib.hid (HD9.out.below hb5)
      clear hb5
      have HZ := Lib.hid (show NumsIn .u8 (w5.alloc (.cells (bv (nw P)).toArray 5)) (.slice (some ⟨w5.heap.size, 0, none⟩) (64 * P) (64 * P)) (nw P) from by
        have hq := Qs.lit w5 (xs := nw P) (byt_zeros _) (by simp [nw, maxLen]; omega)
        have hln : (nw P).length = 64 * P := by simp [nw]
        rw [hln] at hq
        exact hq.nums)
      have HI5 := Lib.hid (is_any (HD5.out.alloc (.cells (bv (nw P)).toArray 5)) HZ.out)
      go_wp2_with (first | (go_at_call 12; refine (num_any _ _).mono ?_; rintro e w' ⟨rfl, rfl⟩))
      refine HI5.out.mono ?_
      rintro e w6 ⟨rfl, hb6⟩
      have HB6 := Lib.hid ((HB5.out.alloc HB5.out.size _).trans (hb6.mono (by have := HB5.out.size; simp; omega)))
      clear hb6 hmk
      go_wp2_with fail
      refine (works_any _).mono ?_
      rintro e w7 ⟨rfl, hb7⟩
      have HB7 := Lib.hid (HB6.out.trans (hb7.mono HB6.out.size))
      clear hb7
      go_wp2
      go_ret
      exact ⟨rfl, HB7.out⟩
set_option maxRecDepth 100000 in
theorem mk_in_no {w : World} {P : Nat} (h0 : 1 ≤ P) (h1 : P ≤ 32) {v : Value} {b : List Int} (hv : NumsIn .u8 w v b) (hl : b.length ≤ 5000) (hsz : sizeB (b.length : Int) = false) : Calls Try.prog 3 #[.int .i64 (P : Int), v] w fun e w' => e = .returned (.bool true) ∧ Below w.heap.size w w' := by
  have HN := Lib.hid (New_any w h0 h1)
  have HV := Lib.hid hv
  have HSZ := Lib.hid hsz
  have hbl : ([] : List Int).length + b.length ≤ 1000000 := by simp; omega
  have hbl2 : ([] ++ b).length + [(77 : Int)].length ≤ 1000000 := by simp; omega
  obtain ⟨ao, c, rfl, hc, _⟩ := hv.form
  clear hv hsz
  go_enter Try.func3, Try.ntmps3
  go_wp2_with fail
  refine HN.out.mono ?_
  rintro e w1 ⟨S1, rfl, F1, hd1, hF1, hb1⟩
  have HD1 := Lib.hid hd1
  have HB1 := Lib.hid hb1
  clear hd1 hF1 hb1
  have HI := Lib.hid (HV.out.below (HB1.out.alloc HB1.out.size (.cells #[] 5)))
  go_wp2_with (at_builtin; refine wp_append_q rfl _ _ rfl rfl rfl (Qs.empty _ (some ⟨w1.heap.size, 0, none⟩)) HI.out hbl ?_)
  intro v1 w2 hq1 ht1 hf1
  have hb2 : Below w.heap.size w w2 := (HB1.out.alloc HB1.out.size _).trans (ht1.below (by have := HB1.out.size; simp <;> omega) (fun k hk => by simp [blkOf] at hk))
  have HB2 := Lib.hid hb2
  have HQ1 := Lib.hid (hq1.below ((Below.refl _ w2).alloc (Nat.le_refl _) (.cells #[.int .u8 77] 5)))
  have HL1 := Lib.hid (show ∀ k, blkOf v1 = some k → w.heap.size ≤ k from fun k hk => by have := hf1 k hk; simp [blkOf] at this; have := HB1.out.size; omega)
  have HD2 := Lib.hid ((HD1.out.alloc (.cells #[] 5)).turned ht1 (fun k _ e => by simp [blkOf] at e))
  have HS7 := Lib.hid (show NumsIn .u8 (w2.alloc (.cells #[.int .u8 77] 5)) (.slice (some ⟨w2.heap.size, 0, none⟩) 1 1) [77] from (Qs.lit w2 (xs := [77]) (fun x hx => by simp at hx; omega) (by simp [maxLen])).nums)
  clear hq1 ht1 hf1 hb2
  go_wp2_with (at_builtin; refine wp_append_q rfl _ _ rfl rfl rfl HQ1.out HS7.out hbl2 ?_)
  intro v2 w3 hq2 ht2 hf2
  obtain ⟨g, o, c2, rfl, hc2, hb9⟩ := hq2.shape' (by simp)
  have hlg : w.heap.size ≤ g := by rcases hf2 g hb9 with e | e; exact HL1.out g e; have := HB2.out.size; (try simp at e); omega
  have hb3 : Below w.heap.size w w3 := (HB2.out.alloc HB2.out.size _).trans (ht2.below (by have := HB2.out.size; simp; omega) (fun k hk => HL1.out k hk))
  simp only [List.length_append, List.length_cons, List.length_nil, Nat.zero_add, List.nil_append] at hq2 hc2
  have hc3 : (b.length : Int) + 1 ≤ (c2 : Int) := by omega
  have HC := Lib.hid (show Cp w b g o c2 w3 from ⟨hq2, hc2, hlg, hb3⟩)
  have HD3 := Lib.hid ((HD2.out.alloc (.cells #[.int .u8 77] 5)).turned ht2 (fun k hF hk => (HD2.out.alloc (.cells #[.int .u8 77] 5)).not_u8 ((HQ1.out.in_ hk).choose_spec) hF))
  clear hq2 ht2 hf2 hb9 hlg hb3 hbl2
  have HM := Lib.hid (HC.out.nums hl)
  have HO := Lib.hid (Of_no HM.out HSZ.out)
  have hq7 := c2
  clear hq7
  go_wp2_with fail
  refine HO.out.mono ?_
  rintro e w4 ⟨rfl, hb4⟩
  have HC4 := Lib.hid (HC.out.after hb4)
  have HD4 := Lib.hid (HD3.out.below hb4)
  clear hb4
  have hcv1 := str_conv (HC4.out.nums hl)
  have hcv2 := str_conv (HV.out.below HC4.out.below)
  have h77 := HC4.out.last
  have HRS := Lib.hid (fun W => RSize_any b.length W)
  rw [HSZ.out] at HRS
  go_wp2_with (first | (go_at_call 12; refine (num_any _ _).mono ?_; rintro e w' ⟨rfl, rfl⟩) | (go_at_call 13; refine (HRS.out _).mono ?_; rintro e w' ⟨rfl, rfl⟩))
  have HT0 := Lib.hid (show Tw g o c2 b.length w4 w4 from ⟨⟨b ++ [77], by simp, HC4.out.q⟩, Turned.refl _ _⟩)
  clear hcv1 hcv2 h77
  go_loopw [10] (fun q wr => ∃ k : Nat, k ≤ b.length ∧ q = .int .i64 (k : Int) ∧ Hid (Tw g o c2 b.length w4 wr)) (fun q _ => b.length + 1 - natI q)
  case atStart => exact ⟨0, by omega, rfl, HT0.out⟩
  case round =>
    obtain ⟨k, hk, rfl, HT⟩ := hrel
    by_cases hlt : k < b.length
    · have hi : (k : Int) < (b.length : Int) := by omega
      obtain ⟨y, hy, hcell, hfz⟩ := HT.out.at_ hlt
      have hw8 : 0 ≤ IntKind.u8.wrap (y + 1) ∧ IntKind.u8.wrap (y + 1) < 256 := by rw [IntKind.wrap_u8]; omega
      have HT1 := Lib.hid (HT.out.set hlt hw8)
      rw [IntKind.wrap_u8] at HT1
      obtain ⟨y0, y1⟩ := hy
      clear hw8
      go_wp2
      refine ⟨⟨k + 1, by omega, by go_num, HT1.out⟩, ?_⟩
      simp [natI]; omega
    · obtain rfl : k = b.length := by omega
      have HN9 := Lib.hid (HV.out.cp HC4.out HT.out.t)
      have HB9 := Lib.hid (HC4.out.b2 HT.out.t)
      have HD9 := Lib.hid (HD4.out.turned HT.out.t (fun k hF e => by subst e; exact HD4.out.not_u8 HC4.out.blk.choose_spec hF))
      have hmk := fun W => make_bytes h1 (z := 64 * (P : Int)) rfl W
      go_wp2_with (first | (go_at_call 12; refine (num_any _ _).mono ?_; rintro e w' ⟨rfl, rfl⟩))
      have HB5 := HB9
      have HD5 := HD9
      have HZ := Lib.hid (show NumsIn .u8 (wr.alloc (.cells (bv (nw P)).toArray 5)) (.slice (some ⟨wr.heap.size, 0, none⟩) (64 * P) (64 * P)) (nw P) from by
        have hq := Qs.lit wr (xs := nw P) (byt_zeros _) (by simp [nw, maxLen]; omega)
        have hln : (nw P).length = 64 * P := by simp [nw]
        rw [hln] at hq
        exact hq.nums)
      have HI5 := Lib.hid (is_any (HD5.out.alloc (.cells (bv (nw P)).toArray 5)) HZ.out)
      refine HI5.out.mono ?_
      rintro e w6 ⟨rfl, hb6⟩
      have HB6 := Lib.hid ((HB5.out.alloc HB5.out.size _).trans (hb6.mono (by have := HB5.out.size; simp; omega)))
      clear hb6 hmk
      go_wp2_with fail
      refine (works_any _).mono ?_
      rintro e w7 ⟨rfl, hb7⟩
      have HB7 := Lib.hid (HB6.out.trans (hb7.mono HB6.out.size))
      clear hb7
      go_wp2
      go_ret
      exact ⟨rfl, HB7.out⟩
set_option maxRecDepth 100000 in
theorem mk_lo_yes {w : World} {n : Int} (hn : n < 1) {v : Value} {b : List Int} (hv : NumsIn .u8 w v b) (hl : b.length ≤ 5000) (hsz : sizeB (b.length : Int) = true) : Calls Try.prog 3 #[.int .i64 n, v] w fun e w' => e = .returned (.bool true) ∧ Below w.heap.size w w' := by
  have HN := Lib.hid (New_no (w := w) (n := n) (.inl hn))
  have HV := Lib.hid hv
  have HSZ := Lib.hid hsz
  have hbl : ([] : List Int).length + b.length ≤ 1000000 := by simp; omega
  have hbl2 : ([] ++ b).length + [(77 : Int)].length ≤ 1000000 := by simp; omega
  obtain ⟨ao, c, rfl, hc, _⟩ := hv.form
  clear hv hsz
  go_enter Try.func3, Try.ntmps3
  go_wp2_with fail
  refine HN.out.mono ?_
  rintro e w1 ⟨rfl, rfl⟩
  have HB1 := Lib.hid (Below.refl w.heap.size w)
  have HI := Lib.hid (HV.out.below (HB1.out.alloc HB1.out.size (.cells #[] 5)))
  go_wp2_with (at_builtin; refine wp_append_q rfl _ _ rfl rfl rfl (Qs.empty _ (some ⟨w.heap.size, 0, none⟩)) HI.out hbl ?_)
  intro v1 w2 hq1 ht1 hf1
  have hb2 : Below w.heap.size w w2 := (HB1.out.alloc HB1.out.size _).trans (ht1.below (by have := HB1.out.size; simp <;> omega) (fun k hk => by simp [blkOf] at hk))
  have HB2 := Lib.hid hb2
  have HQ1 := Lib.hid (hq1.below ((Below.refl _ w2).alloc (Nat.le_refl _) (.cells #[.int .u8 77] 5)))
  have HL1 := Lib.hid (show ∀ k, blkOf v1 = some k → w.heap.size ≤ k from fun k hk => by have := hf1 k hk; simp [blkOf] at this; have := HB1.out.size; omega)
  have HS7 := Lib.hid (show NumsIn .u8 (w2.alloc (.cells #[.int .u8 77] 5)) (.slice (some ⟨w2.heap.size, 0, none⟩) 1 1) [77] from (Qs.lit w2 (xs := [77]) (fun x hx => by simp at hx; omega) (by simp [maxLen])).nums)
  clear hq1 ht1 hf1 hb2
  go_wp2_with (at_builtin; refine wp_append_q rfl _ _ rfl rfl rfl HQ1.out HS7.out hbl2 ?_)
  intro v2 w3 hq2 ht2 hf2
  obtain ⟨g, o, c2, rfl, hc2, hb9⟩ := hq2.shape' (by simp)
  have hlg : w.heap.size ≤ g := by rcases hf2 g hb9 with e | e; exact HL1.out g e; have := HB2.out.size; (try simp at e); omega
  have hb3 : Below w.heap.size w w3 := (HB2.out.alloc HB2.out.size _).trans (ht2.below (by have := HB2.out.size; simp; omega) (fun k hk => HL1.out k hk))
  simp only [List.length_append, List.length_cons, List.length_nil, Nat.zero_add, List.nil_append] at hq2 hc2
  have hc3 : (b.length : Int) + 1 ≤ (c2 : Int) := by omega
  have HC := Lib.hid (show Cp w b g o c2 w3 from ⟨hq2, hc2, hlg, hb3⟩)
  clear hq2 ht2 hf2 hb9 hlg hb3 hbl2
  have HM := Lib.hid (HC.out.nums hl)
  have HO := Lib.hid (Of_any HM.out (dsk_of HV.out HSZ.out))
  have hq7 := c2
  clear hq7
  go_wp2_with fail
  refine HO.out.mono ?_
  rintro e w4 ⟨S2, rfl, F2, hd4, hF4, hb4⟩
  have HE4 := Lib.hid hd4
  have HC4 := Lib.hid (HC.out.after hb4)
  clear hd4 hF4 hb4
  have hcv1 := str_conv (HC4.out.nums hl)
  have hcv2 := str_conv (HV.out.below HC4.out.below)
  have h77 := HC4.out.last
  have HRS := Lib.hid (fun W => RSize_any b.length W)
  rw [HSZ.out] at HRS
  go_wp2_with (first | (go_at_call 12; refine (num_any _ _).mono ?_; rintro e w' ⟨rfl, rfl⟩) | (go_at_call 13; refine (HRS.out _).mono ?_; rintro e w' ⟨rfl, rfl⟩))
  have HT0 := Lib.hid (show Tw g o c2 b.length w4 w4 from ⟨⟨b ++ [77], by simp, HC4.out.q⟩, Turned.refl _ _⟩)
  clear hcv1 hcv2 h77
  go_loopw [10] (fun q wr => ∃ k : Nat, k ≤ b.length ∧ q = .int .i64 (k : Int) ∧ Hid (Tw g o c2 b.length w4 wr)) (fun q _ => b.length + 1 - natI q)
  case atStart => exact ⟨0, by omega, rfl, HT0.out⟩
  case round =>
    obtain ⟨k, hk, rfl, HT⟩ := hrel
    by_cases hlt : k < b.length
    · have hi : (k : Int) < (b.length : Int) := by omega
      obtain ⟨y, hy, hcell, hfz⟩ := HT.out.at_ hlt
      have hw8 : 0 ≤ IntKind.u8.wrap (y + 1) ∧ IntKind.u8.wrap (y + 1) < 256 := by rw [IntKind.wrap_u8]; omega
      have HT1 := Lib.hid (HT.out.set hlt hw8)
      rw [IntKind.wrap_u8] at HT1
      obtain ⟨y0, y1⟩ := hy
      clear hw8
      go_wp2
      refine ⟨⟨k + 1, by omega, by go_num, HT1.out⟩, ?_⟩
      simp [natI]; omega
    · obtain rfl : k = b.length := by omega
      have HN9 := Lib.hid (HV.out.cp HC4.out HT.out.t)
      have HB9 := Lib.hid (HC4.out.b2 HT.out.t)
      have HE9 := Lib.hid (HE4.out.turned HT.out.t (fun k hF e => by subst e; exact HE4.out.not_u8 HC4.out.blk.choose_spec hF))
      have HI9 := Lib.hid (is_any HE9.out HN9.out)
      go_wp2_with (first | (go_at_call 12; refine (num_any _ _).mono ?_; rintro e w' ⟨rfl, rfl⟩))
      refine HI9.out.mono ?_
      rintro e w5 ⟨rfl, hb5⟩
      have HB5 := Lib.hid (HB9.out.trans (hb5.mono HB9.out.size))
      clear hb5
      have HB6 := HB5
      go_wp2_with (first | (go_at_call 12; refine (num_any _ _).mono ?_; rintro e w' ⟨rfl, rfl⟩))
      refine (works_any _).mono ?_
      rintro e w7 ⟨rfl, hb7⟩
      have HB7 := Lib.hid (HB6.out.trans (hb7.mono HB6.out.size))
      clear hb7
      go_wp2
      go_ret
      exact ⟨rfl, HB7.out⟩
set_option maxRecDepth 100000 in
theorem mk_lo_no {w : World} {n : Int} (hn : n < 1) {v : Value} {b : List Int} (hv : NumsIn .u8 w v b) (hl : b.length ≤ 5000) (hsz : sizeB (b.length : Int) = false) : Calls Try.prog 3 #[.int .i64 n, v] w fun e w' => e = .returned (.bool true) ∧ Below w.heap.size w w' := by
  have HN := Lib.hid (New_no (w := w) (n := n) (.inl hn))
  have HV := Lib.hid hv
  have HSZ := Lib.hid hsz
  have hbl : ([] : List Int).length + b.length ≤ 1000000 := by simp; omega
  have hbl2 : ([] ++ b).length + [(77 : Int)].length ≤ 1000000 := by simp; omega
  obtain ⟨ao, c, rfl, hc, _⟩ := hv.form
  clear hv hsz
  go_enter Try.func3, Try.ntmps3
  go_wp2_with fail
  refine HN.out.mono ?_
  rintro e w1 ⟨rfl, rfl⟩
  have HB1 := Lib.hid (Below.refl w.heap.size w)
  have HI := Lib.hid (HV.out.below (HB1.out.alloc HB1.out.size (.cells #[] 5)))
  go_wp2_with (at_builtin; refine wp_append_q rfl _ _ rfl rfl rfl (Qs.empty _ (some ⟨w.heap.size, 0, none⟩)) HI.out hbl ?_)
  intro v1 w2 hq1 ht1 hf1
  have hb2 : Below w.heap.size w w2 := (HB1.out.alloc HB1.out.size _).trans (ht1.below (by have := HB1.out.size; simp <;> omega) (fun k hk => by simp [blkOf] at hk))
  have HB2 := Lib.hid hb2
  have HQ1 := Lib.hid (hq1.below ((Below.refl _ w2).alloc (Nat.le_refl _) (.cells #[.int .u8 77] 5)))
  have HL1 := Lib.hid (show ∀ k, blkOf v1 = some k → w.heap.size ≤ k from fun k hk => by have := hf1 k hk; simp [blkOf] at this; have := HB1.out.size; omega)
  have HS7 := Lib.hid (show NumsIn .u8 (w2.alloc (.cells #[.int .u8 77] 5)) (.slice (some ⟨w2.heap.size, 0, none⟩) 1 1) [77] from (Qs.lit w2 (xs := [77]) (fun x hx => by simp at hx; omega) (by simp [maxLen])).nums)
  clear hq1 ht1 hf1 hb2
  go_wp2_with (at_builtin; refine wp_append_q rfl _ _ rfl rfl rfl HQ1.out HS7.out hbl2 ?_)
  intro v2 w3 hq2 ht2 hf2
  obtain ⟨g, o, c2, rfl, hc2, hb9⟩ := hq2.shape' (by simp)
  have hlg : w.heap.size ≤ g := by rcases hf2 g hb9 with e | e; exact HL1.out g e; have := HB2.out.size; (try simp at e); omega
  have hb3 : Below w.heap.size w w3 := (HB2.out.alloc HB2.out.size _).trans (ht2.below (by have := HB2.out.size; simp; omega) (fun k hk => HL1.out k hk))
  simp only [List.length_append, List.length_cons, List.length_nil, Nat.zero_add, List.nil_append] at hq2 hc2
  have hc3 : (b.length : Int) + 1 ≤ (c2 : Int) := by omega
  have HC := Lib.hid (show Cp w b g o c2 w3 from ⟨hq2, hc2, hlg, hb3⟩)
  clear hq2 ht2 hf2 hb9 hlg hb3 hbl2
  have HM := Lib.hid (HC.out.nums hl)
  have HO := Lib.hid (Of_no HM.out HSZ.out)
  have hq7 := c2
  clear hq7
  go_wp2_with fail
  refine HO.out.mono ?_
  rintro e w4 ⟨rfl, hb4⟩
  have HC4 := Lib.hid (HC.out.after hb4)
  clear hb4
  have hcv1 := str_conv (HC4.out.nums hl)
  have hcv2 := str_conv (HV.out.below HC4.out.below)
  have h77 := HC4.out.last
  have HRS := Lib.hid (fun W => RSize_any b.length W)
  rw [HSZ.out] at HRS
  go_wp2_with (first | (go_at_call 12; refine (num_any _ _).mono ?_; rintro e w' ⟨rfl, rfl⟩) | (go_at_call 13; refine (HRS.out _).mono ?_; rintro e w' ⟨rfl, rfl⟩))
  have HT0 := Lib.hid (show Tw g o c2 b.length w4 w4 from ⟨⟨b ++ [77], by simp, HC4.out.q⟩, Turned.refl _ _⟩)
  clear hcv1 hcv2 h77
  go_loopw [10] (fun q wr => ∃ k : Nat, k ≤ b.length ∧ q = .int .i64 (k : Int) ∧ Hid (Tw g o c2 b.length w4 wr)) (fun q _ => b.length + 1 - natI q)
  case atStart => exact ⟨0, by omega, rfl, HT0.out⟩
  case round =>
    obtain ⟨k, hk, rfl, HT⟩ := hrel
    by_cases hlt : k < b.length
    · have hi : (k : Int) < (b.length : Int) := by omega
      obtain ⟨y, hy, hcell, hfz⟩ := HT.out.at_ hlt
      have hw8 : 0 ≤ IntKind.u8.wrap (y + 1) ∧ IntKind.u8.wrap (y + 1) < 256 := by rw [IntKind.wrap_u8]; omega
      have HT1 := Lib.hid (HT.out.set hlt hw8)
      rw [IntKind.wrap_u8] at HT1
      obtain ⟨y0, y1⟩ := hy
      clear hw8
      go_wp2
      refine ⟨⟨k + 1, by omega, by go_num, HT1.out⟩, ?_⟩
      simp [natI]; omega
    · obtain rfl : k = b.length := by omega
      have HN9 := Lib.hid (HV.out.cp HC4.out HT.out.t)
      have HB9 := Lib.hid (HC4.out.b2 HT.out.t)
      go_wp2_with (first | (go_at_call 12; refine (num_any _ _).mono ?_; rintro e w' ⟨rfl, rfl⟩))
      have HB5 := HB9
      have HB6 := HB5
      refine (works_any _).mono ?_
      rintro e w7 ⟨rfl, hb7⟩
      have HB7 := Lib.hid (HB6.out.trans (hb7.mono HB6.out.size))
      clear hb7
      go_wp2
      go_ret
      exact ⟨rfl, HB7.out⟩
set_option maxRecDepth 100000 in
theorem mk_hi_yes {w : World} {n : Int} (hn : 32 < n) {v : Value} {b : List Int} (hv : NumsIn .u8 w v b) (hl : b.length ≤ 5000) (hsz : sizeB (b.length : Int) = true) : Calls Try.prog 3 #[.int .i64 n, v] w fun e w' => e = .returned (.bool true) ∧ Below w.heap.size w w' := by
  have HN := Lib.hid (New_no (w := w) (n := n) (.inr hn))
  have HV := Lib.hid hv
  have HSZ := Lib.hid hsz
  have hbl : ([] : List Int).length + b.length ≤ 1000000 := by simp; omega
  have hbl2 : ([] ++ b).length + [(77 : Int)].length ≤ 1000000 := by simp; omega
  obtain ⟨ao, c, rfl, hc, _⟩ := hv.form
  clear hv hsz
  go_enter Try.func3, Try.ntmps3
  go_wp2_with fail
  refine HN.out.mono ?_
  rintro e w1 ⟨rfl, rfl⟩
  have HB1 := Lib.hid (Below.refl w.heap.size w)
  have HI := Lib.hid (HV.out.below (HB1.out.alloc HB1.out.size (.cells #[] 5)))
  go_wp2_with (at_builtin; refine wp_append_q rfl _ _ rfl rfl rfl (Qs.empty _ (some ⟨w.heap.size, 0, none⟩)) HI.out hbl ?_)
  intro v1 w2 hq1 ht1 hf1
  have hb2 : Below w.heap.size w w2 := (HB1.out.alloc HB1.out.size _).trans (ht1.below (by have := HB1.out.size; simp <;> omega) (fun k hk => by simp [blkOf] at hk))
  have HB2 := Lib.hid hb2
  have HQ1 := Lib.hid (hq1.below ((Below.refl _ w2).alloc (Nat.le_refl _) (.cells #[.int .u8 77] 5)))
  have HL1 := Lib.hid (show ∀ k, blkOf v1 = some k → w.heap.size ≤ k from fun k hk => by have := hf1 k hk; simp [blkOf] at this; have := HB1.out.size; omega)
  have HS7 := Lib.hid (show NumsIn .u8 (w2.alloc (.cells #[.int .u8 77] 5)) (.slice (some ⟨w2.heap.size, 0, none⟩) 1 1) [77] from (Qs.lit w2 (xs := [77]) (fun x hx => by simp at hx; omega) (by simp [maxLen])).nums)
  clear hq1 ht1 hf1 hb2
  go_wp2_with (at_builtin; refine wp_append_q rfl _ _ rfl rfl rfl HQ1.out HS7.out hbl2 ?_)
  intro v2 w3 hq2 ht2 hf2
  obtain ⟨g, o, c2, rfl, hc2, hb9⟩ := hq2.shape' (by simp)
  have hlg : w.heap.size ≤ g := by rcases hf2 g hb9 with e | e; exact HL1.out g e; have := HB2.out.size; (try simp at e); omega
  have hb3 : Below w.heap.size w w3 := (HB2.out.alloc HB2.out.size _).trans (ht2.below (by have := HB2.out.size; simp; omega) (fun k hk => HL1.out k hk))
  simp only [List.length_append, List.length_cons, List.length_nil, Nat.zero_add, List.nil_append] at hq2 hc2
  have hc3 : (b.length : Int) + 1 ≤ (c2 : Int) := by omega
  have HC := Lib.hid (show Cp w b g o c2 w3 from ⟨hq2, hc2, hlg, hb3⟩)
  clear hq2 ht2 hf2 hb9 hlg hb3 hbl2
  have HM := Lib.hid (HC.out.nums hl)
  have HO := Lib.hid (Of_any HM.out (dsk_of HV.out HSZ.out))
  have hq7 := c2
  clear hq7
  go_wp2_with fail
  refine HO.out.mono ?_
  rintro e w4 ⟨S2, rfl, F2, hd4, hF4, hb4⟩
  have HE4 := Lib.hid hd4
  have HC4 := Lib.hid (HC.out.after hb4)
  clear hd4 hF4 hb4
  have hcv1 := str_conv (HC4.out.nums hl)
  have hcv2 := str_conv (HV.out.below HC4.out.below)
  have h77 := HC4.out.last
  have HRS := Lib.hid (fun W => RSize_any b.length W)
  rw [HSZ.out] at HRS
  go_wp2_with (first | (go_at_call 12; refine (num_any _ _).mono ?_; rintro e w' ⟨rfl, rfl⟩) | (go_at_call 13; refine (HRS.out _).mono ?_; rintro e w' ⟨rfl, rfl⟩))
  have HT0 := Lib.hid (show Tw g o c2 b.length w4 w4 from ⟨⟨b ++ [77], by simp, HC4.out.q⟩, Turned.refl _ _⟩)
  clear hcv1 hcv2 h77
  go_loopw [10] (fun q wr => ∃ k : Nat, k ≤ b.length ∧ q = .int .i64 (k : Int) ∧ Hid (Tw g o c2 b.length w4 wr)) (fun q _ => b.length + 1 - natI q)
  case atStart => exact ⟨0, by omega, rfl, HT0.out⟩
  case round =>
    obtain ⟨k, hk, rfl, HT⟩ := hrel
    by_cases hlt : k < b.length
    · have hi : (k : Int) < (b.length : Int) := by omega
      obtain ⟨y, hy, hcell, hfz⟩ := HT.out.at_ hlt
      have hw8 : 0 ≤ IntKind.u8.wrap (y + 1) ∧ IntKind.u8.wrap (y + 1) < 256 := by rw [IntKind.wrap_u8]; omega
      have HT1 := Lib.hid (HT.out.set hlt hw8)
      rw [IntKind.wrap_u8] at HT1
      obtain ⟨y0, y1⟩ := hy
      clear hw8
      go_wp2
      refine ⟨⟨k + 1, by omega, by go_num, HT1.out⟩, ?_⟩
      simp [natI]; omega
    · obtain rfl : k = b.length := by omega
      have HN9 := Lib.hid (HV.out.cp HC4.out HT.out.t)
      have HB9 := Lib.hid (HC4.out.b2 HT.out.t)
      have HE9 := Lib.hid (HE4.out.turned HT.out.t (fun k hF e => by subst e; exact HE4.out.not_u8 HC4.out.blk.choose_spec hF))
      have HI9 := Lib.hid (is_any HE9.out HN9.out)
      go_wp2_with (first | (go_at_call 12; refine (num_any _ _).mono ?_; rintro e w' ⟨rfl, rfl⟩))
      refine HI9.out.mono ?_
      rintro e w5 ⟨rfl, hb5⟩
      have HB5 := Lib.hid (HB9.out.trans (hb5.mono HB9.out.size))
      clear hb5
      have HB6 := HB5
      go_wp2_with (first | (go_at_call 12; refine (num_any _ _).mono ?_; rintro e w' ⟨rfl, rfl⟩))
      refine (works_any _).mono ?_
      rintro e w7 ⟨rfl, hb7⟩
      have HB7 := Lib.hid (HB6.out.trans (hb7.mono HB6.out.size))
      clear hb7
      go_wp2
      go_ret
      exact ⟨rfl, HB7.out⟩
set_option maxRecDepth 100000 in
theorem mk_hi_no {w : World} {n : Int} (hn : 32 < n) {v : Value} {b : List Int} (hv : NumsIn .u8 w v b) (hl : b.length ≤ 5000) (hsz : sizeB (b.length : Int) = false) : Calls Try.prog 3 #[.int .i64 n, v] w fun e w' => e = .returned (.bool true) ∧ Below w.heap.size w w' := by
  have HN := Lib.hid (New_no (w := w) (n := n) (.inr hn))
  have HV := Lib.hid hv
  have HSZ := Lib.hid hsz
  have hbl : ([] : List Int).length + b.length ≤ 1000000 := by simp; omega
  have hbl2 : ([] ++ b).length + [(77 : Int)].length ≤ 1000000 := by simp; omega
  obtain ⟨ao, c, rfl, hc, _⟩ := hv.form
  clear hv hsz
  go_enter Try.func3, Try.ntmps3
  go_wp2_with fail
  refine HN.out.mono ?_
  rintro e w1 ⟨rfl, rfl⟩
  have HB1 := Lib.hid (Below.refl w.heap.size w)
  have HI := Lib.hid (HV.out.below (HB1.out.alloc HB1.out.size (.cells #[] 5)))
  go_wp2_with (at_builtin; refine wp_append_q rfl _ _ rfl rfl rfl (Qs.empty _ (some ⟨w.heap.size, 0, none⟩)) HI.out hbl ?_)
  intro v1 w2 hq1 ht1 hf1
  have hb2 : Below w.heap.size w w2 := (HB1.out.alloc HB1.out.size _).trans (ht1.below (by have := HB1.out.size; simp <;> omega) (fun k hk => by simp [blkOf] at hk))
  have HB2 := Lib.hid hb2
  have HQ1 := Lib.hid (hq1.below ((Below.refl _ w2).alloc (Nat.le_refl _) (.cells #[.int .u8 77] 5)))
  have HL1 := Lib.hid (show ∀ k, blkOf v1 = some k → w.heap.size ≤ k from fun k hk => by have := hf1 k hk; simp [blkOf] at this; have := HB1.out.size; omega)
  have HS7 := Lib.hid (show NumsIn .u8 (w2.alloc (.cells #[.int .u8 77] 5)) (.slice (some ⟨w2.heap.size, 0, none⟩) 1 1) [77] from (Qs.lit w2 (xs := [77]) (fun x hx => by simp at hx; omega) (by simp [maxLen])).nums)
  clear hq1 ht1 hf1 hb2
  go_wp2_with (at_builtin; refine wp_append_q rfl _ _ rfl rfl rfl HQ1.out HS7.out hbl2 ?_)
  intro v2 w3 hq2 ht2 hf2
  obtain ⟨g, o, c2, rfl, hc2, hb9⟩ := hq2.shape' (by simp)
  have hlg : w.heap.size ≤ g := by rcases hf2 g hb9 with e | e; exact HL1.out g e; have := HB2.out.size; (try simp at e); omega
  have hb3 : Below w.heap.size w w3 := (HB2.out.alloc HB2.out.size _).trans (ht2.below (by have := HB2.out.size; simp; omega) (fun k hk => HL1.out k hk))
  simp only [List.length_append, List.length_cons, List.length_nil, Nat.zero_add, List.nil_append] at hq2 hc2
  have hc3 : (b.length : Int) + 1 ≤ (c2 : Int) := by omega
  have HC := Lib.hid (show Cp w b g o c2 w3 from ⟨hq2, hc2, hlg, hb3⟩)
  clear hq2 ht2 hf2 hb9 hlg hb3 hbl2
  have HM := Lib.hid (HC.out.nums hl)
  have HO := Lib.hid (Of_no HM.out HSZ.out)
  have hq7 := c2
  clear hq7
  go_wp2_with fail
  refine HO.out.mono ?_
  rintro e w4 ⟨rfl, hb4⟩
  have HC4 := Lib.hid (HC.out.after hb4)
  clear hb4
  have hcv1 := str_conv (HC4.out.nums hl)
  have hcv2 := str_conv (HV.out.below HC4.out.below)
  have h77 := HC4.out.last
  have HRS := Lib.hid (fun W => RSize_any b.length W)
  rw [HSZ.out] at HRS
  go_wp2_with (first | (go_at_call 12; refine (num_any _ _).mono ?_; rintro e w' ⟨rfl, rfl⟩) | (go_at_call 13; refine (HRS.out _).mono ?_; rintro e w' ⟨rfl, rfl⟩))
  have HT0 := Lib.hid (show Tw g o c2 b.length w4 w4 from ⟨⟨b ++ [77], by simp, HC4.out.q⟩, Turned.refl _ _⟩)
  clear hcv1 hcv2 h77
  go_loopw [10] (fun q wr => ∃ k : Nat, k ≤ b.length ∧ q = .int .i64 (k : Int) ∧ Hid (Tw g o c2 b.length w4 wr)) (fun q _ => b.length + 1 - natI q)
  case atStart => exact ⟨0, by omega, rfl, HT0.out⟩
  case round =>
    obtain ⟨k, hk, rfl, HT⟩ := hrel
    by_cases hlt : k < b.length
    · have hi : (k : Int) < (b.length : Int) := by omega
      obtain ⟨y, hy, hcell, hfz⟩ := HT.out.at_ hlt
      have hw8 : 0 ≤ IntKind.u8.wrap (y + 1) ∧ IntKind.u8.wrap (y + 1) < 256 := by rw [IntKind.wrap_u8]; omega
      have HT1 := Lib.hid (HT.out.set hlt hw8)
      rw [IntKind.wrap_u8] at HT1
      obtain ⟨y0, y1⟩ := hy
      clear hw8
      go_wp2
      refine ⟨⟨k + 1, by omega, by go_num, HT1.out⟩, ?_⟩
      simp [natI]; omega
    · obtain rfl : k = b.length := by omega
      have HN9 := Lib.hid (HV.out.cp HC4.out HT.out.t)
      have HB9 := Lib.hid (HC4.out.b2 HT.out.t)
      go_wp2_with (first | (go_at_call 12; refine (num_any _ _).mono ?_; rintro e w' ⟨rfl, rfl⟩))
      have HB5 := HB9
      have HB6 := HB5
      refine (works_any _).mono ?_
      rintro e w7 ⟨rfl, hb7⟩
      have HB7 := Lib.hid (HB6.out.trans (hb7.mono HB6.out.size))
      clear hb7
      go_wp2
      go_ret
      exact ⟨rfl, HB7.out⟩
theorem DiskMakes_walk (n : Int) (v : Value) (b : List Int) (w : World) (hv : NumsIn .u8 w v b) : Calls Try.prog 3 #[.int .i64 n, v] w fun e w' => e = .returned (.bool true) ∧ Below w.heap.size w w' := by
  by_cases hl : b.length ≤ 5000
  · cases hsz : sizeB (b.length : Int) with
    | true =>
      by_cases h1 : n < 1
      · exact mk_lo_yes h1 hv hl hsz
      · by_cases h2 : 32 < n
        · exact mk_hi_yes h2 hv hl hsz
        · obtain ⟨P, rfl⟩ : ∃ P : Nat, n = (P : Int) := ⟨n.toNat, by omega⟩
          exact mk_in_yes (by omega) (by omega) hv hl hsz
    | false =>
      by_cases h1 : n < 1
      · exact mk_lo_no h1 hv hl hsz
      · by_cases h2 : 32 < n
        · exact mk_hi_no h2 hv hl hsz
        · obtain ⟨P, rfl⟩ : ∃ P : Nat, n = (P : Int) := ⟨n.toNat, by omega⟩
          exact mk_in_no (by omega) (by omega) hv hl hsz
  · exact DiskMakes_long hv (by omega)
end Go.Proofs.Ytbinpapgfddafaa
