/-
  Layer 14: going back from a point that has no note: walk.
-/
import Derived.Test.YtiohlmccnllklaaGreatDoorH35
set_option linter.unusedVariables false
set_option linter.unusedSimpArgs false
namespace Go.Proofs.YtiohlmccnllklaaGreatDoor.Q
open Go.RowKit
set_option maxHeartbeats 16000000
set_option maxRecDepth 100000
set_option linter.unusedVariables false
set_option linter.unusedSimpArgs false

theorem fol_none {w0 : World} {S mb : Nat} {ns : List T.No} {la : Int} {V : T.Pl → Value} (h0 : HsIs w0 S mb ns la V) (hu : T.Up ns) (hl : ns.length ≤ 900000) (hfp : ∀ n ∈ ns, ∀ q ∈ n.fr, Pi q) {a : T.Pt} (ha : PiT a) {deep : Int} (hd : 0 ≤ deep ∧ deep ≤ 1000)
    {U F : List T.Pt} {R : List T.Pl} (hI : T.Inv U F R) (hU : U.length ≤ 900000) (hk : T.key ns a ∈ U) {x : Bx5} {w : World} (h : Fw w0 S x F R w)
    (hn : T.lastN ns a.1 a.2 = none) :
    Calls Tryz.prog 45 (#[.agg (ptc a), .int .i64 deep] ++ x.ps) w fun e w' => FolO w0 S x ns U F R a w e w' := by
  have hz := zero_note
  have hzp := zero_point
  have hzu := zero_unit
  have hd2 : ¬ (1000 : Int) < deep := by omega
  have hb1 := bel1 w (.cells (ptc a) 120)
  have HF1 := Lib.hid (h.after hb1)
  have HK1 := Lib.hid (blk_new w (ptc a) 120)
  have HLa := Lib.hid (last_any h0 (HF1.out.b) hu (by omega) ha.1 a.2)
  have HB1 := Lib.hid hb1
  have HI := Lib.hid hI
  have HKU := Lib.hid hk
  have HUp := Lib.hid hu
  have HA := Lib.hid ha
  have hUl := hU
  have hD := Lib.hid hd
  have ch := HF1.out.h.cell 0
  have k0 := HK1.out.cell 0
  have k1 := HK1.out.cell 1
  have k2 := HK1.out.cell 2
  have ho := Lib.hid hn
  rw [hn] at HLa
  unfold ptc at ch k0 k1 k2 HK1 HLa HB1 HF1 ⊢
  simp only [List.getElem?_toArray, List.getElem?_cons_zero, List.getElem?_cons_succ] at ch k0 k1 k2
  have hx : Hid (x.ps = #[.pointer (some ⟨x.l, 0, none⟩), .pointer (some ⟨x.h, 0, none⟩), .pointer (some ⟨x.f, 0, none⟩), .pointer (some ⟨x.r, 0, none⟩), .pointer (some ⟨x.g, 0, none⟩)]) := Lib.hid rfl
  rw [hx.out]
  clear h hb1 hI hk hu ha hfp h0 hd hU hn
  obtain ⟨xl, xh, xf, xr, xg, xm⟩ := x
  simp only at ch hx ⊢
  show Calls Tryz.prog 45 #[.agg #[.int .i64 a.1.1, .int .i64 a.1.2, .int .i64 a.2], .int .i64 deep, .pointer (some ⟨xl, 0, none⟩), .pointer (some ⟨xh, 0, none⟩), .pointer (some ⟨xf, 0, none⟩), .pointer (some ⟨xr, 0, none⟩), .pointer (some ⟨xg, 0, none⟩)] w _
  go_enter Tryz.func45, Tryz.ntmps45
  go_wp2_with fail
  refine HLa.out.mono ?_
  rintro e w2 ⟨⟨fv, hfo, rfl⟩, hb⟩
  have HF2 := Lib.hid (HF1.out.after hb)
  have HK2 := Lib.hid (HK1.out.below hb)
  have HT2 := Lib.hid (belT HB1.out hb)
  have HO := Lib.hid hfo
  clear hb ch k0 k1 k2 HLa HF1 HK1 HB1
  have hlt2 : w.heap.size < w2.heap.size := HK2.out.lt
  have k0 := HK2.out.cell 0
  have k1 := HK2.out.cell 1
  simp only [List.getElem?_toArray, List.getElem?_cons_zero, List.getElem?_cons_succ] at k0 k1
  · skip
    have hkey : T.key ns a = (a.1, -1) := by unfold T.key T.nst; rw [ho.out]
    have HKey := Lib.hid hkey
    have HPk : Hid (PiT (a.1, -1)) := Lib.hid ⟨HA.out.1, (by show (-9223372036854775808 : Int) ≤ -1; decide), (by show (-1 : Int) ≤ 9223372036854775807; decide)⟩
    simp only [Option.getD_none, Option.isSome_none] at HO ⊢
    unfold no0 at HO ⊢
    unfold noc
    simp only at HO ⊢
    obtain ⟨of, cf, rfl, _, _⟩ := HO.out.1.shape
    have hb3 := belT (bel1 w2 (.cells #[.int .i64 0, .int .i64 0, .int .i64 0, .slice of 0 cf] 63)) (bel1 (w2.alloc (.cells #[.int .i64 0, .int .i64 0, .int .i64 0, .slice of 0 cf] 63)) (.cells (ptc (a.1, -1)) 120))
    have hb4 := belT hb3 (bel1 _ (.cells #[] 126))
    have HF3 := Lib.hid (HF2.out.after hb3)
    have HF4 := Lib.hid (HF2.out.after hb4)
    have HT4 := Lib.hid (belT HT2.out hb4)
    have HK4 := Lib.hid (HK2.out.below hb4)
    have cfm := HF3.out.f.cell 0
    have cfm4 := HF4.out.f.cell 0
    simp only [List.getElem?_toArray, List.getElem?_cons_zero, List.getElem?_cons_succ] at cfm cfm4
    obtain ⟨D, hm3, hD⟩ := HF3.out.m
    have hm4 := own_keep hm3 ((bel1 ((w2.alloc (.cells #[.int .i64 0, .int .i64 0, .int .i64 0, .slice of 0 cf] 63)).alloc (.cells (ptc (a.1, -1)) 120)) (.cells #[] 126)).block _ hm3.lt)
    have hhas := hD _ HPk.out
    have HD0 := Lib.hid hD
    have HM0 := Lib.hid hm3.isMap
    unfold ptc at hb3 hb4 HF3 HF4 HT4 HK4 cfm cfm4 hm3 hm4
    simp only at hb3 hb4 HF3 HF4 HT4 HK4 cfm cfm4 hm3 hm4
    clear hb3 hb4 hD hkey
    have hIl := HI.out.len
    by_cases hkf : ((a.1, -1) : T.Pt) ∈ F
    · have HFin := Lib.hid (show FolO w0 S ⟨xl, xh, xf, xr, xg, xm⟩ ns U F R a w (.returned (.tuple #[])) _ from ⟨rfl, F, R, HF4.out, .found HI.out (by rw [HKey.out]; exact hkf), Turned.of_below HT4.out _⟩)
      simp only [hkf, decide_true] at hhas
      clear hkf hm4
      go_wp2_with (at_lookup; refine wpList_lookup_own_unit _ rfl _ _ 124 rfl 120 126 pointLaw Tryz.underlying124 (zero_unit _) xm F.length D rfl hm3 _ _ rfl (key_point HPk.out) ?_)
      go_end0
      exact HFin.out
    · have hhas2 : Maps.has D (qk (a.1, -1)) = false := by rw [hhas]; simpa using hkf
      have HKf := Lib.hid hkf
      have hFl : F.length < 1000000 := by omega
      have hRl : R.length + 1 ≤ 1000000 := by omega
      have HNb : Hid (Blk _ w2.heap.size #[.int .i64 0, .int .i64 0, .int .i64 0, .slice of 0 cf] 63) := Lib.hid (((blk_new w2 _ 63).alloc (.cells #[.int .i64 a.1.1, .int .i64 a.1.2, .int .i64 (-1)] 120)).alloc (.cells #[] 126))
      clear hkf hhas hD hx hfo HF2 HK2 HT2 hzp
      have hzp := zero_point
      go_wp2_with (first
        | (at_lookup; refine wpList_lookup_own_unit _ rfl _ _ 124 rfl 120 126 pointLaw Tryz.underlying124 (zero_unit _) xm F.length D rfl hm3 _ _ rfl (key_point HPk.out) ?_)
        | (at_mapUpdate; refine wpList_mapUpdate_own _ rfl _ _ _ 124 rfl 120 126 pointLaw Tryz.underlying124 unitElem xm F.length D rfl hm4 (by unfold maxLen; omega) _ _ _ rfl rfl (key_point HPk.out) (.agg []) [] unitElem_mk ?_; intro w5 hown5 hg5; have HX := Lib.hid (HF4.out.found HPk.out HD0.out HM0.out hown5 hg5); have hk5 := HK4.out.turned HX.out.2 (HF4.out.neM HK4.out); have hn5 := HNb.out.turned HX.out.2 (HF4.out.neM HNb.out); have HK5 := Lib.hid (And.intro hk5 hn5); have z0 := hk5.cell 0; have z1 := hk5.cell 1; simp only [List.getElem?_toArray, List.getElem?_cons_zero, List.getElem?_cons_succ] at z0 z1; obtain ⟨rv, r1, r2, r3⟩ := HX.out.1.r; obtain ⟨orv, crv, erv, _, _⟩ := r2.1.shape; subst erv; have c5 := r1.cell 0; simp only [List.getElem?_toArray, List.getElem?_cons_zero] at c5; have HR := Lib.hid (And.intro r1 (And.intro r2 r3)); clear hm3 hm4 hown5 hg5 hk5 hn5 r1 r2 r3 cfm cfm4 k0 k1)
        | (refine wp_append_g rfl _ _ rfl Tryz.underlying24 infoPl rfl (by omega) (by omega) rfl rfl ((HR.out.2.1.below (bel1 w5 (.cells (plc a.1).toArray 42))).1) (pl_src w5 a.1) (by omega) ?_; intro v6 w6 hg6 ht6 hn6; obtain ⟨o6, c6, e6, _, _⟩ := hg6.shape; subst e6; have HY := Lib.hid ((HX.out.1.after (bel1 w5 (.cells (plc a.1).toArray 42))).root HA.out.1 (HR.out.1.below (bel1 w5 _)) (HR.out.2.1.below (bel1 w5 _)) HR.out.2.2 hg6 ht6 hn6); have cR := HY.out.2.2.cell 0; have fR := HY.out.2.2.frozen 0; simp only [List.getElem?_toArray, List.getElem?_cons_zero] at cR; have hnb6 := (HK5.out.2.alloc (.cells (plc a.1).toArray 42)).turned ht6 (fun e => (HR.out.2.1.below (bel1 w5 (.cells (plc a.1).toArray 42))).1.ne (HK5.out.2.alloc (.cells (plc a.1).toArray 42)) (by decide) e rfl); have z3 := hnb6.cell 3; simp only [List.getElem?_toArray, List.getElem?_cons_zero, List.getElem?_cons_succ] at z3; have hne : ¬ w2.heap.size = xr := (fun e => by have h1 := HY.out.2.2; have h2 := hnb6; rw [← e] at h1; unfold Blk at h1 h2; rw [h2] at h1; simp at h1); have hne2 : ¬ xr = w2.heap.size := (fun e => hne e.symm); have HFin := Lib.hid (fol_leaf HUp.out HI.out HKU.out ho.out HKf.out HT4.out HX.out.2 (bel1 w5 _) (HR.out.2.1.below (bel1 w5 (.cells (plc a.1).toArray 42))) HR.out.2.2 HY.out.1 HY.out.2.1); clear hg6 ht6 hn6 hnb6 z0 z1 c5))
      refine wp_loop_rounds 1 ?_
      rw [rounds_succ]
      go_wp2
      go_end0
      exact HFin.out
end Go.Proofs.YtiohlmccnllklaaGreatDoor.Q
