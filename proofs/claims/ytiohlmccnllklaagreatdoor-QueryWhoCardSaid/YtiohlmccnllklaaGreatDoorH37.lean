/-
  Layer 14: going back from a point that has a note: walk.
-/
import Derived.Test.YtiohlmccnllklaaGreatDoorH35
set_option linter.unusedVariables false
set_option linter.unusedSimpArgs false
namespace Go.Proofs.YtiohlmccnllklaaGreatDoor.Q
open Go.RowKit
set_option maxHeartbeats 16000000
set_option maxRecDepth 100000
set_option linter.unusedVariables false
set_option linter.unusedSimpArgs false

theorem fol_some {w0 : World} {S mb : Nat} {ns : List T.No} {la : Int} {V : T.Pl → Value} (h0 : HsIs w0 S mb ns la V) (hu : T.Up ns) (hl : ns.length ≤ 900000) (hfp : ∀ n ∈ ns, ∀ q ∈ n.fr, Pi q) (hpn : ∀ n ∈ ns, I64 n.st) {a : T.Pt} (ha : PiT a) {deep : Int} (hd : 0 ≤ deep ∧ deep ≤ 1000)
    {U F : List T.Pt} {R : List T.Pl} (hI : T.Inv U F R) (hU : U.length ≤ 900000) (hk : T.key ns a ∈ U) {x : Bx5} {w : World} (h : Fw w0 S x F R w)
    {n : T.No} (hn : T.lastN ns a.1 a.2 = some n)
    (hrec : ∀ (c : T.Pt) (W : World) (F2 : List T.Pt) (R2 : List T.Pl), c ∈ T.kids ns a → Fw w0 S x F2 R2 W → T.Inv U F2 R2 → Calls Tryz.prog 45 (#[.agg (ptc c), .int .i64 (deep + 1)] ++ x.ps) W fun e w' => FolO w0 S x ns U F2 R2 c W e w') :
    Calls Tryz.prog 45 (#[.agg (ptc a), .int .i64 deep] ++ x.ps) w fun e w' => FolO w0 S x ns U F R a w e w' := by
  have hz := zero_note
  have hzp := zero_point
  have hzu := zero_unit
  have hd2 : ¬ (1000 : Int) < deep := by omega
  have hb1 := bel1 w (.cells (ptc a) 120)
  have HF1 := Lib.hid (h.after hb1)
  have HK1 := Lib.hid (blk_new w (ptc a) 120)
  have HLa := Lib.hid (last_any h0 (HF1.out.b) hu (by omega) ha.1 a.2)
  have HB1 := Lib.hid hb1
  have HI := Lib.hid hI
  have HKU := Lib.hid hk
  have HUp := Lib.hid hu
  have HRec := Lib.hid hrec
  have HFp := Lib.hid hfp
  have HPn := Lib.hid hpn
  have HA := Lib.hid ha
  have hUl := hU
  have hD := Lib.hid hd
  have ch := HF1.out.h.cell 0
  have k0 := HK1.out.cell 0
  have k1 := HK1.out.cell 1
  have k2 := HK1.out.cell 2
  have ho := Lib.hid hn
  rw [hn] at HLa
  unfold ptc at ch k0 k1 k2 HK1 HLa HB1 HF1 ⊢
  simp only [List.getElem?_toArray, List.getElem?_cons_zero, List.getElem?_cons_succ] at ch k0 k1 k2
  have hx : Hid (x.ps = #[.pointer (some ⟨x.l, 0, none⟩), .pointer (some ⟨x.h, 0, none⟩), .pointer (some ⟨x.f, 0, none⟩), .pointer (some ⟨x.r, 0, none⟩), .pointer (some ⟨x.g, 0, none⟩)]) := Lib.hid rfl
  rw [hx.out]
  clear h hb1 hI hk hu ha hfp h0 hd hU hn hrec hpn
  obtain ⟨xl, xh, xf, xr, xg, xm⟩ := x
  simp only at ch hx ⊢
  show Calls Tryz.prog 45 #[.agg #[.int .i64 a.1.1, .int .i64 a.1.2, .int .i64 a.2], .int .i64 deep, .pointer (some ⟨xl, 0, none⟩), .pointer (some ⟨xh, 0, none⟩), .pointer (some ⟨xf, 0, none⟩), .pointer (some ⟨xr, 0, none⟩), .pointer (some ⟨xg, 0, none⟩)] w _
  go_enter Tryz.func45, Tryz.ntmps45
  go_wp2_with fail
  refine HLa.out.mono ?_
  rintro e w2 ⟨⟨fv, hfo, rfl⟩, hb⟩
  have HF2 := Lib.hid (HF1.out.after hb)
  have HK2 := Lib.hid (HK1.out.below hb)
  have HT2 := Lib.hid (belT HB1.out hb)
  have HO := Lib.hid hfo
  clear hb ch k0 k1 k2 HLa HF1 HK1 HB1
  have hlt2 : w.heap.size < w2.heap.size := HK2.out.lt
  have k0 := HK2.out.cell 0
  have k1 := HK2.out.cell 1
  simp only [List.getElem?_toArray, List.getElem?_cons_zero, List.getElem?_cons_succ] at k0 k1
  have hnm := T.lastN_mem ho.out
  have hst : I64 n.st := HPn.out n hnm.1
  have HPf := Lib.hid (HFp.out n hnm.1)
  have hkey : T.key ns a = (a.1, n.st) := by unfold T.key T.nst; rw [ho.out]
  have hkid : T.kids ns a = n.fr.map fun q => (q, n.st) := by unfold T.kids; rw [ho.out]
  have HKey := Lib.hid hkey
  have HKid := Lib.hid hkid
  have HPk : Hid (PiT (a.1, n.st)) := Lib.hid ⟨HA.out.1, hst⟩
  simp only [Option.getD_some, Option.isSome_some] at HO ⊢
  unfold noc
  obtain ⟨of, cf, rfl, _, hmxl⟩ := HO.out.1.shape
  unfold maxLen at hmxl
  have hb3 := belT (bel1 w2 (.cells #[.int .i64 n.st, .int .i64 n.pl.1, .int .i64 n.pl.2, .slice of n.fr.length cf] 63)) (bel1 (w2.alloc (.cells #[.int .i64 n.st, .int .i64 n.pl.1, .int .i64 n.pl.2, .slice of n.fr.length cf] 63)) (.cells (ptc (a.1, n.st)) 120))
  have hb4 := belT hb3 (bel1 _ (.cells #[] 126))
  have HF3 := Lib.hid (HF2.out.after hb3)
  have HF4 := Lib.hid (HF2.out.after hb4)
  have HT4 := Lib.hid (belT HT2.out hb4)
  have cfm := HF3.out.f.cell 0
  have cfm4 := HF4.out.f.cell 0
  simp only [List.getElem?_toArray, List.getElem?_cons_zero, List.getElem?_cons_succ] at cfm cfm4
  obtain ⟨D, hm3, hD0⟩ := HF3.out.m
  have hm4 := own_keep hm3 ((bel1 ((w2.alloc (.cells #[.int .i64 n.st, .int .i64 n.pl.1, .int .i64 n.pl.2, .slice of n.fr.length cf] 63)).alloc (.cells (ptc (a.1, n.st)) 120)) (.cells #[] 126)).block _ hm3.lt)
  have hhas := hD0 _ HPk.out
  have HD0 := Lib.hid hD0
  have HM0 := Lib.hid hm3.isMap
  unfold ptc at hb3 hb4 HF3 HF4 HT4 cfm cfm4 hm3 hm4
  simp only at hb3 hb4 HF3 HF4 HT4 cfm cfm4 hm3 hm4
  clear hb3 hb4 hD0 hkey hkid hnm hst HPn HFp
  have hIl := HI.out.len
  by_cases hkf : ((a.1, n.st) : T.Pt) ∈ F
  · have HFin := Lib.hid (fol_was (w := w) HI.out (by rw [HKey.out]; exact hkf) HF4.out HT4.out)
    simp only [hkf, decide_true] at hhas
    clear hkf hm4 HRec hx HF2 HK2 HT2 HPf
    go_wp2_with (at_lookup; refine wpList_lookup_own_unit _ rfl _ _ 124 rfl 120 126 pointLaw Tryz.underlying124 (zero_unit _) xm F.length D rfl hm3 _ _ rfl (key_point HPk.out) ?_)
    go_end0
    exact HFin.out
  · have hhas2 : Maps.has D (qk (a.1, n.st)) = false := by rw [hhas]; simpa using hkf
    have HKf : Hid (T.key ns a ∉ F) := Lib.hid (by rw [HKey.out]; exact hkf)
    have hFl : F.length < 1000000 := by omega
    have HNb : Hid (Blk _ w2.heap.size #[.int .i64 n.st, .int .i64 n.pl.1, .int .i64 n.pl.2, .slice of n.fr.length cf] 63) := Lib.hid (((blk_new w2 _ 63).alloc (.cells #[.int .i64 a.1.1, .int .i64 a.1.2, .int .i64 n.st] 120)).alloc (.cells #[] 126))
    clear hkf hhas hx hfo HF2 HK2 HT2
    go_wp2_with (first
      | (at_lookup; refine wpList_lookup_own_unit _ rfl _ _ 124 rfl 120 126 pointLaw Tryz.underlying124 (zero_unit _) xm F.length D rfl hm3 _ _ rfl (key_point HPk.out) ?_)
      | (at_mapUpdate; refine wpList_mapUpdate_own _ rfl _ _ _ 124 rfl 120 126 pointLaw Tryz.underlying124 unitElem xm F.length D rfl hm4 (by unfold maxLen; omega) _ _ _ rfl rfl (key_point HPk.out) (.agg []) [] unitElem_mk ?_; intro w5 hown5 hg5; have HX := Lib.hid (HF4.out.found HPk.out HD0.out HM0.out hown5 hg5); have hn5 := HNb.out.turned HX.out.2 (HF4.out.neM HNb.out); have HFl0 := Lib.hid (Fl.start (R := R) HUp.out HI.out HKU.out ho.out HKf.out HT4.out HX.out.2 (by rw [HKey.out]; exact HX.out.1) hn5); have z3 := hn5.cell 3; simp only [List.getElem?_toArray, List.getElem?_cons_zero, List.getElem?_cons_succ] at z3; clear hm3 hm4 hown5 hg5 hn5 cfm cfm4 k0 k1))
    have HFl0' := Lib.hid HFl0.out
    clear z3 HX HF3 HF4 HT4 HNb HD0 HM0 hhas2
    go_loopw [55] (fun i wr => ∃ k : Nat, k ≤ n.fr.length ∧ i = .int .i64 (k : Int) ∧ Hid (Fl w0 S ⟨xl, xh, xf, xr, xg, xm⟩ ns U F a w w2.heap.size #[.int .i64 n.st, .int .i64 n.pl.1, .int .i64 n.pl.2, .slice of n.fr.length cf] k wr)) (fun i _ => n.fr.length + 1 - natI i)
    case atStart => exact ⟨0, by omega, rfl, HFl0'.out⟩
    case round =>
      obtain ⟨k, hk, rfl, HA5⟩ := hrel
      clear HFl0 HFl0'
      by_cases hlt : k < n.fr.length
      · have hi : (k : Int) < (n.fr.length : Int) := by omega
        obtain ⟨F2, R2, hF5, hD5⟩ := HA5.out.d
        obtain ⟨g1, o1, c1, p, e1, l1, hpi, r1⟩ := ((HO.out.below hF5.b).pls).at_ hlt
        obtain ⟨q1, q2⟩ := rng2 r1
        simp at e1
        obtain ⟨rfl, rfl⟩ := e1
        have hb6 := bel1 wr (.cells #[.int .i64 p.1, .int .i64 p.2] 42)
        have hA6 := HA5.out.after hb6
        have hF6 := hF5.after hb6
        have cg := hF6.g.cell 0
        have cn := hA6.n.cell 0
        simp only [List.getElem?_toArray, List.getElem?_cons_zero, List.getElem?_cons_succ] at cg cn
        unfold Bx5.fn Bx5.ps at cg
        simp only at cg
        have hkc : (T.kids ns a)[k]? = some (p, n.st) := by rw [HKid.out, List.getElem?_map, l1]; rfl
        have hcall := HRec.out (p, n.st) (wr.alloc (.cells #[.int .i64 p.1, .int .i64 p.2] 42)) F2 R2 (List.mem_of_getElem? hkc) hF6 hD5.inv
        change Calls Tryz.prog 45 #[.agg #[.int .i64 p.1, .int .i64 p.2, .int .i64 n.st], .int .i64 (deep + 1), .pointer (some ⟨xl, 0, none⟩), .pointer (some ⟨xh, 0, none⟩), .pointer (some ⟨xf, 0, none⟩), .pointer (some ⟨xr, 0, none⟩), .pointer (some ⟨xg, 0, none⟩)] _ _ at hcall
        have HCall := Lib.hid hcall
        have HSt := Lib.hid (And.intro hA6 (And.intro hF6 (And.intro hD5 hkc)))
        clear hb6 hA6 hF6 hF5 hD5 hkc hcall r1 l1 hpi HA5
        have hd3 := hD.out.1
        go_wp2_with fail
        refine HCall.out.mono ?_
        intro e w8 hf
        obtain ⟨rfl, h8⟩ := Fl.step HSt.out.1.t HSt.out.1.n HSt.out.2.1 HSt.out.2.2.1 HSt.out.2.2.2 hf
        have H8 := Lib.hid h8
        clear h8 hf cg cn q1 q2 HCall HSt
        go_wp2
        exact ⟨⟨k + 1, by omega, by go_num, H8.out⟩, by simp [natI]; omega⟩
      · obtain rfl : k = n.fr.length := by omega
        have HFin := Lib.hid (Fl.end_ (R := R) HUp.out ho.out HA5.out)
        go_wp2
        go_end0
        exact HFin.out
end Go.Proofs.YtiohlmccnllklaaGreatDoor.Q
