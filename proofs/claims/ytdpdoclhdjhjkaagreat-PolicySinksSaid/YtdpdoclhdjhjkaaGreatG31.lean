/-
  Layer 13: Alerts: a walk.
-/
import Derived.Test.YtdpdoclhdjhjkaaGreatG30
set_option linter.unusedVariables false
set_option linter.unusedSimpArgs false
namespace Go.Proofs.YtdpdoclhdjhjkaaGreat
open Go.RowKit
set_option maxHeartbeats 4000000
set_option maxRecDepth 100000
set_option linter.unusedVariables false
set_option linter.unusedSimpArgs false

theorem infoAl : (Tryz.prog.info? 147).map (fun i => (i.zero, i.size, i.bytes)) = some (some (.agg #[.int .i64 0, .int .i64 0, .int .u32 0]), 3, 24) := by kernel_rfl
theorem al_src (w : World) (a b s : Int) : Src Tryz.prog 3 78 (.slice (some ⟨w.heap.size, 0, none⟩) 1 1) 1 [.int .i64 a, .int .i64 b, .int .u32 s] (w.alloc (.cells #[.int .i64 a, .int .i64 b, .int .u32 s] 147)) := by
  refine Src.ofSlice _ Tryz.underlying78 _ 1 1 _ rfl (fun j u hj => ?_) (fun u hu => ?_)
  · rw [add_lit, (blk_new w _ _).cell, Nat.zero_add]
    simpa using hj
  · simp at hu
    rcases hu with rfl | rfl | rfl <;> rfl
/-- Which alerts are told. -/
def alsOf (r : Ru) (f : T.Fl) (ts : List T.Tc) : List T.Pr := if T.mayAll f.fr f.se ts = true then als r f.ps ts else []
/-- A round of Alerts: the alerts so far. -/
structure AlS (w : World) (G : Nat) (av : Value) (l : List T.Pr) (W : World) : Prop where
  b : Below w.heap.size w W
  row : Gs 147 3 W av l.length (l.flatMap prc)
  lo : ∀ k, blkOf av = some k → w.heap.size ≤ k ∧ k ≠ G
  sk : SkM W G
theorem AlS.after {w : World} {G : Nat} {av : Value} {l : List T.Pr} {W W' : World} (h : AlS w G av l W) (hb : Below W.heap.size W W') : AlS w G av l W' := ⟨h.b.trans (hb.mono h.b.size), h.row.below hb, h.lo, h.sk.below hb⟩
theorem AlS.app {w : World} {G : Nat} {av av' : Value} {l : List T.Pr} {W W' : World} (h : AlS w G av l W) {x : T.Pr} (hg : Gs 147 3 W' av' (l.length + 1) (l.flatMap prc ++ prc x)) (ht : Turned (fun k => blkOf av = some k) W W') (hn : ∀ k, blkOf av' = some k → blkOf av = some k ∨ W.heap.size ≤ k) : AlS w G av' (l ++ [x]) W' := by
  have hz := h.b.size
  refine ⟨h.b.trans (ht.below hz (fun k e => (h.lo k e).1)), by simpa using hg, fun k hk => ?_, h.sk.keep (ht.block G h.sk.lt (fun e => (h.lo G e).2 rfl))⟩
  rcases hn k hk with e | e
  · exact h.lo k e
  · exact ⟨by omega, fun e2 => by have := h.sk.lt; omega⟩
/-- What the drawn region of Alerts knows. -/
structure AlR (w : World) (S B : Nat) (r : Ru) (t : T.Tc) (fv : Value) (G : Nat) (av : Value) (l : List T.Pr) (W : World) : Prop where
  p : Po W S r
  b0 : W.cell? ⟨B, 0, none⟩ = some (.int .i64 t.1.1)
  b1 : W.cell? ⟨B, 1, none⟩ = some (.int .i64 t.1.2)
  b2 : W.cell? ⟨B, 2, none⟩ = some fv
  a : AlS w G av l W
theorem AlR.stb (w : World) (S B : Nat) (r : Ru) (t : T.Tc) (fv : Value) (G : Nat) (av : Value) (l : List T.Pr) : Free.Stb (AlR w S B r t fv G av l) := fun W W' h hb => ⟨h.p.below hb, cell_below h.b0 hb, cell_below h.b1 hb, cell_below h.b2 hb, h.a.after hb⟩
theorem AlR.after {w : World} {S B : Nat} {r : Ru} {t : T.Tc} {fv : Value} {G : Nat} {av : Value} {l : List T.Pr} {W W' : World} (h : AlR w S B r t fv G av l W) (hb : Below W.heap.size W W') : AlR w S B r t fv G av l W' := AlR.stb _ _ _ _ _ _ _ _ _ _ _ h hb
theorem Alerts_err {S : Nat} {w : World} (q : Option Addr) {v : Value} {a b : Int} (hb0 : b ≠ 0) (p : Option Addr) (hd : ∀ W, Below w.heap.size w W → Calls Tryz.prog 65 #[.pointer p, .pointer q, v] W fun e w' => e = .returned (.tuple #[.int .u32 a, .int .i64 b]) ∧ Below W.heap.size W w') :
    Calls Tryz.prog 29 #[.pointer p, .pointer q, v] w fun e w' => e = .returned (.tuple #[.slice none 0 0, .int .i64 b]) ∧ Below w.heap.size w w' := by
  have HD := Lib.hid hd
  have HX := Lib.hid hb0
  clear hd
  go_enter Tryz.func29, Tryz.ntmps29
  go_wp2
  refine L2.wp_scope_fwd 0 rfl ?_
  go_wp2_with fail
  refine (sinksOf_any w).mono ?_
  rintro e w1 ⟨rfl, hsk, hb⟩
  have HB := Lib.hid hb
  clear hsk hb
  go_wp2_with fail
  refine (HD.out _ HB.out).mono ?_
  rintro e w2 ⟨rfl, hb⟩
  have HB2 := Lib.hid (HB.out.trans (hb.mono HB.out.size))
  clear hb
  go_wp2
  go_step3
  refine ⟨rfl, ?_⟩
  go_wp2
  rw [Exit.noGoto_ret]
  go_ret2
  exact ⟨rfl, HB2.out⟩
theorem Alerts_any {S : Nat} {r : Ru} {w : World} (h : Po w S r) (hr : RuW r) {Sf : Nat} {f : T.Fl} {F : Nat → Prop} (hat : At w Sf f F) {v : Value} {ts : List T.Tc} (hv : TsIn w v ts) (hl : ts.length ≤ 900000) :
    Calls Tryz.prog 29 #[.pointer (some ⟨S, 0, none⟩), .pointer (some ⟨Sf, 0, none⟩), v] w fun e w' => ∃ av, e = .returned (.tuple #[av, .int .i64 (f.decides ts).2]) ∧ PrIn w' av (alsOf r f ts) ∧ Below w.heap.size w w' := by
  have hd : ∀ W, Below w.heap.size w W → Calls Tryz.prog 65 #[.pointer (some ⟨S, 0, none⟩), .pointer (some ⟨Sf, 0, none⟩), v] W fun e w' => e = .returned (.tuple #[.int .u32 (f.decides ts).1, .int .i64 (f.decides ts).2]) ∧ Below W.heap.size W w' := fun W hb => pDec_of (h.below hb) _ (Decides_any (hat.below hb) (hv.below hb))
  obtain ⟨q, hq⟩ : ∃ q, Hid (q = alsOf r f ts) := ⟨_, rfl⟩
  rw [← hq.out]
  cases hm : T.mayAll f.fr f.se ts with
  | false =>
    have e1 : f.decides ts = (0, 2) := by unfold T.Fl.decides; rw [if_pos hm]
    rw [e1] at hd ⊢
    refine (Alerts_err (S := S) _ (by decide) _ hd).mono ?_
    rintro e w' ⟨rfl, hb⟩
    refine ⟨_, rfl, ?_, hb⟩
    rw [hq.out]; unfold alsOf; rw [hm]
    exact Rd.nil _ _ _ _
  | true =>
    have e1 : f.decides ts = (T.dec f.ps 0 ts, 0) := by unfold T.Fl.decides; rw [if_neg (by rw [hm]; simp)]
    rw [e1] at hd ⊢
    have hq2 : q = als r f.ps ts := by rw [hq.out]; unfold alsOf; rw [if_pos hm]
    have HQ := Lib.hid hq2
    have HD := Lib.hid hd
    have HM := Lib.hid (List.all_eq_true.1 hm)
    have HP := Lib.hid h
    have HAt := Lib.hid hat
    have HR := Lib.hid hr
    have HTs := Lib.hid (fun W (hb : Below w.heap.size w W) => (show TsIn W v ts from hv.below hb))
    have HSm := Lib.hid hat.ok.small
    have hSl := h.lt
    obtain ⟨ot, ct, rfl, _, _⟩ := hv.shape
    generalize T.dec f.ps 0 ts = dd at HD
    clear h hr hat hv hd hm e1 hq hq2
    go_enter Tryz.func29, Tryz.ntmps29
    go_wp2
    refine L2.wp_scope_fwd 0 rfl ?_
    go_wp2_with fail
    refine (sinksOf_any w).mono ?_
    rintro e w1 ⟨rfl, hsk, hb⟩
    have HB := Lib.hid hb
    have HK := Lib.hid hsk
    clear hsk hb
    go_wp2_with fail
    refine (HD.out _ HB.out).mono ?_
    rintro e w2 ⟨rfl, hb⟩
    have H2 : Hid (AlS w w.heap.size (.slice none 0 0) [] w2) := ⟨HB.out.trans (hb.mono HB.out.size), Gs.nil _ _ _, fun k hk => by simp [blkOf] at hk, HK.out.below hb⟩
    clear hb HB HK
    go_wp2
    generalize hG : w.heap.size = G at H2 ⊢
    have HGe := Lib.hid hG
    clear hG
    go_loopw [8, 27] (fun a i wr => ∃ (k : Nat) (av : Value), k ≤ ts.length ∧ av = a ∧ i = .int .i64 (k : Int) ∧ Hid (AlS w G av (als r f.ps (ts.take k)) wr)) (fun _ i _ => ts.length + 1 - natI i)
    case atStart => exact ⟨0, _, by omega, rfl, rfl, by rw [List.take_zero]; exact H2.out⟩
    case round =>
      obtain ⟨k, av, hk, rfl, rfl, HA⟩ := hrel
      clear H2
      by_cases hlt : k < ts.length
      · have hi : (k : Int) < (ts.length : Int) := by omega
        obtain ⟨g1, o1, c1, t, fv, e1, l1, hpi, hpl, r1⟩ := (HTs.out _ HA.out.b).at_ hlt
        obtain ⟨q1, q2, q3⟩ := rng3 r1
        simp at e1
        obtain ⟨rfl, rfl⟩ := e1
        obtain ⟨of, cf, rfl, _, _⟩ := hpl.shape
        have hb1 := bel1 wr (.cells #[.int .i64 t.1.1, .int .i64 t.1.2, .slice of t.2.length cf] 90)
        have HS1 : Hid (AlR w S wr.heap.size r t (.slice of t.2.length cf) G av (als r f.ps (ts.take k)) (wr.alloc (.cells #[.int .i64 t.1.1, .int .i64 t.1.2, .slice of t.2.length cf] 90)).drew) :=
          AlR.after ⟨(HP.out.below HA.out.b).below hb1, (blk_new wr _ _).cell 0, (blk_new wr _ _).cell 1, (blk_new wr _ _).cell 2, HA.out.after hb1⟩ (Below.refl _ _).drew
        have hmt := HM.out t (List.mem_of_getElem? l1)
        unfold T.mayT at hmt
        have HMt := Lib.hid (show t.2.all (T.may f.fr f.se) = true by simp only [Bool.and_eq_true] at hmt; exact hmt.2)
        have HN := Lib.hid (als_succ r f.ps l1)
        have HPl := Lib.hid (fun W (hb : Below wr.heap.size wr W) => (show PlsIn W (.slice of t.2.length cf) t.2 from hpl.below hb))
        have htb := HSm.out.tog (s := 0) (by omega) t.2
        have hj := snk_lt t.1.1
        have hk1 : I64 t.1.1 := hpi.1
        have HC := Lib.hid (show cau r f.ps t = andI (r (5 + snk t.1.1)) (T.tog f.ps 0 t.2) from rfl)
        have HLk := Lib.hid (fun W (hW : SkM W G) => hW.look hk1)
        have hln : (als r f.ps (ts.take k)).length ≤ 900000 := by have := als_len r f.ps (ts.take k); have := List.length_take_le k ts; omega
        have HBw := Lib.hid HA.out.b
        generalize snk t.1.1 = j at hj HC HLk
        generalize cau r f.ps t = cc at HN HC
        generalize htg : T.tog f.ps 0 t.2 = tg at htb HC
        have HTg := Lib.hid htg
        clear htg
        have hrj := HR.out (5 + j) (by omega)
        have HW := Lib.hid (andI_bits (r (5 + j)) tg hrj ⟨htb.1, by omega⟩)
        have hj0 : (0 : Int) ≤ (j : Int) := by omega
        have hj5 : (j : Int) < 5 := by omega
        clear r1 l1 hpl hmt hb1 HA
        go_wp2
        refine Free.any (AlR w S wr.heap.size r t (.slice of t.2.length cf) G av (als r f.ps (ts.take k))) (AlR.stb w S wr.heap.size r t (.slice of t.2.length cf) G av (als r f.ps (ts.take k))) HS1.out (fun st => ?_)
        refine Free.tk 0 (some 31) ?_
        refine Free.tk 1 (some 32) ?_
        refine Free.tk 2 (some 33) ?_
        refine Free.tk 3 (some 34) ?_
        refine Free.tk 4 (some 35) ?_ (hy := by intro W hW; have b0 := hW.b0; go_simp; try with_reducible rfl)
        refine Free.tk 5 (some 36) (v := .int .i64 (j : Int)) ?_ (hy := by intro W hW; have hlk := HLk.out W hW.a.sk; unfold execOp; go_simp)
        refine Free.tk 6 (some 37) ?_
        refine Free.tk 7 (some 38) ?_
        refine Free.tk 8 (some 39) ?_
        refine Free.tk 9 (some 40) ?_
        refine Free.tk 10 (some 41) (v := .int .u32 (r (5 + j))) ?_ (hy := by intro W hW; have c := hW.p.at_ (j := 5 + j) (by omega); rw [show 1 + (5 + j) = 6 + j by omega] at c; go_simp; try with_reducible rfl)
        refine Free.tk 11 (some 14) ?_
        refine Free.done (fun W hb hW => ?_)
        have HS2 := Lib.hid hW
        have hBW : wr.heap.size ≤ W.heap.size := by have := hb.size; simp at this; omega
        have HBr : Hid (Below wr.heap.size wr W) := (bel1 wr _).trans (((Below.refl _ _).drew.trans (hb.mono (Nat.le_refl _))).mono (by simp))
        clear hb hW HS1 q1 q2 q3
        by_cases hz : r (5 + j) = 0
        · have hcc : cc = 0 := by rw [HC.out, hz, andI_zero]
          have HN2 : Hid (als r f.ps (ts.take (k + 1)) = als r f.ps (ts.take k)) := by rw [HN.out, if_pos hcc]; rfl
          clear hcc HW
          go_wp2
          refine ⟨⟨k + 1, av, by omega, rfl, by go_num, by rw [HN2.out]; exact HS2.out.a⟩, by simp [natI]; omega⟩
        · have hto := together_any (HAt.out.below HS2.out.a.b) (HPl.out _ HBr.out) HMt.out
          rw [HTg.out] at hto
          have HTo := Lib.hid hto
          have b2 := HS2.out.b2
          clear hto
          go_wp2_with fail
          refine HTo.out.mono ?_
          rintro e W3 ⟨rfl, hb⟩
          have HS3 := Lib.hid (HS2.out.after hb)
          clear hb b2 HTo HS2
          have b0 := HS3.out.b0
          have b1 := HS3.out.b1
          have hbe := HW.out
          by_cases hcc : cc = 0
          · have hbz : bits BinOp.and IntKind.u32 (r (5 + j)) tg = 0 := by rw [hbe, ← HC.out]; exact hcc
            have HN2 : Hid (als r f.ps (ts.take (k + 1)) = als r f.ps (ts.take k)) := by rw [HN.out, if_pos hcc]; rfl
            clear hcc hbe
            go_wp2
            refine ⟨⟨k + 1, av, by omega, rfl, by go_num, by rw [HN2.out]; exact HS3.out.a⟩, by simp [natI]; omega⟩
          · have hbz : ¬ bits BinOp.and IntKind.u32 (r (5 + j)) tg = 0 := by rw [hbe, ← HC.out]; exact hcc
            have HN2 : Hid (als r f.ps (ts.take (k + 1)) = als r f.ps (ts.take k) ++ [(t.1, cc)]) := by rw [HN.out, if_neg hcc]; rfl
            have HBe : Hid (bits BinOp.and IntKind.u32 (r (5 + j)) tg = cc) := by rw [hbe, ← HC.out]; rfl
            clear hcc hbe
            have hlr := hln
            go_wp2_with (refine wp_append_g rfl _ _ rfl Tryz.underlying78 infoAl rfl (by omega) (by omega) rfl rfl (HS3.out.a.row.below (bel1 W3 _)) (al_src W3 t.1.1 t.1.2 (bits BinOp.and IntKind.u32 (r (5 + j)) tg)) (by omega) ?_; intro v6 w6 hg6 ht6 hn6)
            have hap := (HS3.out.a.after (bel1 W3 (.cells #[.int .i64 t.1.1, .int .i64 t.1.2, .int .u32 (bits BinOp.and IntKind.u32 (r (5 + j)) tg)] 147))).app (x := (t.1, bits BinOp.and IntKind.u32 (r (5 + j)) tg)) hg6 ht6 hn6
            rw [HBe.out, ← HN2.out] at hap
            have HAp := Lib.hid hap
            clear hap hg6 ht6 hn6
            go_wp2
            exact ⟨⟨k + 1, v6, by omega, rfl, by go_num, HAp.out⟩, by simp [natI]; omega⟩
      · obtain rfl : k = ts.length := by omega
        have hq2 : q = als r f.ps (ts.take ts.length) := by rw [HQ.out, List.take_length]
        go_wp2
        rw [L2.Fwd_ret]
        go_ret2
        refine ⟨_, rfl, ?_, HA.out.b⟩
        rw [hq2]
        exact HA.out.row.rd
end Go.Proofs.YtdpdoclhdjhjkaaGreat
