/-
  Layer 12: Mark, Get of a flow: walks. (written by gen_mk.py)
-/
import Derived.Test.YtiohlmccnllklaaGreatDoorH17
set_option linter.unusedVariables false
set_option linter.unusedSimpArgs false
namespace Go.Proofs.YtiohlmccnllklaaGreatDoor
open Go.RowKit
set_option maxHeartbeats 8000000
set_option maxRecDepth 100000
set_option linter.unusedVariables false
set_option linter.unusedSimpArgs false

/-- What the region knows that puts. -/
structure MkS (S P B : Nat) (p : T.Pl) (W : World) : Prop where
  s1 : W.cell? ⟨S, 1, none⟩ = some (.pointer (some ⟨P, 0, none⟩))
  b0 : W.cell? ⟨B, 0, none⟩ = some (.int .i64 p.1)
  b1 : W.cell? ⟨B, 1, none⟩ = some (.int .i64 p.2)
theorem MkS.stb (S P B : Nat) (p : T.Pl) : Free.Stb (MkS S P B p) := fun W W' h hb => ⟨cell_below h.s1 hb, cell_below h.b0 hb, cell_below h.b1 hb⟩
theorem Mark_any {w : World} {S : Nat} {f : T.Fl} {F : Nat → Prop} (h : At w S f F) (p : T.Pl) (hp : Pi p) (n s : Int) (hn : I64 n) (hs : W32 s) : Calls Tryz.prog 8 #[.pointer (some ⟨S, 0, none⟩), .agg (pla p), .int .i64 n, .int .u32 s] w fun e w' =>
    e = .returned (.int .i64 (f.mark p n s).2) ∧ Chg w S (f.mark p n s).1 F w' := by
  have HH := Lib.hid h
  obtain ⟨Tb, P, m, FT, M, D, C, FM, FD, rfl, hf⟩ := h
  have hb1 := bel1 w (.cells (pla p) 42)
  have HR := Lib.hid (refM_any (hf.below hb1) p n s hn hs)
  have HF := Lib.hid hf
  have HB := Lib.hid hb1
  have c0 : (w.alloc (.cells (pla p) 42)).cell? ⟨w.heap.size, 0, none⟩ = some (.int .i64 p.1) := (blk_new w _ _).cell 0
  have c1 : (w.alloc (.cells (pla p) 42)).cell? ⟨w.heap.size, 1, none⟩ = some (.int .i64 p.2) := (blk_new w _ _).cell 1
  have HBk := Lib.hid (blk_new w (pla p) 42)
  have HW : Hid (T.Fl.mark f p n s = if T.may f.fr f.se p = false ∨ 65536 ≤ s then (f, 2) else if n < 0 ∨ 65536 < n ∨ (0 < n ∧ T.may f.fr f.se (p.1, p.2 + n - 1) = false) then (f, 4) else if (T.keep f.mo f.ss s).2 = 0 then ({ f with ss := (T.keep f.mo f.ss s).1, ps := T.marks p s n.toNat f.ps }, 0) else (f, (T.keep f.mo f.ss s).2)) := rfl
  have HV : Hid (refV f.fr f.se p n s = if T.may f.fr f.se p = false ∨ 65536 ≤ s then 2 else if n < 0 ∨ 65536 < n ∨ (0 < n ∧ T.may f.fr f.se (p.1, p.2 + n - 1) = false) then 4 else 0) := rfl
  unfold pla at HR HB HBk c0 c1 ⊢
  clear hf hb1 hp
  generalize refV f.fr f.se p n s = r at HR HV
  go_enter Tryz.func8, Tryz.ntmps8
  go_wp2
  refine L2.wp_scope_fwd 0 rfl ?_
  go_wp2_with fail
  refine HR.out.mono ?_
  rintro e w1 ⟨rfl, hb⟩
  have HB1 := Lib.hid (HB.out.trans (hb.mono HB.out.size))
  have HBk1 := Lib.hid (HBk.out.below hb)
  clear hb c0 c1
  by_cases hr : r = 0
  · subst hr
    have hg : T.may f.fr f.se p = true ∧ s < 65536 ∧ 0 ≤ n ∧ n ≤ 65536 ∧ (0 < n → T.may f.fr f.se (p.1, p.2 + n - 1) = true) := by
      have := HV.out
      by_cases a : T.may f.fr f.se p = false ∨ 65536 ≤ s
      · rw [if_pos a] at this; cases this
      · rw [if_neg a] at this
        by_cases b : n < 0 ∨ 65536 < n ∨ (0 < n ∧ T.may f.fr f.se (p.1, p.2 + n - 1) = false)
        · rw [if_pos b] at this; cases this
        · refine ⟨by cases e : T.may f.fr f.se p with | true => rfl | false => exact absurd (.inl e) a, by omega, by omega, by omega, fun hn => ?_⟩
          cases e : T.may f.fr f.se (p.1, p.2 + n - 1) with
          | true => rfl
          | false => exact absurd (.inr (.inr ⟨hn, e⟩)) b
    have HG := Lib.hid hg
    have HM2 : Hid (T.Fl.mark f p n s = if (T.keep f.mo f.ss s).2 = 0 then ({ f with ss := (T.keep f.mo f.ss s).1, ps := T.marks p s n.toNat f.ps }, 0) else (f, (T.keep f.mo f.ss s).2)) := by
      have := HW.out
      rw [if_neg (by rintro (e | e); rw [hg.1] at e; cases e; omega), if_neg (by rintro (e | e | ⟨e, e2⟩); omega; omega; rw [hg.2.2.2.2 e] at e2; cases e2)] at this
      exact this
    clear hg
    have hF1 := HF.out.below HB1.out
    have s0 := hF1.s0
    have HK := Lib.hid (L2.Keep_any Tb f.mo f.ss m FT s hs w1 hF1.tab)
    have HF1 := Lib.hid hF1
    unfold T.keep at HM2
    obtain ⟨q, hq⟩ : ∃ q, q = L2.keepR f.mo f.ss s := ⟨_, rfl⟩
    have HErr := Lib.hid (fun h => L2.keepR_err (most := f.mo) (ss := f.ss) (x := s) ⟨hs.1, HG.out.2.1⟩ h)
    rw [← hq] at HK HM2 HErr
    clear hq hF1
    obtain ⟨ss', nn, er⟩ := q
    simp only at HK HM2 HErr
    by_cases he : er = 0
    · subst he
      go_wp2_with fail
      refine HK.out.mono ?_
      rintro e w3 ⟨rfl, ht⟩
      obtain ⟨FT', hf3, tt, hj⟩ := HF1.out.kept ht
      have hbk3 := HBk1.out.turned tt (fun e => by have := HF.out.tab.lt _ e; omega)
      have HS3 : Hid (MkS S P w.heap.size p w3.drew) := MkS.stb S P w.heap.size p w3 w3.drew ⟨hf3.s1, hbk3.cell 0, hbk3.cell 1⟩ (Below.refl _ _).drew
      have HF3 := Lib.hid hf3
      have HT3 := Lib.hid tt
      have HJ := Lib.hid hj
      have HBk3 := Lib.hid hbk3
      obtain ⟨mN, hmN⟩ : ∃ mN : Nat, n = mN := ⟨n.toNat, by have := HG.out; omega⟩
      subst hmN
      have hz3 : w.heap.size < w3.heap.size := by have := HBk3.out.lt; exact this
      clear ht hf3 tt hj hbk3 s0
      go_wp2
      refine Free.any (MkS S P w.heap.size p) (MkS.stb S P w.heap.size p) HS3.out (fun st => ?_)
      refine Free.tk 0 (some 28) ?_
      refine Free.tk 1 (some 29) ?_ (hy := by intro W hW; have s1 := hW.s1; have b0 := hW.b0; have b1 := hW.b1; go_simp; try with_reducible rfl)
      refine Free.tk 2 (some 30) ?_
      refine Free.tk 3 (some 31) ?_ (hy := by intro W hW; have s1 := hW.s1; have b0 := hW.b0; have b1 := hW.b1; go_simp; try with_reducible rfl)
      refine Free.tk 4 (some 32) ?_ (hy := by intro W hW; have s1 := hW.s1; have b0 := hW.b0; have b1 := hW.b1; go_simp; try with_reducible rfl)
      refine Free.tk 5 (some 33) ?_
      refine Free.tk 6 (some 34) ?_
      refine Free.one 7 (fun W hb hW => ?_)
      have hf4 := HF3.out.below ((Below.refl _ _).drew.trans hb)
      have hbk4 := HBk3.out.below ((Below.refl _ _).drew.trans hb)
      have HBW := Lib.hid ((Below.refl w3.heap.size w3).drew.trans hb)
      refine o_call (by go_simp; first | exact ⟨rfl, rfl⟩ | rfl) ?_
      refine (pput_any hf4.pl p HG.out.1 mN ⟨hs.1, HG.out.2.1⟩ (fun e => HG.out.2.2.2.2 (by omega))).mono ?_
      rintro e V ⟨⟨u, rfl⟩, hpt⟩
      obtain ⟨M', D', C', FM', FD', hf5, t5, h5⟩ := hf4.put hpt
      have hnB : ¬ plB P C FM FD w.heap.size := fun e => by have := HF.out.pl.lt _ e; omega
      have hbk5 := hbk4.turned t5 hnB
      refine ⟨u, rfl, ⟨hf5.s1, hbk5.cell 0, hbk5.cell 1⟩, Free.done (fun W2 hb2 hW2 => ?_)⟩
      have HFin : Hid (Chg w S { f with ss := ss', ps := T.marks p s mN f.ps } (flB S P FT C FM FD) W2) := by
        have hz1 := HB1.out.size
        have hz0 := HBW.out.size
        refine Chg.of (hf5.below hb2) ?_ (fun j e => ?_) (fun j e => ?_)
        · refine (((Turned.of_below HB1.out (flB S P FT C FM FD)).trans HT3.out (fun j e => .inl (.inr (.inl e)))).trans (Turned.of_below HBW.out (fun _ => False)) (fun _ e => e.elim)).trans ?_ (fun j e => .inl (.inr (.inr e)))
          exact t5.trans (Turned.of_below hb2 (fun _ => False)) (fun _ e => e.elim)
        · rcases HJ.out j e with e | e
          · exact .inl e
          · exact .inr (by omega)
        · rcases h5 j e with e | e
          · exact .inl e
          · have := HT3.out.size; exact .inr (by omega)
      clear hb2 hW2 hf5 t5 h5 hbk5 hpt hf4 hbk4 hb hW
      go_wp2
      rw [L2.Fwd_ret]
      go_ret
      rw [HM2.out]
      simp only [Int.toNat_natCast, if_true]
      exact ⟨rfl, HFin.out⟩
    · go_wp2_with fail
      refine HK.out.mono ?_
      rintro e w3 ⟨rfl, ht⟩
      have hE := HErr.out he
      simp only [Prod.mk.injEq] at hE
      obtain ⟨rfl, rfl, rfl⟩ := hE
      obtain ⟨FT', hf3, tt, hj⟩ := HF1.out.kept ht
      have HFin : Hid (Chg w S f (flB S P FT C FM FD) w3) := by
        have hz1 := HB1.out.size
        refine Chg.of hf3 ((Turned.of_below HB1.out (flB S P FT C FM FD)).trans tt (fun j e => .inl (.inr (.inl e)))) (fun j e => ?_) (fun j e => .inl e)
        rcases hj j e with e | e
        · exact .inl e
        · exact .inr (by omega)
      clear ht hf3 tt hj
      go_wp2
      go_step3
      refine ⟨rfl, ?_⟩
      go_wp2
      rw [Exit.noGoto_ret]
      go_ret
      rw [HM2.out]
      exact ⟨rfl, HFin.out⟩
  · have HM2 : Hid (T.Fl.mark f p n s = (f, r)) := by
      have h1 := HV.out
      have h2 := HW.out
      by_cases a : T.may f.fr f.se p = false ∨ 65536 ≤ s
      · rw [if_pos a] at h1 h2; rw [h2, h1]; rfl
      · rw [if_neg a] at h1 h2
        by_cases b : n < 0 ∨ 65536 < n ∨ (0 < n ∧ T.may f.fr f.se (p.1, p.2 + n - 1) = false)
        · rw [if_pos b] at h1 h2; rw [h2, h1]; rfl
        · rw [if_neg b] at h1; exact absurd h1 hr
    have HC := Lib.hid (Chg.same HH.out HB1.out)
    go_wp2
    go_step3
    refine ⟨rfl, ?_⟩
    go_wp2
    rw [Exit.noGoto_ret]
    go_ret
    rw [HM2.out]
    exact ⟨rfl, HC.out⟩
end Go.Proofs.YtiohlmccnllklaaGreatDoor
