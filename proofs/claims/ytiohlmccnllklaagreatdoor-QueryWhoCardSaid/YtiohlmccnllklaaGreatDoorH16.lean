/-
  Layer 12: why touches are refused: walk. (written by gen_rfs.py) Layer 12: maps whose keys are places. No walk.
-/
import Derived.Test.YtiohlmccnllklaaGreatDoorH15
import Derived.Maps.RangeWalk
set_option linter.unusedVariables false
set_option linter.unusedSimpArgs false
namespace Go.Proofs.YtiohlmccnllklaaGreatDoor
open Go.RowKit
set_option maxHeartbeats 8000000
set_option maxRecDepth 100000
set_option linter.unusedVariables false
set_option linter.unusedSimpArgs false

/-- What a region knows that asks a flow for a touch in a box. -/
structure TcS (S Tb P B : Nat) (t : T.Tc) (fv : Value) (M D : Nat) (C : Nat → Nat) (fr se : Int) (ps : List T.Pr) (FM FD : Nat → Prop) (W : World) : Prop where
  s0 : W.cell? ⟨S, 0, none⟩ = some (.pointer (some ⟨Tb, 0, none⟩))
  s1 : W.cell? ⟨S, 1, none⟩ = some (.pointer (some ⟨P, 0, none⟩))
  b0 : W.cell? ⟨B, 0, none⟩ = some (.int .i64 t.1.1)
  b1 : W.cell? ⟨B, 1, none⟩ = some (.int .i64 t.1.2)
  b2 : W.cell? ⟨B, 2, none⟩ = some fv
  fv : PlsIn W fv t.2
  pl : PlIs W P M D C fr se ps FM FD
theorem TcS.stb (S Tb P B : Nat) (t : T.Tc) (fv : Value) (M D : Nat) (C : Nat → Nat) (fr se : Int) (ps : List T.Pr) (FM FD : Nat → Prop) : Free.Stb (TcS S Tb P B t fv M D C fr se ps FM FD) := fun W W' h hb => ⟨cell_below h.s0 hb, cell_below h.s1 hb, cell_below h.b0 hb, cell_below h.b1 hb, cell_below h.b2 hb, h.fv.below hb, h.pl.below hb⟩
def refT (fr se : Int) (ts : List T.Tc) : Int := if T.mayAll fr se ts = true then 0 else 2
theorem ref_any {w : World} {S Tb P : Nat} {f : T.Fl} {m : Nat} {FT : List Nat} {M D : Nat} {C : Nat → Nat} {FM FD : Nat → Prop} (h : FlIs w S Tb P f m FT M D C FM FD) {v : Value} {ts : List T.Tc} (hv : TsIn w v ts) :
    Calls Tryz.prog 56 #[.pointer (some ⟨S, 0, none⟩), v] w fun e w' => e = .returned (.int .i64 (refT f.fr f.se ts)) ∧ Below w.heap.size w w' := by
  obtain ⟨q, hq⟩ : ∃ q, Hid (q = refT f.fr f.se ts) := ⟨_, rfl⟩
  rw [← hq.out]
  have HA := Lib.hid (fun W (hb : Below w.heap.size w W) => And.intro (h.below hb) (hv.below hb))
  have HNo := Lib.hid (none_some S Tb _ h.s0)
  obtain ⟨oa, ca, rfl, _, hla⟩ := hv.shape
  unfold maxLen at hla
  clear h hv
  go_enter Tryz.func56, Tryz.ntmps56
  go_wp2_with (go_at_call 48; refine HNo.out.mono ?_; rintro e w' ⟨rfl, rfl⟩)
  go_loopw [11] (fun i wr => ∃ k : Nat, k ≤ ts.length ∧ i = .int .i64 (k : Int) ∧ Hid (Below w.heap.size w wr) ∧ Hid (T.mayAll f.fr f.se (ts.take k) = true)) (fun i _ => ts.length + 1 - natI i)
  case atStart => exact ⟨0, by omega, rfl, Below.refl _ _, Lib.hid (by rw [List.take_zero]; rfl)⟩
  case round =>
    obtain ⟨k, hk, rfl, HBl, HN⟩ := hrel
    by_cases hlt : k < ts.length
    · have hi : (k : Int) < (ts.length : Int) := by omega
      obtain ⟨hfl, hvl⟩ := HA.out _ HBl.out
      obtain ⟨g1, o1, c1, t, fv, e1, l1, hpi, hpl, r1⟩ := hvl.at_ hlt
      obtain ⟨q1, q2, q3⟩ := rng3 r1
      simp at e1
      obtain ⟨rfl, rfl⟩ := e1
      obtain ⟨of, cf, rfl, _, _⟩ := hpl.shape
      have hb1 := bel1 wr (.cells #[.int .i64 t.1.1, .int .i64 t.1.2, .slice of t.2.length cf] 61)
      have HB2 := Lib.hid (HBl.out.alloc HBl.out.size (.cells #[.int .i64 t.1.1, .int .i64 t.1.2, .slice of t.2.length cf] 61))
      have hF := hfl.below hb1
      have HS : Hid (TcS S Tb P wr.heap.size t (.slice of t.2.length cf) M D C f.fr f.se f.ps FM FD (wr.alloc (.cells #[.int .i64 t.1.1, .int .i64 t.1.2, .slice of t.2.length cf] 61)).drew) := ⟨hF.s0, hF.s1, (blk_new wr _ _).cell 0, (blk_new wr _ _).cell 1, (blk_new wr _ _).cell 2, (hpl.below hb1).below (Below.refl _ _).drew, hF.pl.below (Below.refl _ _).drew⟩
      have HL := Lib.hid l1
      have HT : Hid (T.mayT f.fr f.se t = ((decide (t.1 = T.none0) || T.may f.fr f.se t.1) && t.2.all (T.may f.fr f.se))) := rfl
      have HYes := Lib.hid (fun h => take_all (T.mayT f.fr f.se) ts k t l1 HN.out h)
      have HNo2 := Lib.hid (fun (h : T.mayT f.fr f.se t = false) => (show refT f.fr f.se ts = 2 by unfold refT T.mayAll; rw [all_miss (f := T.mayT f.fr f.se) l1 h]; rfl))
      clear hfl hvl l1 r1 hpl hpi hb1 hF
      cases hd : decide (t.1 = T.none0) with
      | true =>
        have HD := Lib.hid hd
        clear hd
        cases hh : t.2.all (T.may f.fr f.se) with
        | true =>
          have HH := Lib.hid hh
          clear hh
          go_wp2
          refine Free.any (TcS S Tb P wr.heap.size t (.slice of t.2.length cf) M D C f.fr f.se f.ps FM FD) (TcS.stb S Tb P wr.heap.size t (.slice of t.2.length cf) M D C f.fr f.se f.ps FM FD) HS.out (fun st => ?_)
          refine Free.tk 0 (some 15) ?_ (hy := by intro W hW; have s0 := hW.s0; have s1 := hW.s1; have b0 := hW.b0; have b1 := hW.b1; have b2 := hW.b2; go_simp; try with_reducible rfl)
          refine Free.cl 1 (some 16) st (fun W hW => (decides_any t.1 (.slice of t.2.length cf) W).mono (fun e w2 h2 => ⟨h2.1.trans (by rw [HD.out]), h2.2⟩)) ?_ (hy := by intro W; go_simp; try rfl)
          refine Free.tk 2 (some 17) ?_
          refine Free.tk 3 (some 18) ?_
          refine Free.sk 4 (some 19) ?_
          refine Free.sk 5 (some 20) ?_
          refine Free.sk 6 (some 21) ?_
          refine Free.sk 7 (some 22) ?_
          refine Free.sk 8 (some 23) ?_
          refine Free.sk 9 (some 24) ?_
          refine Free.sk 10 (some 25) ?_
          refine Free.sk 11 (some 26) ?_
          refine Free.tk 12 (some 27) ?_
          refine Free.tk 13 (some 28) ?_
          refine Free.tk 14 (some 29) ?_
          refine Free.tk 15 (some 30) ?_ (hy := by intro W hW; have s0 := hW.s0; have s1 := hW.s1; have b0 := hW.b0; have b1 := hW.b1; have b2 := hW.b2; go_simp; try with_reducible rfl)
          refine Free.tk 16 (some 31) ?_
          refine Free.tk 17 (some 32) ?_ (hy := by intro W hW; have s0 := hW.s0; have s1 := hW.s1; have b0 := hW.b0; have b1 := hW.b1; have b2 := hW.b2; go_simp; try with_reducible rfl)
          refine Free.tk 18 (some 33) ?_
          refine Free.tk 19 (some 34) ?_ (hy := by intro W hW; have s0 := hW.s0; have s1 := hW.s1; have b0 := hW.b0; have b1 := hW.b1; have b2 := hW.b2; go_simp; try with_reducible rfl)
          refine Free.cl 20 (some 35) st (fun W hW => (hasAll_any hW.pl hW.fv).mono (fun e w2 h2 => ⟨h2.1.trans (by rw [HH.out]), h2.2⟩)) ?_ (hy := by intro W; go_simp; try rfl)
          refine Free.tk 21 (some 36) ?_
          refine Free.tk 22 (some 37) ?_
          refine Free.done (fun W hb hW => ?_)
          have HBe := Lib.hid (HB2.out.trans ((Below.refl _ _).drew.trans hb |>.mono HB2.out.size))
          clear hb hW
          go_wp2
          exact ⟨⟨k + 1, by omega, by go_num, HBe.out, HYes.out (by rw [HT.out, HD.out, HH.out] <;> rfl)⟩, by simp [natI]; omega⟩
        | false =>
          have HH := Lib.hid hh
          clear hh
          go_wp2
          refine Free.any (TcS S Tb P wr.heap.size t (.slice of t.2.length cf) M D C f.fr f.se f.ps FM FD) (TcS.stb S Tb P wr.heap.size t (.slice of t.2.length cf) M D C f.fr f.se f.ps FM FD) HS.out (fun st => ?_)
          refine Free.tk 0 (some 15) ?_ (hy := by intro W hW; have s0 := hW.s0; have s1 := hW.s1; have b0 := hW.b0; have b1 := hW.b1; have b2 := hW.b2; go_simp; try with_reducible rfl)
          refine Free.cl 1 (some 16) st (fun W hW => (decides_any t.1 (.slice of t.2.length cf) W).mono (fun e w2 h2 => ⟨h2.1.trans (by rw [HD.out]), h2.2⟩)) ?_ (hy := by intro W; go_simp; try rfl)
          refine Free.tk 2 (some 17) ?_
          refine Free.tk 3 (some 18) ?_
          refine Free.sk 4 (some 19) ?_
          refine Free.sk 5 (some 20) ?_
          refine Free.sk 6 (some 21) ?_
          refine Free.sk 7 (some 22) ?_
          refine Free.sk 8 (some 23) ?_
          refine Free.sk 9 (some 24) ?_
          refine Free.sk 10 (some 25) ?_
          refine Free.sk 11 (some 26) ?_
          refine Free.tk 12 (some 27) ?_
          refine Free.tk 13 (some 28) ?_
          refine Free.tk 14 (some 29) ?_
          refine Free.tk 15 (some 30) ?_ (hy := by intro W hW; have s0 := hW.s0; have s1 := hW.s1; have b0 := hW.b0; have b1 := hW.b1; have b2 := hW.b2; go_simp; try with_reducible rfl)
          refine Free.tk 16 (some 31) ?_
          refine Free.tk 17 (some 32) ?_ (hy := by intro W hW; have s0 := hW.s0; have s1 := hW.s1; have b0 := hW.b0; have b1 := hW.b1; have b2 := hW.b2; go_simp; try with_reducible rfl)
          refine Free.tk 18 (some 33) ?_
          refine Free.tk 19 (some 34) ?_ (hy := by intro W hW; have s0 := hW.s0; have s1 := hW.s1; have b0 := hW.b0; have b1 := hW.b1; have b2 := hW.b2; go_simp; try with_reducible rfl)
          refine Free.cl 20 (some 35) st (fun W hW => (hasAll_any hW.pl hW.fv).mono (fun e w2 h2 => ⟨h2.1.trans (by rw [HH.out]), h2.2⟩)) ?_ (hy := by intro W; go_simp; try rfl)
          refine Free.tk 21 (some 36) ?_
          refine Free.tk 22 (some 37) ?_
          refine Free.done (fun W hb hW => ?_)
          have HBe := Lib.hid (HB2.out.trans ((Below.refl _ _).drew.trans hb |>.mono HB2.out.size))
          have hq2 : q = 2 := by rw [hq.out]; exact HNo2.out (by rw [HT.out, HD.out, HH.out] <;> rfl)
          subst hq2
          clear hb hW
          go_wp2
          go_ret
          exact ⟨rfl, HBe.out⟩
      | false =>
        have HD := Lib.hid hd
        clear hd
        cases hm : T.may f.fr f.se t.1 with
        | false =>
          have HM := Lib.hid hm
          clear hm
          go_wp2
          refine Free.any (TcS S Tb P wr.heap.size t (.slice of t.2.length cf) M D C f.fr f.se f.ps FM FD) (TcS.stb S Tb P wr.heap.size t (.slice of t.2.length cf) M D C f.fr f.se f.ps FM FD) HS.out (fun st => ?_)
          refine Free.tk 0 (some 15) ?_ (hy := by intro W hW; have s0 := hW.s0; have s1 := hW.s1; have b0 := hW.b0; have b1 := hW.b1; have b2 := hW.b2; go_simp; try with_reducible rfl)
          refine Free.cl 1 (some 16) st (fun W hW => (decides_any t.1 (.slice of t.2.length cf) W).mono (fun e w2 h2 => ⟨h2.1.trans (by rw [HD.out]), h2.2⟩)) ?_ (hy := by intro W; go_simp; try rfl)
          refine Free.tk 2 (some 17) ?_
          refine Free.tk 3 (some 18) ?_
          refine Free.tk 4 (some 19) ?_
          refine Free.tk 5 (some 20) ?_ (hy := by intro W hW; have s0 := hW.s0; have s1 := hW.s1; have b0 := hW.b0; have b1 := hW.b1; have b2 := hW.b2; go_simp; try with_reducible rfl)
          refine Free.tk 6 (some 21) ?_
          refine Free.tk 7 (some 22) ?_ (hy := by intro W hW; have s0 := hW.s0; have s1 := hW.s1; have b0 := hW.b0; have b1 := hW.b1; have b2 := hW.b2; go_simp; try with_reducible rfl)
          refine Free.tk 8 (some 23) ?_
          refine Free.tk 9 (some 24) ?_ (hy := by intro W hW; have s0 := hW.s0; have s1 := hW.s1; have b0 := hW.b0; have b1 := hW.b1; have b2 := hW.b2; go_simp; try with_reducible rfl)
          refine Free.cl 10 (some 25) st (fun W hW => (has_any hW.pl t.1).mono (fun e w2 h2 => ⟨h2.1.trans (by rw [HM.out]), h2.2⟩)) ?_ (hy := by intro W; go_simp; try rfl)
          refine Free.tk 11 (some 26) ?_
          refine Free.tk 12 (some 27) ?_
          refine Free.tk 13 (some 28) ?_
          refine Free.sk 14 (some 29) ?_
          refine Free.sk 15 (some 30) ?_
          refine Free.sk 16 (some 31) ?_
          refine Free.sk 17 (some 32) ?_
          refine Free.sk 18 (some 33) ?_
          refine Free.sk 19 (some 34) ?_
          refine Free.sk 20 (some 35) ?_
          refine Free.sk 21 (some 36) ?_
          refine Free.tk 22 (some 37) ?_
          refine Free.done (fun W hb hW => ?_)
          have HBe := Lib.hid (HB2.out.trans ((Below.refl _ _).drew.trans hb |>.mono HB2.out.size))
          have hq2 : q = 2 := by rw [hq.out]; exact HNo2.out (by rw [HT.out, HD.out, HM.out] <;> rfl)
          subst hq2
          clear hb hW
          go_wp2
          go_ret
          exact ⟨rfl, HBe.out⟩
        | true =>
          have HM := Lib.hid hm
          clear hm
          cases hh : t.2.all (T.may f.fr f.se) with
          | true =>
            have HH := Lib.hid hh
            clear hh
            go_wp2
            refine Free.any (TcS S Tb P wr.heap.size t (.slice of t.2.length cf) M D C f.fr f.se f.ps FM FD) (TcS.stb S Tb P wr.heap.size t (.slice of t.2.length cf) M D C f.fr f.se f.ps FM FD) HS.out (fun st => ?_)
            refine Free.tk 0 (some 15) ?_ (hy := by intro W hW; have s0 := hW.s0; have s1 := hW.s1; have b0 := hW.b0; have b1 := hW.b1; have b2 := hW.b2; go_simp; try with_reducible rfl)
            refine Free.cl 1 (some 16) st (fun W hW => (decides_any t.1 (.slice of t.2.length cf) W).mono (fun e w2 h2 => ⟨h2.1.trans (by rw [HD.out]), h2.2⟩)) ?_ (hy := by intro W; go_simp; try rfl)
            refine Free.tk 2 (some 17) ?_
            refine Free.tk 3 (some 18) ?_
            refine Free.tk 4 (some 19) ?_
            refine Free.tk 5 (some 20) ?_ (hy := by intro W hW; have s0 := hW.s0; have s1 := hW.s1; have b0 := hW.b0; have b1 := hW.b1; have b2 := hW.b2; go_simp; try with_reducible rfl)
            refine Free.tk 6 (some 21) ?_
            refine Free.tk 7 (some 22) ?_ (hy := by intro W hW; have s0 := hW.s0; have s1 := hW.s1; have b0 := hW.b0; have b1 := hW.b1; have b2 := hW.b2; go_simp; try with_reducible rfl)
            refine Free.tk 8 (some 23) ?_
            refine Free.tk 9 (some 24) ?_ (hy := by intro W hW; have s0 := hW.s0; have s1 := hW.s1; have b0 := hW.b0; have b1 := hW.b1; have b2 := hW.b2; go_simp; try with_reducible rfl)
            refine Free.cl 10 (some 25) st (fun W hW => (has_any hW.pl t.1).mono (fun e w2 h2 => ⟨h2.1.trans (by rw [HM.out]), h2.2⟩)) ?_ (hy := by intro W; go_simp; try rfl)
            refine Free.tk 11 (some 26) ?_
            refine Free.tk 12 (some 27) ?_
            refine Free.tk 13 (some 28) ?_
            refine Free.tk 14 (some 29) ?_
            refine Free.tk 15 (some 30) ?_ (hy := by intro W hW; have s0 := hW.s0; have s1 := hW.s1; have b0 := hW.b0; have b1 := hW.b1; have b2 := hW.b2; go_simp; try with_reducible rfl)
            refine Free.tk 16 (some 31) ?_
            refine Free.tk 17 (some 32) ?_ (hy := by intro W hW; have s0 := hW.s0; have s1 := hW.s1; have b0 := hW.b0; have b1 := hW.b1; have b2 := hW.b2; go_simp; try with_reducible rfl)
            refine Free.tk 18 (some 33) ?_
            refine Free.tk 19 (some 34) ?_ (hy := by intro W hW; have s0 := hW.s0; have s1 := hW.s1; have b0 := hW.b0; have b1 := hW.b1; have b2 := hW.b2; go_simp; try with_reducible rfl)
            refine Free.cl 20 (some 35) st (fun W hW => (hasAll_any hW.pl hW.fv).mono (fun e w2 h2 => ⟨h2.1.trans (by rw [HH.out]), h2.2⟩)) ?_ (hy := by intro W; go_simp; try rfl)
            refine Free.tk 21 (some 36) ?_
            refine Free.tk 22 (some 37) ?_
            refine Free.done (fun W hb hW => ?_)
            have HBe := Lib.hid (HB2.out.trans ((Below.refl _ _).drew.trans hb |>.mono HB2.out.size))
            clear hb hW
            go_wp2
            exact ⟨⟨k + 1, by omega, by go_num, HBe.out, HYes.out (by rw [HT.out, HD.out, HM.out, HH.out] <;> rfl)⟩, by simp [natI]; omega⟩
          | false =>
            have HH := Lib.hid hh
            clear hh
            go_wp2
            refine Free.any (TcS S Tb P wr.heap.size t (.slice of t.2.length cf) M D C f.fr f.se f.ps FM FD) (TcS.stb S Tb P wr.heap.size t (.slice of t.2.length cf) M D C f.fr f.se f.ps FM FD) HS.out (fun st => ?_)
            refine Free.tk 0 (some 15) ?_ (hy := by intro W hW; have s0 := hW.s0; have s1 := hW.s1; have b0 := hW.b0; have b1 := hW.b1; have b2 := hW.b2; go_simp; try with_reducible rfl)
            refine Free.cl 1 (some 16) st (fun W hW => (decides_any t.1 (.slice of t.2.length cf) W).mono (fun e w2 h2 => ⟨h2.1.trans (by rw [HD.out]), h2.2⟩)) ?_ (hy := by intro W; go_simp; try rfl)
            refine Free.tk 2 (some 17) ?_
            refine Free.tk 3 (some 18) ?_
            refine Free.tk 4 (some 19) ?_
            refine Free.tk 5 (some 20) ?_ (hy := by intro W hW; have s0 := hW.s0; have s1 := hW.s1; have b0 := hW.b0; have b1 := hW.b1; have b2 := hW.b2; go_simp; try with_reducible rfl)
            refine Free.tk 6 (some 21) ?_
            refine Free.tk 7 (some 22) ?_ (hy := by intro W hW; have s0 := hW.s0; have s1 := hW.s1; have b0 := hW.b0; have b1 := hW.b1; have b2 := hW.b2; go_simp; try with_reducible rfl)
            refine Free.tk 8 (some 23) ?_
            refine Free.tk 9 (some 24) ?_ (hy := by intro W hW; have s0 := hW.s0; have s1 := hW.s1; have b0 := hW.b0; have b1 := hW.b1; have b2 := hW.b2; go_simp; try with_reducible rfl)
            refine Free.cl 10 (some 25) st (fun W hW => (has_any hW.pl t.1).mono (fun e w2 h2 => ⟨h2.1.trans (by rw [HM.out]), h2.2⟩)) ?_ (hy := by intro W; go_simp; try rfl)
            refine Free.tk 11 (some 26) ?_
            refine Free.tk 12 (some 27) ?_
            refine Free.tk 13 (some 28) ?_
            refine Free.tk 14 (some 29) ?_
            refine Free.tk 15 (some 30) ?_ (hy := by intro W hW; have s0 := hW.s0; have s1 := hW.s1; have b0 := hW.b0; have b1 := hW.b1; have b2 := hW.b2; go_simp; try with_reducible rfl)
            refine Free.tk 16 (some 31) ?_
            refine Free.tk 17 (some 32) ?_ (hy := by intro W hW; have s0 := hW.s0; have s1 := hW.s1; have b0 := hW.b0; have b1 := hW.b1; have b2 := hW.b2; go_simp; try with_reducible rfl)
            refine Free.tk 18 (some 33) ?_
            refine Free.tk 19 (some 34) ?_ (hy := by intro W hW; have s0 := hW.s0; have s1 := hW.s1; have b0 := hW.b0; have b1 := hW.b1; have b2 := hW.b2; go_simp; try with_reducible rfl)
            refine Free.cl 20 (some 35) st (fun W hW => (hasAll_any hW.pl hW.fv).mono (fun e w2 h2 => ⟨h2.1.trans (by rw [HH.out]), h2.2⟩)) ?_ (hy := by intro W; go_simp; try rfl)
            refine Free.tk 21 (some 36) ?_
            refine Free.tk 22 (some 37) ?_
            refine Free.done (fun W hb hW => ?_)
            have HBe := Lib.hid (HB2.out.trans ((Below.refl _ _).drew.trans hb |>.mono HB2.out.size))
            have hq2 : q = 2 := by rw [hq.out]; exact HNo2.out (by rw [HT.out, HD.out, HM.out, HH.out] <;> rfl)
            subst hq2
            clear hb hW
            go_wp2
            go_ret
            exact ⟨rfl, HBe.out⟩
    · obtain rfl : k = ts.length := by omega
      have hn := HN.out
      rw [List.take_length] at hn
      have hq2 : q = 0 := by rw [hq.out]; unfold refT; rw [if_pos hn]
      subst hq2
      go_wp2
      go_ret
      exact ⟨rfl, HBl.out⟩
end Go.Proofs.YtiohlmccnllklaaGreatDoor
namespace Go.Proofs.YtiohlmccnllklaaGreatDoor
open Go.RowKit
set_option maxHeartbeats 4000000
set_option maxRecDepth 100000
set_option linter.unusedVariables false
set_option linter.unusedSimpArgs false

theorem placeType : Tryz.prog.keyType 42 = true := by kernel_rfl
theorem placeLaw : Maps.Keyed Tryz.prog 42 := Maps.Keyed.of_law (deep_law_gate (by kernel_rfl) (of_decide_eq_true (by kernel_rfl)) (of_decide_eq_true (by kernel_rfl)) placeType (by kernel_rfl))
theorem key_place {a b : Int} (wa : I64 a) (wb : I64 b) : keyOf Tryz.prog 42 (.agg #[.int .i64 a, .int .i64 b]) = some (L2.pk a b) := by
  have wa := wf_i64 wa.1 wa.2
  have wb := wf_i64 wb.1 wb.2
  have hc : Tryz.prog.cellsOf 42 = 2 := by kernel_rfl
  have hi : Tryz.prog.cellsOf 3 = 1 := by kernel_rfl
  have hj : Tryz.prog.cellsOf 40 = 1 := by kernel_rfl
  obtain ⟨m, hm⟩ : ∃ m, Tryz.prog.types.size = m + 1 := ⟨Tryz.prog.types.size - 1, by have : 0 < Tryz.prog.types.size := of_decide_eq_true (by kernel_rfl); omega⟩
  have hu := Tryz.underlying42
  have hv := Tryz.underlying3
  have hw := Tryz.underlying40
  unfold keyOf
  simp only [hu]
  rw [if_pos (by simp [placeType, Value.formed, hu, hc]), hm]
  unfold Program.keyLits
  simp only [hu, Value.cells]
  rw [if_pos (by rw [hc]; exact ⟨rfl, by kernel_rfl⟩)]
  simp [Program.keyLits, hi, hj, hv, hw, wa, wb, L2.pk]
theorem place_inv {key : Value} {kl : Lit} (h : keyOf Tryz.prog 42 key = some kl) : ∃ p : T.Pl, key = .agg (pla p) ∧ kl = L2.pk p.1 p.2 ∧ Pi p := by
  have hc : Tryz.prog.cellsOf 42 = 2 := by kernel_rfl
  have hi : Tryz.prog.cellsOf 3 = 1 := by kernel_rfl
  have hj : Tryz.prog.cellsOf 40 = 1 := by kernel_rfl
  obtain ⟨m, hm⟩ : ∃ m, Tryz.prog.types.size = m + 1 := ⟨Tryz.prog.types.size - 1, by have : 0 < Tryz.prog.types.size := of_decide_eq_true (by kernel_rfl); omega⟩
  have hu := Tryz.underlying42
  have hv := Tryz.underlying3
  have hw := Tryz.underlying40
  obtain ⟨xs, L, rfl, hl, rfl⟩ := keyOf_top (P := Tryz.prog) (k := 42) (by simp [hu]) h
  rw [hm] at hl
  unfold Program.keyLits at hl
  simp only [hu] at hl
  split at hl
  · rename_i hh
    rw [hc] at hh
    obtain ⟨hlen, _⟩ := hh
    obtain ⟨x, y, e⟩ : ∃ x y, xs.toList = [x, y] := by
      match hx : xs.toList with
      | [x, y] => exact ⟨x, y, rfl⟩
      | [] => rw [hx] at hlen; simp at hlen
      | [_] => rw [hx] at hlen; simp at hlen
      | _ :: _ :: _ :: _ => rw [hx] at hlen; simp at hlen
    have exs : xs = #[x, y] := by rw [← Array.toList_inj]; exact e
    subst exs
    simp [hi, hj, Program.keyLits, hv, hw] at hl
    cases x with
    | int q a =>
      cases y with
      | int q2 b =>
        simp [Option.bind_eq_some_iff] at hl
        obtain ⟨_, ⟨⟨rfl, wa⟩, rfl⟩, _, ⟨_, ⟨⟨rfl, wb⟩, rfl⟩, rfl⟩, rfl⟩ := hl
        exact ⟨(a, b), rfl, rfl, i64_of_wf wa, i64_of_wf wb⟩
      | _ => simp [Option.bind_eq_some_iff] at hl
    | _ => simp [Option.bind_eq_some_iff] at hl
  · cases hl
/-- What the map of new sets holds. -/
structure NewD (g : T.Pl → Option Int) (D : DataW Unit) : Prop where
  has : ∀ p : T.Pl, Pi p → Maps.has D (L2.pk p.1 p.2) = (g p).isSome
  at_ : ∀ p : T.Pl, Pi p → ∀ x, g p = some x → ∀ z, D.atKey (L2.pk p.1 p.2) z = .lit (.int .u32 x)
theorem newD_new : NewD (fun _ => none) (.map []) := ⟨fun p _ => by simp [Maps.has], fun p _ x hx => by cases hx⟩
theorem pk_ne {p q : T.Pl} (hp : Pi p) (hq : Pi q) (h : p ≠ q) : L2.pk p.1 p.2 ≠ L2.pk q.1 q.2 := fun e => by
  obtain ⟨h1, h2⟩ := L2.pk_inj (wf_i64 hp.1.1 hp.1.2) (wf_i64 hp.2.1 hp.2.2) (wf_i64 hq.1.1 hq.1.2) (wf_i64 hq.2.1 hq.2.2) e
  exact h (Prod.ext h1 h2)
theorem NewD.put {g : T.Pl → Option Int} {D : DataW Unit} (h : NewD g D) (hm : Maps.IsMap D) {q : T.Pl} (hq : Pi q) (x : Int) : NewD (fun p => if p = q then some x else g p) (D.put (L2.pk q.1 q.2) (.lit (.int .u32 x))) := by
  constructor
  · intro p hp
    by_cases e : p = q
    · subst e; rw [Maps.has_put_same hm (L2.isKey_pk _ _)]; simp
    · rw [Maps.has_put_other (pk_ne hp hq e), h.has p hp]; simp [e]
  · intro p hp y hy z
    by_cases e : p = q
    · subst e
      simp at hy; subst hy
      rw [Maps.atKey_put_same hm (L2.isKey_pk _ _)]
    · simp [e] at hy
      rw [Maps.atKey_put_other (pk_ne hp hq e)]; exact h.at_ p hp y hy z
theorem NewD.congr {g g' : T.Pl → Option Int} {D : DataW Unit} (h : NewD g D) (e : ∀ p, g' p = g p) : NewD g' D := by
  have : g' = g := funext e
  rw [this]; exact h
end Go.Proofs.YtiohlmccnllklaaGreatDoor
