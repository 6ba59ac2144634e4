/-
  Layer 13: the statement PolicyJudges: a walk.
-/
import Derived.Test.YtdpdoclhdjhjkaaGreatG35
import Derived.Test.YtdpdoclhdjhjkaaGreatG36
import Derived.Test.YtdpdoclhdjhjkaaGreatG37
import Derived.Test.YtdpdoclhdjhjkaaGreatG18
import Derived.Test.YtdpdoclhdjhjkaaGreatG19
set_option linter.unusedVariables false
set_option linter.unusedSimpArgs false
namespace Go.Proofs.YtdpdoclhdjhjkaaGreat
open Go.RowKit
set_option maxHeartbeats 8000000
set_option maxRecDepth 100000
set_option linter.unusedVariables false
set_option linter.unusedSimpArgs false

/-- What the walk knows: the rules' box, the document's flow in a box, the policy, the flow, its copy. -/
structure JdS (w : World) (r : Ru) (B2 : Nat) (c : Array Value) (tv pv : Value) (P : Nat) (S S2 : Nat) (f : T.Fl) (W : World) : Prop where
  b : Below w.heap.size w W
  x : Rf 67 11 W w.heap.size (ruC r)
  y : Rf 59 5 W B2 c
  fa : Fa W tv pv f.ps
  p : Po W P r
  a : ∃ F F2, At W S f F ∧ At W S2 f F2
theorem JdS.stb (w : World) (r : Ru) (B2 : Nat) (c : Array Value) (tv pv : Value) (P : Nat) (S S2 : Nat) (f : T.Fl) : Free.Stb (JdS w r B2 c tv pv P S S2 f) := fun W W' h hb => ⟨h.b.trans (hb.mono h.b.size), h.x.below hb, h.y.below hb, h.fa.below hb, h.p.below hb, by obtain ⟨F, F2, h1, h2⟩ := h.a; exact ⟨F, F2, h1.below hb, h2.below hb⟩⟩
theorem JdS.after {w : World} {r : Ru} {B2 : Nat} {c : Array Value} {tv pv : Value} {P : Nat} {S S2 : Nat} {f : T.Fl} {W W' : World} (h : JdS w r B2 c tv pv P S S2 f W) (hb : Below W.heap.size W W') : JdS w r B2 c tv pv P S S2 f W' := JdS.stb _ _ _ _ _ _ _ _ _ _ _ _ h hb
theorem mkF_form (l : List T.Pr) : (mkF l).fr = 2 ∧ (mkF l).se = 2 ∧ (mkF l).mo = 65536 := by
  have : ∀ (l : List T.Pr) (f : T.Fl), (l.foldl (fun f m => (f.mark m.1 1 m.2).1) f).fr = f.fr ∧ (l.foldl (fun f m => (f.mark m.1 1 m.2).1) f).se = f.se ∧ (l.foldl (fun f m => (f.mark m.1 1 m.2).1) f).mo = f.mo := fun l => by
    induction l with
    | nil => exact fun f => ⟨rfl, rfl, rfl⟩
    | cons x l ih =>
      intro f
      obtain ⟨h1, h2, h3⟩ := ih (f.mark x.1 1 x.2).1
      obtain ⟨g1, g2, g3⟩ := mark_form f x.1 1 x.2
      exact ⟨h1.trans g1, h2.trans g2, h3.trans g3⟩
  exact this l _
theorem mayR_s16 {r : Ru} (h : mayR r = true) (hr : RuW r) : S16 (r 10) ∧ ∀ j, j < 5 → S16 (r (5 + j)) := by
  rw [mayR_eq] at h
  simp only [mayH, mayK, Bool.and_eq_true, decide_eq_true_eq, List.all_eq_true, List.mem_range] at h
  exact ⟨⟨(hr 10 (by omega)).1, h.1.2.2⟩, fun j hj => ⟨(hr (5 + j) (by omega)).1, (h.2 j hj).2⟩⟩
theorem x_eql_ru {x y : Operand} {op : Oper} {ev : Operand → Value} {W : World} {s : Ru} {t2 : TypeId} (ho : op.op = .binOp .eql 67 x y t2) (hx : ev x = .agg (ruC s)) (hy : ev y = .agg (ruC s)) : (execOp ev op).run Tryz.prog W = .ok (.value (.bool true)) W := by
  have h1 := guard_ru .eql x y (ruC s) (ruC s) W
  have h2 := eql_ru s s W
  rw [ruE_self] at h2
  unfold execOp
  simp only [ho, hx, hy, Sem.run_bind, h1, h2, Result.andThen_ok]
  rfl
theorem jd_same {w : World} {r : Ru} {B2 : Nat} {c : Array Value} {tv pv : Value} {P : Nat} {S S2 : Nat} {f : T.Fl} {W : World} (h : JdS w r B2 c tv pv P S S2 f W) : Calls Tryz.prog 17 #[.pointer (some ⟨S, 0, none⟩), .pointer (some ⟨S2, 0, none⟩)] W fun e w' => e = .returned (.bool true) ∧ Below W.heap.size W w' := by
  obtain ⟨F, F2, h1, h2⟩ := h.a
  have := Same_any h1 h2 ⟨rfl, rfl, rfl⟩
  rwa [decide_eq_true ⟨rfl, rfl⟩] at this
theorem Judges_few (r : Ru) (hr : RuW r) {vm v : Value} {ms : List T.Pr} {ts : List T.Tc} {w : World} (hm : MksIn w vm ms) (hv : TsIn w v ts) (hq : brd ms.length ts = true ∨ mayR r = false) :
    Calls Tryz.prog 6 #[.agg (ruC r), vm, v] w fun e w' => e = .returned (.bool true) ∧ Below w.heap.size w w' := by
  have hb0 := bel1 w (.cells (ruC r) 67)
  have HB0 := Lib.hid hb0
  have HX0 := Lib.hid ((ruC_ok r).new 67 w)
  have HRr := Lib.hid hr
  obtain ⟨om, cm, rfl, _, hlm⟩ := hm.1.shape
  have hbr := broad13_any (om := om) (cm := cm) hlm (hv.below hb0)
  obtain ⟨ot, ct, rfl, _, _⟩ := hv.shape
  clear hm hv hb0 hr
  cases hbrd : brd ms.length ts with
  | true =>
    rw [hbrd] at hbr
    have HBr := Lib.hid hbr
    clear hbr hq hbrd
    go_enter Tryz.func6, Tryz.ntmps6
    go_wp2_with fail
    refine HBr.out.mono ?_
    rintro e w1 ⟨rfl, hb⟩
    have HB1 := Lib.hid (HB0.out.trans (hb.mono HB0.out.size))
    clear hb
    go_wp2_with fail
    refine (known13_any _).mono ?_
    rintro e w2 ⟨rfl, hb⟩
    have HB2 := Lib.hid (HB1.out.trans (hb.mono HB1.out.size))
    clear hb
    go_wp2
    go_ret
    exact ⟨rfl, HB2.out⟩
  | false =>
    rw [hbrd] at hbr
    have HBr := Lib.hid hbr
    have HM : Hid (mayR r = false) := by
      rcases hq with e | e
      · rw [hbrd] at e; cases e
      · exact e
    clear hbr hq hbrd
    go_enter Tryz.func6, Tryz.ntmps6
    go_wp2_with fail
    refine HBr.out.mono ?_
    rintro e w1 ⟨rfl, hb⟩
    have HB1 := Lib.hid (HB0.out.trans (hb.mono HB0.out.size))
    have HX1 := Lib.hid (HX0.out.below hb)
    clear hb HX0 HB0 HBr
    go_wp2_with ((with_reducible refine wp_load_V rvRules HX1.out ?_ ?_); (rfl))
    refine (Of_any r HRr.out _).mono ?_
    rintro e w2 ⟨_, he, hb⟩
    obtain rfl := he HM.out
    have HB2 := Lib.hid (HB1.out.trans (hb.mono HB1.out.size))
    have HX2 := Lib.hid (HX1.out.below hb)
    clear hb he HX1 HB1
    go_wp2_with ((with_reducible refine wp_load_V rvRules HX2.out ?_ ?_); (rfl))
    refine (MayRules_any r _).mono ?_
    rintro e w3 ⟨rfl, hb⟩
    rw [HM.out]
    have HB3 := Lib.hid (HB2.out.trans (hb.mono HB2.out.size))
    clear hb HX2 HB2
    go_wp2_with fail
    refine (known13_any _).mono ?_
    rintro e w4 ⟨rfl, hb⟩
    have HB4 := Lib.hid (HB3.out.trans (hb.mono HB3.out.size))
    clear hb
    go_wp2
    go_ret
    exact ⟨rfl, HB4.out⟩
theorem PolicyJudges_walk (r : Ru) {vm v : Value} {ms : List T.Pr} {ts : List T.Tc} {w : World} (hr : RuW r) (hm : MksIn w vm ms) (hv : TsIn w v ts) :
    Calls Tryz.prog 6 #[.agg (ruC r), vm, v] w fun e w' => e = .returned (.bool true) ∧ Below w.heap.size w w' := by
  by_cases hq : brd ms.length ts = true ∨ mayR r = false
  · exact Judges_few r hr hm hv hq
  have hbrd : brd ms.length ts = false := by
    cases e : brd ms.length ts with
    | false => rfl
    | true => exact absurd (.inl e) hq
  have hmay : mayR r = true := by
    cases e : mayR r with
    | true => rfl
    | false => exact absurd (.inr e) hq
  obtain ⟨hlen, hlt, _⟩ := brd_no hbrd
  have hb0 := bel1 w (.cells (ruC r) 67)
  have HB0 := Lib.hid hb0
  have HX0 := Lib.hid ((ruC_ok r).new 67 w)
  have HRr := Lib.hid hr
  have HM := Lib.hid hmay
  have H16 := Lib.hid (mayR_s16 hmay hr)
  have HMs := Lib.hid (hm.below hb0)
  have HTs := Lib.hid (fun W (hb : Below w.heap.size w W) => (show TsIn W v ts from hv.below hb))
  obtain ⟨om, cm, rfl, _, hlm⟩ := hm.1.shape
  have hbr := broad13_any (om := om) (cm := cm) hlm (hv.below hb0)
  rw [hbrd] at hbr
  have HBr := Lib.hid hbr
  obtain ⟨ot, ct, rfl, _, _⟩ := hv.shape
  clear hm hv hb0 hr hq hbr hbrd hmay
  go_enter Tryz.func6, Tryz.ntmps6
  go_wp2_with fail
  refine HBr.out.mono ?_
  rintro e w1 ⟨rfl, hb⟩
  have HB1 := Lib.hid (HB0.out.trans (hb.mono HB0.out.size))
  have HX1 := Lib.hid (HX0.out.below hb)
  have HM1 := Lib.hid (HMs.out.below hb)
  clear hb HX0 HB0 HBr HMs
  go_wp2_with ((with_reducible refine wp_load_V rvRules HX1.out ?_ ?_); (rfl))
  refine (Of_any r HRr.out _).mono ?_
  rintro e w2 ⟨he, _, hb⟩
  obtain ⟨P, rfl, hp, hPl⟩ := he HM.out
  have HB2 := Lib.hid (HB1.out.trans (hb.mono HB1.out.size))
  have HX2 := Lib.hid (HX1.out.below hb)
  have HM2 := Lib.hid (HM1.out.below hb)
  have HP2 := Lib.hid hp
  clear hb he HX1 HB1 HM1 hp hPl
  go_wp2_with ((with_reducible refine wp_load_V rvRules HX2.out ?_ ?_); (rfl))
  refine (MayRules_any r _).mono ?_
  rintro e w3 ⟨rfl, hb⟩
  rw [HM.out]
  have HB3 := Lib.hid (HB2.out.trans (hb.mono HB2.out.size))
  have HX3 := Lib.hid (HX2.out.below hb)
  have HM3 := Lib.hid (HM2.out.below hb)
  have HP3 := Lib.hid (HP2.out.below hb)
  clear hb HX2 HB2 HM2 HP2
  go_wp2_with fail
  refine (made_any HM3.out (by omega)).mono ?_
  rintro e w4 ⟨S, c, rfl, hT⟩
  have hok := hT.ok
  have hb4 := hT.b
  obtain ⟨g, ct4, pv, F, rfl, hat, hrv, _⟩ := hT
  have hba := bel1 w4 (.cells (rfc (mkF ms).fr (mkF ms).se (mkF ms).mo (tbV g (mkF ms).ss.length ct4) pv) 59)
  have HB4 := Lib.hid (HB3.out.trans ((hb4.trans (hba.mono hb4.size)).mono HB3.out.size))
  have HX4 := Lib.hid ((HX3.out.below hb4).below hba)
  have HP4 := Lib.hid ((HP3.out.below hb4).below hba)
  have HA4 := Lib.hid (hat.below hba)
  have HFa4 : Hid (Fa (w4.alloc (.cells (rfc (mkF ms).fr (mkF ms).se (mkF ms).mo (tbV g (mkF ms).ss.length ct4) pv) 59)) (tbV g (mkF ms).ss.length ct4) pv (mkF ms).ps) := Fa.below ⟨rfl, hrv.p, hok.2.small⟩ hba
  have HY4 := Lib.hid (hok.1.new 59 w4)
  have HOk := Lib.hid hok.2
  have HZ : Hid ((zF.size = 5) ∧ Ok1 5 (rfc (mkF ms).fr (mkF ms).se (mkF ms).mo (tbV g (mkF ms).ss.length ct4) pv)) := ⟨rfl, hok.1⟩
  have HMf := Lib.hid (mkF_form ms)
  clear hok hb4 hat hrv hba HX3 HB3 HM3 HP3
  go_wp2_with (first | ((with_reducible apply wp_store_Rn _ rowF); (exact HZ.out); (rfl); (rfl)))
  generalize hff : mkF ms = f at *
  clear hff
  refine (Copy_any HA4.out).mono ?_
  rintro e w5 ⟨S2, F2, rfl, hat2, _, hb⟩
  have H5 : Hid (JdS w r w4.heap.size (rfc f.fr f.se f.mo (tbV g f.ss.length ct4) pv) (tbV g f.ss.length ct4) pv P S S2 f w5) := ⟨HB4.out.trans (hb.mono HB4.out.size), HX4.out.below hb, HY4.out.below hb, HFa4.out.below hb, HP4.out.below hb, F, F2, HA4.out.below hb, hat2⟩
  have HOk5 := Lib.hid HOk.out
  clear hat2 hb HB4 HX4 HP4 HA4 HFa4 HY4 HZ
  go_wp2_with fail
  obtain ⟨F5, F6, a5, a6⟩ := H5.out.a
  refine (Stops_any H5.out.p HRr.out a5 (HTs.out _ H5.out.b)).mono ?_
  rintro e w6 ⟨rfl, hb⟩
  have H6 := Lib.hid (H5.out.after hb)
  clear hb H5 a5 a6
  go_wp2_with fail
  obtain ⟨F5, F6, a5, a6⟩ := H6.out.a
  refine (Alerts_any H6.out.p HRr.out a5 (HTs.out _ H6.out.b) (by omega)).mono ?_
  rintro e w7 ⟨av, rfl, hal, hb⟩
  have H7 := Lib.hid (H6.out.after hb)
  have HAl := Lib.hid (fun W (hW : Below w7.heap.size w7 W) => (show PrIn W av (alsOf r f ts) from hal.below hW))
  obtain ⟨oal, cal, rfl, _, hll⟩ := hal.shape
  clear hb H6 a5 a6 hal
  have hbd : Bd f.fr f.se := HOk.out.bd
  go_wp2_with (first | ((with_reducible refine wp_load_R rowF H7.out.y ?_ ?_); (kernel_rfl)))
  refine (RMayAll_any f.fr f.se f.mo hbd (tv := tbV g f.ss.length ct4) rfl H7.out.fa.p.one (HTs.out _ H7.out.b)).mono ?_
  rintro e w8 ⟨rfl, hb⟩
  have H8 := Lib.hid (H7.out.after hb)
  have HAl8 := Lib.hid (fun W (hW : Below w8.heap.size w8 W) => HAl.out W (hb.trans (hW.mono hb.size)))
  clear hb H7 HAl
  cases hma : T.mayAll f.fr f.se ts with
  | false =>
    have e1 : f.decides ts = (0, 2) := by unfold T.Fl.decides; rw [if_pos hma]
    have e2 : stopB r f ts = false := by unfold stopB; rw [e1]; rfl
    have e3 : (alsOf r f ts).length = 0 := by unfold alsOf; rw [hma]; rfl
    rw [e1, e2, e3]
    clear e1 e2 e3 hma hll
    go_wp2_with fail
    refine (known13_any _).mono ?_
    rintro e w9 ⟨rfl, hb⟩
    have HB9 := Lib.hid (H8.out.b.trans (hb.mono H8.out.b.size))
    clear hb
    go_wp2
    go_ret
    exact ⟨rfl, HB9.out⟩
  | true =>
    have e1 : f.decides ts = (T.dec f.ps 0 ts, 0) := by unfold T.Fl.decides; rw [if_neg (by rw [hma]; simp)]
    have e2 : stopB r f ts = !decide (andI (T.dec f.ps 0 ts) (r 10) = 0) := by unfold stopB; rw [e1]; rfl
    have e3 : alsOf r f ts = als r f.ps ts := by unfold alsOf; rw [if_pos hma]
    rw [e1]
    rw [e3] at HAl8 ⊢
    obtain ⟨sb, hsb⟩ : ∃ sb, Hid (sb = stopB r f ts) := ⟨_, rfl⟩
    have HSb : Hid ((!decide (andI (T.dec f.ps 0 ts) (r 10) = 0)) = sb) := Lib.hid (by rw [hsb.out, e2])
    rw [← hsb.out]
    have hss : (sb == sb) = true := by simp
    clear e1 e2 e3 hma hsb
    go_wp2
    refine Free.any (fun W => JdS w r w4.heap.size (rfc f.fr f.se f.mo (tbV g f.ss.length ct4) pv) (tbV g f.ss.length ct4) pv P S S2 f W ∧ PrIn W (.slice oal (als r f.ps ts).length cal) (als r f.ps ts)) (fun W W' h hb => ⟨h.1.after hb, h.2.below hb⟩) ⟨H8.out.after (Below.refl _ _).drew, HAl8.out _ (Below.refl _ _).drew⟩ (fun st => ?_)
    refine Free.tk 0 (some 80) ?_
    refine Free.tk 1 (some 81) ?_
    refine Free.tk 2 (some 82) ?_
    refine Free.tk 3 (some 83) ?_
    refine Free.tk 4 (some 84) ?_
    refine Free.tk 5 (some 85) ?_
    refine Free.tk 6 (some 86) ?_
    refine Free.tk 7 (some 87) ?_
    refine Free.tk 8 (some 88) ?_
    refine Free.tk 9 (some 89) ?_
    refine Free.tk 10 (some 90) ?_
    refine Free.tk 11 (some 91) ?_
    refine Free.tk 12 (some 92) (v := .agg (ruC r)) ?_ (hy := by intro W hW; exact x_load_RR rvRules rfl rfl hW.1.x)
    refine Free.tk 13 (some 93) (v := .agg (rfc f.fr f.se f.mo (tbV g f.ss.length ct4) pv)) ?_ (hy := by intro W hW; exact x_load_RR rvRF rfl rfl hW.1.y)
    refine Free.tk 14 (some 94) ?_
    refine Free.cl 15 (some 95) (v := .bool sb) st (fun W hW => by have := RStops_any f.fr f.se f.mo r H16.out.1 hW.1.fa (HTs.out W hW.1.b); rw [HSb.out] at this; exact this) ?_ (hy := by intro W; go_simp; try rfl)
    refine Free.tk 16 (some 96) (v := .bool true) ?_
    refine Free.tk 17 (some 97) ?_
    refine Free.tk 18 (some 98) ?_
    refine Free.tk 19 (some 99) ?_
    refine Free.tk 20 (some 100) (v := .agg (ruC r)) ?_ (hy := by intro W hW; exact x_load_RR rvRules rfl rfl hW.1.x)
    refine Free.tk 21 (some 101) (v := .agg (rfc f.fr f.se f.mo (tbV g f.ss.length ct4) pv)) ?_ (hy := by intro W hW; exact x_load_RR rvRF rfl rfl hW.1.y)
    refine Free.tk 22 (some 102) ?_
    refine Free.one 23 (fun W hb hW => ?_)
    refine o_callb (some 103) (by go_simp; first | exact ⟨rfl, rfl⟩ | rfl) ?_
    refine (RAlerts_any f.fr f.se f.mo r H16.out.2 hW.1.fa (HTs.out W hW.1.b) (by omega)).mono ?_
    rintro e V ⟨av2, rfl, hal2, hb2⟩
    refine ⟨_, rfl, ⟨hW.1.after hb2, hW.2.below hb2⟩, ?_⟩
    refine Free.one 24 (fun W3 hb3 hW3 => ?_)
    refine o_callb (some 104) (by go_simp; first | exact ⟨rfl, rfl⟩ | rfl) ?_
    refine (SameAl_any hW3.2 (hal2.below hb3)).mono ?_
    rintro e V3 ⟨rfl, hb4⟩
    refine ⟨_, rfl, ⟨hW3.1.after hb4, hW3.2.below hb4⟩, ?_⟩
    refine Free.tk 25 (some 105) ?_
    refine Free.tk 26 (some 106) ?_
    refine Free.tk 27 (some 107) ?_
    refine Free.cl 28 (some 108) st (fun W hW => Rules_any hW.1.p) ?_ (hy := by intro W; go_simp; try rfl)
    refine Free.tk 29 (some 109) (v := .agg (ruC r)) ?_ (hy := by intro W hW; exact x_load_RR rvRules rfl rfl hW.1.x)
    refine Free.tk 30 (some 110) (v := .bool true) ?_ (hy := by intro W hW; exact x_eql_ru rfl rfl rfl)
    refine Free.tk 31 (some 111) ?_
    refine Free.tk 32 (some 112) ?_
    refine Free.tk 33 (some 113) ?_
    refine Free.tk 34 (some 114) ?_
    refine Free.cl 35 (some 115) st (fun W hW => jd_same hW.1) ?_ (hy := by intro W; go_simp; try rfl)
    refine Free.tk 36 (some 116) ?_
    refine Free.tk 37 (some 117) ?_
    refine Free.cl 38 (some 118) st (fun W hW => known13_any W) ?_ (hy := by intro W; go_simp; try rfl)
    refine Free.tk 39 (some 119) ?_
    refine Free.tk 40 (some 6) ?_
    refine Free.done (fun W9 hb9 hW9 => ?_)
    have HB9 := Lib.hid hW9.1.b
    clear hb9 hW9 hb4 hW3 hb3 hb2 hal2 hb hW
    go_wp2
    go_ret
    exact ⟨rfl, HB9.out⟩
end Go.Proofs.YtdpdoclhdjhjkaaGreat
