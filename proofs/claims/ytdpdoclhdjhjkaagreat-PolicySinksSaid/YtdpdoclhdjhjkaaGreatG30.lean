/-
  Layer 13: New, Rules, decides, Stops, together, the table of sinks, the setters: walks. Layer 13: decides, Stops, together, the table of sinks: walks.
-/
import Derived.Test.YtdpdoclhdjhjkaaGreatG29
import Derived.Test.YtdpdoclhdjhjkaaGreatG24
import Derived.Test.YtdpdoclhdjhjkaaGreatG00
import Derived.Test.YtdpdoclhdjhjkaaGreatG27
set_option linter.unusedVariables false
set_option linter.unusedSimpArgs false
namespace Go.Proofs.YtdpdoclhdjhjkaaGreat
open Go.RowKit
set_option maxHeartbeats 4000000
set_option maxRecDepth 100000
set_option linter.unusedVariables false
set_option linter.unusedSimpArgs false

theorem pNew_any (w : World) : Calls Tryz.prog 62 #[] w fun e w' => e = .returned (.pointer (some ⟨w.heap.size, 0, none⟩)) ∧ Po w' w.heap.size ru0 ∧ Below w.heap.size w w' := by
  have h1 := blk_new w (poC true ru0) 142
  have h2 := bel1 w (.cells (poC true ru0) 142)
  have HH := Lib.hid (And.intro h1 h2)
  clear h1 h2
  go_enter Tryz.func62, Tryz.ntmps62
  go_wp2
  go_ret
  exact ⟨rfl, HH.out.1, HH.out.2⟩
def Ru.set (r : Ru) (j : Nat) (x : Int) : Ru := fun i => if i = j then x else r i
theorem poC_set (b : Bool) (r : Ru) {j : Nat} (h : j < 11) (x : Int) : (poC b r).setIfInBounds (1 + j) (.int .u32 x) = poC b (r.set j x) := by
  rcases (show j = 0 ∨ j = 1 ∨ j = 2 ∨ j = 3 ∨ j = 4 ∨ j = 5 ∨ j = 6 ∨ j = 7 ∨ j = 8 ∨ j = 9 ∨ j = 10 by omega) with rfl | rfl | rfl | rfl | rfl | rfl | rfl | rfl | rfl | rfl | rfl <;> rfl
theorem Po.set {w : World} {S : Nat} {r : Ru} (h : Po w S r) {j : Nat} (hj : j < 11) (x : Int) : Po (w.setCell ⟨S, 1 + j, none⟩ (.int .u32 x)) S (r.set j x) := by
  have := h.blk.setCell (1 + j) (.int .u32 x)
  rwa [poC_set true r hj] at this
theorem Po.at_ {w : World} {S : Nat} {r : Ru} (h : Po w S r) {j : Nat} (hj : j < 11) : w.cell? ⟨S, 1 + j, none⟩ = some (.int .u32 (r j)) := by
  rw [h.blk.cell]
  rcases (show j = 0 ∨ j = 1 ∨ j = 2 ∨ j = 3 ∨ j = 4 ∨ j = 5 ∨ j = 6 ∨ j = 7 ∨ j = 8 ∨ j = 9 ∨ j = 10 by omega) with rfl | rfl | rfl | rfl | rfl | rfl | rfl | rfl | rfl | rfl | rfl <;> rfl
theorem RuW.set {r : Ru} (h : RuW r) (j : Nat) {x : Int} (hx : W32 x) : RuW (r.set j x) := fun i hi => by
  unfold Ru.set
  split
  · exact hx
  · exact h i hi
/-- What a setter makes of the rules. -/
def Ru.turn (r : Ru) (ok : Bool) (j : Nat) (x : Int) : Ru := if ok then r.set j x else r
theorem Strict_any {S : Nat} {r : Ru} {w : World} (h : Po w S r) (x : Int) (hx : W32 x) : Calls Tryz.prog 63 #[.pointer (some ⟨S, 0, none⟩), .int .u32 x] w fun e w' =>
    e = .returned (.int .i64 (refE true x)) ∧ Po w' S (r.turn (decide (x < 65536)) 10 x) ∧ Turned (fun k => k = S) w w' := by
  have HR := Lib.hid (refuses_po h true x hx)
  have HP := Lib.hid h
  clear h
  by_cases hx2 : x < 65536
  · have HX := Lib.hid hx2
    rw [refE_ok hx2] at HR
    clear hx2
    go_enter Tryz.func63, Tryz.ntmps63
    go_wp2
    refine L2.wp_scope_fwd 0 rfl ?_
    go_wp2_with fail
    refine HR.out.mono ?_
    rintro e w1 ⟨rfl, hb⟩
    have HP1 := Lib.hid (HP.out.below hb)
    have HB1 := Lib.hid hb
    clear hb
    have c10 : w1.cell? ⟨S, 11, none⟩ = some (.int .u32 (r 10)) := HP1.out.at_ (j := 10) (by omega)
    have f10 : w1.frozen? ⟨S, 11, none⟩ = false := HP1.out.blk.frozen 11
    go_wp2
    rw [L2.Fwd_ret]
    go_ret
    refine ⟨by rw [refE_ok HX.out]; rfl, ?_, (Turned.of_below HB1.out _).trans ((Turned.refl (fun k => k = S) w1).setCell (.inl rfl) _) (fun _ h => .inl h)⟩
    unfold Ru.turn
    rw [decide_eq_true HX.out]
    exact HP1.out.set (j := 10) (by omega) x
  · have HX := Lib.hid hx2
    rw [refE_no hx2] at HR
    clear hx2
    go_enter Tryz.func63, Tryz.ntmps63
    go_wp2
    refine L2.wp_scope_fwd 0 rfl ?_
    go_wp2_with fail
    refine HR.out.mono ?_
    rintro e w1 ⟨rfl, hb⟩
    have HP1 := Lib.hid (HP.out.below hb)
    have HB1 := Lib.hid hb
    clear hb
    go_wp2
    go_step3
    refine ⟨rfl, ?_⟩
    go_wp2
    rw [Exit.noGoto_ret]
    go_ret
    refine ⟨by rw [refE_no (by have := HX.out; omega)]; rfl, ?_, Turned.of_below HB1.out _⟩
    unfold Ru.turn
    rw [decide_eq_false (by have := HX.out; omega)]
    exact HP1.out
theorem Strict_no {p : Option Addr} {w : World} (h : NoPo p w) (x : Int) : Calls Tryz.prog 63 #[.pointer p, .int .u32 x] w fun e w' => e = .returned (.int .i64 1) ∧ w = w' := by
  have HR := Lib.hid (refuses_no h true x)
  clear h
  go_enter Tryz.func63, Tryz.ntmps63
  go_wp2
  refine L2.wp_scope_fwd 0 rfl ?_
  go_wp2_with fail
  refine HR.out.mono ?_
  rintro e w1 ⟨rfl, rfl⟩
  go_wp2
  go_step3
  refine ⟨rfl, ?_⟩
  go_wp2
  rw [Exit.noGoto_ret]
  go_ret
  exact ⟨rfl, rfl⟩
/-! ### Rules -/
theorem rvRules : RowV 67 11 := ⟨.inl ⟨_, Tryz.underlying67⟩, by kernel_rfl⟩
theorem rv5 : RowV 65 5 := ⟨.inr ⟨_, _, Tryz.underlying65⟩, by kernel_rfl⟩
theorem rvPolicy : RowV 142 12 := ⟨.inl ⟨_, Tryz.underlying142⟩, by kernel_rfl⟩
def r5 (r : Ru) (o : Nat) : Array Value := #[.int .u32 (r o), .int .u32 (r (o + 1)), .int .u32 (r (o + 2)), .int .u32 (r (o + 3)), .int .u32 (r (o + 4))]
theorem Po.range {w : World} {S : Nat} {r : Ru} (h : Po w S r) : w.rangeAt S 1 (r5 r 0).toList ∧ w.rangeAt S 6 (r5 r 5).toList :=
  ⟨h.blk.range 1 _ rfl, h.blk.range 6 _ rfl⟩
theorem o_store_V {d : Option Tmp} {op : Oper} {a : Act} {w : World} {K : Act → World → Prop} {Q : Exit → Act → World → Prop} {x y : Operand} {ty : TypeId} {n R : Nat} {old : Array Value} (hd : op.dst = d) (c : Array Value) (ht : RowV ty n) (hr : Rf ty n w R old) (hc : Ok1 n c) (ho : op.op = .store ty x y) (hx : a.eval x = .pointer (some ⟨R, 0, none⟩)) (hy : a.eval y = .agg c)
    (h : K (a.put d undef) (w.setRow R c)) : op.wp Tryz.prog a w K Q := by
  subst hd
  unfold Oper.wp execOp
  simp only [ho, hx, hy, Instr.storeAt, Instr.sureAddr, Sem.run_bind, Sem.run_pure, Result.andThen_ok, run_storeVar_row w R ty ty old c hr.blk (ht.inf hc.1) (by rw [hr.size, hc.1]) hc.2]
  exact h
/-- What Rules' last region knows. -/
structure RulS (w : World) (S : Nat) (r : Ru) (W : World) : Prop where
  b : Below w.heap.size w W
  p : Po W S r
  x : ∃ c, Rf 67 11 W w.heap.size c
theorem RulS.stb (w : World) (S : Nat) (r : Ru) : Free.Stb (RulS w S r) := fun W W' h hb => ⟨h.b.trans (hb.mono h.b.size), h.p.below hb, let ⟨c, hc⟩ := h.x; ⟨c, hc.below hb⟩⟩
theorem Rules_any {S : Nat} {r : Ru} {w : World} (h : Po w S r) : Calls Tryz.prog 34 #[.pointer (some ⟨S, 0, none⟩)] w fun e w' => e = .returned (.agg (ruC r)) ∧ Below w.heap.size w w' := by
  have hb := bel1 w (.cells (ruC ru0) 67)
  have HN := Lib.hid (pnone_po (h.below hb))
  have HL := Lib.hid h.lt
  have HS : Hid (RulS w S r (w.alloc (.cells (ruC ru0) 67)).drew) := ⟨hb.trans (Below.refl _ _).drew, (h.below hb).drew, _, ((ruC_ok ru0).new _ w).drew⟩
  clear h hb
  go_enter Tryz.func34, Tryz.ntmps34
  go_wp2_with fail
  refine HN.out.mono ?_
  rintro e w1 ⟨rfl, rfl⟩
  go_wp2
  refine Free.any (RulS w S r) (RulS.stb w S r) HS.out (fun st => ?_)
  refine Free.tk 0 (some 6) ?_
  refine Free.tk 1 (some 7) ?_
  refine Free.tk 2 (some 8) ?_
  refine Free.tk 3 (some 9) ?_
  refine Free.tk 4 (some 10) (v := .agg (r5 r 0)) ?_ (hy := by intro W hW; exact x_load_V rv5 rfl rfl (hW.p.range.1) rfl)
  refine Free.tk 5 (some 11) ?_
  refine Free.tk 6 (some 12) ?_
  refine Free.tk 7 (some 13) ?_
  refine Free.tk 8 (some 14) ?_
  refine Free.tk 9 (some 15) (v := .agg (r5 r 5)) ?_ (hy := by intro W hW; exact x_load_V rv5 rfl rfl (hW.p.range.2) rfl)
  refine Free.tk 10 (some 16) ?_
  refine Free.tk 11 (some 17) ?_
  refine Free.tk 12 (some 18) ?_
  refine Free.tk 13 (some 19) ?_
  refine Free.tk 14 (some 20) ?_ (hy := by intro W hW; have c10 : W.cell? ⟨S, 11, none⟩ = some (.int .u32 (r 10)) := hW.p.at_ (j := 10) (by omega); go_simp; try with_reducible rfl)
  refine Free.tk 15 (some 21) (v := .agg (ruC r)) ?_ (hy := by intro W hW; kernel_rfl)
  refine Free.one 16 (fun W hb hW => ?_)
  obtain ⟨c0, hx⟩ := hW.x
  refine o_store_V (d := none) rfl (ruC r) rvRules hx (ruC_ok r) rfl rfl rfl ?_
  have hx2 := hx.set (ruC_ok r)
  refine ⟨⟨hW.b.trans ((turned_setRow W w.heap.size (ruC r)).below hW.b.size (fun k e => by omega)), hW.p.blk.setOther (by have := HL.out; omega) _, _, hx2⟩, ?_⟩
  refine Free.done (fun W2 hb2 hW2 => ?_)
  have HF := Lib.hid (hx2.below hb2)
  have HB := Lib.hid hW2.b
  clear hb hW hx hx2 hb2 hW2
  go_wp2
  exact bodyPost_ret (res_V rvRules (fn := Tryz.f34) rfl _ HF.out rfl) rfl ⟨rfl, HB.out⟩
theorem Rules_no {p : Option Addr} {w : World} (h : NoPo p w) : Calls Tryz.prog 34 #[.pointer p] w fun e w' => e = .returned (.agg (ruC ru0)) ∧ Below w.heap.size w w' := by
  have hb := bel1 w (.cells (ruC ru0) 67)
  have HN := Lib.hid (pnone_no (h.below hb))
  have HX := Lib.hid ((ruC_ok ru0).new 67 w)
  have HO := Lib.hid (ruC_ok ru0)
  have HB := Lib.hid hb
  clear h hb
  go_enter Tryz.func34, Tryz.ntmps34
  go_wp2_with fail
  refine HN.out.mono ?_
  rintro e w1 ⟨rfl, rfl⟩
  go_wp2_with ((with_reducible refine wp_store_Vn (ruC ru0) rvRules ⟨?_, HO.out⟩ ?_ ?_ ?_); (rfl); (rfl); (rfl))
  exact bodyPost_ret (res_V rvRules (fn := Tryz.f34) rfl _ HX.out rfl) rfl ⟨rfl, HB.out⟩
end Go.Proofs.YtdpdoclhdjhjkaaGreat
namespace Go.Proofs.YtdpdoclhdjhjkaaGreat
open Go.RowKit
set_option maxHeartbeats 4000000
set_option maxRecDepth 100000
set_option linter.unusedVariables false
set_option linter.unusedSimpArgs false

theorem pDec_no {p : Option Addr} {w : World} (h : NoPo p w) (q : Option Addr) (v : Value) : Calls Tryz.prog 65 #[.pointer p, .pointer q, v] w fun e w' => e = .returned (.tuple #[.int .u32 0, .int .i64 1]) ∧ w = w' := by
  have HN := Lib.hid (pnone_no h)
  clear h
  go_enter Tryz.func65, Tryz.ntmps65
  go_wp2_with fail
  refine HN.out.mono ?_
  rintro e w1 ⟨rfl, rfl⟩
  go_wp2
  go_ret2
  exact ⟨rfl, rfl⟩
theorem pDec_of {S : Nat} {r : Ru} {w : World} (h : Po w S r) (q : Option Addr) {v : Value} {a b : Int} (hd : Calls Tryz.prog 57 #[.pointer q, v] w fun e w' => e = .returned (.tuple #[.int .u32 a, .int .i64 b]) ∧ Below w.heap.size w w') :
    Calls Tryz.prog 65 #[.pointer (some ⟨S, 0, none⟩), .pointer q, v] w fun e w' => e = .returned (.tuple #[.int .u32 a, .int .i64 b]) ∧ Below w.heap.size w w' := by
  have HN := Lib.hid (pnone_po h)
  have HD := Lib.hid hd
  clear h hd
  go_enter Tryz.func65, Tryz.ntmps65
  go_wp2_with fail
  refine HN.out.mono ?_
  rintro e w1 ⟨rfl, rfl⟩
  go_wp2_with fail
  refine HD.out.mono ?_
  rintro e w2 ⟨rfl, hb⟩
  have HB := Lib.hid hb
  clear hb
  go_wp2
  go_ret2
  exact ⟨rfl, HB.out⟩
/-- Does it stop? -/
def stopB (r : Ru) (f : T.Fl) (ts : List T.Tc) : Bool := decide ((f.decides ts).2 = 0) && !decide (andI (f.decides ts).1 (r 10) = 0)
theorem Stops_of {S : Nat} {r : Ru} {w : World} (h : Po w S r) (hr : RuW r) (q : Option Addr) {v : Value} {a b : Int} (ha : W32 a) (hd : Calls Tryz.prog 57 #[.pointer q, v] w fun e w' => e = .returned (.tuple #[.int .u32 a, .int .i64 b]) ∧ Below w.heap.size w w') :
    Calls Tryz.prog 28 #[.pointer (some ⟨S, 0, none⟩), .pointer q, v] w fun e w' => e = .returned (.tuple #[.bool (decide (b = 0) && !decide (andI a (r 10) = 0)), .int .i64 b]) ∧ Below w.heap.size w w' := by
  have HD := Lib.hid (pDec_of h q hd)
  have HP := Lib.hid h
  have HA := Lib.hid (andI_bits a (r 10) ha (hr 10 (by omega)))
  obtain ⟨sb, hsb⟩ : ∃ sb : Bool, Hid (sb = (decide (b = 0) && !decide (andI a (r 10) = 0))) := ⟨_, rfl⟩
  rw [← hsb.out]
  clear h hd ha
  by_cases hb0 : b = 0
  · subst hb0
    go_enter Tryz.func28, Tryz.ntmps28
    go_wp2
    refine L2.wp_scope_fwd 0 rfl ?_
    go_wp2_with fail
    refine HD.out.mono ?_
    rintro e w1 ⟨rfl, hb⟩
    have HB := Lib.hid hb
    have c10 : w1.cell? ⟨S, 11, none⟩ = some (.int .u32 (r 10)) := (HP.out.below hb).at_ (j := 10) (by omega)
    clear hb
    go_wp2
    rw [L2.Fwd_ret]
    go_ret2
    refine ⟨?_, HB.out⟩
    rw [hsb.out]
    have e1 := HA.out
    simp [e1]
    rfl
  · have HX := Lib.hid hb0
    go_enter Tryz.func28, Tryz.ntmps28
    go_wp2
    refine L2.wp_scope_fwd 0 rfl ?_
    go_wp2_with fail
    refine HD.out.mono ?_
    rintro e w1 ⟨rfl, hb⟩
    have HB := Lib.hid hb
    clear hb
    go_wp2
    go_step3
    refine ⟨rfl, ?_⟩
    go_wp2
    rw [Exit.noGoto_ret]
    go_ret2
    refine ⟨?_, HB.out⟩
    rw [hsb.out, decide_eq_false HX.out]
    rfl
theorem Stops_no {p : Option Addr} {w : World} (h : NoPo p w) (q : Option Addr) (v : Value) : Calls Tryz.prog 28 #[.pointer p, .pointer q, v] w fun e w' => e = .returned (.tuple #[.bool false, .int .i64 1]) ∧ w = w' := by
  have HD := Lib.hid (pDec_no h q v)
  clear h
  go_enter Tryz.func28, Tryz.ntmps28
  go_wp2
  refine L2.wp_scope_fwd 0 rfl ?_
  go_wp2_with fail
  refine HD.out.mono ?_
  rintro e w1 ⟨rfl, rfl⟩
  go_wp2
  go_step3
  refine ⟨rfl, ?_⟩
  go_wp2
  rw [Exit.noGoto_ret]
  go_ret2
  exact ⟨rfl, rfl⟩
theorem dec_w32 {f : T.Fl} (hs : T.Small f.ps) (ts : List T.Tc) : W32 (f.decides ts).1 := by
  unfold T.Fl.decides
  split
  · exact ⟨by omega, by omega⟩
  · have := dec_bd hs (s := 0) (by omega) ts
    exact ⟨this.1, by omega⟩
theorem Stops_any {S : Nat} {r : Ru} {w : World} (h : Po w S r) (hr : RuW r) {Sf : Nat} {f : T.Fl} {F : Nat → Prop} (hat : At w Sf f F) {v : Value} {ts : List T.Tc} (hv : TsIn w v ts) :
    Calls Tryz.prog 28 #[.pointer (some ⟨S, 0, none⟩), .pointer (some ⟨Sf, 0, none⟩), v] w fun e w' => e = .returned (.tuple #[.bool (stopB r f ts), .int .i64 (f.decides ts).2]) ∧ Below w.heap.size w w' :=
  Stops_of h hr _ (dec_w32 hat.ok.small ts) (Decides_any hat hv)
/-- What places have together. -/
theorem together_any {w : World} {Sf : Nat} {f : T.Fl} {F : Nat → Prop} (hat : At w Sf f F) {v : Value} {l : List T.Pl} (hv : PlsIn w v l) (hm : l.all (T.may f.fr f.se) = true) :
    Calls Tryz.prog 67 #[.pointer (some ⟨Sf, 0, none⟩), v] w fun e w' => e = .returned (.int .u32 (T.tog f.ps 0 l)) ∧ Below w.heap.size w w' := by
  obtain ⟨ao, c, rfl, _, _⟩ := hv.shape
  have hb := bel1 w (.cells #[.int .i64 0, .int .i64 0, .slice ao l.length c] 90)
  have hts : TsIn (w.alloc (.cells #[.int .i64 0, .int .i64 0, .slice ao l.length c] 90)) (.slice (some ⟨w.heap.size, 0, none⟩) 1 1) [(T.none0, l)] :=
    TsIn.lit (l := [(T.none0, l)]) (cs := [.int .i64 0, .int .i64 0, .slice ao l.length c]) (blk_new w _ _) ⟨_, [], rfl, hv.below hb, rfl⟩ rfl (by simp [maxLen]) (by simp [Pi, I64, T.none0])
  have hdec : f.decides [(T.none0, l)] = (T.tog f.ps 0 l, 0) := by
    unfold T.Fl.decides
    have : T.mayAll f.fr f.se [(T.none0, l)] = true := by
      simp only [T.mayAll, T.mayT, List.all_cons, List.all_nil, Bool.and_true, hm]
      simp
    rw [if_neg (by rw [this]; simp), dec_one _ hat.ok.small]
  have HD := Lib.hid (Decides_any (hat.below hb) hts)
  have HE := Lib.hid hdec
  have HB := Lib.hid hb
  rw [HE.out] at HD
  clear hat hv hm hb hts hdec
  generalize T.tog f.ps 0 l = u at HD
  go_enter Tryz.func67, Tryz.ntmps67
  go_wp2_with fail
  refine HD.out.mono ?_
  rintro e w1 ⟨rfl, hb⟩
  have HB1 := Lib.hid (HB.out.trans (hb.mono HB.out.size))
  clear hb
  go_wp2
  go_ret
  exact ⟨rfl, HB1.out⟩
/-! ### the table of sinks -/
theorem skLaw : Maps.Keyed Tryz.prog 33 := Maps.int_keyed Tryz.underlying33
theorem key_kind {x : Int} (h : (Lit.int .i64 x).wf = true) : keyOf Tryz.prog 33 (.int .i64 x) = some (.int .i64 x) := Maps.keyOf_int_mk Tryz.underlying33 h
theorem zeroSink (w : World) : (zeroValue 137).run Tryz.prog w = .ok (.int .i64 0) w := by kernel_rfl
abbrev sk1 : DataW Unit := (DataW.map []).put (.int .i64 14) (.lit (.int .i64 1))
abbrev sk2 : DataW Unit := sk1.put (.int .i64 16) (.lit (.int .i64 2))
abbrev sk3 : DataW Unit := sk2.put (.int .i64 12) (.lit (.int .i64 3))
abbrev sk4 : DataW Unit := sk3.put (.int .i64 2) (.lit (.int .i64 4))
theorem skm0 : Maps.IsMap (DataW.map [] : DataW Unit) := Maps.isMap_empty
theorem skm1 : Maps.IsMap sk1 := skm0.put _ _
theorem skm2 : Maps.IsMap sk2 := skm1.put _ _
theorem skm3 : Maps.IsMap sk3 := skm2.put _ _
/-- The table of sinks at block G. -/
def SkM (w : World) (G : Nat) : Prop := w.ownsMap Tryz.prog 33 (plainElem Tryz.prog 137) G 4 sk4
theorem isKeyK (x : Int) : WideAt.IsKeyLit (Lit.int .i64 x) := trivial
theorem SkM.look {w : World} {G : Nat} (h : SkM w G) {k : Int} (hk : I64 k) : (Instr.lookup 144 (.map (some G)) (.int .i64 k) false).run Tryz.prog w = .ok (.int .i64 (snk k : Int)) w := by
  obtain ⟨v, ps, hr, hv⟩ := World.ownsMap.lookup h skLaw Tryz.underlying144 (zeroSink w) (plainElem_int Tryz.underlying137 (wf_i64 (by omega) (by omega))) (key_kind (wf_i64 hk.1 hk.2))
  obtain ⟨a, rfl, ha, _⟩ := plainElem_int_inv Tryz.underlying137 hv
  rw [hr]
  have e : sk4.atKey (.int .i64 k) (.lit (.int .i64 0)) = .lit (.int .i64 (snk k : Int)) := by
    unfold snk
    by_cases h2 : k = 2
    · subst h2; rw [Maps.atKey_put_same skm3 (isKeyK 2)]; rfl
    · rw [Maps.atKey_put_other (by simpa using h2)]
      by_cases h12 : k = 12
      · subst h12; rw [Maps.atKey_put_same skm2 (isKeyK 12)]; rfl
      · rw [Maps.atKey_put_other (by simpa using h12)]
        by_cases h16 : k = 16
        · subst h16; rw [Maps.atKey_put_same skm1 (isKeyK 16)]; rfl
        · rw [Maps.atKey_put_other (by simpa using h16)]
          by_cases h14 : k = 14
          · subst h14; rw [Maps.atKey_put_same skm0 (isKeyK 14)]; rfl
          · rw [Maps.atKey_put_other (by simpa using h14), if_neg h14, if_neg h16, if_neg h12, if_neg h2]; rfl
  rw [e] at ha
  simp only [Prod.mk.injEq, DataW.lit.injEq, Lit.int.injEq, true_and] at ha
  rw [ha.1]
theorem SkM.keep {w w' : World} {G : Nat} (h : SkM w G) (hk : w'.heap[G]? = w.heap[G]?) : SkM w' G := own_keep h hk
theorem SkM.lt {w : World} {G : Nat} (h : SkM w G) : G < w.heap.size := World.ownsMap.lt h
theorem SkM.below {w w' : World} {G : Nat} (h : SkM w G) (hb : Below w.heap.size w w') : SkM w' G := h.keep (hb.block G h.lt)
theorem turned_sizeK {w w' : World} {b : Nat} (h : w.mapTurned w' b) : w'.heap.size = w.heap.size := by
  obtain ⟨es, clock, es', clock', _, rfl⟩ := h
  simp [ChangeMaps.setBlock]
/-- A map literal's entry, at the operation. -/
theorem wpList_insert_k {H : Type} {P : Program} (w : World) {ops : Array Oper} {rest : List Oper} {o : Oper} {a : Act} {Q : Exit → Act → World → Prop}
    (hg : o.guard = none) (m x v : Operand) (t : TypeId) (hop : o.op = Op.insert t m x v)
    (k e : TypeId) (K : Maps.Keyed P k) (ht : P.underlying t = some (.map k e)) (R : Value → Option (DataW H × List MemPlace)) (b n : Nat) (D : DataW H)
    (hm : a.eval m = .map (some b)) (hown : w.ownsMap P k R b n D) (hn : n < maxLen) (key val : Value) (kl : Lit) (hx : a.eval x = key) (hv : a.eval v = val) (hkey : keyOf P k key = some kl)
    (d : DataW H) (ps : List MemPlace) (hval : R val = some (d, ps))
    (hK : ∀ w', w'.ownsMap P k R b (n + 1) (D.put kl d) → w.mapTurned w' b → wpList P ops Q rest (a.put o.dst undef) w') :
    wpList P ops Q (o :: rest) a w := by
  refine wpList_plain hg fun K' hK' => ?_
  obtain ⟨w', hrun, r1, r2⟩ := hown.store K ht hn hkey hval
  unfold Oper.wp
  simp [execOp, hop, hm, hx, hv, hrun, Result.andThen]
  exact hK' _ _ (hK w' r1 r2)
theorem sinksOf_any (w : World) : Calls Tryz.prog 66 #[] w fun e w' => e = .returned (.map (some w.heap.size)) ∧ SkM w' w.heap.size ∧ Below w.heap.size w w' := by
  have hmm := @run_makeMap Tryz.prog
  have hown := World.ownsMap_made w Tryz.prog 33 (plainElem (H := Unit) Tryz.prog 137)
  have HB := Lib.hid ((Below.refl w.heap.size w).alloc (Nat.le_refl _) (.map #[] 0))
  go_enter Tryz.func66, Tryz.ntmps66
  go_wp2_with (refine wpList_insert_k _ rfl _ _ _ 144 rfl 33 137 skLaw Tryz.underlying144 _ w.heap.size 0 _ rfl hown (by decide) _ _ _ rfl rfl (key_kind (wf_i64 (by omega) (by omega))) _ [] (plainElem_int Tryz.underlying137 (wf_i64 (by omega) (by omega))) ?_)
  intro w1 hown1 ht1
  have HB1 := Lib.hid (HB.out.grown ht1.grown (by simp) (by intro k e; cases e; omega))
  go_wp2_with (refine wpList_insert_k _ rfl _ _ _ 144 rfl 33 137 skLaw Tryz.underlying144 _ w.heap.size 1 _ rfl hown1 (by decide) _ _ _ rfl rfl (key_kind (wf_i64 (by omega) (by omega))) _ [] (plainElem_int Tryz.underlying137 (wf_i64 (by omega) (by omega))) ?_)
  intro w2 hown2 ht2
  have HB2 := Lib.hid (HB1.out.grown ht2.grown (by rw [turned_sizeK ht1]; simp) (by intro k e; cases e; omega))
  go_wp2_with (refine wpList_insert_k _ rfl _ _ _ 144 rfl 33 137 skLaw Tryz.underlying144 _ w.heap.size 2 _ rfl hown2 (by decide) _ _ _ rfl rfl (key_kind (wf_i64 (by omega) (by omega))) _ [] (plainElem_int Tryz.underlying137 (wf_i64 (by omega) (by omega))) ?_)
  intro w3 hown3 ht3
  have HB3 := Lib.hid (HB2.out.grown ht3.grown (by rw [turned_sizeK ht2, turned_sizeK ht1]; simp) (by intro k e; cases e; omega))
  go_wp2_with (refine wpList_insert_k _ rfl _ _ _ 144 rfl 33 137 skLaw Tryz.underlying144 _ w.heap.size 3 _ rfl hown3 (by decide) _ _ _ rfl rfl (key_kind (wf_i64 (by omega) (by omega))) _ [] (plainElem_int Tryz.underlying137 (wf_i64 (by omega) (by omega))) ?_)
  intro w4 hown4 ht4
  have HB4 := Lib.hid (HB3.out.grown ht4.grown (by rw [turned_sizeK ht3, turned_sizeK ht2, turned_sizeK ht1]; simp) (by intro k e; cases e; omega))
  have HO := Lib.hid hown4
  clear hown1 hown2 hown3 hown4 hown ht1 ht2 ht3 ht4
  go_wp2
  go_ret
  exact ⟨rfl, HO.out, HB4.out⟩
end Go.Proofs.YtdpdoclhdjhjkaaGreat
