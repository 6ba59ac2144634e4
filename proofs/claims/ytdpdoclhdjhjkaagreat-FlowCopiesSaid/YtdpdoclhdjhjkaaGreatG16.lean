/-
  Layer 12: Apply of a flow: walk. (written by gen_ap.py)
-/
import Derived.Test.YtdpdoclhdjhjkaaGreatG15
set_option linter.unusedVariables false
set_option linter.unusedSimpArgs false
namespace Go.Proofs.YtdpdoclhdjhjkaaGreat
open Go.RowKit
set_option maxHeartbeats 8000000
set_option maxRecDepth 100000
set_option linter.unusedVariables false
set_option linter.unusedSimpArgs false

theorem o_callb {P : Program} {op : Oper} {a : Act} {b : Value → Act} {w : World} {K : Act → World → Prop} {Q : Exit → Act → World → Prop} {F : FuncId} {args : Array Value} (d : Option Tmp) (he : (execOp a.eval op).run P w = .ok (.enter F args) w)
    (hc : Calls P F args w fun e w' => ∃ v, e = .returned v ∧ K (b v) w') (hd : op.dst = d := by rfl) (ha : ∀ v, a.put d v = b v := by intro v; (simp only [Act.put, List.setIfInBounds_toArray, List.set_cons_zero, List.set_cons_succ]; rfl)) : op.wp P a w K Q := by
  subst hd
  exact o_call he (hc.mono fun e w' ⟨v, h1, h2⟩ => ⟨v, h1, by rw [ha]; exact h2⟩)
theorem last_some {l : List T.Pr} {q : T.Pl} : ∀ {ts : List T.Tc} {o : Option Int} {x : Int}, T.last l q o ts = some x → o = some x ∨ ∃ t ∈ ts, t.1 ≠ T.none0 ∧ t.1 = q ∧ x = T.tog l 0 t.2
  | [], o, x, h => .inl h
  | t :: r, o, x, h => by
    rcases last_some (ts := r) h with e | ⟨t', ht, h1⟩
    · by_cases c : t.1 ≠ T.none0 ∧ t.1 = q
      · rw [if_pos c] at e
        exact .inr ⟨t, by simp, c.1, c.2, (Option.some.inj e).symm⟩
      · rw [if_neg c] at e; exact .inl e
    · exact .inr ⟨t', by simp [ht], h1⟩
theorem last_is {l : List T.Pr} {q : T.Pl} {ts : List T.Tc} {x : Int} (h : T.last l q none ts = some x) : ∃ t ∈ ts, t.1 ≠ T.none0 ∧ t.1 = q ∧ x = T.tog l 0 t.2 := by
  rcases last_some h with e | e
  · cases e
  · exact e
/-- What places have when the new sets that are not left have come. -/
def gone (g : T.Pl → Option Int) (ps : List T.Pr) (left : Lit → Bool) (q : T.Pl) : Int := match g q with | some x => if left (L2.pk q.1 q.2) = true then T.get ps q else x | none => T.get ps q
theorem gone_some {g : T.Pl → Option Int} {ps : List T.Pr} {left : Lit → Bool} {q : T.Pl} {x : Int} (h : g q = some x) : gone g ps left q = if left (L2.pk q.1 q.2) = true then T.get ps q else x := by unfold gone; rw [h]
theorem gone_none {g : T.Pl → Option Int} {ps : List T.Pr} {left : Lit → Bool} {q : T.Pl} (h : g q = none) : gone g ps left q = T.get ps q := by unfold gone; rw [h]
/-- A round of Apply. -/
structure RgI (w3 : World) (S Tb P : Nat) (f : T.Fl) (m : Nat) (FT : List Nat) (C : Nat → Nat) (FM FD : Nat → Prop) (g : T.Pl → Option Int) (mb n : Nat) (Dm : DataW Unit) (left : Lit → Bool) (cnt : Nat) (W : World) : Prop where
  r : W.ranges Tryz.prog 35 (plainElem Tryz.prog 31) mb w3.heap.size n Dm left cnt
  fl : ∃ ps' M' D' C' FM' FD', FlIs W S Tb P { f with ps := ps' } m FT M' D' C' FM' FD' ∧ (∀ q, T.get ps' q = gone g f.ps left q) ∧ (∀ j, plB P C' FM' FD' j → plB P C FM FD j ∨ w3.heap.size < j)
  t : Turned (plB P C FM FD) w3 W
theorem RgI.after {w3 W W' : World} {S Tb P : Nat} {f : T.Fl} {m : Nat} {FT : List Nat} {C : Nat → Nat} {FM FD : Nat → Prop} {g : T.Pl → Option Int} {mb n : Nat} {Dm : DataW Unit} {left : Lit → Bool} {cnt : Nat} (h : RgI w3 S Tb P f m FT C FM FD g mb n Dm left cnt W) (hb : Below W.heap.size W W') : RgI w3 S Tb P f m FT C FM FD g mb n Dm left cnt W' := by
  obtain ⟨ps', M', D', C', FM', FD', h1, h2, h3⟩ := h.fl
  refine ⟨?_, ⟨ps', M', D', C', FM', FD', h1.below hb, h2, h3⟩, h.t.trans (Turned.of_below hb (fun _ => False)) (fun _ e => e.elim)⟩
  obtain ⟨es, clock, since, seen, c0, k1, k2, k3, k4, k5, k6⟩ := h.r
  exact ⟨es, clock, since, seen, c0, (hb.block _ (Array.getElem?_eq_some_iff.1 k1).1).trans k1, k2, k3, k4, (hb.block _ (Array.getElem?_eq_some_iff.1 k5).1).trans k5, k6⟩
theorem ranges_keep {w w' : World} {P : Program} {k : TypeId} {R : Value → Option (DataW Unit × List MemPlace)} {b r n : Nat} {D : DataW Unit} {left : Lit → Bool} {cnt : Nat} (h : w.ranges P k R b r n D left cnt) (h1 : w'.heap[b]? = w.heap[b]?) (h2 : w'.heap[r]? = w.heap[r]?) : w'.ranges P k R b r n D left cnt := by
  obtain ⟨es, clock, since, seen, c0, k1, k2, k3, k4, k5, k6⟩ := h
  exact ⟨es, clock, since, seen, c0, h1.trans k1, k2, k3, k4, h2.trans k5, k6⟩
theorem Apply_any {w : World} {S : Nat} {f : T.Fl} {F : Nat → Prop} (h : At w S f F) {v : Value} {ts : List T.Tc} (hv : ∀ W, Turned F w W → TsIn W v ts) (hl : ts.length ≤ 100000) : Calls Tryz.prog 12 #[.pointer (some ⟨S, 0, none⟩), v] w fun e w' =>
    e = .returned (.int .i64 (f.apply ts).2) ∧ Chg w S (f.apply ts).1 F w' := by
  have HH := Lib.hid h
  obtain ⟨Tb, P, m, FT, M, D, C, FM, FD, rfl, hf⟩ := h
  have hv0 := hv w (Turned.refl _ _)
  have HR := Lib.hid (ref_any hf hv0)
  have HF := Lib.hid hf
  have HV := Lib.hid (fun W1 (hb : Below w.heap.size w W1) W (ht : Turned (fun j => j ∈ FT) W1 W) => hv W ((Turned.of_below hb (flB S P FT C FM FD)).trans ht (fun j e => .inl (.inr (.inl e)))))
  have HAp : Hid (f.apply ts = if T.mayAll f.fr f.se ts = false then (f, 2) else if (T.keeps f.mo f.ps f.ss ts).2 = 0 then ({ f with ss := (T.keeps f.mo f.ps f.ss ts).1, ps := T.lays f.ps f.ps ts }, 0) else ({ f with ss := (T.keeps f.mo f.ps f.ss ts).1 }, (T.keeps f.mo f.ps f.ss ts).2)) := rfl
  have HT : Hid (refT f.fr f.se ts = if T.mayAll f.fr f.se ts = true then 0 else 2) := rfl
  have HPi : Hid (∀ t ∈ ts, Pi t.1) := by obtain ⟨_, _, _, h3⟩ := hv0; exact h3
  obtain ⟨oa, ca, rfl, _, hla⟩ := hv0.shape
  unfold maxLen at hla
  clear hf hv hv0
  cases hm : T.mayAll f.fr f.se ts with
  | false =>
    rw [hm] at HAp HT
    simp only [Bool.false_eq_true, if_false, if_true] at HAp HT
    rw [HT.out] at HR
    have HM := Lib.hid hm
    clear hm
    go_enter Tryz.func12, Tryz.ntmps12
    go_wp2
    refine L2.wp_scope_fwd 0 rfl ?_
    go_wp2_with (go_at_call 42; refine HR.out.mono ?_; rintro e w1 ⟨rfl, hb⟩)
    have HC := Lib.hid (Chg.same HH.out hb)
    clear hb
    go_step3
    refine ⟨rfl, ?_⟩
    go_wp2
    rw [Exit.noGoto_ret]
    go_ret
    rw [HAp.out]
    exact ⟨rfl, HC.out⟩
  | true =>
    rw [hm] at HAp HT
    simp only [Bool.true_eq_false, if_false, if_true] at HAp HT
    rw [HT.out] at HR
    have HM := Lib.hid hm
    clear hm
    go_enter Tryz.func12, Tryz.ntmps12
    go_wp2
    refine L2.wp_scope_fwd 0 rfl ?_
    go_wp2_with fail
    refine HR.out.mono ?_
    rintro e w1 ⟨rfl, hb⟩
    have HB1 := Lib.hid hb
    have HN := Lib.hid (news_any (HF.out.below hb) (HV.out w1 hb) HM.out (by omega))
    clear hb
    go_wp2_with fail
    refine HN.out.mono ?_
    rintro e w3 hno
    obtain ⟨hfl, ht3, hres⟩ := hno
    rcases hres with ⟨hne, rfl⟩ | ⟨hz, rfl, hmp⟩
    · have hAp2 := HAp.out
      rw [if_neg hne] at hAp2
      have HAp2 := Lib.hid hAp2
      have HFin : Hid (Chg w S { f with ss := (T.keeps f.mo f.ps f.ss ts).1 } (flB S P FT C FM FD) w3) := by
        obtain ⟨FT', h1, h2, _⟩ := hfl
        have hz1 := HB1.out.size
        refine Chg.of h1 ((Turned.of_below HB1.out (flB S P FT C FM FD)).trans ht3 (fun j e => .inl (.inr (.inl e)))) (fun j e => ?_) (fun j e => .inl e)
        rcases h2 j e with e | e
        · exact .inl e
        · exact .inr (by omega)
      have HNe := Lib.hid hne
      clear hAp2 hfl ht3 hne
      generalize (T.keeps f.mo f.ps f.ss ts).2 = er at HNe HAp2 ⊢
      have hne := HNe.out
      go_wp2
      go_step3
      refine ⟨rfl, ?_⟩
      go_wp2
      rw [Exit.noGoto_ret]
      go_ret
      rw [HAp2.out]
      exact ⟨rfl, HFin.out⟩
    · have hAp2 := HAp.out
      rw [if_pos hz] at hAp2
      have HAp2 := Lib.hid hAp2
      obtain ⟨FT', h1, h2, h3⟩ := hfl
      obtain ⟨Dm, hown, hnd⟩ := hmp
      have HFl := Lib.hid (And.intro h1 (And.intro h2 h3))
      have HT3 := Lib.hid ht3
      have HND := Lib.hid hnd
      have HMb : Hid (w1.heap.size < w3.heap.size) := hown.lt
      clear hAp2 h1 h2 h3 hnd ht3 hz
      generalize hfk : (T.keeps f.mo f.ps f.ss ts).1 = ssk at HFl HAp2
      clear hfk
      obtain ⟨g, hg⟩ : ∃ g : T.Pl → Option Int, g = fun q => T.last f.ps q none ts := ⟨_, rfl⟩
      rw [← hg] at HND
      have HG := Lib.hid hg
      clear hg
      go_wp2_with (at_range; refine wpList_range_own _ rfl _ 114 rfl 35 31 placeLaw Tryz.underlying114 _ w1.heap.size _ _ rfl hown ?_; intro w4 hrg4 hg4 hs4)
      have H0 : Hid (RgI w3 S Tb P { f with ss := ssk } m FT' C FM FD g w1.heap.size ts.length Dm (Maps.has Dm) (Maps.size Dm) w4) := by
        have hb4 : Below w3.heap.size w3 w4 := (Below.refl _ _).grown hg4 (Nat.le_refl _) (fun j hj => by cases hj)
        refine ⟨hrg4, ⟨f.ps, M, D, C, FM, FD, HFl.out.1.below hb4, fun q => ?_, fun j e => .inl e⟩, Turned.of_below hb4 _⟩
        cases e : g q with
        | none => rw [gone_none e]
        | some x =>
          have : Pi q := by
            rw [HG.out] at e
            obtain ⟨t, ht, _, h2, _⟩ := last_is e
            rw [← h2]; exact HPi.out t ht
          have hh := HND.out.has q this
          rw [e] at hh
          simp only [Option.isSome_some] at hh
          rw [gone_some e, if_pos hh]
      clear hrg4 hg4 hs4 hown
      go_frame
      go_loopw [24] (fun _ wr => ∃ (left : Lit → Bool) (cnt : Nat), Hid (RgI w3 S Tb P { f with ss := ssk } m FT' C FM FD g w1.heap.size ts.length Dm left cnt wr)) (fun _ wr => wr.rangeLeft w1.heap.size w3.heap.size)
      case atStart => exact ⟨_, _, H0.out⟩
      case round =>
        obtain ⟨left, cnt, HI⟩ := hrel
        have hrg := HI.out.r
        go_wp2_with (at_next; refine wpList_next_ranges _ rfl _ rfl 35 placeLaw (plainElem Tryz.prog 31) (fun p : T.Pl => .agg #[.int .i64 p.1, .int .i64 p.2]) (Value.int .u32) (fun key kl hkey => by obtain ⟨p, rfl, _⟩ := place_inv hkey; exact ⟨p, rfl⟩) (fun v y hv => by obtain ⟨c, rfl, _⟩ := plainElem_int_inv Tryz.underlying31 hv; exact ⟨c, rfl⟩) w1.heap.size w3.heap.size ts.length _ _ _ rfl hrg ?_ ?_)
        · intro _ hl0
          have HL := Lib.hid hl0
          clear hrg hl0
          have HFin : Hid (Chg w S { f with ss := ssk, ps := T.lays f.ps f.ps ts } (flB S P FT C FM FD) wr) := by
            obtain ⟨ps', M', D', C', FM', FD', k1, k2, k3⟩ := HI.out.fl
            have hps : ps' = T.lays f.ps f.ps ts := by
              refine k1.pl.ris.ext (T.lays_ris HF.out.pl.ris ts) fun q => ?_
              rw [k2 q, T.lays_get HF.out.pl.ris ts q none (T.get f.ps q) rfl]
              have hgq : g q = T.last f.ps q none ts := by rw [HG.out]
              cases e : T.last f.ps q none ts with
              | none => rw [gone_none (hgq.trans e)]; rfl
              | some x => rw [gone_some (hgq.trans e), if_neg (by rw [HL.out]; decide)]; rfl
            subst hps
            have hz1 := HB1.out.size
            have hz3 := HT3.out.size
            refine Chg.of k1 ?_ (fun j e => ?_) (fun j e => ?_)
            · exact ((Turned.of_below HB1.out (flB S P FT C FM FD)).trans HT3.out (fun j e => .inl (.inr (.inl e)))).trans HI.out.t (fun j e => .inl (.inr (.inr e)))
            · rcases HFl.out.2.1 j e with e | e
              · exact .inl e
              · exact .inr (by omega)
            · rcases k3 j e with e | e
              · exact .inl e
              · exact .inr (by omega)
          go_wp2
          rw [L2.Fwd_ret]
          go_ret
          rw [HAp2.out]
          exact ⟨rfl, HFin.out⟩
        · intro pa pb x kl y yp w5 cnt1 hkey hlx hv1 hat hrg1 hlt hg5 hs5 hen
          obtain ⟨p', e1, rfl, hpi⟩ := place_inv hkey
          unfold pla at e1
          simp at e1
          obtain ⟨rfl, rfl⟩ := e1
          obtain ⟨a, e2, e3, _⟩ := plainElem_int_inv Tryz.underlying31 hv1
          simp only [Value.int.injEq, true_and] at e2
          subst e2
          simp only [Prod.mk.injEq] at e3
          obtain ⟨rfl, rfl⟩ := e3
          have hgp : g p' = some x := by
            have hh := Maps.has_true_of_atKey hat
            rw [HND.out.has p' hpi] at hh
            obtain ⟨z, hz⟩ := Option.isSome_iff_exists.1 hh
            have := HND.out.at_ p' hpi z hz (.lit (.int .u32 0))
            rw [hat] at this
            simp at this
            rw [hz, this]
          obtain ⟨t, ht, ht1, ht2, htx⟩ := last_is (by have := hgp; rw [HG.out] at this; exact this)
          have hmay : T.may f.fr f.se p' = true := by
            have := List.all_eq_true.1 HM.out t ht
            unfold T.mayT at this
            simp only [Bool.and_eq_true, Bool.or_eq_true, decide_eq_true_eq] at this
            rw [← ht2]
            rcases this.1 with e | e
            · exact absurd e ht1
            · exact e
          have hxb : 0 ≤ x ∧ x < 65536 := by rw [htx]; exact HF.out.pl.small.tog (by omega) _
          have hz5 : w5.heap.size = wr.heap.size := hs5
          have HI5 : Hid (RgI w3 S Tb P { f with ss := ssk } m FT' C FM FD g w1.heap.size ts.length Dm left cnt wr) := HI
          have HFl5 : Hid (∃ ps' M' D' C' FM' FD', FlIs w5 S Tb P { f with ss := ssk, ps := ps' } m FT' M' D' C' FM' FD' ∧ (∀ q, T.get ps' q = gone g f.ps left q) ∧ (∀ j, plB P C' FM' FD' j → plB P C FM FD j ∨ w3.heap.size < j)) := by
            obtain ⟨ps', M', D', C', FM', FD', k1, k2, k3⟩ := HI.out.fl
            refine ⟨ps', M', D', C', FM', FD', k1.keep fun j hj => hg5.block j (k1.lt j hj) (fun e => ?_), k2, k3⟩
            have e : j = w3.heap.size := by simpa using e
            subst e
            rcases hj with e | e | e
            · have := HFl.out.1.blk.lt; omega
            · have := HFl.out.1.tab.lt _ e; omega
            · rcases k3 _ e with e | e
              · have := HFl.out.1.pl.lt _ e; omega
              · omega
          have HT5 : Hid (Turned (plB P C FM FD) w3 w5) := HI.out.t.trans (Turned.of_grown (F := fun j => j = w3.heap.size) hg5 (fun j e => by cases e; rfl)) (fun j e => .inr (by omega))
          have HRg5 := Lib.hid hrg1
          have HGp := Lib.hid hgp
          have HPp := Lib.hid hpi
          have HMy := Lib.hid hmay
          have HXb := Lib.hid hxb
          have HLt := Lib.hid hlt
          have HLe := Lib.hid hrg.left_eq
          have hb6 := bel1 w5 (.cells #[.int .i64 p'.1, .int .i64 p'.2] 35)
          have HB6 := Lib.hid hb6
          have hbk6 := blk_new w5 #[.int .i64 p'.1, .int .i64 p'.2] 35
          have HBk6 := Lib.hid hbk6
          have HS6 : Hid (MkS S P w5.heap.size p' (w5.alloc (.cells #[.int .i64 p'.1, .int .i64 p'.2] 35)).drew) := by
            obtain ⟨ps', M', D', C', FM', FD', k1, k2, k3⟩ := HFl5.out
            exact ⟨(k1.below hb6).s1, hbk6.cell 0, hbk6.cell 1⟩
          clear hkey hlx hv1 hat hrg1 hlt hg5 hs5 hpi hgp ht ht1 ht2 htx hmay hxb hb6 hbk6 hrg
          rw [hz5] at HS6 HBk6
          go_wp2
          refine Free.any (MkS S P wr.heap.size p') (MkS.stb S P wr.heap.size p') HS6.out (fun st => ?_)
          refine Free.tk 0 (some 29) ?_
          refine Free.tk 1 (some 30) ?_ (hy := by intro W hW; have s1 := hW.s1; have b0 := hW.b0; have b1 := hW.b1; go_simp; try with_reducible rfl)
          refine Free.tk 2 (some 31) ?_
          refine Free.tk 3 (some 32) ?_ (hy := by intro W hW; have s1 := hW.s1; have b0 := hW.b0; have b1 := hW.b1; go_simp; try with_reducible rfl)
          refine Free.tk 4 (some 33) ?_ (hy := by intro W hW; have s1 := hW.s1; have b0 := hW.b0; have b1 := hW.b1; go_simp; try with_reducible rfl)
          refine Free.tk 5 (some 34) ?_
          refine Free.one 6 (fun W hb hW => ?_)
          have HBW := Lib.hid (HB6.out.drew.trans (hb.mono (by simp)))
          have hbkW := HBk6.out.below ((Below.refl _ _).drew.trans hb)
          obtain ⟨ps', M', D', C', FM', FD', k1, k2, k3⟩ := HFl5.out
          have k1W := k1.below HBW.out
          have HK := Lib.hid (And.intro k1 (And.intro k2 k3))
          refine o_callb (some 35) (by go_simp; first | exact ⟨rfl, rfl⟩ | rfl) ?_
          refine (pput_any k1W.pl p' HMy.out 1 HXb.out (fun _ => by rw [show ((p'.1, p'.2 + ((1 : Nat) : Int) - 1) : T.Pl) = p' from Prod.ext rfl (by show p'.2 + ((1 : Nat) : Int) - 1 = p'.2; omega)]; exact HMy.out)).mono ?_
          rintro e V ⟨⟨u, rfl⟩, hpt⟩
          obtain ⟨M2, D2, C2, FM2, FD2, k4, t5, h5⟩ := k1W.put hpt
          have hltB : ∀ j, plB P C' FM' FD' j → j < wr.heap.size := fun j e => by have := k1.pl.lt j e; omega
          have hbkV := hbkW.turned t5 (fun e => by have := hltB _ e; omega)
          refine ⟨u, rfl, ⟨k4.s1, hbkV.cell 0, hbkV.cell 1⟩, Free.done (fun W2 hb2 hW2 => ?_)⟩
          have hz3 : w3.heap.size < wr.heap.size := HI.out.r.lt
          have hz1 : w1.heap.size < w3.heap.size := HMb.out
          have hzW := HBW.out.size
          have hzV := t5.size
          have HFin : Hid (RgI w3 S Tb P { f with ss := ssk } m FT' C FM FD g w1.heap.size ts.length Dm (fun z => left z && !z.sameKey (L2.pk p'.1 p'.2)) cnt1 W2) := by
            have e1 : ∀ j, j < w5.heap.size → ¬ plB P C' FM' FD' j → W2.heap[j]? = w5.heap[j]? := fun j hj hn => by
              rw [hb2.block j (by omega), t5.block j (by omega) hn, HBW.out.block j hj]
            have nmb : ¬ plB P C' FM' FD' w1.heap.size := fun e => by
              rcases k3 _ e with e | e
              · have := HF.out.pl.lt _ e; have := HB1.out.size; omega
              · omega
            have nrb : ¬ plB P C' FM' FD' w3.heap.size := fun e => by
              rcases k3 _ e with e | e
              · have := HF.out.pl.lt _ e; have := HB1.out.size; omega
              · omega
            refine ⟨ranges_keep HRg5.out (e1 _ (by omega) nmb) (e1 _ (by omega) nrb), ⟨_, M2, D2, C2, FM2, FD2, k4.below hb2, fun q => ?_, fun j e => ?_⟩, ?_⟩
            · show T.get (T.put ps' (p'.1, p'.2 + ((0 : Nat) : Int)) x) q = _
              rw [show ((p'.1, p'.2 + ((0 : Nat) : Int)) : T.Pl) = p' from Prod.ext rfl (by show p'.2 + ((0 : Nat) : Int) = p'.2; omega), k1.pl.ris.get_put]
              by_cases eq : q = p'
              · subst eq
                rw [if_pos rfl, gone_some HGp.out, if_neg (by simp [Lit.sameKey, L2.pk])]
              · rw [if_neg eq, k2]
                cases eg : g q with
                | none => rw [gone_none eg, gone_none eg]
                | some z =>
                  have hqi : Pi q := by
                    rw [HG.out] at eg
                    obtain ⟨t, ht, _, h2, _⟩ := last_is eg
                    rw [← h2]; exact HPi.out t ht
                  rw [gone_some eg, gone_some eg]
                  have : (L2.pk q.1 q.2).sameKey (L2.pk p'.1 p'.2) = false := Maps.sameKey_ne (pk_ne hqi HPp.out eq)
                  simp [this]
            · rcases h5 j e with e | e
              · exact k3 j e
              · exact .inr (by omega)
            · refine HT5.out.trans (G := fun j => plB P C FM FD j ∨ w3.heap.size < j) ((Turned.of_below HBW.out _).trans (t5.trans (Turned.of_below hb2 (fun _ => False)) (fun _ e => e.elim)) (fun j e => .inl (k3 j e))) (fun j e => ?_)
              rcases e with e | e
              · exact .inl e
              · exact .inr (by omega)
          clear hb2 hW2 k4 t5 h5 hbkV hpt k1W hbkW hb hW k1 k2 k3 hltB
          go_wp2
          go_roundw
          case rel => exact ⟨_, cnt1, HFin.out⟩
          case measure =>
            have h1 := HFin.out.r.left_eq
            rw [h1, HLe.out]
            exact HLt.out
end Go.Proofs.YtdpdoclhdjhjkaaGreat
