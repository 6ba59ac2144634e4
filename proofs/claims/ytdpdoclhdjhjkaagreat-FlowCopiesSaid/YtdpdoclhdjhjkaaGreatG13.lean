/-
  Layer 12: what touches make, kept on the way: walk. (written by gen_news.py) Layer 12: what a flow is, what a call makes of it; no walk.
-/
import Derived.Test.YtdpdoclhdjhjkaaGreatG12
import Derived.Test.YtdpdoclhdjhjkaaGreatG06
import Derived.Test.YtdpdoclhdjhjkaaGreatG05
set_option linter.unusedVariables false
set_option linter.unusedSimpArgs false
namespace Go.Proofs.YtdpdoclhdjhjkaaGreat
open Go.RowKit
set_option maxHeartbeats 8000000
set_option maxRecDepth 100000
set_option linter.unusedVariables false
set_option linter.unusedSimpArgs false

/-! ### what is read holds two integers in a row: no block of a table does -/
def Rp (w : World) (k : Nat) : Prop := ∃ o a b, w.cell? ⟨k, o, none⟩ = some (.int .i64 a) ∧ w.cell? ⟨k, o + 1, none⟩ = some (.int .i64 b)
theorem rd_rp {w : World} {v : Value} {n sz : Nat} {a b : Int} {r : List Value} (h : Rd (sz + 2) w v n (.int .i64 a :: .int .i64 b :: r)) {k : Nat} (hk : rdBlk v = some k) : Rp w k := by
  obtain ⟨h0, ao, c, rfl, h2, h3, h4⟩ := h
  cases ao with
  | none => simp [rdBlk] at hk
  | some x =>
    simp only [rdBlk] at hk
    split at hk
    · cases hk
    · rename_i hn
      obtain ⟨g, o, e, h6⟩ := h4 (by omega)
      simp at hk e
      subst e
      subst hk
      exact ⟨o, a, b, h6 0 _ rfl, h6 1 _ rfl⟩
theorem rdBlk_pos {v : Value} {n : Nat} {ao : Option Addr} {c k : Nat} (e : v = .slice ao n c) (hk : rdBlk v = some k) : 0 < n := by
  subst e
  cases ao with
  | none => simp [rdBlk] at hk
  | some x =>
    simp only [rdBlk] at hk
    split at hk
    · cases hk
    · omega
theorem pls_stay {w w' : World} {v : Value} {l : List T.Pl} (h : PlsIn w v l) (hk : ∀ k, Rp w k → w'.heap[k]? = w.heap[k]?) : PlsIn w' v l := by
  refine ⟨h.1.stay fun k hb => hk k ?_, h.2⟩
  obtain ⟨ao, c, e, _⟩ := h.shape
  have hp := rdBlk_pos e hb
  cases l with
  | nil => simp at hp
  | cons p r => exact rd_rp (sz := 0) (a := p.1) (b := p.2) (r := r.flatMap plc) h.1 hb
theorem tcc_stay {w w' : World} (hk : ∀ k, Rp w k → w'.heap[k]? = w.heap[k]?) : ∀ (l : List T.Tc) (cs : List Value), TcC w l cs → TcC w' l cs
  | [], _, h => h
  | _ :: r, _, ⟨v, cs', e, hp, hr⟩ => ⟨v, cs', e, pls_stay hp hk, tcc_stay hk r cs' hr⟩
theorem ts_stay {w w' : World} {v : Value} {l : List T.Tc} (h : TsIn w v l) (hk : ∀ k, Rp w k → w'.heap[k]? = w.heap[k]?) : TsIn w' v l := by
  obtain ⟨ao, c, e, _⟩ := h.shape
  obtain ⟨cs, h1, h2, h3⟩ := h
  refine ⟨cs, h1.stay fun k hb => hk k ?_, tcc_stay hk l cs h2, h3⟩
  have hp := rdBlk_pos e hb
  cases l with
  | nil => simp at hp
  | cons t r =>
    obtain ⟨fv, cs', rfl, _⟩ := h2
    exact rd_rp (sz := 1) h1 hb
/-! ### keeping, touch by touch -/
theorem keeps_app (mo : Int) (l : List T.Pr) : ∀ (r1 r2 : List T.Tc) (ss : List Int), T.keeps mo l ss (r1 ++ r2) = if (T.keeps mo l ss r1).2 = 0 then T.keeps mo l (T.keeps mo l ss r1).1 r2 else T.keeps mo l ss r1
  | [], r2, ss => by simp [T.keeps]
  | t :: r, r2, ss => by
    by_cases e : t.1 = T.none0
    · simp only [List.cons_append, T.keeps, if_pos e]; exact keeps_app mo l r r2 ss
    · by_cases e2 : (T.keep mo ss (T.tog l 0 t.2)).2 = 0
      · simp only [List.cons_append, T.keeps, if_neg e, if_pos e2]; exact keeps_app mo l r r2 _
      · simp only [List.cons_append, T.keeps, if_neg e, if_neg e2]
theorem keeps_one (mo : Int) (l : List T.Pr) (ss : List Int) (t : T.Tc) : T.keeps mo l ss [t] = if t.1 = T.none0 then (ss, 0) else T.keep mo ss (T.tog l 0 t.2) := by
  by_cases e : t.1 = T.none0
  · simp [T.keeps, e]
  · by_cases e2 : (T.keep mo ss (T.tog l 0 t.2)).2 = 0
    · simp only [T.keeps, if_neg e, if_pos e2]
      exact Prod.ext rfl e2.symm
    · simp only [T.keeps, if_neg e, if_neg e2]
theorem keeps_snoc {mo : Int} {l : List T.Pr} {ss : List Int} {ts : List T.Tc} {k : Nat} {t : T.Tc} (h : ts[k]? = some t) (h0 : (T.keeps mo l ss (ts.take k)).2 = 0) : T.keeps mo l ss (ts.take (k + 1)) = if t.1 = T.none0 then T.keeps mo l ss (ts.take k) else T.keep mo (T.keeps mo l ss (ts.take k)).1 (T.tog l 0 t.2) := by
  rw [List.take_add_one, h]
  simp only [Option.toList_some]
  rw [keeps_app, if_pos h0, keeps_one]
  by_cases e : t.1 = T.none0
  · rw [if_pos e, if_pos e]; exact Prod.ext rfl h0.symm
  · rw [if_neg e, if_neg e]
theorem keeps_stop {mo : Int} {l : List T.Pr} {ss : List Int} {ts : List T.Tc} {k : Nat} (h : (T.keeps mo l ss (ts.take k)).2 ≠ 0) : T.keeps mo l ss ts = T.keeps mo l ss (ts.take k) := by
  conv => lhs; rw [← List.take_append_drop k ts]
  rw [keeps_app, if_neg h]
theorem last_app (l : List T.Pr) (q : T.Pl) : ∀ (r1 r2 : List T.Tc) (o : Option Int), T.last l q o (r1 ++ r2) = T.last l q (T.last l q o r1) r2
  | [], _, _ => rfl
  | _ :: r, r2, o => last_app l q r r2 _
theorem last_snoc {l : List T.Pr} {ts : List T.Tc} {k : Nat} {t : T.Tc} (h : ts[k]? = some t) (q : T.Pl) : T.last l q none (ts.take (k + 1)) = if t.1 ≠ T.none0 ∧ t.1 = q then some (T.tog l 0 t.2) else T.last l q none (ts.take k) := by
  rw [List.take_add_one, h]
  simp only [Option.toList_some]
  rw [last_app]; rfl

/-- A round of news. -/
structure NwI (w : World) (S Tb P : Nat) (f : T.Fl) (m : Nat) (FT : List Nat) (M D : Nat) (C : Nat → Nat) (FM FD : Nat → Prop) (ts : List T.Tc) (k : Nat) (W : World) : Prop where
  ok : (T.keeps f.mo f.ps f.ss (ts.take k)).2 = 0
  fl : ∃ FT', FlIs W S Tb P { f with ss := (T.keeps f.mo f.ps f.ss (ts.take k)).1 } m FT' M D C FM FD ∧ (∀ j ∈ FT', j ∈ FT ∨ w.heap.size ≤ j) ∧ w.heap.size ∉ FT'
  t : Turned (fun j => j ∈ FT) w W
  mp : ∃ Dm, W.ownsMap Tryz.prog 35 (plainElem Tryz.prog 31) w.heap.size k Dm ∧ NewD (fun q => T.last f.ps q none (ts.take k)) Dm
theorem NwI.after {w : World} {S Tb P : Nat} {f : T.Fl} {m : Nat} {FT : List Nat} {M D : Nat} {C : Nat → Nat} {FM FD : Nat → Prop} {ts : List T.Tc} {k : Nat} {W W' : World} (h : NwI w S Tb P f m FT M D C FM FD ts k W) (hb : Below W.heap.size W W') : NwI w S Tb P f m FT M D C FM FD ts k W' := by
  obtain ⟨FT', h1, h2, h3⟩ := h.fl
  obtain ⟨Dm, h4, h5⟩ := h.mp
  exact ⟨h.ok, ⟨FT', h1.below hb, h2, h3⟩, h.t.trans (Turned.of_below hb (fun _ => False)) (fun _ e => e.elim), Dm, own_keep h4 (hb.block _ h4.lt), h5⟩
/-- A touch that decides changes nothing. -/
theorem NwI.skip {w : World} {S Tb P : Nat} {f : T.Fl} {m : Nat} {FT : List Nat} {M D : Nat} {C : Nat → Nat} {FM FD : Nat → Prop} {ts : List T.Tc} {k : Nat} {W : World} (h : NwI w S Tb P f m FT M D C FM FD ts k W) {t : T.Tc} (ht : ts[k]? = some t) (h0 : t.1 = T.none0) : NwI w S Tb P f m FT M D C FM FD ts (k + 1) W := by
  have e := keeps_snoc (mo := f.mo) (l := f.ps) (ss := f.ss) ht h.ok
  rw [if_pos h0] at e
  obtain ⟨Dm, h4, h5⟩ := h.mp
  exact ⟨by rw [e]; exact h.ok, by rw [e]; exact h.fl, h.t, Dm, h4.mono (by omega), h5.congr fun q => by rw [last_snoc ht, if_neg (by simp [h0])]⟩
/-- A set is kept. -/
theorem FlIs.kept {W W3 : World} {S Tb P : Nat} {f : T.Fl} {m : Nat} {FT' : List Nat} {M D : Nat} {C : Nat → Nat} {FM FD : Nat → Prop} {ss' : List Int} (h : FlIs W S Tb P f m FT' M D C FM FD) (ht : L2.TabTo W W3 Tb f.mo ss' m FT') :
    ∃ FT'', FlIs W3 S Tb P { f with ss := ss' } m FT'' M D C FM FD ∧ Turned (fun j => j ∈ FT') W W3 ∧ ∀ j ∈ FT'', j ∈ FT' ∨ W.heap.size ≤ j := by
  obtain ⟨FT'', h1, h2, h3⟩ := ht
  have tt := Turned.of2 h2
  refine ⟨FT'', ⟨h.blk.turned tt h.sT, h1, h.pl.keep fun j hj => tt.block j (h.pl.lt j hj) (fun e => h.tP j e hj), fun e => ?_, h.sP, fun k hk e => ?_⟩, tt, h3⟩
  · rcases h3 S e with e | e
    · exact h.sT e
    · have := h.blk.lt; omega
  · rcases h3 k hk with e2 | e2
    · exact h.tP k e2 e
    · have := h.pl.lt k e; omega
/-- What news leaves. -/
def NwO (w : World) (S Tb P : Nat) (f : T.Fl) (m : Nat) (FT : List Nat) (M D : Nat) (C : Nat → Nat) (FM FD : Nat → Prop) (ts : List T.Tc) (e : Ending) (w' : World) : Prop :=
  (∃ FT', FlIs w' S Tb P { f with ss := (T.keeps f.mo f.ps f.ss ts).1 } m FT' M D C FM FD ∧ (∀ j ∈ FT', j ∈ FT ∨ w.heap.size ≤ j) ∧ w.heap.size ∉ FT') ∧ Turned (fun j => j ∈ FT) w w' ∧
    (((T.keeps f.mo f.ps f.ss ts).2 ≠ 0 ∧ e = .returned (.tuple #[.map none, .int .i64 (T.keeps f.mo f.ps f.ss ts).2])) ∨
      ((T.keeps f.mo f.ps f.ss ts).2 = 0 ∧ e = .returned (.tuple #[.map (some w.heap.size), .int .i64 0]) ∧ ∃ Dm, w'.ownsMap Tryz.prog 35 (plainElem Tryz.prog 31) w.heap.size ts.length Dm ∧ NewD (fun q => T.last f.ps q none ts) Dm))
theorem NwI.keep {w : World} {S Tb P : Nat} {f : T.Fl} {m : Nat} {FT : List Nat} {M D : Nat} {C : Nat → Nat} {FM FD : Nat → Prop} {ts : List T.Tc} {k : Nat} {W W3 : World} {ss' : List Int} {FT' : List Nat} (hf : FlIs W S Tb P { f with ss := (T.keeps f.mo f.ps f.ss (ts.take k)).1 } m FT' M D C FM FD) (hj : ∀ j ∈ FT', j ∈ FT ∨ w.heap.size ≤ j) (hn : w.heap.size ∉ FT') (hw : w.heap.size < W.heap.size)
    (ht : L2.TabTo W W3 Tb f.mo ss' m FT') : (∃ FT'', FlIs W3 S Tb P { f with ss := ss' } m FT'' M D C FM FD ∧ (∀ j ∈ FT'', j ∈ FT ∨ w.heap.size ≤ j) ∧ w.heap.size ∉ FT'') ∧ Turned (fun j => j ∈ FT') W W3 := by
  obtain ⟨FT'', h1, h2, h3⟩ := hf.kept ht
  refine ⟨⟨FT'', h1, fun j hj' => ?_, fun e => ?_⟩, h2⟩
  · rcases h3 j hj' with e | e
    · exact hj j e
    · exact .inr (by omega)
  · rcases h3 _ e with e | e
    · exact hn e
    · omega
theorem news_any {w : World} {S Tb P : Nat} {f : T.Fl} {m : Nat} {FT : List Nat} {M D : Nat} {C : Nat → Nat} {FM FD : Nat → Prop} (h : FlIs w S Tb P f m FT M D C FM FD) {v : Value} {ts : List T.Tc} (hv : ∀ W, Turned (fun j => j ∈ FT) w W → TsIn W v ts) (hm : T.mayAll f.fr f.se ts = true) (hl : ts.length ≤ 1000000) :
    Calls Tryz.prog 43 #[.pointer (some ⟨S, 0, none⟩), v] w fun e w' => NwO w S Tb P f m FT M D C FM FD ts e w' := by
  have hmm := @run_makeMap Tryz.prog
  have HA := Lib.hid hv
  have HM := Lib.hid (List.all_eq_true.1 hm)
  have HSm := Lib.hid h.pl.small
  have hb0 := bel1 w (.map #[] 0)
  have H0 : Hid (NwI w S Tb P f m FT M D C FM FD ts 0 (w.alloc (.map #[] 0))) :=
    ⟨by rw [List.take_zero]; rfl, ⟨FT, by rw [List.take_zero]; exact h.below hb0, fun j hj => .inl hj, fun e => by have := h.tab.lt _ e; omega⟩, Turned.of_below hb0 _, _, World.ownsMap_made w Tryz.prog 35 (plainElem (H := Unit) Tryz.prog 31), by rw [List.take_zero]; exact newD_new⟩
  obtain ⟨oa, ca, rfl, _, hla⟩ := (hv w (Turned.refl _ _)).shape
  unfold maxLen at hla
  have HW0 : Hid (S < w.heap.size ∧ ∀ j, plB P C FM FD j → j < w.heap.size) := ⟨h.blk.lt, h.pl.lt⟩
  clear h hv hm hb0
  go_enter Tryz.func43, Tryz.ntmps43
  go_wp2
  go_loopw [15] (fun i wr => ∃ k : Nat, k ≤ ts.length ∧ i = .int .i64 (k : Int) ∧ Hid (NwI w S Tb P f m FT M D C FM FD ts k wr)) (fun i _ => ts.length + 1 - natI i)
  case atStart => exact ⟨0, by omega, rfl, H0.out⟩
  case round =>
    obtain ⟨k, hk, rfl, HI⟩ := hrel
    clear hmm
    by_cases hlt : k < ts.length
    · have hi : (k : Int) < (ts.length : Int) := by omega
      obtain ⟨g1, o1, c1, t, fv, e1, l1, hpi, hpl, r1⟩ := (HA.out _ HI.out.t).at_ hlt
      obtain ⟨q1, q2, q3⟩ := rng3 r1
      simp at e1
      obtain ⟨rfl, rfl⟩ := e1
      obtain ⟨of, cf, rfl, _, _⟩ := hpl.shape
      have hmt := HM.out t (List.mem_of_getElem? l1)
      unfold T.mayT at hmt
      have HMt := Lib.hid (show t.2.all (T.may f.fr f.se) = true by simp only [Bool.and_eq_true] at hmt; exact hmt.2)
      have HL := Lib.hid l1
      have HPi := Lib.hid hpi
      have hb1 := bel1 wr (.cells #[.int .i64 t.1.1, .int .i64 t.1.2, .slice of t.2.length cf] 90)
      have HI1 := Lib.hid (HI.out.after hb1)
      have hBk := blk_new wr #[.int .i64 t.1.1, .int .i64 t.1.2, .slice of t.2.length cf] 90
      obtain ⟨FT1, hF0, hj1, hn1⟩ := HI.out.fl
      have hF1 := hF0.below hb1
      have HF0 := Lib.hid (And.intro hF0 (And.intro hj1 (And.intro hn1 hF0.tab.lt)))
      have HBa := Lib.hid hb1
      have HS1 : Hid (TcS S Tb P wr.heap.size t (.slice of t.2.length cf) M D C f.fr f.se f.ps FM FD (wr.alloc (.cells #[.int .i64 t.1.1, .int .i64 t.1.2, .slice of t.2.length cf] 90))) := ⟨hF1.s0, hF1.s1, hBk.cell 0, hBk.cell 1, hBk.cell 2, hpl.below hb1, hF1.pl⟩
      have HB1 := Lib.hid hBk
      have hzb : wr.heap.size < (wr.alloc (.cells #[.int .i64 t.1.1, .int .i64 t.1.2, .slice of t.2.length cf] 90)).heap.size := by simp
      have HZ1 := Lib.hid hzb
      have HZw := Lib.hid HI.out.t.size
      clear l1 r1 hpl hpi hb1 hmt hBk hF0 hF1 hj1 hn1 hzb
      cases hd : decide (t.1 = T.none0) with
      | true =>
        have HD := Lib.hid (of_decide_eq_true hd)
        have HDc := Lib.hid (fun W => (decides_any t.1 (.slice of t.2.length cf) W))
        rw [hd] at HDc
        clear hd
        go_wp2_with (go_at_call 76; refine (HDc.out _).mono ?_; rintro e w2 ⟨rfl, hb⟩)
        exact ⟨⟨k + 1, by omega, by go_num, (HI1.out.after hb).skip HL.out HD.out⟩, by simp [natI]; omega⟩
      | false =>
        have HD := Lib.hid (of_decide_eq_false hd)
        have HDc := Lib.hid (fun W => (decides_any t.1 (.slice of t.2.length cf) W))
        rw [hd] at HDc
        clear hd
        go_wp2_with (go_at_call 76; refine (HDc.out _).mono ?_; rintro e w2 ⟨rfl, hb⟩)
        have HI2 := Lib.hid (HI1.out.after hb)
        have HB2 := Lib.hid (HB1.out.below hb)
        have HBb := Lib.hid (HBa.out.trans (hb.mono HBa.out.size))
        have HS3 : Hid (TcS S Tb P wr.heap.size t (.slice of t.2.length cf) M D C f.fr f.se f.ps FM FD w2.drew) := TcS.stb S Tb P wr.heap.size t (.slice of t.2.length cf) M D C f.fr f.se f.ps FM FD w2 w2.drew (TcS.stb S Tb P wr.heap.size t (.slice of t.2.length cf) M D C f.fr f.se f.ps FM FD _ w2 HS1.out hb) (Below.refl _ _).drew
        clear hb
        refine Free.any (TcS S Tb P wr.heap.size t (.slice of t.2.length cf) M D C f.fr f.se f.ps FM FD) (TcS.stb S Tb P wr.heap.size t (.slice of t.2.length cf) M D C f.fr f.se f.ps FM FD) HS3.out (fun st => ?_)
        refine Free.tk 0 (some 21) ?_
        refine Free.tk 1 (some 22) ?_ (hy := by intro W hW; have s0 := hW.s0; have s1 := hW.s1; have b0 := hW.b0; have b1 := hW.b1; have b2 := hW.b2; go_simp; try with_reducible rfl)
        refine Free.tk 2 (some 23) ?_
        refine Free.tk 3 (some 24) ?_ (hy := by intro W hW; have s0 := hW.s0; have s1 := hW.s1; have b0 := hW.b0; have b1 := hW.b1; have b2 := hW.b2; go_simp; try with_reducible rfl)
        refine Free.tk 4 (some 25) ?_
        refine Free.tk 5 (some 26) ?_ (hy := by intro W hW; have s0 := hW.s0; have s1 := hW.s1; have b0 := hW.b0; have b1 := hW.b1; have b2 := hW.b2; go_simp; try with_reducible rfl)
        refine Free.cl 6 (some 27) st (fun W hW => togp_any hW.pl hW.fv HMt.out) ?_ (hy := by intro W; go_simp; try rfl)
        refine Free.tk 7 (some 9) ?_
        refine Free.done (fun W hb hW => ?_)
        have HI3 := Lib.hid (HI2.out.after ((Below.refl _ _).drew.trans hb))
        have HB3 := Lib.hid (HB2.out.below ((Below.refl _ _).drew.trans hb))
        have HBc := Lib.hid (HBb.out.trans (((Below.refl _ _).drew.trans hb).mono HBb.out.size))
        have s0 := hW.s0
        have hF1 := HF0.out.1.below HBc.out
        have hts := HSm.out.tog (s := 0) (by omega) t.2
        have HK := Lib.hid (L2.Keep_any Tb f.mo _ m FT1 (T.tog f.ps 0 t.2) ⟨hts.1, by omega⟩ W hF1.tab)
        have HStep := Lib.hid (keeps_snoc (mo := f.mo) (l := f.ps) (ss := f.ss) HL.out HI3.out.ok)
        rw [if_neg HD.out] at HStep
        have HF1 := Lib.hid hF1
        have HTs := Lib.hid hts
        clear hW hb hF1 hts
        unfold T.keep at HStep
        have HLast := Lib.hid (last_snoc (l := f.ps) HL.out)
        generalize T.tog f.ps 0 t.2 = x at *
        obtain ⟨r, hr⟩ : ∃ r, r = L2.keepR f.mo (T.keeps f.mo f.ps f.ss (ts.take k)).1 x := ⟨_, rfl⟩
        rw [← hr] at HK HStep
        have HR := Lib.hid hr
        clear hr
        obtain ⟨ss', nn, er⟩ := r
        simp only at HK HStep
        have HZ : Hid (wr.heap.size ≤ W.heap.size) := HBc.out.size
        by_cases he : er = 0
        · subst he
          go_wp2_with fail
          refine HK.out.mono ?_
          rintro e w3 ⟨rfl, ht⟩
          obtain ⟨hfl3, tt⟩ := NwI.keep HF1.out HF0.out.2.1 HF0.out.2.2.1 (by have := HZ.out; have := HZw.out; have := HB3.out.lt; omega) ht
          have bk := HB3.out.turned tt (fun e => by have := HF0.out.2.2.2 _ e; omega)
          have b0 : w3.cell? ⟨wr.heap.size, 0, none⟩ = some (.int .i64 t.1.1) := bk.cell 0
          have b1 : w3.cell? ⟨wr.heap.size, 1, none⟩ = some (.int .i64 t.1.2) := bk.cell 1
          obtain ⟨Dm, hmp, hnd⟩ := HI3.out.mp
          have hown := own_keep hmp (tt.block _ hmp.lt HF0.out.2.2.1)
          have HFl3 := Lib.hid hfl3
          have HT3 := Lib.hid (HI3.out.t.trans tt HF0.out.2.1)
          have HND := Lib.hid (hnd.put hmp.isMap HPi.out x)
          have hW32 : W32 x := ⟨HTs.out.1, by have := HTs.out.2; omega⟩
          clear ht bk hfl3 tt hmp hnd
          go_wp2_with (at_mapUpdate; refine wpList_mapUpdate_in _ rfl _ _ _ 114 rfl 35 31 placeLaw Tryz.underlying114 _ w.heap.size k Dm rfl hown (by unfold maxLen; omega) _ _ _ rfl rfl (key_place HPi.out.1 HPi.out.2) _ [] (cR_mk hW32) ?_; intro w4 hown4 hturn4)
          have HT4 := turned_map hturn4
          refine ⟨⟨k + 1, by omega, by go_num, ?_⟩, by simp [natI]; omega⟩
          obtain ⟨FT2, hf2, hj2, hn2⟩ := HFl3.out
          have hlS : S < w.heap.size ∧ ∀ j, plB P C FM FD j → j < w.heap.size := HW0.out
          have hk4 := hf2.keep (w' := w4) fun j hj => HT4.block j (hf2.lt j hj) (fun e => by
            subst e
            rcases hj with e | e | e
            · have := hlS.1; omega
            · exact hn2 e
            · have := hlS.2 _ e; omega)
          refine ⟨by rw [HStep.out], ⟨FT2, by rw [HStep.out]; exact hk4, hj2, hn2⟩, HT3.out.trans HT4 (fun j e => .inr (by omega)), ⟨_, hown4, ?_⟩⟩
          · refine HND.out.congr fun q => ?_
            rw [HLast.out]
            by_cases e : q = t.1
            · subst e; rw [if_pos ⟨HD.out, rfl⟩, if_pos rfl]
            · rw [if_neg (fun h => e h.2.symm), if_neg e]
        · go_wp2_with fail
          refine HK.out.mono ?_
          rintro e w3 ⟨rfl, ht⟩
          obtain ⟨hfl3, tt⟩ := NwI.keep HF1.out HF0.out.2.1 HF0.out.2.2.1 (by have := HZ.out; have := HZw.out; have := HB3.out.lt; omega) ht
          have HFl3 := Lib.hid hfl3
          have HT3 := Lib.hid (HI3.out.t.trans tt HF0.out.2.1)
          have HSt : Hid (T.keeps f.mo f.ps f.ss ts = (ss', er)) := by
            rw [keeps_stop (k := k + 1) (by rw [HStep.out]; exact he)]; exact HStep.out
          have HE := Lib.hid he
          clear ht hfl3 tt
          go_wp2
          go_ret2
          refine ⟨?_, HT3.out, .inl ?_⟩
          · rw [HSt.out]; exact HFl3.out
          · rw [HSt.out]; exact ⟨HE.out, rfl⟩
    · obtain rfl : k = ts.length := by omega
      have HI4 := HI.out
      have ht := Lib.hid (List.take_length (l := ts))
      have HO := Lib.hid HI4
      clear HI4
      go_wp2
      go_ret2
      have h := HO.out
      obtain ⟨h1, ⟨FT', h2, h3⟩, h4, Dm, h5, h6⟩ := h
      rw [ht.out] at h1 h2 h6
      exact ⟨⟨FT', h2, h3⟩, h4, .inr ⟨h1, rfl, Dm, h5, h6⟩⟩
end Go.Proofs.YtdpdoclhdjhjkaaGreat
namespace Go.Proofs.YtdpdoclhdjhjkaaGreat
open Go.RowKit
set_option linter.unusedVariables false

/-- What a flow may be. -/
structure FOk (f : T.Fl) : Prop where
  bd : Bd f.fr f.se
  sets : L2.Sets f.mo f.ss
  ris : T.Ris f.ps
  small : T.Small f.ps
  may : ∀ x ∈ f.ps, T.may f.fr f.se x.1 = true
/-- A FLOW LIES AT BLOCK S; F: the blocks that are its own. -/
def At (w : World) (S : Nat) (f : T.Fl) (F : Nat → Prop) : Prop := ∃ Tb P m FT M D C FM FD, F = flB S P FT C FM FD ∧ FlIs w S Tb P f m FT M D C FM FD
section
variable {w w' : World} {S : Nat} {f : T.Fl} {F G : Nat → Prop}
theorem At.lt (h : At w S f F) {k : Nat} (hk : F k) : k < w.heap.size := by
  obtain ⟨Tb, P, m, FT, M, D, C, FM, FD, rfl, h⟩ := h
  exact h.lt k hk
theorem At.ok (h : At w S f F) : FOk f := by
  obtain ⟨Tb, P, m, FT, M, D, C, FM, FD, rfl, h⟩ := h
  exact ⟨h.pl.bd, h.tab.sets, h.pl.ris, h.pl.small, h.pl.may⟩
theorem At.keep (h : At w S f F) (hk : ∀ k, F k → w'.heap[k]? = w.heap[k]?) : At w' S f F := by
  obtain ⟨Tb, P, m, FT, M, D, C, FM, FD, rfl, h⟩ := h
  exact ⟨Tb, P, m, FT, M, D, C, FM, FD, rfl, h.keep hk⟩
theorem At.turned (h : At w S f F) (ht : Turned G w w') (hn : ∀ k, F k → ¬ G k) : At w' S f F := h.keep fun k hk => ht.block k (h.lt hk) (hn k hk)
end
theorem At.below {w w' : World} {S : Nat} {f : T.Fl} {F : Nat → Prop} (h : At w S f F) (hb : Below w.heap.size w w') : At w' S f F :=
  h.turned (Turned.of_below hb (fun _ => False)) (fun _ _ h => h)
/-- A flow that stands so behind a call; only its own blocks have turned. -/
def Chg (w : World) (S : Nat) (f : T.Fl) (F : Nat → Prop) (w' : World) : Prop := ∃ F', At w' S f F' ∧ (∀ k, F' k → F k ∨ w.heap.size ≤ k) ∧ Turned F w w'
theorem Chg.same {w w' : World} {S : Nat} {f : T.Fl} {F : Nat → Prop} (h : At w S f F) (hb : Below w.heap.size w w') : Chg w S f F w' := ⟨F, h.below hb, fun _ hk => .inl hk, Turned.of_below hb F⟩
section
variable {W V : World} {S Tb P : Nat} {f : T.Fl} {m : Nat} {FT : List Nat} {M D : Nat} {C : Nat → Nat} {FM FD : Nat → Prop}
/-- Places are put. -/
theorem FlIs.put (h : FlIs W S Tb P f m FT M D C FM FD) {ps' : List T.Pr} (hp : PlaTo W P f.fr f.se ps' (plB P C FM FD) V) :
    ∃ M' D' C' FM' FD', FlIs V S Tb P { f with ps := ps' } m FT M' D' C' FM' FD' ∧ Turned (plB P C FM FD) W V ∧ ∀ j, plB P C' FM' FD' j → plB P C FM FD j ∨ W.heap.size ≤ j := by
  obtain ⟨F', ⟨M', D', C', FM', FD', rfl, h1⟩, h2, h3⟩ := hp
  refine ⟨M', D', C', FM', FD', ⟨h.blk.turned h2 h.sP, tab_keep h.tab fun k hk => h2.block k (h.tab.lt k hk) (h.tP k hk), h1, h.sT, fun e => ?_, fun k hk e => ?_⟩, h2, h3⟩
  · rcases h3 _ e with e | e
    · exact h.sP e
    · have := h.blk.lt; omega
  · rcases h3 _ e with e | e
    · exact h.tP k hk e
    · have := h.tab.lt k hk; omega
end
/-- What has become of a flow, from the parts. -/
theorem Chg.of {w V : World} {S Tb P : Nat} {f' : T.Fl} {m' : Nat} {FT FT' : List Nat} {M' D' : Nat} {C C' : Nat → Nat} {FM FD FM' FD' : Nat → Prop} (h : FlIs V S Tb P f' m' FT' M' D' C' FM' FD') (ht : Turned (flB S P FT C FM FD) w V) (h1 : ∀ j ∈ FT', j ∈ FT ∨ w.heap.size ≤ j) (h2 : ∀ j, plB P C' FM' FD' j → plB P C FM FD j ∨ w.heap.size ≤ j) : Chg w S f' (flB S P FT C FM FD) V := by
  refine ⟨_, ⟨Tb, P, m', FT', M', D', C', FM', FD', rfl, h⟩, ?_, ht⟩
  rintro k (rfl | e | e)
  · exact .inl (.inl rfl)
  · rcases h1 k e with e | e
    · exact .inl (.inr (.inl e))
    · exact .inr e
  · rcases h2 k e with e | e
    · exact .inl (.inr (.inr e))
    · exact .inr e
end Go.Proofs.YtdpdoclhdjhjkaaGreat
