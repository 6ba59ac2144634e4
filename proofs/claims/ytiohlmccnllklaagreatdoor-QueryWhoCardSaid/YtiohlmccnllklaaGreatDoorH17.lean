/-
  Layer 12: what touches make, kept on the way: walk. (written by gen_news.py) Layer 12: what a flow is, what a call makes of it; no walk.
-/
import Derived.Test.YtiohlmccnllklaaGreatDoorH16
import Derived.Test.YtiohlmccnllklaaGreatDoorH09
import Derived.Test.YtiohlmccnllklaaGreatDoorH08
import Derived.Test.YtiohlmccnllklaaGreatDoorH05
set_option linter.unusedVariables false
set_option linter.unusedSimpArgs false
namespace Go.Proofs.YtiohlmccnllklaaGreatDoor
open Go.RowKit
set_option maxHeartbeats 8000000
set_option maxRecDepth 100000
set_option linter.unusedVariables false
set_option linter.unusedSimpArgs false

/-! ### what is read holds two integers in a row: no block of a table does -/
def Rp (w : World) (k : Nat) : Prop := ∃ o a b, w.cell? ⟨k, o, none⟩ = some (.int .i64 a) ∧ w.cell? ⟨k, o + 1, none⟩ = some (.int .i64 b)
theorem rd_rp {w : World} {v : Value} {n sz : Nat} {a b : Int} {r : List Value} (h : Rd (sz + 2) w v n (.int .i64 a :: .int .i64 b :: r)) {k : Nat} (hk : rdBlk v = some k) : Rp w k := by
  obtain ⟨h0, ao, c, rfl, h2, h3, h4⟩ := h
  cases ao with
  | none => simp [rdBlk] at hk
  | some x =>
    simp only [rdBlk] at hk
    split at hk
    · cases hk
    · rename_i hn
      obtain ⟨g, o, e, h6⟩ := h4 (by omega)
      simp at hk e
      subst e
      subst hk
      exact ⟨o, a, b, h6 0 _ rfl, h6 1 _ rfl⟩
theorem rdBlk_pos {v : Value} {n : Nat} {ao : Option Addr} {c k : Nat} (e : v = .slice ao n c) (hk : rdBlk v = some k) : 0 < n := by
  subst e
  cases ao with
  | none => simp [rdBlk] at hk
  | some x =>
    simp only [rdBlk] at hk
    split at hk
    · cases hk
    · omega
theorem pls_stay {w w' : World} {v : Value} {l : List T.Pl} (h : PlsIn w v l) (hk : ∀ k, Rp w k → w'.heap[k]? = w.heap[k]?) : PlsIn w' v l := by
  refine ⟨h.1.stay fun k hb => hk k ?_, h.2⟩
  obtain ⟨ao, c, e, _⟩ := h.shape
  have hp := rdBlk_pos e hb
  cases l with
  | nil => simp at hp
  | cons p r => exact rd_rp (sz := 0) (a := p.1) (b := p.2) (r := r.flatMap plc) h.1 hb
theorem tcc_stay {w w' : World} (hk : ∀ k, Rp w k → w'.heap[k]? = w.heap[k]?) : ∀ (l : List T.Tc) (cs : List Value), TcC w l cs → TcC w' l cs
  | [], _, h => h
  | _ :: r, _, ⟨v, cs', e, hp, hr⟩ => ⟨v, cs', e, pls_stay hp hk, tcc_stay hk r cs' hr⟩
theorem ts_stay {w w' : World} {v : Value} {l : List T.Tc} (h : TsIn w v l) (hk : ∀ k, Rp w k → w'.heap[k]? = w.heap[k]?) : TsIn w' v l := by
  obtain ⟨ao, c, e, _⟩ := h.shape
  obtain ⟨cs, h1, h2, h3⟩ := h
  refine ⟨cs, h1.stay fun k hb => hk k ?_, tcc_stay hk l cs h2, h3⟩
  have hp := rdBlk_pos e hb
  cases l with
  | nil => simp at hp
  | cons t r =>
    obtain ⟨fv, cs', rfl, _⟩ := h2
    exact rd_rp (sz := 1) h1 hb
/-! ### keeping, touch by touch -/
theorem keeps_app (mo : Int) (l : List T.Pr) : ∀ (r1 r2 : List T.Tc) (ss : List Int), T.keeps mo l ss (r1 ++ r2) = if (T.keeps mo l ss r1).2 = 0 then T.keeps mo l (T.keeps mo l ss r1).1 r2 else T.keeps mo l ss r1
  | [], r2, ss => by simp [T.keeps]
  | t :: r, r2, ss => by
    by_cases e : t.1 = T.none0
    · simp only [List.cons_append, T.keeps, if_pos e]; exact keeps_app mo l r r2 ss
    · by_cases e2 : (T.keep mo ss (T.tog l 0 t.2)).2 = 0
      · simp only [List.cons_append, T.keeps, if_neg e, if_pos e2]; exact keeps_app mo l r r2 _
      · simp only [List.cons_append, T.keeps, if_neg e, if_neg e2]
theorem keeps_one (mo : Int) (l : List T.Pr) (ss : List Int) (t : T.Tc) : T.keeps mo l ss [t] = if t.1 = T.none0 then (ss, 0) else T.keep mo ss (T.tog l 0 t.2) := by
  by_cases e : t.1 = T.none0
  · simp [T.keeps, e]
  · by_cases e2 : (T.keep mo ss (T.tog l 0 t.2)).2 = 0
    · simp only [T.keeps, if_neg e, if_pos e2]
      exact Prod.ext rfl e2.symm
    · simp only [T.keeps, if_neg e, if_neg e2]
theorem keeps_snoc {mo : Int} {l : List T.Pr} {ss : List Int} {ts : List T.Tc} {k : Nat} {t : T.Tc} (h : ts[k]? = some t) (h0 : (T.keeps mo l ss (ts.take k)).2 = 0) : T.keeps mo l ss (ts.take (k + 1)) = if t.1 = T.none0 then T.keeps mo l ss (ts.take k) else T.keep mo (T.keeps mo l ss (ts.take k)).1 (T.tog l 0 t.2) := by
  rw [List.take_add_one, h]
  simp only [Option.toList_some]
  rw [keeps_app, if_pos h0, keeps_one]
  by_cases e : t.1 = T.none0
  · rw [if_pos e, if_pos e]; exact Prod.ext rfl h0.symm
  · rw [if_neg e, if_neg e]
theorem keeps_stop {mo : Int} {l : List T.Pr} {ss : List Int} {ts : List T.Tc} {k : Nat} (h : (T.keeps mo l ss (ts.take k)).2 ≠ 0) : T.keeps mo l ss ts = T.keeps mo l ss (ts.take k) := by
  conv => lhs; rw [← List.take_append_drop k ts]
  rw [keeps_app, if_neg h]
theorem last_app (l : List T.Pr) (q : T.Pl) : ∀ (r1 r2 : List T.Tc) (o : Option Int), T.last l q o (r1 ++ r2) = T.last l q (T.last l q o r1) r2
  | [], _, _ => rfl
  | _ :: r, r2, o => last_app l q r r2 _
theorem last_snoc {l : List T.Pr} {ts : List T.Tc} {k : Nat} {t : T.Tc} (h : ts[k]? = some t) (q : T.Pl) : T.last l q none (ts.take (k + 1)) = if t.1 ≠ T.none0 ∧ t.1 = q then some (T.tog l 0 t.2) else T.last l q none (ts.take k) := by
  rw [List.take_add_one, h]
  simp only [Option.toList_some]
  rw [last_app]; rfl

/-- A round of news. -/
structure NwI (w : World) (S Tb P : Nat) (f : T.Fl) (m : Nat) (FT : List Nat) (M D : Nat) (C : Nat → Nat) (FM FD : Nat → Prop) (ts : List T.Tc) (k : Nat) (W : World) : Prop where
  ok : (T.keeps f.mo f.ps f.ss (ts.take k)).2 = 0
  fl : ∃ FT', FlIs W S Tb P { f with ss := (T.keeps f.mo f.ps f.ss (ts.take k)).1 } m FT' M D C FM FD ∧ (∀ j ∈ FT', j ∈ FT ∨ w.heap.size ≤ j) ∧ w.heap.size ∉ FT'
  t : Turned (fun j => j ∈ FT) w W
  mp : ∃ Dm, W.ownsMap Tryz.prog 42 (plainElem Tryz.prog 23) w.heap.size k Dm ∧ NewD (fun q => T.last f.ps q none (ts.take k)) Dm
theorem NwI.after {w : World} {S Tb P : Nat} {f : T.Fl} {m : Nat} {FT : List Nat} {M D : Nat} {C : Nat → Nat} {FM FD : Nat → Prop} {ts : List T.Tc} {k : Nat} {W W' : World} (h : NwI w S Tb P f m FT M D C FM FD ts k W) (hb : Below W.heap.size W W') : NwI w S Tb P f m FT M D C FM FD ts k W' := by
  obtain ⟨FT', h1, h2, h3⟩ := h.fl
  obtain ⟨Dm, h4, h5⟩ := h.mp
  exact ⟨h.ok, ⟨FT', h1.below hb, h2, h3⟩, h.t.trans (Turned.of_below hb (fun _ => False)) (fun _ e => e.elim), Dm, own_keep h4 (hb.block _ h4.lt), h5⟩
/-- A touch that decides changes nothing. -/
theorem NwI.skip {w : World} {S Tb P : Nat} {f : T.Fl} {m : Nat} {FT : List Nat} {M D : Nat} {C : Nat → Nat} {FM FD : Nat → Prop} {ts : List T.Tc} {k : Nat} {W : World} (h : NwI w S Tb P f m FT M D C FM FD ts k W) {t : T.Tc} (ht : ts[k]? = some t) (h0 : t.1 = T.none0) : NwI w S Tb P f m FT M D C FM FD ts (k + 1) W := by
  have e := keeps_snoc (mo := f.mo) (l := f.ps) (ss := f.ss) ht h.ok
  rw [if_pos h0] at e
  obtain ⟨Dm, h4, h5⟩ := h.mp
  exact ⟨by rw [e]; exact h.ok, by rw [e]; exact h.fl, h.t, Dm, h4.mono (by omega), h5.congr fun q => by rw [last_snoc ht, if_neg (by simp [h0])]⟩
/-- A set is kept. -/
theorem FlIs.kept {W W3 : World} {S Tb P : Nat} {f : T.Fl} {m : Nat} {FT' : List Nat} {M D : Nat} {C : Nat → Nat} {FM FD : Nat → Prop} {ss' : List Int} (h : FlIs W S Tb P f m FT' M D C FM FD) (ht : L2.TabTo W W3 Tb f.mo ss' m FT') :
    ∃ FT'', FlIs W3 S Tb P { f with ss := ss' } m FT'' M D C FM FD ∧ Turned (fun j => j ∈ FT') W W3 ∧ ∀ j ∈ FT'', j ∈ FT' ∨ W.heap.size ≤ j := by
  obtain ⟨FT'', h1, h2, h3⟩ := ht
  have tt := Turned.of2 h2
  refine ⟨FT'', ⟨h.blk.turned tt h.sT, h1, h.pl.keep fun j hj => tt.block j (h.pl.lt j hj) (fun e => h.tP j e hj), fun e => ?_, h.sP, fun k hk e => ?_⟩, tt, h3⟩
  · rcases h3 S e with e | e
    · exact h.sT e
    · have := h.blk.lt; omega
  · rcases h3 k hk with e2 | e2
    · exact h.tP k e2 e
    · have := h.pl.lt k e; omega
/-- What news leaves. -/
def NwO (w : World) (S Tb P : Nat) (f : T.Fl) (m : Nat) (FT : List Nat) (M D : Nat) (C : Nat → Nat) (FM FD : Nat → Prop) (ts : List T.Tc) (e : Ending) (w' : World) : Prop :=
  (∃ FT', FlIs w' S Tb P { f with ss := (T.keeps f.mo f.ps f.ss ts).1 } m FT' M D C FM FD ∧ (∀ j ∈ FT', j ∈ FT ∨ w.heap.size ≤ j) ∧ w.heap.size ∉ FT') ∧ Turned (fun j => j ∈ FT) w w' ∧
    (((T.keeps f.mo f.ps f.ss ts).2 ≠ 0 ∧ e = .returned (.tuple #[.map none, .int .i64 (T.keeps f.mo f.ps f.ss ts).2])) ∨
      ((T.keeps f.mo f.ps f.ss ts).2 = 0 ∧ e = .returned (.tuple #[.map (some w.heap.size), .int .i64 0]) ∧ ∃ Dm, w'.ownsMap Tryz.prog 42 (plainElem Tryz.prog 23) w.heap.size ts.length Dm ∧ NewD (fun q => T.last f.ps q none ts) Dm))
theorem NwI.keep {w : World} {S Tb P : Nat} {f : T.Fl} {m : Nat} {FT : List Nat} {M D : Nat} {C : Nat → Nat} {FM FD : Nat → Prop} {ts : List T.Tc} {k : Nat} {W W3 : World} {ss' : List Int} {FT' : List Nat} (hf : FlIs W S Tb P { f with ss := (T.keeps f.mo f.ps f.ss (ts.take k)).1 } m FT' M D C FM FD) (hj : ∀ j ∈ FT', j ∈ FT ∨ w.heap.size ≤ j) (hn : w.heap.size ∉ FT') (hw : w.heap.size < W.heap.size)
    (ht : L2.TabTo W W3 Tb f.mo ss' m FT') : (∃ FT'', FlIs W3 S Tb P { f with ss := ss' } m FT'' M D C FM FD ∧ (∀ j ∈ FT'', j ∈ FT ∨ w.heap.size ≤ j) ∧ w.heap.size ∉ FT'') ∧ Turned (fun j => j ∈ FT') W W3 := by
  obtain ⟨FT'', h1, h2, h3⟩ := hf.kept ht
  refine ⟨⟨FT'', h1, fun j hj' => ?_, fun e => ?_⟩, h2⟩
  · rcases h3 j hj' with e | e
    · exact hj j e
    · exact .inr (by omega)
  · rcases h3 _ e with e | e
    · exact hn e
    · omega
end Go.Proofs.YtiohlmccnllklaaGreatDoor
namespace Go.Proofs.YtiohlmccnllklaaGreatDoor
open Go.RowKit
set_option linter.unusedVariables false

/-- What a flow may be. -/
structure FOk (f : T.Fl) : Prop where
  bd : Bd f.fr f.se
  sets : L2.Sets f.mo f.ss
  ris : T.Ris f.ps
  small : T.Small f.ps
  may : ∀ x ∈ f.ps, T.may f.fr f.se x.1 = true
/-- A FLOW LIES AT BLOCK S; F: the blocks that are its own. -/
def At (w : World) (S : Nat) (f : T.Fl) (F : Nat → Prop) : Prop := ∃ Tb P m FT M D C FM FD, F = flB S P FT C FM FD ∧ FlIs w S Tb P f m FT M D C FM FD
section
variable {w w' : World} {S : Nat} {f : T.Fl} {F G : Nat → Prop}
theorem At.lt (h : At w S f F) {k : Nat} (hk : F k) : k < w.heap.size := by
  obtain ⟨Tb, P, m, FT, M, D, C, FM, FD, rfl, h⟩ := h
  exact h.lt k hk
theorem At.ok (h : At w S f F) : FOk f := by
  obtain ⟨Tb, P, m, FT, M, D, C, FM, FD, rfl, h⟩ := h
  exact ⟨h.pl.bd, h.tab.sets, h.pl.ris, h.pl.small, h.pl.may⟩
theorem At.keep (h : At w S f F) (hk : ∀ k, F k → w'.heap[k]? = w.heap[k]?) : At w' S f F := by
  obtain ⟨Tb, P, m, FT, M, D, C, FM, FD, rfl, h⟩ := h
  exact ⟨Tb, P, m, FT, M, D, C, FM, FD, rfl, h.keep hk⟩
theorem At.turned (h : At w S f F) (ht : Turned G w w') (hn : ∀ k, F k → ¬ G k) : At w' S f F := h.keep fun k hk => ht.block k (h.lt hk) (hn k hk)
end
theorem At.below {w w' : World} {S : Nat} {f : T.Fl} {F : Nat → Prop} (h : At w S f F) (hb : Below w.heap.size w w') : At w' S f F :=
  h.turned (Turned.of_below hb (fun _ => False)) (fun _ _ h => h)
/-- A flow that stands so behind a call; only its own blocks have turned. -/
def Chg (w : World) (S : Nat) (f : T.Fl) (F : Nat → Prop) (w' : World) : Prop := ∃ F', At w' S f F' ∧ (∀ k, F' k → F k ∨ w.heap.size ≤ k) ∧ Turned F w w'
theorem Chg.same {w w' : World} {S : Nat} {f : T.Fl} {F : Nat → Prop} (h : At w S f F) (hb : Below w.heap.size w w') : Chg w S f F w' := ⟨F, h.below hb, fun _ hk => .inl hk, Turned.of_below hb F⟩
section
variable {W V : World} {S Tb P : Nat} {f : T.Fl} {m : Nat} {FT : List Nat} {M D : Nat} {C : Nat → Nat} {FM FD : Nat → Prop}
/-- Places are put. -/
theorem FlIs.put (h : FlIs W S Tb P f m FT M D C FM FD) {ps' : List T.Pr} (hp : PlaTo W P f.fr f.se ps' (plB P C FM FD) V) :
    ∃ M' D' C' FM' FD', FlIs V S Tb P { f with ps := ps' } m FT M' D' C' FM' FD' ∧ Turned (plB P C FM FD) W V ∧ ∀ j, plB P C' FM' FD' j → plB P C FM FD j ∨ W.heap.size ≤ j := by
  obtain ⟨F', ⟨M', D', C', FM', FD', rfl, h1⟩, h2, h3⟩ := hp
  refine ⟨M', D', C', FM', FD', ⟨h.blk.turned h2 h.sP, tab_keep h.tab fun k hk => h2.block k (h.tab.lt k hk) (h.tP k hk), h1, h.sT, fun e => ?_, fun k hk e => ?_⟩, h2, h3⟩
  · rcases h3 _ e with e | e
    · exact h.sP e
    · have := h.blk.lt; omega
  · rcases h3 _ e with e | e
    · exact h.tP k hk e
    · have := h.tab.lt k hk; omega
end
/-- What has become of a flow, from the parts. -/
theorem Chg.of {w V : World} {S Tb P : Nat} {f' : T.Fl} {m' : Nat} {FT FT' : List Nat} {M' D' : Nat} {C C' : Nat → Nat} {FM FD FM' FD' : Nat → Prop} (h : FlIs V S Tb P f' m' FT' M' D' C' FM' FD') (ht : Turned (flB S P FT C FM FD) w V) (h1 : ∀ j ∈ FT', j ∈ FT ∨ w.heap.size ≤ j) (h2 : ∀ j, plB P C' FM' FD' j → plB P C FM FD j ∨ w.heap.size ≤ j) : Chg w S f' (flB S P FT C FM FD) V := by
  refine ⟨_, ⟨Tb, P, m', FT', M', D', C', FM', FD', rfl, h⟩, ?_, ht⟩
  rintro k (rfl | e | e)
  · exact .inl (.inl rfl)
  · rcases h1 k e with e | e
    · exact .inl (.inr (.inl e))
    · exact .inr e
  · rcases h2 k e with e | e
    · exact .inl (.inr (.inr e))
    · exact .inr e
end Go.Proofs.YtiohlmccnllklaaGreatDoor
