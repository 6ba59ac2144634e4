/-
  Layer 12, pure: sets that go along a chain of places, one touch at a time, and at once. No program. Layer 12: FlowChain's third loop: what a round knows, what an apply and an append make of it. Layer 12: the statement FlowChain: a walk.
-/
import Derived.Test.YtpomnjahhdahnaaG13
import Derived.Test.YtpomnjahhdahnaaG20
import Derived.Test.YtpomnjahhdahnaaG18
set_option linter.unusedVariables false
set_option linter.unusedSimpArgs false
namespace Go.Proofs.Ytpomnjahhdahnaa
open Go.RowKit
set_option linter.unusedVariables false
set_option linter.unusedSimpArgs false
namespace T

/-- The sets that are kept: the empty one and s. -/
structure Two0 (s : Int) (ss : List Int) : Prop where
  k : L2.Sets 65536 ss
  e : ∀ x ∈ ss, x = 0 ∨ x = s
theorem Two0.len {s : Int} {ss : List Int} (h : Two0 s ss) : ss.length ≤ 2 := by
  have hn := h.k.apart
  have he := h.e
  match ss, hn, he with
  | [], _, _ => simp
  | [a], _, _ => simp
  | [a, b], _, _ => simp
  | a :: b :: c :: r, hn, he =>
    simp only [List.nodup_cons, List.mem_cons, not_or] at hn
    have h1 := he a (by simp)
    have h2 := he b (by simp)
    have h3 := he c (by simp)
    omega
theorem keep_two {s : Int} {ss : List Int} (h : Two0 s ss) (hs : 0 ≤ s ∧ s < 65536) {x : Int} (hx : x = 0 ∨ x = s) : (keep 65536 ss x).2 = 0 ∧ Two0 s (keep 65536 ss x).1 := by
  have hb : 0 ≤ x ∧ x < 65536 := by omega
  have hk : L2.Sets 65536 (keep 65536 ss x).1 := h.k.keep hb.1
  refine ⟨?_, hk, ?_⟩
  · unfold keep
    by_cases hm : x ∈ ss
    · rw [L2.keepR_old hb.2 hm]
    · rw [L2.keepR_new hb.2 hm (by have := h.len; omega)]
  · intro y hy
    unfold keep at hy
    by_cases hm : x ∈ ss
    · rw [L2.keepR_old hb.2 hm] at hy; exact h.e y hy
    · rw [L2.keepR_new hb.2 hm (by have := h.len; omega)] at hy
      simp only [List.mem_append, List.mem_singleton] at hy
      rcases hy with hy | rfl
      · exact h.e y hy
      · exact hx
theorem keeps_two {s : Int} {l : List Pr} (hs : 0 ≤ s ∧ s < 65536) : ∀ (ts : List Tc) {ss : List Int}, Two0 s ss → (∀ t ∈ ts, tog l 0 t.2 = 0 ∨ tog l 0 t.2 = s) → (keeps 65536 l ss ts).2 = 0 ∧ Two0 s (keeps 65536 l ss ts).1
  | [], ss, h, _ => ⟨rfl, h⟩
  | t :: r, ss, h, ht => by
    unfold keeps
    by_cases e : t.1 = none0
    · rw [if_pos e]; exact keeps_two hs r h (fun x hx => ht x (by simp [hx]))
    · rw [if_neg e]
      obtain ⟨h1, h2⟩ := keep_two h hs (ht t (by simp))
      simp only [h1, if_true]
      exact keeps_two hs r h2 (fun x hx => ht x (by simp [hx]))
theorem tog_one {l : List Pr} (h : Small l) (p : Pl) : tog l 0 [p] = get l p := by
  have := h.get p
  unfold tog tog orI L2.orI
  simp
  omega
theorem may_ne {fr se : Int} {p : Pl} (h : may fr se p = true) : p ≠ none0 := by
  rintro rfl
  have := may_iff.1 h
  have e : most fr se none0.1 = 0 := most_out (by unfold none0; omega) fr se
  rw [e] at this
  unfold none0 at this
  omega
/-- The first mark. -/
theorem mark_one {s : Int} (hs : 0 ≤ s ∧ s < 65536) {p : Pl} (hp : may 2 2 p = true) : ∃ ss ps, (Fl.mk 2 2 65536 [0] []).mark p 1 s = (⟨2, 2, 65536, ss, ps⟩, 0) ∧ Two0 s ss ∧ ∀ x, get ps x = if x = p then s else 0 := by
  obtain ⟨k1, k2⟩ := keep_two (s := s) (ss := [0]) ⟨L2.sets_new (by omega) (by omega), fun x hx => by simp at hx; exact .inl hx⟩ hs (.inr rfl)
  refine ⟨(keep 65536 [0] s).1, marks p s 1 [], ?_, k2, fun x => ?_⟩
  · unfold Fl.mark
    have e : ((p.1, p.2 + 1 - 1) : Pl) = p := Prod.ext rfl (by show p.2 + 1 - 1 = p.2; omega)
    rw [if_neg (by rintro (h | h); (rw [hp] at h; cases h); omega)]
    simp only [e, hp]
    rw [if_neg (by simp)]
    simp only [k1, if_true]
    rfl
  · rw [marks_get (l := []) trivial]
    obtain ⟨x1, x2⟩ := x
    obtain ⟨p1, p2⟩ := p
    by_cases h : x1 = p1 ∧ x2 = p2
    · obtain ⟨rfl, rfl⟩ := h
      rw [if_pos ⟨rfl, by omega, by omega⟩, if_pos rfl]
    · rw [if_neg (fun e => h ⟨e.1, by have := e.2.1; have := e.2.2; simp at *; omega⟩), if_neg (fun e => h (by cases e; exact ⟨rfl, rfl⟩))]
      rfl
/-- One touch of one place. -/
theorem apply_one {f : Fl} {s : Int} (hs : 0 ≤ s ∧ s < 65536) (hr : Ris f.ps) (hsm : Small f.ps) (hmo : f.mo = 65536) (h2 : Two0 s f.ss) {p q : Pl} (hp : may f.fr f.se p = true) (hq : may f.fr f.se q = true) (hg : get f.ps p = 0 ∨ get f.ps p = s) :
    ∃ ss ps, f.apply [(q, [p])] = (⟨f.fr, f.se, f.mo, ss, ps⟩, 0) ∧ Two0 s ss ∧ ∀ x, get ps x = if x = q then get f.ps p else get f.ps x := by
  have hne := may_ne hq
  have hm : mayAll f.fr f.se [(q, [p])] = true := by simp [mayAll, mayT, hp, hq]
  obtain ⟨k1, k2⟩ := keeps_two (l := f.ps) hs [(q, [p])] h2 (fun t ht => by simp at ht; subst ht; simp only [tog_one hsm]; exact hg)
  refine ⟨(keeps f.mo f.ps f.ss [(q, [p])]).1, lays f.ps f.ps [(q, [p])], ?_, by rw [hmo]; exact k2, fun x => ?_⟩
  · unfold Fl.apply
    rw [if_neg (by simp [hm])]
    simp only [hmo, k1, if_true]
  · simp only [lays, if_neg hne, tog_one hsm]
    rw [hr.get_put]
/-- The touches of a chain, so many of them. -/
def chI (l : List Pl) (j : Nat) : List Tc := (List.range j).map fun i => (l[i + 1]?.getD none0, [l[i]?.getD none0])
theorem chI_succ (l : List Pl) (j : Nat) : chI l (j + 1) = chI l j ++ [(l[j + 1]?.getD none0, [l[j]?.getD none0])] := by simp [chI, List.range_succ]
theorem last_app (l : List Pr) (q : Pl) : ∀ (a b : List Tc) (o : Option Int), last l q o (a ++ b) = last l q (last l q o a) b
  | [], b, o => rfl
  | t :: a, b, o => by simp only [List.cons_append, last]; exact last_app l q a b _
theorem chI_last {ps : List Pr} {l : List Pl} (hn : l.Nodup) (hm : ∀ p ∈ l, p ≠ none0) (hsm : Small ps) : ∀ j, j + 1 ≤ l.length → (∀ i, i < j → ∀ q, l[i + 1]? = some q → last ps q none (chI l j) = some (get ps (l[i]?.getD none0))) ∧ (∀ q, (∀ i, i < j → l[i + 1]? ≠ some q) → last ps q none (chI l j) = none)
  | 0, _ => ⟨fun i hi => absurd hi (by omega), fun q _ => rfl⟩
  | j + 1, hj => by
    obtain ⟨h1, h2⟩ := chI_last hn hm hsm j (by omega)
    have hlt : j + 1 < l.length := by omega
    have hg : l[j + 1]? = some l[j + 1] := List.getElem?_eq_getElem hlt
    have hne := hm l[j + 1] (List.getElem_mem hlt)
    refine ⟨fun i hi q hq => ?_, fun q hq => ?_⟩
    · rw [chI_succ, last_app]
      simp only [last, hg, Option.getD_some, tog_one hsm]
      by_cases e : i = j
      · subst e
        rw [hg] at hq
        cases hq
        rw [if_pos ⟨hne, rfl⟩]
      · have hil : i + 1 < l.length := by omega
        rw [List.getElem?_eq_getElem hil] at hq
        cases hq
        rw [if_neg (fun e2 => by have := (List.getElem_inj hn).1 e2.2; omega)]
        exact h1 i (by omega) _ (List.getElem?_eq_getElem hil)
    · rw [chI_succ, last_app]
      simp only [last, hg, Option.getD_some]
      rw [if_neg (fun e2 => hq j (by omega) (by rw [hg, e2.2]))]
      exact h2 q (fun i hi => hq i (by omega))
/-- All of them at once. -/
theorem apply_all {f : Fl} {s : Int} (hs : 0 ≤ s ∧ s < 65536) (hr : Ris f.ps) (hsm : Small f.ps) (hmo : f.mo = 65536) (h2 : Two0 s f.ss) {l : List Pl} (hn : l.Nodup) (hm : ∀ p ∈ l, may f.fr f.se p = true) (hl : 1 ≤ l.length)
    (hg : ∀ x, get f.ps x = if x = l[0]?.getD none0 then s else 0) :
    ∃ ss ps, f.apply (chI l (l.length - 1)) = (⟨f.fr, f.se, f.mo, ss, ps⟩, 0) ∧ ∀ i, i < l.length → get ps (l[i]?.getD none0) = if i < 2 then s else 0 := by
  have hgm : ∀ i, i < l.length → l[i]?.getD none0 = l[i]?.getD none0 ∧ may f.fr f.se (l[i]?.getD none0) = true := fun i hi => ⟨rfl, by rw [List.getElem?_eq_getElem hi]; exact hm _ (List.getElem_mem hi)⟩
  have hA : mayAll f.fr f.se (chI l (l.length - 1)) = true := by
    unfold mayAll chI
    rw [List.all_map, List.all_eq_true]
    intro i hi
    have := List.mem_range.1 hi
    simp [mayT, (hgm i (by omega)).2, (hgm (i + 1) (by omega)).2]
  have hT : ∀ t ∈ chI l (l.length - 1), tog f.ps 0 t.2 = 0 ∨ tog f.ps 0 t.2 = s := fun t ht => by
    unfold chI at ht
    obtain ⟨i, _, rfl⟩ := List.mem_map.1 ht
    rw [tog_one hsm, hg]
    split
    · exact .inr rfl
    · exact .inl rfl
  obtain ⟨k1, k2⟩ := keeps_two (l := f.ps) hs (chI l (l.length - 1)) h2 hT
  obtain ⟨c1, c2⟩ := chI_last (ps := f.ps) hn (fun p hp => may_ne (hm p hp)) hsm (l.length - 1) (by omega)
  refine ⟨(keeps f.mo f.ps f.ss (chI l (l.length - 1))).1, lays f.ps f.ps (chI l (l.length - 1)), ?_, fun i hi => ?_⟩
  · unfold Fl.apply
    rw [if_neg (by simp [hA])]
    simp only [hmo, k1, if_true]
  · rw [lays_get hr _ (l[i]?.getD none0) none (get f.ps (l[i]?.getD none0)) rfl]
    have e0 : ∀ j, j < l.length → l[j]?.getD none0 = l[0]?.getD none0 → j = 0 := fun j hj e => by
      rw [List.getElem?_eq_getElem hj, List.getElem?_eq_getElem (show 0 < l.length by omega)] at e
      exact (List.getElem_inj hn).1 e
    rcases Nat.eq_zero_or_pos i with rfl | hp
    · rw [c2 _ (fun j hj e => by
        have hj1 : j + 1 < l.length := by omega
        have := e0 (j + 1) hj1 (by rw [e]; rfl)
        omega)]
      simp [hg]
    · obtain ⟨j, rfl⟩ : ∃ j, i = j + 1 := ⟨i - 1, by omega⟩
      rw [c1 j (by omega) _ (by rw [List.getElem?_eq_getElem hi]; rfl)]
      simp only [Option.getD_some]
      rw [hg]
      by_cases ej : j = 0
      · subst ej; simp
      · rw [if_neg (fun e => ej (e0 j (by omega) e)), if_neg (by omega)]
end T
end Go.Proofs.Ytpomnjahhdahnaa
namespace Go.Proofs.Ytpomnjahhdahnaa
open Go.RowKit
set_option linter.unusedVariables false
set_option linter.unusedSimpArgs false

/-- The sets have come to the places ahead of j; r touches are laid. -/
structure Ch3 (w : World) (S S2 : Nat) (F2 : Nat → Prop) (f1 : T.Fl) (s : Int) (l : List T.Pl) (j r : Nat) (av : Value) (cs : List Value) (Pn : Nat → Prop) (W : World) : Prop where
  ex : ∃ (ss : List Int) (ps : List T.Pr) (F Ai : Nat → Prop), At W S ⟨2, 2, 65536, ss, ps⟩ F ∧ T.Two0 s ss ∧ (∀ i, i < j → ∀ p, l[i]? = some p → T.get ps p = s) ∧ (∀ x, (∀ i, i < j → l[i]? ≠ some x) → T.get ps x = 0) ∧ (∀ k, F k → w.heap.size ≤ k ∧ ¬ F2 k ∧ ¬ Ai k ∧ blkOf av ≠ some k ∧ ¬ Pn k) ∧
    Gs 56 3 W av r cs ∧ (∀ W' : World, (∀ k, Ai k → W'.heap[k]? = W.heap[k]?) → TcC W' (T.chI l r) cs) ∧ (∀ k, Ai k → w.heap.size ≤ k ∧ k < W.heap.size ∧ ¬ F2 k ∧ blkOf av ≠ some k)
  o : At W S2 f1 F2
  o2 : ∀ k, F2 k → w.heap.size ≤ k ∧ blkOf av ≠ some k
  b : Below w.heap.size w W
  al : ∀ k, blkOf av = some k → w.heap.size ≤ k
section
variable {w : World} {S S2 : Nat} {F2 : Nat → Prop} {f1 : T.Fl} {s : Int} {l : List T.Pl} {j r : Nat} {av : Value} {cs : List Value} {Pn : Nat → Prop} {W W' : World}
theorem Ch3.after (h : Ch3 w S S2 F2 f1 s l j r av cs Pn W) (hb : Below W.heap.size W W') : Ch3 w S S2 F2 f1 s l j r av cs Pn W' := by
  obtain ⟨ss, ps, F, Ai, h1, h2, h3, h4, h5, h6, h7, h8⟩ := h.ex
  refine ⟨⟨ss, ps, F, Ai, h1.below hb, h2, h3, h4, h5, h6.below hb, fun V hV => h7 V fun k hk => (hV k hk).trans (hb.block k (h8 k hk).2.1), fun k hk => ⟨(h8 k hk).1, by have := (h8 k hk).2.1; have := hb.size; omega, (h8 k hk).2.2⟩⟩, h.o.below hb, h.o2, h.b.trans (hb.mono h.b.size), h.al⟩
/-- One touch is applied. -/
theorem Ch3.apply (hs : 0 ≤ s ∧ s < 65536) (h : Ch3 w S S2 F2 f1 s l j r av cs Pn W) (hm : ∀ (i : Nat) p, l[i]? = some p → T.may 2 2 p = true ∧ Pi p) (hn : l.Nodup) {p q : T.Pl} (hj : 1 ≤ j) (hp : l[j - 1]? = some p) (hq : l[j]? = some q) (hb : Below W.heap.size W W') {A G : Nat}
    (hA : Blk W' A #[.int .i64 p.1, .int .i64 p.2] 43) (hG : Blk W' G #[.int .i64 q.1, .int .i64 q.2, .slice (some ⟨A, 0, none⟩) 1 1] 56) (nA : W.heap.size ≤ A) (nG : W.heap.size ≤ G) :
    Calls Try.prog 15 #[.pointer (some ⟨S, 0, none⟩), .slice (some ⟨G, 0, none⟩) 1 1] W' fun e V => e = .returned (.int .i64 0) ∧ Ch3 w S S2 F2 f1 s l (j + 1) r av cs (fun k => W.heap.size ≤ k ∧ k < W'.heap.size) V ∧ ∀ k, W.heap.size ≤ k → k < W'.heap.size → V.heap[k]? = W'.heap[k]? := by
  have h' := h.after hb
  obtain ⟨ss, ps, F, Ai, h1, h2, h3, h4, h5, h6, h7, h8⟩ := h.ex
  have h1' := h1.below hb
  have hok := h1.ok
  obtain ⟨mp, pip⟩ := hm _ _ hp
  obtain ⟨mq, piq⟩ := hm _ _ hq
  have hg : T.get ps p = s := h3 (j - 1) (by omega) p hp
  obtain ⟨ss', ps', ha, k1, k2⟩ := T.apply_one (f := ⟨2, 2, 65536, ss, ps⟩) hs hok.ris hok.small rfl h2 mp mq (.inr hg)
  have hF : ∀ k, F k → k < W.heap.size := fun k hk => h1.lt hk
  refine (Apply_any h1' (ts := [(q, [p])]) (fun V ht => ?_) (by simp)).mono ?_
  · exact TsIn.lit (l := [(q, [p])]) (cs := [.int .i64 q.1, .int .i64 q.2, .slice (some ⟨A, 0, none⟩) 1 1]) (hG.turned ht (fun e => by have := hF _ e; omega)) ⟨_, [], rfl, PlsIn.lit (l := [p]) (hA.turned ht (fun e => by have := hF _ e; omega)) (by simp [maxLen]) (by simpa using pip), rfl⟩ rfl (by simp [maxLen]) (by simpa using piq)
  · rintro e V ⟨rfl, F', g1, g2, g3⟩
    rw [ha] at g1 ⊢
    obtain ⟨ss0, ps0, F0, Ai0, q1, q2, q3, q4, q5, q6, q7, q8⟩ := h'.ex
    refine ⟨rfl, ⟨⟨ss', ps', F', Ai, g1, k1, fun i hi x hx => ?_, fun x hx => ?_, fun k hk => ?_, ?_, fun V' hV => ?_, fun k hk => ?_⟩, ?_, h.o2, ?_, h.al⟩, fun k hk hk2 => g3.block k hk2 (fun e => by have := hF k e; omega)⟩
    · rw [k2]
      by_cases e : x = q
      · rw [if_pos e]; exact hg
      · rw [if_neg e]
        refine h3 i ?_ x hx
        by_cases ei : i = j
        · subst ei; rw [hq] at hx; cases hx; exact absurd rfl e
        · omega
    · rw [k2, if_neg (fun e => hx j (by omega) (by rw [hq, e]))]
      exact h4 x fun i hi => hx i (by omega)
    · rcases g2 k hk with e | e
      · exact ⟨(h5 k e).1, (h5 k e).2.1, (h5 k e).2.2.1, (h5 k e).2.2.2.1, fun e2 => by have := hF k e; omega⟩
      · have hz := hb.size
        have hz2 := h.b.size
        refine ⟨by omega, fun e2 => by have := h.o.lt e2; omega, fun e2 => by have := (h8 k e2).2.1; omega, fun e2 => by have := h6.lt e2; omega, fun e2 => by omega⟩
    · exact (h6.below hb).keep (fun k hk => g3.block k (by have := h6.lt hk; have := hb.size; omega) (fun e => (h5 k e).2.2.2.1 hk))
    · refine h7 V' fun k hk => (hV k hk).trans ((g3.block k (by have := (h8 k hk).2.1; have := hb.size; omega) (fun e => (h5 k e).2.2.1 hk)).trans (hb.block k (h8 k hk).2.1))
    · exact ⟨(h8 k hk).1, by have := (h8 k hk).2.1; have := hb.size; have := g3.size; omega, (h8 k hk).2.2⟩
    · exact (h.o.below hb).turned g3 (fun k hk e => (h5 k e).2.1 hk)
    · exact h'.b.trans (g3.below h'.b.size (fun k e => (h5 k e).1))
theorem TcC.app {W : World} : ∀ {a b : List T.Tc} {cs ds : List Value}, TcC W a cs → TcC W b ds → TcC W (a ++ b) (cs ++ ds)
  | [], b, cs, ds, h, k => by obtain rfl := h; exact k
  | t :: a, b, cs, ds, ⟨v, cs', e, h1, h2⟩, k => ⟨v, cs' ++ ds, by rw [e]; rfl, h1, TcC.app h2 k⟩
theorem Ch3.row (h : Ch3 w S S2 F2 f1 s l j r av cs Pn W) : Gs 56 3 W av r cs := by
  obtain ⟨ss, ps, F, Ai, h1, h2, h3, h4, h5, h6, _⟩ := h.ex
  exact h6
/-- The touches that are laid, whatever o's own blocks become. -/
theorem Ch3.touches (h : Ch3 w S S2 F2 f1 s l j r av cs Pn W) (hr : r ≤ l.length - 1) (hm : ∀ (i : Nat) p, l[i]? = some p → T.may 2 2 p = true ∧ Pi p) : ∀ V, Turned F2 W V → TsIn V av (T.chI l r) := fun V ht => by
  obtain ⟨ss, ps, F, Ai, h1, h2, h3, h4, h5, h6, h7, h8⟩ := h.ex
  have hl : (T.chI l r).length = r := by simp [T.chI]
  have hg := (h6.turned ht (fun k hk e => (h.o2 k e).2 hk)).rd
  refine ⟨cs, by rw [hl]; exact hg, h7 V fun k hk => ht.block k (h8 k hk).2.1 (h8 k hk).2.2.1, fun t ht' => ?_⟩
  unfold T.chI at ht'
  obtain ⟨i, hi, rfl⟩ := List.mem_map.1 ht'
  have hi2 := List.mem_range.1 hi
  have hil : i + 1 < l.length := by omega
  simp only [List.getElem?_eq_getElem hil, Option.getD_some]
  exact (hm (i + 1) _ (List.getElem?_eq_getElem hil)).2
/-- One touch more is laid. -/
theorem Ch3.app (h : Ch3 w S S2 F2 f1 s l j r av cs Pn W) {p q : T.Pl} (hp : l[r]? = some p) (hq : l[r + 1]? = some q) (hpi : Pi p) {A : Nat} (hA : Blk W A #[.int .i64 p.1, .int .i64 p.2] 43) {W' : World} {v' : Value}
    (nA : w.heap.size ≤ A ∧ ¬ F2 A) (nFA : Pn A) (hg : Gs 56 3 W' v' (r + 1) (cs ++ [.int .i64 q.1, .int .i64 q.2, .slice (some ⟨A, 0, none⟩) 1 1])) (ht : Turned (fun k => blkOf av = some k) W W') (hn : ∀ k, blkOf v' = some k → blkOf av = some k ∨ W.heap.size ≤ k) :
    Ch3 w S S2 F2 f1 s l j (r + 1) v' (cs ++ [.int .i64 q.1, .int .i64 q.2, .slice (some ⟨A, 0, none⟩) 1 1]) (fun _ => False) W' := by
  obtain ⟨ss, ps, F, Ai, h1, h2, h3, h4, h5, h6, h7, h8⟩ := h.ex
  have hAav : blkOf av ≠ some A := fun e => Gs.ne h6 hA (by decide) e rfl
  have hz := h.b.size
  have nv : ∀ k, k < W.heap.size → blkOf av ≠ some k → blkOf v' ≠ some k := fun k hk h1 e => by
    rcases hn k e with e2 | e2
    · exact h1 e2
    · omega
  refine ⟨⟨ss, ps, F, fun k => Ai k ∨ k = A, h1.turned ht (fun k hk => (h5 k hk).2.2.2.1), h2, h3, h4, fun k hk => ⟨(h5 k hk).1, (h5 k hk).2.1, ?_, nv k (h1.lt hk) (h5 k hk).2.2.2.1, fun e => e⟩, hg, fun V hV => ?_, fun k hk => ?_⟩, h.o.turned ht (fun k hk => (h.o2 k hk).2), fun k hk => ⟨(h.o2 k hk).1, nv k (h.o.lt hk) (h.o2 k hk).2⟩, h.b.trans (ht.below hz h.al), fun k hk => ?_⟩
  · rintro (e | rfl)
    · exact (h5 k hk).2.2.1 e
    · exact (h5 _ hk).2.2.2.2 nFA
  · rw [T.chI_succ, hp, hq]
    refine TcC.app (h7 V fun k hk => (hV k (.inl hk)).trans (ht.block k (h8 k hk).2.1 (h8 k hk).2.2.2)) ⟨_, [], rfl, ?_, rfl⟩
    exact PlsIn.lit (l := [p]) ((hA.turned ht hAav).keep (hV A (.inr rfl))) (by simp [maxLen]) (by simpa using hpi)
  · have hs := ht.size
    rcases hk with hk | rfl
    · exact ⟨(h8 k hk).1, by have := (h8 k hk).2.1; omega, (h8 k hk).2.2.1, nv k (h8 k hk).2.1 (h8 k hk).2.2.2⟩
    · exact ⟨nA.1, by have := hA.lt; omega, nA.2, nv k hA.lt hAav⟩
  · rcases hn k hk with e | e
    · exact h.al k e
    · omega
end
end Go.Proofs.Ytpomnjahhdahnaa
namespace Go.Proofs.Ytpomnjahhdahnaa
open Go.RowKit
set_option maxHeartbeats 8000000
set_option maxRecDepth 100000
set_option linter.unusedVariables false
set_option linter.unusedSimpArgs false

/-- The empty flow of the statement. -/
abbrev ch0 : T.Fl := ⟨2, 2, 65536, [0], []⟩
/-- A round of the first loop: the places ahead of k may be, each but once. -/
structure Ch1 (w : World) (S : Nat) (F : Nat → Prop) (l : List T.Pl) (k : Nat) (W : World) : Prop where
  at_ : At W S ch0 F
  lo : ∀ k, F k → w.heap.size ≤ k
  b : Below w.heap.size w W
  may : ∀ i, i < k → ∀ p, l[i]? = some p → T.may 2 2 p = true
  dif : ∀ i j, i < j → j < k → l[i]? ≠ l[j]?
theorem Ch1.after {w : World} {S : Nat} {F : Nat → Prop} {l : List T.Pl} {k : Nat} {W W' : World} (h : Ch1 w S F l k W) (hb : Below W.heap.size W W') : Ch1 w S F l k W' := ⟨h.at_.below hb, h.lo, h.b.trans (hb.mono h.b.size), h.may, h.dif⟩
theorem Ch1.next {w : World} {S : Nat} {F : Nat → Prop} {l : List T.Pl} {k : Nat} {W : World} (h : Ch1 w S F l k W) {p : T.Pl} (hp : l[k]? = some p) (hm : T.may 2 2 p = true) (hd : ∀ m, m < k → l[m]? ≠ some p) : Ch1 w S F l (k + 1) W :=
  ⟨h.at_, h.lo, h.b, fun i hi q hq => by
    rcases Nat.lt_succ_iff_lt_or_eq.1 hi with e | rfl
    · exact h.may i e q hq
    · rw [hp] at hq; cases hq; exact hm, fun i j hi hj => by
    rcases Nat.lt_succ_iff_lt_or_eq.1 hj with e | rfl
    · exact h.dif i j hi e
    · rw [hp]; exact hd i hi⟩
/-- What the region that compares two places knows. -/
structure ChS (g1 o1 : Nat) (q : T.Pl) (g2 o2 : Nat) (p : T.Pl) (w : World) (S : Nat) (F : Nat → Prop) (l : List T.Pl) (k : Nat) (W : World) : Prop where
  a0 : W.cell? ⟨g1, o1 + 0, none⟩ = some (.int .i64 q.1)
  a1 : W.cell? ⟨g1, o1 + 1, none⟩ = some (.int .i64 q.2)
  b0 : W.cell? ⟨g2, o2 + 0, none⟩ = some (.int .i64 p.1)
  b1 : W.cell? ⟨g2, o2 + 1, none⟩ = some (.int .i64 p.2)
  c : Ch1 w S F l k W
theorem ChS.stb (g1 o1 : Nat) (q : T.Pl) (g2 o2 : Nat) (p : T.Pl) (w : World) (S : Nat) (F : Nat → Prop) (l : List T.Pl) (k : Nat) : Free.Stb (ChS g1 o1 q g2 o2 p w S F l k) := fun W W' h hb => ⟨cell_below h.a0 hb, cell_below h.a1 hb, cell_below h.b0 hb, cell_below h.b1 hb, h.c.after hb⟩
theorem cell_below' {W W' : World} {q : Addr} {u : Value} (h : W.cell? q = some u) (hb : Below W.heap.size W W') : W'.cell? q = some u := cell_below h hb
theorem wpOp_at {P : Program} {ops : Array Oper} {Q : Exit → Act → World → Prop} {K : Act → World → Prop} {a : Act} {w : World} (i : Nat) {o : Oper} (hi : ops[i]? = some o) (hw : Region.wanted o (yielded ops a.tmps) = true) (h : o.wp P a w K Q) : wpOp P ops Q i K a w := by
  unfold wpOp
  rw [hi]
  dsimp only
  rw [if_pos hw]
  exact .inl h
theorem infoTouch : (Try.prog.info? 56).map (fun i => (i.zero, i.size, i.bytes)) = some (some (.agg #[.int .i64 0, .int .i64 0, .slice none 0 0]), 3, 40) := by kernel_rfl
theorem tc_src (w : World) (a b : Int) (A : Nat) : Src Try.prog 3 45 (.slice (some ⟨w.heap.size, 0, none⟩) 1 1) 1 [.int .i64 a, .int .i64 b, .slice (some ⟨A, 0, none⟩) 1 1] (w.alloc (.cells #[.int .i64 a, .int .i64 b, .slice (some ⟨A, 0, none⟩) 1 1] 56)) := by
  refine Src.ofSlice _ Try.underlying45 _ 1 1 _ rfl (fun j u hj => ?_) (fun u hu => ?_)
  · rw [add_lit, (blk_new w _ _).cell, Nat.zero_add]
    simpa using hj
  · simp at hu
    rcases hu with rfl | rfl | rfl <;> rfl
theorem FlowChain_few (s : Int) {v : Value} {l : List T.Pl} {w : World} (hv : PlsIn w v l) (hs : W32 s) (h : l.length < 2 ∨ 12 < l.length ∨ 65536 ≤ s) : Calls Try.prog 4 #[v, .int .u32 s] w fun e w' => e = .returned (.bool true) ∧ Below w.heap.size w w' := by
  obtain ⟨ao, ca, rfl, hla, hlm⟩ := hv.shape
  have HK := Lib.hid (known_any w)
  have h0 := hs.1
  clear hv hs
  by_cases h1 : l.length < 2
  · have h1' : (l.length : Int) < 2 := by omega
    go_enter Try.func4, Try.ntmps4
    go_wp2_with fail
    refine HK.out.mono ?_
    rintro e w2 ⟨rfl, hb⟩
    have HB := Lib.hid hb
    clear hb
    go_wp2
    go_ret
    exact ⟨rfl, HB.out⟩
  · have h1' : ¬ (l.length : Int) < 2 := by omega
    by_cases h2 : 12 < l.length
    · have h2' : (12 : Int) < (l.length : Int) := by omega
      go_enter Try.func4, Try.ntmps4
      go_wp2_with fail
      refine HK.out.mono ?_
      rintro e w2 ⟨rfl, hb⟩
      have HB := Lib.hid hb
      clear hb
      go_wp2
      go_ret
      exact ⟨rfl, HB.out⟩
    · have h2' : ¬ (12 : Int) < (l.length : Int) := by omega
      have h3 : 65536 ≤ s := by omega
      go_enter Try.func4, Try.ntmps4
      go_wp2_with fail
      refine HK.out.mono ?_
      rintro e w2 ⟨rfl, hb⟩
      have HB := Lib.hid hb
      clear hb
      go_wp2
      go_ret
      exact ⟨rfl, HB.out⟩
theorem FlowChain_walk (s : Int) {v : Value} {l : List T.Pl} {w : World} (hv : PlsIn w v l) (hs : W32 s) : Calls Try.prog 4 #[v, .int .u32 s] w fun e w' => e = .returned (.bool true) ∧ Below w.heap.size w w' := by
  by_cases hq : l.length < 2 ∨ 12 < l.length ∨ 65536 ≤ s
  · exact FlowChain_few s hv hs hq
  obtain ⟨ao, ca, rfl, hla, hlm⟩ := hv.shape
  have h0 := hs.1
  have l1' : (2 : Int) ≤ (l.length : Int) := by omega
  have l2' : (l.length : Int) ≤ 12 := by omega
  have l3' : s < 65536 := by omega
  have HV := Lib.hid (fun W (hb : Below w.heap.size w W) => hv.below hb)
  have hff : Blk (w.alloc (.cells #[.int .i64 2, .int .i64 2] 27)) w.heap.size #[.int .i64 2, .int .i64 2] 27 := blk_new _ _ _
  have HB1 := Lib.hid (bel1 w (.cells #[.int .i64 2, .int .i64 2] 27))
  have x0 := hff.cell 0
  have x1 := hff.cell 1
  clear hv hs hq hff
  go_enter Try.func4, Try.ntmps4
  go_wp2_with fail
  refine (New_any 2 2 65536 (by omega) _).mono ?_
  rintro e w2 ⟨S, F, rfl, hat, hF, hb⟩
  have H0 : Hid (Ch1 w S F l 0 w2) := ⟨hat, fun k hk => by have := hF k hk; have := HB1.out.size; omega, HB1.out.trans (hb.mono HB1.out.size), fun i hi => absurd hi (by omega), fun i j _ hj => absurd hj (by omega)⟩
  clear hat hF hb HB1 x0 x1
  go_wp2
  go_loopw [8] (fun i wr => ∃ k : Nat, k ≤ l.length ∧ i = .int .i64 (k : Int) ∧ Hid (Ch1 w S F l k wr)) (fun i _ => l.length + 1 - natI i)
  case atStart => exact ⟨0, by omega, rfl, H0.out⟩
  case round =>
    obtain ⟨k, hk, rfl, HC⟩ := hrel
    clear H0
    by_cases hlt : k < l.length
    · have hi : (k : Int) < (l.length : Int) := by omega
      obtain ⟨g1, o1, c1, p, e1, hp, hpi, hrg⟩ := (HV.out _ HC.out.b).at_ hlt
      simp at e1
      obtain ⟨rfl, rfl⟩ := e1
      have y0 := hrg 0 (.int .i64 p.1) rfl
      have y1 := hrg 1 (.int .i64 p.2) rfl
      simp only [Nat.add_zero] at y0
      have HP := Lib.hid (And.intro hp hpi)
      clear hp hrg
      go_wp2_with fail
      refine (Get_any HC.out.at_ p hpi).mono ?_
      rintro e w3 ⟨rfl, hb⟩
      have HC3 := Lib.hid (HC.out.after hb)
      clear hb y0 y1 hpi
      cases hm : T.may 2 2 p with
      | false =>
        simp only [Bool.false_eq_true, if_false]
        clear hm
        go_wp2_with fail
        refine (known_any _).mono ?_
        rintro e w4 ⟨rfl, hb⟩
        have HB4 := Lib.hid (HC3.out.b.trans (hb.mono HC3.out.b.size))
        clear hb
        go_wp2
        go_ret
        exact ⟨rfl, HB4.out⟩
      | true =>
        simp only [if_true]
        have HM := Lib.hid hm
        clear hm
        go_wp2
        go_loopw [11] (fun i wr => ∃ m : Nat, m ≤ k ∧ i = .int .i64 (m : Int) ∧ Hid (Ch1 w S F l k wr) ∧ Hid (∀ j, j < m → l[j]? ≠ some p)) (fun i _ => k + 1 - natI i)
        case atStart => exact ⟨0, by omega, rfl, HC3.out, fun j hj => absurd hj (by omega)⟩
        case round =>
          obtain ⟨m, hmk, rfl, HCm, HD⟩ := hrel
          clear HC3 HC
          by_cases hm : m < k
          · have him : (m : Int) < (k : Int) := by omega
            have him2 : (m : Int) < (l.length : Int) := by omega
            obtain ⟨g2, o2, c2, q, e2, hq, hqi, hrq⟩ := (HV.out _ HCm.out.b).at_ (show m < l.length by omega)
            obtain ⟨g3, o3, c3, p3, e3, hp3, _, hrp⟩ := (HV.out _ HCm.out.b).at_ hlt
            simp at e2 e3
            obtain ⟨⟨rfl, rfl⟩, rfl⟩ := e2
            obtain ⟨⟨rfl, rfl⟩, _⟩ := e3
            rw [HP.out.1] at hp3
            cases hp3
            have HS : Hid (ChS g1 (o1 + m * 2) q g1 (o1 + k * 2) p w S F l k wr.drew) := ⟨hrq 0 (.int .i64 q.1) rfl, hrq 1 (.int .i64 q.2) rfl, hrp 0 (.int .i64 p.1) rfl, hrp 1 (.int .i64 p.2) rfl, HCm.out.after (Below.refl _ _).drew⟩
            have HQ := Lib.hid hq
            have he := fun W => eql_place q p W
            clear hq hrq hrp hqi
            go_wp2
            refine Free.any (ChS g1 (o1 + m * 2) q g1 (o1 + k * 2) p w S F l k) (ChS.stb g1 (o1 + m * 2) q g1 (o1 + k * 2) p w S F l k) HS.out (fun st => ?_)
            refine Free.tk 0 (some 63) ?_
            refine Free.tk 1 (some 64) ?_
            refine Free.tk 2 (some 65) ?_
            refine Free.tk 3 (some 66) ?_ (hy := by intro W hW; have d0 := hW.a0; have d1 := hW.a1; simp only [Nat.add_zero] at d0; go_simp; try with_reducible rfl)
            refine Free.tk 4 (some 67) ?_
            refine Free.tk 5 (some 68) ?_
            refine Free.tk 6 (some 69) ?_
            refine Free.tk 7 (some 70) ?_ (hy := by intro W hW; have d0 := hW.b0; have d1 := hW.b1; simp only [Nat.add_zero] at d0; go_simp; try with_reducible rfl)
            refine Free.tk 8 (some 71) ?_
            refine Free.done (fun W hb hW => ?_)
            have HC4 := Lib.hid hW.c
            clear hb hW he HCm HS
            by_cases eq : q = p
            · have hd : decide (q = p) = true := decide_eq_true eq
              simp only [hd]
              clear hd eq
              go_wp2_with fail
              refine (known_any _).mono ?_
              rintro e w4 ⟨rfl, hb⟩
              have HB4 := Lib.hid (HC4.out.b.trans (hb.mono HC4.out.b.size))
              clear hb
              go_wp2
              go_ret
              exact ⟨rfl, HB4.out⟩
            · have hd : decide (q = p) = false := decide_eq_false eq
              simp only [hd]
              have HNe := Lib.hid eq
              clear hd eq
              go_wp2
              refine ⟨⟨m + 1, by omega, by go_num, HC4.out, fun j hj => ?_⟩, by simp [natI]; omega⟩
              rcases Nat.lt_succ_iff_lt_or_eq.1 hj with e | rfl
              · exact HD.out j e
              · rw [HQ.out]; intro e; cases e; exact HNe.out rfl
          · obtain rfl : m = k := by omega
            go_wp2
            exact ⟨⟨m + 1, by omega, by go_num, HCm.out.next HP.out.1 HM.out HD.out⟩, by simp [natI]; omega⟩
    · obtain rfl : k = l.length := by omega
      have hi : ¬ ((l.length : Int) < (l.length : Int)) := by omega
      have hl0 : (0 : Int) < (l.length : Int) := by omega
      obtain ⟨g1, o1, c1, p0, e1, hp, hpi, hrg⟩ := (HV.out _ HC.out.b).at_ (show 0 < l.length by omega)
      simp at e1
      obtain ⟨rfl, rfl⟩ := e1
      have y0 := hrg 0 (.int .i64 p0.1) rfl
      have y1 := hrg 1 (.int .i64 p0.2) rfl
      simp only [Nat.add_zero, Nat.zero_mul] at y0 y1
      obtain ⟨ss1, ps1, hmk, htw, hgt⟩ := T.mark_one (s := s) ⟨h0, l3'⟩ (HC.out.may 0 (by omega) p0 hp)
      have HP := Lib.hid hp
      have HG1 := Lib.hid (And.intro htw hgt)
      have HMk := Lib.hid hmk
      clear hp hrg hmk htw hgt
      go_wp2_with fail
      refine (Mark_any HC.out.at_ p0 hpi 1 s ⟨by omega, by omega⟩ ⟨h0, by omega⟩).mono ?_
      rintro e w3 ⟨rfl, hch⟩
      rw [HMk.out] at hch ⊢
      obtain ⟨F1, hat1, hF1, hb1, ht1, _⟩ := hch.below HC.out.b HC.out.lo
      have HA1 := Lib.hid (And.intro hat1 (And.intro hF1 hb1))
      clear hch hat1 hF1 hb1 ht1 y0 y1 hpi
      go_wp2_with fail
      refine (Copy_any HA1.out.1).mono ?_
      rintro e w4 ⟨S2, F2, rfl, hat2, hF2, hb2⟩
      have HA2 := Lib.hid (And.intro (HA1.out.1.below hb2) (And.intro hat2 (And.intro hF2 (HA1.out.2.2.trans (hb2.mono HA1.out.2.2.size)))))
      clear hat2 hF2 hb2
      have hnd : l.Nodup := by
        refine List.pairwise_iff_getElem.2 fun a b ha hb hab e => ?_
        exact HC.out.dif a b hab hb (by rw [List.getElem?_eq_getElem ha, List.getElem?_eq_getElem hb, e])
      have hall : ∀ (i : Nat) p, l[i]? = some p → T.may 2 2 p = true ∧ Pi p := fun i p hp => by
        have hil : i < l.length := (List.getElem?_eq_some_iff.1 hp).1
        refine ⟨HC.out.may i hil p hp, ?_⟩
        obtain ⟨_, _, _, p', _, hp', hpi', _⟩ := (HV.out _ HC.out.b).at_ hil
        rw [hp] at hp'; cases hp'; exact hpi'
      have H3 : Hid (Ch3 w S S2 F2 ⟨2, 2, 65536, ss1, ps1⟩ s l 1 0 (.slice none 0 0) [] (fun _ => False) w4) := by
        obtain ⟨a1, a2, a3, a4⟩ := HA2.out
        refine ⟨⟨ss1, ps1, F1, fun _ => False, a1, HG1.out.1, fun i hi p hp => ?_, fun x hx => ?_, fun k hk => ⟨HA1.out.2.1 k hk, fun e => by have := HA1.out.1.lt hk; have := a3 k e; omega, fun e => e, by simp [blkOf], fun e => e⟩, Gs.nil _ _ _, fun V _ => rfl, fun k hk => hk.elim⟩, a2, fun k hk => ⟨by have := a3 k hk; have := HA1.out.2.2.size; omega, by simp [blkOf]⟩, a4, fun k hk => by simp [blkOf] at hk⟩
        · obtain rfl : i = 0 := by omega
          rw [HP.out] at hp; cases hp
          rw [HG1.out.2, if_pos rfl]
        · rw [HG1.out.2, if_neg (fun e => hx 0 (by omega) (by rw [HP.out, e]))]
      have HNd := Lib.hid hnd
      have HAl := Lib.hid hall
      clear hnd hall HA1 HA2 HC
      go_wp2
      go_loopw [13, 14] (fun av i wr => ∃ (k : Nat) (avv : Value) (cs : List Value), k + 1 ≤ l.length ∧ av = avv ∧ i = .int .i64 ((k : Int) + 1) ∧ Hid (Ch3 w S S2 F2 ⟨2, 2, 65536, ss1, ps1⟩ s l (k + 1) k avv cs (fun _ => False) wr)) (fun _ i _ => l.length + 1 - natI i)
      case atStart => exact ⟨0, _, [], by omega, rfl, rfl, H3.out⟩
      case round =>
        obtain ⟨k, avv, cs, hk, rfl, rfl, HI⟩ := hrel
        clear H3
        by_cases hlt : k + 1 < l.length
        · have hi : (k : Int) + 1 < (l.length : Int) := by omega
          have hi0 : (0 : Int) ≤ (k : Int) + 1 := by omega
          have hi1 : (k : Int) < (l.length : Int) := by omega
          obtain ⟨g2, o2, c2, p, e2, hp, hpi, hrp⟩ := (HV.out _ HI.out.b).at_ (show k < l.length by omega)
          obtain ⟨g3, o3, c3, q, e3, hq, hqi, hrq⟩ := (HV.out _ HI.out.b).at_ hlt
          simp at e2 e3
          obtain ⟨⟨rfl, rfl⟩, rfl⟩ := e2
          obtain ⟨⟨rfl, rfl⟩, rfl⟩ := e3
          have HQ0 := Lib.hid (And.intro (hrq 0 (.int .i64 q.1) rfl) (And.intro (hrq 1 (.int .i64 q.2) rfl) (And.intro (hrp 0 (.int .i64 p.1) rfl) (hrp 1 (.int .i64 p.2) rfl))))
          have HPQ := Lib.hid (And.intro hp (And.intro hq hpi))
          have HS0 : Hid (Below wr.heap.size wr wr.drew) := (Below.refl _ _).drew
          clear hp hq hpi hqi hrp hrq
          go_wp2
          refine Free.any (fun W => Below wr.heap.size wr W) (fun W W' h hb => h.trans (hb.mono h.size)) HS0.out (fun st => ?_)
          refine Free.tk 0 (some 87) ?_
          refine Free.tk 1 (some 88) ?_
          refine Free.tk 2 (some 89) ?_
          refine Free.tk 3 (some 90) (v := .agg #[.int .i64 q.1, .int .i64 q.2]) ?_ (hy := by intro W hW; have d0 := cell_below' HQ0.out.1 hW; have d1 := cell_below' HQ0.out.2.1 hW; simp only [Nat.add_zero] at d0; go_simp; try with_reducible rfl)
          refine Free.tk 4 (some 91) ?_
          refine Free.tk 5 (some 92) ?_
          refine Free.tk 6 (some 93) (v := .int .i64 (k : Int)) ?_ (hy := by intro W hW; go_simp; try (rw [IntKind.wrap_i64] <;> omega))
          refine Free.tk 7 (some 94) ?_
          refine Free.tk 8 (some 95) (v := .agg #[.int .i64 p.1, .int .i64 p.2]) ?_ (hy := by intro W hW; have d0 := cell_below' HQ0.out.2.2.1 hW; have d1 := cell_below' HQ0.out.2.2.2 hW; simp only [Nat.add_zero] at d0; go_simp; try with_reducible rfl)
          refine Free.all [9, 11] (fun W hb hW i hi => ?_)
          have hi' : i = 9 ∨ i = 11 := by simpa using hi
          rcases hi' with rfl | rfl
          · refine wpOp_at 9 rfl rfl ?_
            refine o_okb (some 96) (.slice (some ⟨W.heap.size, 0, none⟩) 1 1) (W.alloc (.cells #[.int .i64 p.1, .int .i64 p.2] 43)) (by go_simp; try rfl) ⟨st _ _ hW (bel1 W _), ?_⟩
            refine Free.tk 10 (some 97) ?_
            refine Free.one 11 (fun W2 hb2 hW2 => ?_)
            refine o_okb (some 15) (.pointer (some ⟨W2.heap.size, 0, none⟩)) (W2.alloc (.cells #[.int .i64 0, .int .i64 0, .slice none 0 0] 56)) (by go_simp; try rfl) ⟨st _ _ hW2 (bel1 W2 _), ?_⟩
            refine Free.one 12 (fun W3 hb3 hW3 => ?_)
            have hZ : Rf 56 3 W3 W2.heap.size #[.int .i64 0, .int .i64 0, .slice none 0 0] := ⟨(blk_new W2 _ _).below hb3, rfl, by simp [Value.oneCell']⟩
            have hA3 : Blk W3 W.heap.size #[.int .i64 p.1, .int .i64 p.2] 43 := ((((blk_new W _ _).below hb2)).alloc _).below hb3
            have nA : wr.heap.size ≤ W.heap.size := by have := hW.size; have := hW2.size; omega
            have nT : wr.heap.size ≤ W2.heap.size := by have := hW.size; have := hW2.size; omega
            have hAT : W.heap.size ≠ W2.heap.size := by have := hb2.size; simp at this; omega
            generalize W.heap.size = A at hZ hA3 nA hAT ⊢
            generalize W2.heap.size = T at hZ nT hAT ⊢
            refine o_store_R (d := none) rfl #[.int .i64 q.1, .int .i64 q.2, .slice (some ⟨A, 0, none⟩) 1 1] rowT hZ ⟨rfl, by simp [Value.oneCell']⟩ rfl rfl rfl ?_
            have hT5 := (hZ.blk).set #[.int .i64 q.1, .int .i64 q.2, .slice (some ⟨A, 0, none⟩) 1 1]
            have hA5 := hA3.setOther hAT #[.int .i64 q.1, .int .i64 q.2, .slice (some ⟨A, 0, none⟩) 1 1]
            refine ⟨hW3.trans ((turned_setRow W3 T _).below hW3.size (fun k e => by omega)), ?_⟩
            refine Free.done (fun W6 hb6 hW6 => ?_)
            have HA6 := Lib.hid (hA5.below hb6)
            have HT6 := Lib.hid (hT5.below hb6)
            have HW6 := Lib.hid hW6
            have HN := Lib.hid (And.intro nA nT)
            clear hb6 hW6 hA5 hT5 nA nT
            have t0 := HT6.out.cell 0
            have t1 := HT6.out.cell 1
            have t2 := HT6.out.cell 2
            go_wp2_with fail
            refine (Ch3.apply ⟨h0, l3'⟩ HI.out HAl.out HNd.out (by omega) (show l[k + 1 - 1]? = some p from HPQ.out.1) HPQ.out.2.1 (HW6.out.alloc HW6.out.size _) (A := A) (G := W6.heap.size) (HA6.out.alloc _) (blk_new W6 _ _) HN.out.1 HW6.out.size).mono ?_
            rintro e V ⟨rfl, h3, hkp⟩
            have hTV := (HT6.out.alloc (.cells #[.int .i64 q.1, .int .i64 q.2, .slice (some ⟨A, 0, none⟩) 1 1] 56)).keep (hkp T HN.out.2 (by have := HT6.out.lt; simp; omega))
            have hAV := (HA6.out.alloc (.cells #[.int .i64 q.1, .int .i64 q.2, .slice (some ⟨A, 0, none⟩) 1 1] 56)).keep (hkp A HN.out.1 (by have := HA6.out.lt; simp; omega))
            have HAp : Hid (wr.heap.size ≤ A ∧ A < (W6.alloc (.cells #[.int .i64 q.1, .int .i64 q.2, .slice (some ⟨A, 0, none⟩) 1 1] 56)).heap.size) := ⟨HN.out.1, by have := HA6.out.lt; simp; omega⟩
            have H4 := Lib.hid h3
            have HTV := Lib.hid hTV
            have HAV := Lib.hid hAV
            have HZ2 : Hid (w.heap.size ≤ A ∧ ¬ F2 A) := ⟨by have := HI.out.b.size; have := HN.out.1; omega, fun e => by have := HI.out.o.lt e; have := HN.out.1; omega⟩
            clear h3 hkp hTV hAV t0 t1 t2
            have t0 := HTV.out.cell 0
            have t1 := HTV.out.cell 1
            have t2 := HTV.out.cell 2
            go_wp2_with (refine wp_append_g rfl _ _ rfl Try.underlying45 infoTouch rfl (by omega) (by omega) rfl rfl (H4.out.row.below (bel1 V _)) (tc_src V q.1 q.2 A) (by omega) ?_; intro v6 w6 hg6 ht6 hn6)
            go_roundw
            case rel =>
              have hc := (H4.out.after (bel1 V (.cells #[.int .i64 q.1, .int .i64 q.2, .slice (some ⟨A, 0, none⟩) 1 1] 56))).app HPQ.out.1 HPQ.out.2.1 HPQ.out.2.2 (HAV.out.alloc _) HZ2.out HAp.out hg6 ht6 hn6
              first
                | exact ⟨k + 1, _, _, by omega, rfl, by simp, hc⟩
                | ((repeat apply Exists.intro); refine ⟨?_, rfl⟩; exact ⟨k + 1, _, _, by omega, rfl, by simp, hc⟩)
            case measure =>
              simp [natI]
              omega
          · refine wpOp_at 11 rfl rfl ?_
            refine o_okb (some 15) (.pointer (some ⟨W.heap.size, 0, none⟩)) (W.alloc (.cells #[.int .i64 0, .int .i64 0, .slice none 0 0] 56)) (by go_simp; try rfl) ⟨st _ _ hW (bel1 W _), ?_⟩
            refine Free.one 9 (fun W2 hb2 hW2 => ?_)
            refine o_okb (some 96) (.slice (some ⟨W2.heap.size, 0, none⟩) 1 1) (W2.alloc (.cells #[.int .i64 p.1, .int .i64 p.2] 43)) (by go_simp; try rfl) ⟨st _ _ hW2 (bel1 W2 _), ?_⟩
            refine Free.tk 10 (some 97) ?_
            refine Free.one 12 (fun W3 hb3 hW3 => ?_)
            have hZ : Rf 56 3 W3 W.heap.size #[.int .i64 0, .int .i64 0, .slice none 0 0] := ⟨((((blk_new W _ _).below hb2)).alloc _).below hb3, rfl, by simp [Value.oneCell']⟩
            have hA3 : Blk W3 W2.heap.size #[.int .i64 p.1, .int .i64 p.2] 43 := (blk_new W2 _ _).below hb3
            have nA : wr.heap.size ≤ W2.heap.size := by have := hW.size; have := hW2.size; omega
            have nT : wr.heap.size ≤ W.heap.size := by have := hW.size; have := hW2.size; omega
            have hAT : W2.heap.size ≠ W.heap.size := by have := hb2.size; simp at this; omega
            generalize W2.heap.size = A at hZ hA3 nA hAT ⊢
            generalize W.heap.size = T at hZ nT hAT ⊢
            refine o_store_R (d := none) rfl #[.int .i64 q.1, .int .i64 q.2, .slice (some ⟨A, 0, none⟩) 1 1] rowT hZ ⟨rfl, by simp [Value.oneCell']⟩ rfl rfl rfl ?_
            have hT5 := (hZ.blk).set #[.int .i64 q.1, .int .i64 q.2, .slice (some ⟨A, 0, none⟩) 1 1]
            have hA5 := hA3.setOther hAT #[.int .i64 q.1, .int .i64 q.2, .slice (some ⟨A, 0, none⟩) 1 1]
            refine ⟨hW3.trans ((turned_setRow W3 T _).below hW3.size (fun k e => by omega)), ?_⟩
            refine Free.done (fun W6 hb6 hW6 => ?_)
            have HA6 := Lib.hid (hA5.below hb6)
            have HT6 := Lib.hid (hT5.below hb6)
            have HW6 := Lib.hid hW6
            have HN := Lib.hid (And.intro nA nT)
            clear hb6 hW6 hA5 hT5 nA nT
            have t0 := HT6.out.cell 0
            have t1 := HT6.out.cell 1
            have t2 := HT6.out.cell 2
            go_wp2_with fail
            refine (Ch3.apply ⟨h0, l3'⟩ HI.out HAl.out HNd.out (by omega) (show l[k + 1 - 1]? = some p from HPQ.out.1) HPQ.out.2.1 (HW6.out.alloc HW6.out.size _) (A := A) (G := W6.heap.size) (HA6.out.alloc _) (blk_new W6 _ _) HN.out.1 HW6.out.size).mono ?_
            rintro e V ⟨rfl, h3, hkp⟩
            have hTV := (HT6.out.alloc (.cells #[.int .i64 q.1, .int .i64 q.2, .slice (some ⟨A, 0, none⟩) 1 1] 56)).keep (hkp T HN.out.2 (by have := HT6.out.lt; simp; omega))
            have hAV := (HA6.out.alloc (.cells #[.int .i64 q.1, .int .i64 q.2, .slice (some ⟨A, 0, none⟩) 1 1] 56)).keep (hkp A HN.out.1 (by have := HA6.out.lt; simp; omega))
            have HAp : Hid (wr.heap.size ≤ A ∧ A < (W6.alloc (.cells #[.int .i64 q.1, .int .i64 q.2, .slice (some ⟨A, 0, none⟩) 1 1] 56)).heap.size) := ⟨HN.out.1, by have := HA6.out.lt; simp; omega⟩
            have H4 := Lib.hid h3
            have HTV := Lib.hid hTV
            have HAV := Lib.hid hAV
            have HZ2 : Hid (w.heap.size ≤ A ∧ ¬ F2 A) := ⟨by have := HI.out.b.size; have := HN.out.1; omega, fun e => by have := HI.out.o.lt e; have := HN.out.1; omega⟩
            clear h3 hkp hTV hAV t0 t1 t2
            have t0 := HTV.out.cell 0
            have t1 := HTV.out.cell 1
            have t2 := HTV.out.cell 2
            go_wp2_with (refine wp_append_g rfl _ _ rfl Try.underlying45 infoTouch rfl (by omega) (by omega) rfl rfl (H4.out.row.below (bel1 V _)) (tc_src V q.1 q.2 A) (by omega) ?_; intro v6 w6 hg6 ht6 hn6)
            go_roundw
            case rel =>
              have hc := (H4.out.after (bel1 V (.cells #[.int .i64 q.1, .int .i64 q.2, .slice (some ⟨A, 0, none⟩) 1 1] 56))).app HPQ.out.1 HPQ.out.2.1 HPQ.out.2.2 (HAV.out.alloc _) HZ2.out HAp.out hg6 ht6 hn6
              first
                | exact ⟨k + 1, _, _, by omega, rfl, by simp, hc⟩
                | ((repeat apply Exists.intro); refine ⟨?_, rfl⟩; exact ⟨k + 1, _, _, by omega, rfl, by simp, hc⟩)
            case measure =>
              simp [natI]
              omega
        · have hle : (l.length : Int) = (k : Int) + 1 := by omega
          have hkl : l.length - 1 = k := by omega
          go_wp2_with fail
          refine (Apply_any HI.out.o (ts := T.chI l k) (HI.out.touches (by omega) HAl.out) (by simp [T.chI]; omega)).mono ?_
          rintro e V ⟨rfl, hch⟩
          have hok := HI.out.o.ok
          obtain ⟨ss2, ps2, ha2, hg2⟩ := T.apply_all (f := ⟨2, 2, 65536, ss1, ps1⟩) ⟨h0, l3'⟩ hok.ris hok.small rfl HG1.out.1 HNd.out (fun p hp => by obtain ⟨i, hi, rfl⟩ := List.mem_iff_getElem.1 hp; exact (HAl.out i _ (List.getElem?_eq_getElem hi)).1) (by omega) (fun x => by rw [HG1.out.2, HP.out]; rfl)
          rw [hkl] at ha2
          rw [ha2] at hch ⊢
          obtain ⟨F', g1', g2', g3'⟩ := hch
          obtain ⟨ss, ps, F0, Ai, q1, q2, q3, q4, q5, _⟩ := HI.out.ex
          have HA5 := Lib.hid (q1.turned g3' (fun k hk => (q5 k hk).2.1))
          have HO5 := Lib.hid g1'
          have HB5 := Lib.hid (HI.out.b.trans (g3'.below HI.out.b.size (fun k hk => (HI.out.o2 k hk).1)))
          have HGf : Hid (∀ i p, l[i]? = some p → T.get ps p = s) := fun i p hp => q3 i (by have := (List.getElem?_eq_some_iff.1 hp).1; omega) p hp
          have HGo : Hid (∀ i p, l[i]? = some p → T.get ps2 p = if i < 2 then s else 0) := fun i p hp => by
            have := hg2 i (List.getElem?_eq_some_iff.1 hp).1
            rwa [hp] at this
          clear hok ha2 hg2 g1' g2' g3' q1 q2 q3 q4 q5 HI
          go_wp2
          go_loopw [16] (fun i wr => ∃ i' : Nat, i' ≤ l.length ∧ i = .int .i64 (i' : Int) ∧ Hid (At wr S ⟨2, 2, 65536, ss, ps⟩ F0 ∧ At wr S2 ⟨2, 2, 65536, ss2, ps2⟩ F' ∧ Below w.heap.size w wr)) (fun i _ => l.length + 1 - natI i)
          case atStart => exact ⟨0, by omega, rfl, HA5.out, HO5.out, HB5.out⟩
          case round =>
            obtain ⟨i, hi, rfl, HJ⟩ := hrel
            clear HA5 HO5 HB5
            by_cases hil : i < l.length
            · have hii : (i : Int) < (l.length : Int) := by omega
              obtain ⟨g3, o3, c3, p, e3, hp, hpi, hrp⟩ := (HV.out _ HJ.out.2.2).at_ hil
              simp at e3
              obtain ⟨⟨rfl, rfl⟩, rfl⟩ := e3
              have y0 := hrp 0 (.int .i64 p.1) rfl
              have y1 := hrp 1 (.int .i64 p.2) rfl
              simp only [Nat.add_zero] at y0
              have HPp := Lib.hid hp
              have hm := (HAl.out i p hp).1
              have gf := HGf.out i p hp
              have go := HGo.out i p hp
              clear hp hrp
              go_wp2_with fail
              refine (Get_any HJ.out.1 p hpi).mono ?_
              rintro e V1 ⟨rfl, hb⟩
              have HJ1 : Hid (At V1 S ⟨2, 2, 65536, ss, ps⟩ F0 ∧ At V1 S2 ⟨2, 2, 65536, ss2, ps2⟩ F' ∧ Below w.heap.size w V1) := ⟨HJ.out.1.below hb, HJ.out.2.1.below hb, HJ.out.2.2.trans (hb.mono HJ.out.2.2.size)⟩
              have z0 := cell_below y0 hb
              have z1 := cell_below y1 hb
              simp only [hm, gf, if_true]
              clear y0 y1 hb
              go_wp2_with fail
              refine (Get_any HJ1.out.2.1 p hpi).mono ?_
              rintro e V2 ⟨rfl, hb⟩
              have HJ2 : Hid (At V2 S ⟨2, 2, 65536, ss, ps⟩ F0 ∧ At V2 S2 ⟨2, 2, 65536, ss2, ps2⟩ F' ∧ Below w.heap.size w V2) := ⟨HJ1.out.1.below hb, HJ1.out.2.1.below hb, HJ1.out.2.2.trans (hb.mono HJ1.out.2.2.size)⟩
              simp only [hm, go, if_true]
              clear z0 z1 hb hm gf go hpi HJ HJ1
              by_cases h2 : i < 2
              · have h2' : (i : Int) < 2 := by omega
                rw [if_pos h2]
                go_wp2
                exact ⟨⟨i + 1, by omega, by go_num, HJ2.out⟩, by simp [natI]; omega⟩
              · have h2' : ¬ (i : Int) < 2 := by omega
                rw [if_neg h2]
                go_wp2
                exact ⟨⟨i + 1, by omega, by go_num, HJ2.out⟩, by simp [natI]; omega⟩
            · obtain rfl : i = l.length := by omega
              go_wp2_with fail
              refine (known_any _).mono ?_
              rintro e V3 ⟨rfl, hb⟩
              have HBe := Lib.hid (HJ.out.2.2.trans (hb.mono HJ.out.2.2.size))
              clear hb
              go_wp2
              go_ret
              exact ⟨rfl, HBe.out⟩
end Go.Proofs.Ytpomnjahhdahnaa
