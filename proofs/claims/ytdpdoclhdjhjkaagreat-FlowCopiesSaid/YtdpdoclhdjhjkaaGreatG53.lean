/-
  Layer 12: two flows and two of the document's, side by side (FlowCopies): what a call by one of them leaves. No walk.
-/
import Derived.Test.YtdpdoclhdjhjkaaGreatG24
import Derived.Test.YtdpdoclhdjhjkaaGreatG18
set_option linter.unusedVariables false
set_option linter.unusedSimpArgs false
namespace Go.Proofs.YtdpdoclhdjhjkaaGreat
open Go.RowKit
set_option linter.unusedVariables false

theorem Two.b {X Z : Nat → Prop} {w0 : World} {S : Nat} {f : T.Fl} {c : Array Value} {W : World} (h : Two X Z w0 S f c W) : Below w0.heap.size w0 W := by
  obtain ⟨g, ct, pv, F, a2, a3, h4, h5, h6, h7, h8⟩ := h; exact h7
/-- A struct is loaded from the midst of a block. -/
theorem run_M {S : World → Prop} {op : Oper} {a : Act} {x : Operand} {ty : TypeId} {n R o : Nat} {c : Array Value} (ht : RowT ty n) (ho : op.op = .load ty x) (hx : a.eval x = .pointer (some ⟨R, o, none⟩)) (hs : c.size = n) (hS : ∀ W, S W → W.rangeAt R o c.toList) : ∀ W, S W → (execOp a.eval op).run Tryz.prog W = .ok (.value (.agg c)) W := fun W hW => by
  obtain ⟨de, hu⟩ := ht.u
  have := run_loadAt_mid (P := Tryz.prog) W R o ty c.toList _ (hS W hW) hu rfl (by rw [ht.i]; simp [hs])
  unfold execOp
  simp only [ho, hx, Sem.run_bind, this, Result.andThen_ok]
  rfl
/-- Two flows, apart, and two of the document's, apart from both (these may share what they only read); all made behind w0; the blocks Z are others'. -/
def Cp (Z : Nat → Prop) (w0 : World) (S1 S2 : Nat) (f1 f2 : T.Fl) (c1 c2 : Array Value) (W : World) : Prop :=
  ∃ g1 ct1 pv1 F1 g2 ct2 pv2 F2, (c1 = rfc f1.fr f1.se f1.mo (tbV g1 f1.ss.length ct1) pv1 ∧ At W S1 f1 F1 ∧ RvI W f1 g1 ct1 pv1) ∧ (c2 = rfc f2.fr f2.se f2.mo (tbV g2 f2.ss.length ct2) pv2 ∧ At W S2 f2 F2 ∧ RvI W f2 g2 ct2 pv2) ∧
  (∀ k, rvB g1 pv1 k → ¬ F1 k ∧ ¬ F2 k) ∧ (∀ k, rvB g2 pv2 k → ¬ F1 k ∧ ¬ F2 k) ∧ (∀ k, F1 k → w0.heap.size ≤ k ∧ ¬ F2 k) ∧ (∀ k, F2 k → w0.heap.size ≤ k) ∧ Below w0.heap.size w0 W ∧
  ∀ k, Z k → k < W.heap.size ∧ (¬ F1 k ∧ ¬ F2 k) ∧ ¬ rvB g1 pv1 k ∧ ¬ rvB g2 pv2 k
/-- Calls, one behind the other. -/
def runF (f : T.Fl) (l : List Ac) : T.Fl := l.foldl stepS f
theorem runF_next {f : T.Fl} {ys : List Ac} {k : Nat} {a : Ac} (h : ys[k]? = some a) : runF f (ys.take (k + 1)) = stepS (runF f (ys.take k)) a := by
  unfold runF
  rw [List.take_add_one, h]
  simp [List.foldl_append]
section
variable {Z : Nat → Prop} {w0 W W' : World} {S1 S2 : Nat} {f f1 f2 : T.Fl} {c c1 c2 : Array Value}
theorem Cp.b (h : Cp Z w0 S1 S2 f1 f2 c1 c2 W) : Below w0.heap.size w0 W := by
  obtain ⟨g1, ct1, pv1, F1, g2, ct2, pv2, F2, a, b, d1, d2, d3, d4, d5, d6⟩ := h; exact d5
theorem Cp.swap (h : Cp Z w0 S1 S2 f1 f2 c1 c2 W) : Cp Z w0 S2 S1 f2 f1 c2 c1 W := by
  obtain ⟨g1, ct1, pv1, F1, g2, ct2, pv2, F2, a, b, d1, d2, d3, d4, d5, d6⟩ := h
  exact ⟨g2, ct2, pv2, F2, g1, ct1, pv1, F1, b, a, fun k hk => (d2 k hk).symm, fun k hk => (d1 k hk).symm, fun k hk => ⟨d4 k hk, fun e => (d3 k e).2 hk⟩, fun k hk => (d3 k hk).1, d5, fun k hk => ⟨(d6 k hk).1, (d6 k hk).2.1.symm, (d6 k hk).2.2.symm⟩⟩
theorem Cp.after (h : Cp Z w0 S1 S2 f1 f2 c1 c2 W) (hb : Below W.heap.size W W') : Cp Z w0 S1 S2 f1 f2 c1 c2 W' := by
  obtain ⟨g1, ct1, pv1, F1, g2, ct2, pv2, F2, ⟨a1, a2, a3⟩, ⟨b1, b2, b3⟩, d1, d2, d3, d4, d5, d6⟩ := h
  exact ⟨g1, ct1, pv1, F1, g2, ct2, pv2, F2, ⟨a1, a2.below hb, a3.below hb⟩, ⟨b1, b2.below hb, b3.below hb⟩, d1, d2, d3, d4, d5.trans (hb.mono d5.size), fun k hk => ⟨by have := (d6 k hk).1; have := hb.size; omega, (d6 k hk).2⟩⟩
/-- One of the others' blocks is written. -/
theorem Cp.turned (h : Cp Z w0 S1 S2 f1 f2 c1 c2 W) {G : Nat → Prop} (ht : Turned G W W') (hG : ∀ k, G k → Z k ∧ w0.heap.size ≤ k) : Cp Z w0 S1 S2 f1 f2 c1 c2 W' := by
  obtain ⟨g1, ct1, pv1, F1, g2, ct2, pv2, F2, ⟨a1, a2, a3⟩, ⟨b1, b2, b3⟩, d1, d2, d3, d4, d5, d6⟩ := h
  exact ⟨g1, ct1, pv1, F1, g2, ct2, pv2, F2, ⟨a1, a2.turned ht (fun k hk e => (d6 k (hG k e).1).2.1.1 hk), a3.stay (fun k hk => ht.block k (a3.lt hk) (fun e => (d6 k (hG k e).1).2.2.1 hk))⟩,
    ⟨b1, b2.turned ht (fun k hk e => (d6 k (hG k e).1).2.1.2 hk), b3.stay (fun k hk => ht.block k (b3.lt hk) (fun e => (d6 k (hG k e).1).2.2.2 hk))⟩, d1, d2, d3, d4, d5.trans (ht.below d5.size (fun k e => (hG k e).2)), fun k hk => ⟨by have := (d6 k hk).1; have := ht.size; omega, (d6 k hk).2⟩⟩
/-- More blocks are others'. -/
theorem Cp.more {Y : Nat → Prop} (h : Cp Z w0 S1 S2 f1 f2 c1 c2 W) (hb : Below W.heap.size W W') (hY : ∀ k, Y k → Z k ∨ (W.heap.size ≤ k ∧ k < W'.heap.size)) : Cp Y w0 S1 S2 f1 f2 c1 c2 W' := by
  obtain ⟨g1, ct1, pv1, F1, g2, ct2, pv2, F2, ⟨a1, a2, a3⟩, ⟨b1, b2, b3⟩, d1, d2, d3, d4, d5, d6⟩ := h
  refine ⟨g1, ct1, pv1, F1, g2, ct2, pv2, F2, ⟨a1, a2.below hb, a3.below hb⟩, ⟨b1, b2.below hb, b3.below hb⟩, d1, d2, d3, d4, d5.trans (hb.mono d5.size), fun k hk => ?_⟩
  rcases hY k hk with e | e
  · exact ⟨by have := (d6 k e).1; have := hb.size; omega, (d6 k e).2⟩
  · exact ⟨e.2, ⟨fun e' => by have := a2.lt e'; omega, fun e' => by have := b2.lt e'; omega⟩, fun e' => by have := a3.lt e'; omega, fun e' => by have := b3.lt e'; omega⟩
/-- The copy is made. -/
theorem Cp.of {X : Nat → Prop} (h : Two X Z w0 S1 f c W) (hb : Below W.heap.size W W') {F2 : Nat → Prop} (h2 : At W' S2 f F2) (hF : ∀ k, F2 k → W.heap.size ≤ k) : Cp Z w0 S1 S2 f f c c W' := by
  obtain ⟨g, ct, pv, F, rfl, a2, a3, h4, h5, h6, h7, h8⟩ := h
  have hz := h6.size
  have q : ∀ k, rvB g pv k → ¬ F k ∧ ¬ F2 k := fun k hk => ⟨h4 k hk, fun e => by have := hF k e; have := a3.lt hk; omega⟩
  refine ⟨g, ct, pv, F, g, ct, pv, F2, ⟨rfl, a2.below hb, a3.below hb⟩, ⟨rfl, h2, a3.below hb⟩, q, q, fun k hk => ⟨h5 k hk, fun e => by have := hF k e; have := a2.lt hk; omega⟩, fun k hk => by have := hF k hk; omega, h6.trans (hb.mono h6.size), fun k hk => ?_⟩
  obtain ⟨e1, e2, e3⟩ := h8 k hk
  exact ⟨by have := hb.size; omega, ⟨e2, fun e => by have := hF k e; omega⟩, e3, e3⟩
/-- The first one alone. -/
theorem Cp.two (h : Cp Z w0 S1 S2 f1 f2 c1 c2 W) : Two Z Z w0 S1 f1 c1 W := by
  obtain ⟨g1, ct1, pv1, F1, g2, ct2, pv2, F2, ⟨a1, a2, a3⟩, ⟨b1, b2, b3⟩, d1, d2, d3, d4, d5, d6⟩ := h
  exact ⟨g1, ct1, pv1, F1, a1, a2, a3, fun k hk => (d1 k hk).1, fun k hk => (d3 k hk).1, d5, fun k hk => ⟨(d6 k hk).1, (d6 k hk).2.1.1⟩, fun k hk => ⟨(d6 k hk).1, (d6 k hk).2.1.1, (d6 k hk).2.2.1⟩⟩
theorem Cp.ok (h : Cp Z w0 S1 S2 f1 f2 c1 c2 W) : Ok1 5 c1 ∧ FOk f1 := h.two.ok
theorem Cp.ats (h : Cp Z w0 S1 S2 f1 f2 c1 c2 W) : ∃ F1 F2, At W S1 f1 F1 ∧ At W S2 f2 F2 := by
  obtain ⟨g1, ct1, pv1, F1, g2, ct2, pv2, F2, ⟨a1, a2, a3⟩, ⟨b1, b2, b3⟩, d⟩ := h
  exact ⟨F1, F2, a2, b2⟩
/-- A step by the first ones. -/
theorem Cp.does (h : Cp Z w0 S1 S2 f1 f2 c1 c2 W) (a : Ac) (ha : a.Ok) {tv : Value} (HT : ∀ W, Below w0.heap.size w0 W → TsIn W tv a.ts) (hn : ¬ (200 < a.n ∧ a.n ≤ 65536)) (ht : a.ts.length ≤ 20) (hl : f1.ps.length ≤ 800000) :
    Calls Tryz.prog 21 #[.pointer (some ⟨S1, 0, none⟩), .agg c1, .agg (acc a tv)] W fun e W' => ∃ c', e = .returned (.tuple #[.agg c', .bool true]) ∧ Cp Z w0 S1 S2 (stepS f1 a) f2 c' c2 W' ∧ Turned (fun k => w0.heap.size ≤ k ∧ ¬ Z k) W W' := by
  obtain ⟨g1, ct1, pv1, F1, g2, ct2, pv2, F2, ⟨a1, a2, a3⟩, ⟨b1, b2, b3⟩, d1, d2, d3, d4, d5, d6⟩ := h
  have hT : Two (fun k => F2 k ∨ rvB g2 pv2 k ∨ Z k) (fun k => F2 k ∨ Z k) w0 S1 f1 c1 W := ⟨g1, ct1, pv1, F1, a1, a2, a3, fun k hk => (d1 k hk).1, fun k hk => (d3 k hk).1, d5, fun k hk => by
    rcases hk with e | e | e
    · exact ⟨b2.lt e, fun e' => (d3 k e').2 e⟩
    · exact ⟨b3.lt e, (d2 k e).1⟩
    · exact ⟨(d6 k e).1, (d6 k e).2.1.1⟩, fun k hk => by
    rcases hk with e | e
    · exact ⟨b2.lt e, fun e' => (d3 k e').2 e, fun e' => (d1 k e').2 e⟩
    · exact ⟨(d6 k e).1, (d6 k e).2.1.1, (d6 k e).2.2.1⟩⟩
  refine (does_any hT a ha HT hn ht hl).mono ?_
  rintro e W' ⟨c', e1, ⟨g', ct', pv', F', k1, k2, k3, k4, k5, k6, k7, k8⟩, hu⟩
  refine ⟨c', e1, ⟨g', ct', pv', F', g2, ct2, pv2, F2, ⟨k1, k2, k3⟩, ⟨b1, b2.turned hu (fun k hk e => e.2 (.inl hk)), b3.stay (fun k hk => hu.block k (b3.lt hk) (fun e => e.2 (.inr (.inl hk))))⟩, fun k hk => ⟨k4 k hk, fun e => (k8 k (.inl e)).2.2 hk⟩, fun k hk => ⟨(k7 k (.inr (.inl hk))).2, (d2 k hk).2⟩, fun k hk => ⟨k5 k hk, fun e => (k7 k (.inl e)).2 hk⟩, d4, k6, fun k hk => ⟨(k8 k (.inr hk)).1, ⟨(k8 k (.inr hk)).2.1, (d6 k hk).2.1.2⟩, (k8 k (.inr hk)).2.2, (d6 k hk).2.2.2⟩⟩, hu.mono fun k hk => ⟨hk.1, fun e => hk.2 (.inr (.inr e))⟩⟩
end
/-- The box that counts. -/
abbrev ctL (S0 : Nat) (q : Nat) : List Bx := [(S0, #[.int .i64 (q : Int)], 3)]
theorem ct_set {w W : World} {q : Nat} (h : Bxs w (ctL w.heap.size q) W) (v : Int) (hv : v = ((q + 1 : Nat) : Int)) : Bxs w (ctL w.heap.size (q + 1)) (W.setCell ⟨w.heap.size, 0, none⟩ (.int .i64 v)) ∧ Turned (fun k => k = w.heap.size) W (W.setCell ⟨w.heap.size, 0, none⟩ (.int .i64 v)) := by
  subst hv
  have a0 := h.get w.heap.size (cs := #[.int .i64 (q : Int)]) (ty := 3) (by simp)
  refine ⟨⟨h.below.setCell (p := ⟨w.heap.size, 0, none⟩) (by simp) _, fun p hp => ?_⟩, (Turned.refl (fun k => k = w.heap.size) W).setCell (p := ⟨w.heap.size, 0, none⟩) (.inl rfl) _⟩
  simp only [List.mem_cons, List.not_mem_nil, or_false] at hp
  subst hp
  exact a0.setCell 0 _
/-- Blocks that a loop leaves as they are. -/
def Kp9 (P : Nat → Prop) (W9 W : World) : Prop := (∀ k, P k → k < W9.heap.size) ∧ W9.heap.size ≤ W.heap.size ∧ ∀ k, P k → W.heap[k]? = W9.heap[k]?
theorem Kp9.start {P : Nat → Prop} {W : World} (h : ∀ k, P k → k < W.heap.size) : Kp9 P W W := ⟨h, Nat.le_refl _, fun _ _ => rfl⟩
theorem Kp9.drew {P : Nat → Prop} {W9 W : World} (h : Kp9 P W9 W) : Kp9 P W9 W.drew := h
theorem Kp9.below {P : Nat → Prop} {W9 W W' : World} (h : Kp9 P W9 W) (hb : Below W.heap.size W W') : Kp9 P W9 W' :=
  ⟨h.1, Nat.le_trans h.2.1 hb.size, fun k hk => (hb.block k (Nat.lt_of_lt_of_le (h.1 k hk) h.2.1)).trans (h.2.2 k hk)⟩
theorem Kp9.turned {P G : Nat → Prop} {W9 W W' : World} (h : Kp9 P W9 W) (ht : Turned G W W') (hn : ∀ k, P k → ¬ G k) : Kp9 P W9 W' :=
  ⟨h.1, Nat.le_trans h.2.1 ht.size, fun k hk => (ht.block k (Nat.lt_of_lt_of_le (h.1 k hk) h.2.1) (hn k hk)).trans (h.2.2 k hk)⟩
end Go.Proofs.YtdpdoclhdjhjkaaGreat
