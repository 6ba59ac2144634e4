/-
  Layer 12: FlowFull's loop: a flow, its copy, boxes, and the marks that the rounds leave. No walk.
-/
import Derived.Test.YtdpdoclhdjhjkaaGreatG46
import Derived.Test.YtdpdoclhdjhjkaaGreatG23
import Derived.Test.YtdpdoclhdjhjkaaGreatG27
set_option linter.unusedVariables false
set_option linter.unusedSimpArgs false
namespace Go.Proofs.YtdpdoclhdjhjkaaGreat
open Go.RowKit
set_option linter.unusedVariables false

/-- The marks of the rounds: blocks of nobody. -/
def Dfs (z : Nat) (F : Nat → Prop) (Ds : List Nat) (W : World) : Prop := Ds.Nodup ∧ ∀ i ∈ Ds, z < i ∧ ¬ F i ∧ W.heap[i]? = some (.deferred (some []))
theorem Dfs.lt {z : Nat} {F : Nat → Prop} {Ds : List Nat} {W : World} (h : Dfs z F Ds W) {i : Nat} (hi : i ∈ Ds) : i < W.heap.size := (Array.getElem?_eq_some_iff.1 (h.2 i hi).2.2).1
theorem Dfs.after {z : Nat} {F : Nat → Prop} {Ds : List Nat} {W W' : World} (h : Dfs z F Ds W) (hb : Below W.heap.size W W') : Dfs z F Ds W' :=
  ⟨h.1, fun i hi => ⟨(h.2 i hi).1, (h.2 i hi).2.1, (hb.block i (h.lt hi)).trans (h.2 i hi).2.2⟩⟩
theorem Dfs.cons {z : Nat} {F : Nat → Prop} {Ds : List Nat} {W W' : World} (h : Dfs z F Ds W) (hb : Below W.heap.size W W') (hF : ∀ k, F k → k < W.heap.size) (hz : z < W.heap.size) {D : Nat} (hD : W.heap.size ≤ D) (hD0 : W'.heap[D]? = some (.deferred (some []))) : Dfs z F (D :: Ds) W' := by
  refine ⟨List.nodup_cons.2 ⟨fun e => ?_, h.1⟩, fun i hi => ?_⟩
  · have := h.lt e; omega
  · rcases List.mem_cons.1 hi with rfl | hi
    · exact ⟨by omega, fun e => by have := hF _ e; omega, hD0⟩
    · exact (h.after hb).2 i hi
/-- One flow, boxes and marks. -/
def FuO (w0 : World) (L : List Bx) (S : Nat) (f : T.Fl) (Ds : List Nat) (W : World) : Prop := ∃ F, At W S f F ∧ (∀ k, F k → w0.heap.size ≤ k) ∧ Bxs w0 L W ∧ (∀ p ∈ L, ¬ F p.1) ∧ Dfs w0.heap.size F Ds W
/-- Two flows apart, boxes and marks. -/
def FuE (w0 : World) (L : List Bx) (S1 S2 : Nat) (f g : T.Fl) (Ds : List Nat) (W : World) : Prop := ∃ F1 F2, LeI w0 L S1 S2 f g F1 F2 W ∧ Dfs w0.heap.size F1 Ds W
section
variable {w0 W W' : World} {L : List Bx} {S S1 S2 S' : Nat} {f g f' : T.Fl} {Ds : List Nat} {F1 F2 : Nat → Prop}
theorem FuO.of (h : OnE w0 L S f W) : FuO w0 L S f [] W := by
  obtain ⟨F, h1, h2, h3, h4⟩ := h
  exact ⟨F, h1, h2, h3, h4, List.nodup_nil, fun i hi => by simp at hi⟩
theorem FuO.on (h : FuO w0 L S f Ds W) : OnE w0 L S f W := by
  obtain ⟨F, h1, h2, h3, h4, h5⟩ := h
  exact ⟨F, h1, h2, h3, h4⟩
theorem FuO.dfs (h : FuO w0 L S f Ds W) : Ds.Nodup ∧ ∀ i ∈ Ds, w0.heap.size < i ∧ W.heap[i]? = some (.deferred (some [])) := by
  obtain ⟨F, h1, h2, h3, h4, h5⟩ := h
  exact ⟨h5.1, fun i hi => ⟨(h5.2 i hi).1, (h5.2 i hi).2.2⟩⟩
theorem FuO.after (h : FuO w0 L S f Ds W) (hb : Below W.heap.size W W') : FuO w0 L S f Ds W' := by
  obtain ⟨F, h1, h2, h3, h4, h5⟩ := h
  exact ⟨F, h1.below hb, h2, h3.after hb, h4, h5.after hb⟩
theorem FuE.after (h : FuE w0 L S1 S2 f g Ds W) (hb : Below W.heap.size W W') : FuE w0 L S1 S2 f g Ds W' := by
  obtain ⟨F1, F2, h, hd⟩ := h
  exact ⟨F1, F2, h.after hb, hd.after hb⟩
theorem FuE.le (h : FuE w0 L S1 S2 f g Ds W) : LeE w0 L S1 S2 f g W := by
  obtain ⟨F1, F2, h, hd⟩ := h; exact ⟨F1, F2, h⟩
theorem FuE.first (h : FuE w0 L S1 S2 f g Ds W) {L' : List Bx} (hL : ∀ p ∈ L', p ∈ L) : FuO w0 L' S1 f Ds W := by
  obtain ⟨F1, F2, h, hd⟩ := h
  exact ⟨F1, h.a1, h.l1, ⟨h.bx.below, fun p hp => h.bx.at_ p (hL p hp)⟩, fun p hp => (h.xs p (hL p hp)).1, hd⟩
/-- Another flow is made beside it. -/
theorem FuO.with (h : FuO w0 L S f Ds W) (hb : Below W.heap.size W W') {G : Nat → Prop} (hg : At W' S' g G) (hG : ∀ k, G k → W.heap.size ≤ k) : FuE w0 L S S' f g Ds W' := by
  obtain ⟨F, h1, h2, h3, h4, h5⟩ := h
  have hz := h3.below.size
  exact ⟨F, G, ⟨h1.below hb, hg, h2, fun k hk => by have := hG k hk; omega, fun k hk e => by have := hG k e; have := h1.lt hk; omega, h3.after hb, fun p hp => ⟨h4 p hp, fun e => by have := hG _ e; have := (h3.at_ p hp).lt; omega⟩⟩, h5.after hb⟩
theorem FuE.box (h : FuE w0 L S1 S2 f g Ds W) (cs : Array Value) (ty : TypeId) : FuE w0 ((W.heap.size, cs, ty) :: L) S1 S2 f g Ds (W.alloc (.cells cs ty)) := by
  obtain ⟨F1, F2, h, hd⟩ := h
  have hb := bel1 W (.cells cs ty)
  exact ⟨F1, F2, ⟨h.a1.below hb, h.a2.below hb, h.l1, h.l2, h.sep, h.bx.alloc cs ty, fun p hp => by
    rcases List.mem_cons.1 hp with rfl | hp
    · exact ⟨fun e => Nat.lt_irrefl _ (h.a1.lt e), fun e => Nat.lt_irrefl _ (h.a2.lt e)⟩
    · exact h.xs p hp⟩, hd.after hb⟩
/-- A round's mark. -/
theorem FuE.mark (h : FuE w0 L S1 S2 f g Ds W) (hb : Below W.heap.size W W') (hz : w0.heap.size < W.heap.size) {D : Nat} (hD : W.heap.size ≤ D) (hD0 : W'.heap[D]? = some (.deferred (some []))) : FuE w0 L S1 S2 f g (D :: Ds) W' := by
  obtain ⟨F1, F2, h, hd⟩ := h
  exact ⟨F1, F2, h.after hb, hd.cons hb (fun k hk => h.a1.lt hk) hz hD hD0⟩
theorem FuE.left (h : LeI w0 L S1 S2 f g F1 F2 W) (hd : Dfs w0.heap.size F1 Ds W) (hc : Chg W S1 f' F1 W') : FuE w0 L S1 S2 f' g Ds W' := by
  obtain ⟨F', h1, h2, h3⟩ := hc
  have hz := h.bx.below.size
  refine ⟨F', F2, ⟨h1, h.a2.turned h3 (fun k hk e => h.sep k e hk), fun k hk => ?_, h.l2, fun k hk e => ?_, h.bx.keep h3 h.l1 (fun p hp => (h.xs p hp).1), fun p hp => ⟨fun e => ?_, (h.xs p hp).2⟩⟩, hd.1, fun i hi => ⟨(hd.2 i hi).1, fun e => ?_, (h3.block i (hd.lt hi) (hd.2 i hi).2.1).trans (hd.2 i hi).2.2⟩⟩
  · rcases h2 k hk with e | e
    · exact h.l1 k e
    · omega
  · rcases h2 k hk with e' | e'
    · exact h.sep k e' e
    · have := h.a2.lt e; omega
  · rcases h2 _ e with e' | e'
    · exact (h.xs p hp).1 e'
    · have := (h.bx.at_ p hp).lt; omega
  · rcases h2 _ e with e' | e'
    · exact (hd.2 i hi).2.1 e'
    · have := hd.lt hi; omega
theorem FuE.mark1 (h : FuE w0 L S1 S2 f g Ds W) (p : T.Pl) (hp : Pi p) (n s : Int) (hn : I64 n) (hs : W32 s) : Calls Tryz.prog 11 #[.pointer (some ⟨S1, 0, none⟩), .agg (pla p), .int .i64 n, .int .u32 s] W fun e W' =>
    e = .returned (.int .i64 (f.mark p n s).2) ∧ FuE w0 L S1 S2 (f.mark p n s).1 g Ds W' := by
  obtain ⟨F1, F2, h, hd⟩ := h
  exact (Mark_any h.a1 p hp n s hn hs).mono fun e W' ⟨h1, h2⟩ => ⟨h1, FuE.left h hd h2⟩
theorem FuE.apply1 (h : FuE w0 L S1 S2 f g Ds W) {v : Value} {ts : List T.Tc} (hv : ∀ W, Below w0.heap.size w0 W → TsIn W v ts) (hl : ts.length ≤ 100000) : Calls Tryz.prog 12 #[.pointer (some ⟨S1, 0, none⟩), v] W fun e W' =>
    e = .returned (.int .i64 (f.apply ts).2) ∧ FuE w0 L S1 S2 (f.apply ts).1 g Ds W' := by
  obtain ⟨F1, F2, h, hd⟩ := h
  exact (Apply_any h.a1 (ts := ts) (fun V ht => hv V (h.bx.below.trans (ht.below h.bx.below.size h.l1))) hl).mono fun e W' ⟨h1, h2⟩ => ⟨h1, FuE.left h hd h2⟩
end
end Go.Proofs.YtdpdoclhdjhjkaaGreat
