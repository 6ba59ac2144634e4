/-
  Layer 12: two flows apart, and boxes; what a call of either leaves. No walk. Layer 12: a function whose result lies in a box is left: each mark is taken over.
-/
import Derived.Test.YtdpdoclhdjhjkaaGreatG24
import Derived.Test.YtdpdoclhdjhjkaaGreatG18
import Derived.Test.YtdpdoclhdjhjkaaGreatG45
import Derived.Test.YtdpdoclhdjhjkaaGreatG23
set_option linter.unusedVariables false
set_option linter.unusedSimpArgs false
namespace Go.Proofs.YtdpdoclhdjhjkaaGreat
open Go.RowKit
set_option linter.unusedVariables false

theorem ActsIn.fix {w : World} {v : Value} {xs : List Ac} (h : ActsIn w v xs) {k : Nat} (hk : k < xs.length) : ∃ g o c a tv, v = .slice (some ⟨g, o, none⟩) xs.length c ∧ xs[k]? = some a ∧ a.Ok ∧ g < w.heap.size ∧ ∀ W, Below w.heap.size w W → AtC W g (o + k * 6) a tv ∧ TsIn W tv a.ts ∧ W.rangeAt g (o + k * 6) (acc a tv).toList := by
  obtain ⟨g, o, c, a, tv, e, ha, hok, hts, hat, hr⟩ := h.at_ hk
  exact ⟨g, o, c, a, tv, e, ha, hok, World.block_lt_of_cell? _ _ hat.k, fun W hb => ⟨hat.below hb, hts.below hb, fun j u hj => cell_below (hr j u hj) hb⟩⟩
theorem Bxs.one {w W : World} {L : List Bx} (h : Bxs w L W) (b : Nat) {v : Value} {ty : TypeId} (hm : (b, #[v], ty) ∈ L) : W.cell? ⟨b, 0, none⟩ = some v := (h.get b hm).cell 0
theorem Bxs.fz {w W : World} {L : List Bx} (h : Bxs w L W) (b : Nat) {v : Value} {ty : TypeId} (hm : (b, #[v], ty) ∈ L) : W.frozen? ⟨b, 0, none⟩ = false := (h.get b hm).frozen 0
/-- Two flows, apart, both made behind w0, and boxes. -/
structure LeI (w0 : World) (L : List Bx) (S1 S2 : Nat) (f g : T.Fl) (F1 F2 : Nat → Prop) (W : World) : Prop where
  a1 : At W S1 f F1
  a2 : At W S2 g F2
  l1 : ∀ k, F1 k → w0.heap.size ≤ k
  l2 : ∀ k, F2 k → w0.heap.size ≤ k
  sep : ∀ k, F1 k → ¬ F2 k
  bx : Bxs w0 L W
  xs : ∀ p ∈ L, ¬ F1 p.1 ∧ ¬ F2 p.1
def LeE (w0 : World) (L : List Bx) (S1 S2 : Nat) (f g : T.Fl) (W : World) : Prop := ∃ F1 F2, LeI w0 L S1 S2 f g F1 F2 W
theorem Bxs.keep {w W W' : World} {L : List Bx} (h : Bxs w L W) {F : Nat → Prop} (ht : Turned F W W') (hF : ∀ k, F k → w.heap.size ≤ k) (hn : ∀ p ∈ L, ¬ F p.1) : Bxs w L W' :=
  h.turned ht hF fun p hp => ⟨fun e => absurd e (hn p hp), fun _ => hp⟩
section
variable {w0 W W' : World} {L : List Bx} {S1 S2 : Nat} {f g f' : T.Fl} {F1 F2 : Nat → Prop}
theorem LeE.bx (h : LeE w0 L S1 S2 f g W) : Bxs w0 L W := by obtain ⟨_, _, h⟩ := h; exact h.bx
theorem LeE.b (h : LeE w0 L S1 S2 f g W) : Below w0.heap.size w0 W := h.bx.below
theorem LeE.ok (h : LeE w0 L S1 S2 f g W) : FOk f ∧ FOk g := by obtain ⟨_, _, h⟩ := h; exact ⟨h.a1.ok, h.a2.ok⟩
theorem LeI.after (h : LeI w0 L S1 S2 f g F1 F2 W) (hb : Below W.heap.size W W') : LeI w0 L S1 S2 f g F1 F2 W' :=
  ⟨h.a1.below hb, h.a2.below hb, h.l1, h.l2, h.sep, h.bx.after hb, h.xs⟩
theorem LeE.after (h : LeE w0 L S1 S2 f g W) (hb : Below W.heap.size W W') : LeE w0 L S1 S2 f g W' := by
  obtain ⟨F1, F2, h⟩ := h; exact ⟨F1, F2, h.after hb⟩
theorem LeE.swap (h : LeE w0 L S1 S2 f g W) : LeE w0 L S2 S1 g f W := by
  obtain ⟨F1, F2, h⟩ := h
  exact ⟨F2, F1, h.a2, h.a1, h.l2, h.l1, fun k h2 h1 => h.sep k h1 h2, h.bx, fun p hp => ⟨(h.xs p hp).2, (h.xs p hp).1⟩⟩
/-- A box more. -/
theorem LeE.box (h : LeE w0 L S1 S2 f g W) (cs : Array Value) (ty : TypeId) : LeE w0 ((W.heap.size, cs, ty) :: L) S1 S2 f g (W.alloc (.cells cs ty)) := by
  obtain ⟨F1, F2, h⟩ := h
  have hb := bel1 W (.cells cs ty)
  exact ⟨F1, F2, h.a1.below hb, h.a2.below hb, h.l1, h.l2, h.sep, h.bx.alloc cs ty, fun p hp => by
    rcases List.mem_cons.1 hp with rfl | hp
    · exact ⟨fun e => Nat.lt_irrefl _ (h.a1.lt e), fun e => Nat.lt_irrefl _ (h.a2.lt e)⟩
    · exact h.xs p hp⟩
/-- Fewer boxes, or others. -/
theorem LeE.less (h : LeE w0 L S1 S2 f g W) {L' : List Bx} (hL : ∀ p ∈ L', p ∈ L) : LeE w0 L' S1 S2 f g W := by
  obtain ⟨F1, F2, h⟩ := h
  exact ⟨F1, F2, h.a1, h.a2, h.l1, h.l2, h.sep, ⟨h.bx.below, fun p hp => h.bx.at_ p (hL p hp)⟩, fun p hp => h.xs p (hL p hp)⟩
theorem LeI.left (h : LeI w0 L S1 S2 f g F1 F2 W) (hc : Chg W S1 f' F1 W') : LeE w0 L S1 S2 f' g W' := by
  obtain ⟨F', h1, h2, h3⟩ := hc
  have hz := h.bx.below.size
  refine ⟨F', F2, h1, h.a2.turned h3 (fun k hk e => h.sep k e hk), fun k hk => ?_, h.l2, fun k hk e => ?_, h.bx.keep h3 h.l1 (fun p hp => (h.xs p hp).1), fun p hp => ⟨fun e => ?_, (h.xs p hp).2⟩⟩
  · rcases h2 k hk with e | e
    · exact h.l1 k e
    · omega
  · rcases h2 k hk with e' | e'
    · exact h.sep k e' e
    · have := h.a2.lt e; omega
  · rcases h2 _ e with e' | e'
    · exact (h.xs p hp).1 e'
    · have := (h.bx.at_ p hp).lt; omega
theorem LeE.mark1 (h : LeE w0 L S1 S2 f g W) (p : T.Pl) (hp : Pi p) (n s : Int) (hn : I64 n) (hs : W32 s) : Calls Tryz.prog 11 #[.pointer (some ⟨S1, 0, none⟩), .agg (pla p), .int .i64 n, .int .u32 s] W fun e W' =>
    e = .returned (.int .i64 (f.mark p n s).2) ∧ LeE w0 L S1 S2 (f.mark p n s).1 g W' := by
  obtain ⟨F1, F2, h⟩ := h
  exact (Mark_any h.a1 p hp n s hn hs).mono fun e W' ⟨h1, h2⟩ => ⟨h1, h.left h2⟩
theorem LeE.mark2 (h : LeE w0 L S1 S2 f g W) (p : T.Pl) (hp : Pi p) (n s : Int) (hn : I64 n) (hs : W32 s) : Calls Tryz.prog 11 #[.pointer (some ⟨S2, 0, none⟩), .agg (pla p), .int .i64 n, .int .u32 s] W fun e W' =>
    e = .returned (.int .i64 (g.mark p n s).2) ∧ LeE w0 L S1 S2 f (g.mark p n s).1 W' :=
  (h.swap.mark1 p hp n s hn hs).mono fun e W' ⟨h1, h2⟩ => ⟨h1, h2.swap⟩
theorem LeE.apply1 (h : LeE w0 L S1 S2 f g W) {v : Value} {ts : List T.Tc} (hv : ∀ W, Below w0.heap.size w0 W → TsIn W v ts) (hl : ts.length ≤ 100000) : Calls Tryz.prog 12 #[.pointer (some ⟨S1, 0, none⟩), v] W fun e W' =>
    e = .returned (.int .i64 (f.apply ts).2) ∧ LeE w0 L S1 S2 (f.apply ts).1 g W' := by
  obtain ⟨F1, F2, h⟩ := h
  exact (Apply_any h.a1 (ts := ts) (fun V ht => hv V (h.bx.below.trans (ht.below h.bx.below.size h.l1))) hl).mono fun e W' ⟨h1, h2⟩ => ⟨h1, h.left h2⟩
theorem LeE.apply2 (h : LeE w0 L S1 S2 f g W) {v : Value} {ts : List T.Tc} (hv : ∀ W, Below w0.heap.size w0 W → TsIn W v ts) (hl : ts.length ≤ 100000) : Calls Tryz.prog 12 #[.pointer (some ⟨S2, 0, none⟩), v] W fun e W' =>
    e = .returned (.int .i64 (g.apply ts).2) ∧ LeE w0 L S1 S2 f (g.apply ts).1 W' :=
  (h.swap.apply1 hv hl).mono fun e W' ⟨h1, h2⟩ => ⟨h1, h2.swap⟩
end
/-- One flow alone, made behind w0, and boxes. -/
def OnE (w0 : World) (L : List Bx) (S : Nat) (f : T.Fl) (W : World) : Prop := ∃ F, At W S f F ∧ (∀ k, F k → w0.heap.size ≤ k) ∧ Bxs w0 L W ∧ ∀ p ∈ L, ¬ F p.1
section
variable {w0 W W' : World} {L : List Bx} {S S' : Nat} {f g : T.Fl}
theorem OnE.after (h : OnE w0 L S f W) (hb : Below W.heap.size W W') : OnE w0 L S f W' := by
  obtain ⟨F, h1, h2, h3, h4⟩ := h; exact ⟨F, h1.below hb, h2, h3.after hb, h4⟩
theorem OnE.box (h : OnE w0 L S f W) (cs : Array Value) (ty : TypeId) : OnE w0 ((W.heap.size, cs, ty) :: L) S f (W.alloc (.cells cs ty)) := by
  obtain ⟨F, h1, h2, h3, h4⟩ := h
  exact ⟨F, h1.below (bel1 W _), h2, h3.alloc cs ty, fun p hp => by
    rcases List.mem_cons.1 hp with rfl | hp
    · exact fun e => Nat.lt_irrefl _ (h1.lt e)
    · exact h4 p hp⟩
theorem OnE.bx (h : OnE w0 L S f W) : Bxs w0 L W := by obtain ⟨F, h1, h2, h3, h4⟩ := h; exact h3
theorem OnE.ok (h : OnE w0 L S f W) : FOk f := by obtain ⟨F, h1, _⟩ := h; exact h1.ok
/-- Another flow is made beside it. -/
theorem OnE.with (h : OnE w0 L S f W) (hb : Below W.heap.size W W') {G : Nat → Prop} (hg : At W' S' g G) (hG : ∀ k, G k → W.heap.size ≤ k) : LeE w0 L S S' f g W' := by
  obtain ⟨F, h1, h2, h3, h4⟩ := h
  have hz := h3.below.size
  exact ⟨F, G, h1.below hb, hg, h2, fun k hk => by have := hG k hk; omega, fun k hk e => by have := hG k e; have := h1.lt hk; omega, h3.after hb, fun p hp => ⟨h4 p hp, fun e => by have := hG _ e; have := (h3.at_ p hp).lt; omega⟩⟩
theorem LeE.first (h : LeE w0 L S S' f g W) : OnE w0 L S f W := by
  obtain ⟨F1, F2, h⟩ := h; exact ⟨F1, h.a1, h.l1, h.bx, fun p hp => (h.xs p hp).1⟩
end
end Go.Proofs.YtdpdoclhdjhjkaaGreat
namespace Go.Proofs.YtdpdoclhdjhjkaaGreat
open Go.RowKit Go.Shelf
set_option linter.unusedVariables false

theorem leaves_cell {n : Nat} {fn : Func} {tmps : Array Value} {w : World} {B0 : Nat} (hB : w.heap.size ≤ B0) (hres : ∀ W : World, W.cell? ⟨B0, 0, none⟩ = some (.bool true) → (results fn tmps).run Tryz.prog W = .ok (.bool true) W) {R : Ending → World → Prop} (hR : ∀ W, Below w.heap.size w W → R (.returned (.bool true)) W) :
    ∀ (Ds : List Nat) (W : World), Ds.Nodup → (∀ i ∈ Ds, w.heap.size ≤ i ∧ i ≠ B0 ∧ W.heap[i]? = some (.deferred (some []))) → W.cell? ⟨B0, 0, none⟩ = some (.bool true) → Below w.heap.size w W → LeavesInM Fence.wide n Tryz.prog fn tmps R (Ds.map mkD) .returning W
  | [], W, _, _, hc, hb => ⟨_, hres W hc, hR W hb⟩
  | D :: Ds, W, hn, hd, hc, hb => by
    obtain ⟨h1, h2⟩ := List.nodup_cons.1 hn
    have hD := hd D (by simp)
    refine ⟨by simp, .inl ⟨D, _, rfl, run_takeDeferred hD.2.2, leaves_cell hB hres hR Ds _ h2 (fun i hi => ⟨(hd i (by simp [hi])).1, (hd i (by simp [hi])).2.1, ?_⟩) ?_ (hb.trans (belowK_b (w := w) (Nat.le_refl _) _ D _ _ hD.1 hD.2.2 rfl rfl))⟩⟩
    · exact (World.putObj_heap_other (fun e => h1 (by subst e; exact hi))).trans (hd i (by simp [hi])).2.2
    · exact (cell_putObj (fun e => hD.2.1 e.symm)).trans hc
end Go.Proofs.YtdpdoclhdjhjkaaGreat
