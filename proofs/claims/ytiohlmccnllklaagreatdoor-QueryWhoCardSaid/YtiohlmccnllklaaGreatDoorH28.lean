/-
  Layer 12: what a flow is, what its methods give: the texts of the landed code, gathered. Layer 12: does of the statements: a call by both: a walk.
-/
import Derived.Test.YtiohlmccnllklaaGreatDoorH21
import Derived.Test.YtiohlmccnllklaaGreatDoorH19
import Derived.Test.YtiohlmccnllklaaGreatDoorH18
import Derived.Test.YtiohlmccnllklaaGreatDoorH20
import Derived.Test.YtiohlmccnllklaaGreatDoorH23
set_option linter.unusedVariables false
set_option linter.unusedSimpArgs false

namespace Go.Proofs.YtiohlmccnllklaaGreatDoor
open Go.RowKit
set_option maxHeartbeats 8000000
set_option maxRecDepth 100000
set_option linter.unusedVariables false
set_option linter.unusedSimpArgs false

theorem rt_stay {w w' : World} {g c : Nat} {ss : List Int} (h : L2.RT w g c ss) (hk : w'.heap[g]? = w.heap[g]?) : L2.RT w' g c ss := by
  refine ⟨h.1, ?_⟩
  rcases h.2 with hnil | ⟨g', cap, cur, e, hb, hgg, rest⟩
  · exact .inl hnil
  · simp at e
    obtain ⟨rfl, rfl⟩ := e
    exact .inr ⟨g, c, cur, rfl, hb, hk.trans hgg, rest⟩
theorem RvI.lt {w : World} {f : T.Fl} {g ct : Nat} {pv : Value} (h : RvI w f g ct pv) {k : Nat} (hk : rvB g pv k) : k < w.heap.size := by
  rcases hk with rfl | e
  · exact h.t.lt
  · exact Rd.lt h.p (by omega) e
theorem RvI.stay {w w' : World} {f : T.Fl} {g ct : Nat} {pv : Value} (h : RvI w f g ct pv) (hk : ∀ k, rvB g pv k → w'.heap[k]? = w.heap[k]?) : RvI w' f g ct pv :=
  ⟨rt_stay h.t (hk g (.inl rfl)), h.p.stay fun k e => hk k (.inr e)⟩
/-- A flow and the document's, apart, both made behind w0; the blocks X are others' than the flow's, the blocks Z also than the document's. -/
def Two (X Z : Nat → Prop) (w0 : World) (S : Nat) (f : T.Fl) (c : Array Value) (W : World) : Prop := ∃ g ct pv F, c = rfc f.fr f.se f.mo (tbV g f.ss.length ct) pv ∧ At W S f F ∧ RvI W f g ct pv ∧ (∀ k, rvB g pv k → ¬ F k) ∧ (∀ k, F k → w0.heap.size ≤ k) ∧ Below w0.heap.size w0 W ∧ (∀ k, X k → k < W.heap.size ∧ ¬ F k) ∧ ∀ k, Z k → k < W.heap.size ∧ ¬ F k ∧ ¬ rvB g pv k
theorem Two.after {X Z : Nat → Prop} {w0 : World} {S : Nat} {f : T.Fl} {c : Array Value} {W W' : World} (h : Two X Z w0 S f c W) (hb : Below W.heap.size W W') : Two X Z w0 S f c W' := by
  obtain ⟨g, ct, pv, F, h1, h2, h3, h4, h5, h6, h7, h8⟩ := h
  exact ⟨g, ct, pv, F, h1, h2.below hb, h3.below hb, h4, h5, h6.trans (hb.mono h6.size), fun k hk => ⟨by have := (h7 k hk).1; have := hb.size; omega, (h7 k hk).2⟩, fun k hk => ⟨by have := (h8 k hk).1; have := hb.size; omega, (h8 k hk).2⟩⟩
/-- One of the others' blocks is written. -/
theorem Two.turned {X Z : Nat → Prop} {w0 : World} {S : Nat} {f : T.Fl} {c : Array Value} {W W' : World} (h : Two X Z w0 S f c W) {G : Nat → Prop} (ht : Turned G W W') (hG : ∀ k, G k → Z k ∧ w0.heap.size ≤ k) : Two X Z w0 S f c W' := by
  obtain ⟨g, ct, pv, F, h1, h2, h3, h4, h5, h6, h7, h8⟩ := h
  exact ⟨g, ct, pv, F, h1, h2.turned ht (fun k hk e => (h8 k (hG k e).1).2.1 hk), h3.stay (fun k hk => ht.block k (h3.lt hk) (fun e => (h8 k (hG k e).1).2.2 hk)), h4, h5, h6.trans (ht.below h6.size (fun k e => (hG k e).2)), fun k hk => ⟨by have := (h7 k hk).1; have := ht.size; omega, (h7 k hk).2⟩, fun k hk => ⟨by have := (h8 k hk).1; have := ht.size; omega, (h8 k hk).2⟩⟩
/-- More blocks are others'. -/
theorem Two.more {X Z Y Y2 : Nat → Prop} {w0 : World} {S : Nat} {f : T.Fl} {c : Array Value} {W W' : World} (h : Two X Z w0 S f c W) (hb : Below W.heap.size W W') (hY : ∀ k, Y k → X k ∨ (W.heap.size ≤ k ∧ k < W'.heap.size)) (hY2 : ∀ k, Y2 k → Z k ∨ (W.heap.size ≤ k ∧ k < W'.heap.size)) : Two Y Y2 w0 S f c W' := by
  obtain ⟨g, ct, pv, F, h1, h2, h3, h4, h5, h6, h7, h8⟩ := h
  refine ⟨g, ct, pv, F, h1, h2.below hb, h3.below hb, h4, h5, h6.trans (hb.mono h6.size), fun k hk => ?_, fun k hk => ?_⟩
  · rcases hY k hk with e | e
    · exact ⟨by have := (h7 k e).1; have := hb.size; omega, (h7 k e).2⟩
    · exact ⟨e.2, fun e' => by have := h2.lt e'; omega⟩
  · rcases hY2 k hk with e | e
    · exact ⟨by have := (h8 k e).1; have := hb.size; omega, (h8 k e).2⟩
    · exact ⟨e.2, fun e' => by have := h2.lt e'; omega, fun e' => by have := h3.lt e'; omega⟩
theorem Two.ok {X Z : Nat → Prop} {w0 : World} {S : Nat} {f : T.Fl} {c : Array Value} {W : World} (h : Two X Z w0 S f c W) : Ok1 5 c ∧ FOk f := by
  obtain ⟨g, ct, pv, F, rfl, h2, h3, h4, h5, h6, h7, h8⟩ := h
  exact ⟨h3.ok _ _ _, h2.ok⟩
theorem st_two (X Z : Nat → Prop) (w0 : World) (S : Nat) (f : T.Fl) (c : Array Value) : Stable (fun W => Two X Z w0 S f c W) := fun _ _ h hb => h.after hb
/-- What a call makes of a flow. -/
def stepS (f : T.Fl) (a : Ac) : T.Fl := if a.k = 1 then (f.mark a.p a.n a.s).1 else (f.apply a.ts).1
section
variable {X Z : Nat → Prop} {w0 w W W' : World} {S : Nat} {f f' r : T.Fl} {F : Nat → Prop} {g ct : Nat} {pv tv : Value} {a : Ac}
end
end Go.Proofs.YtiohlmccnllklaaGreatDoor
