/-
  Layer 3: a loop over an iterator, the frame of a round given as a function of the frame ahead. No program.
-/
import Derived.Test.YtepmndadbikijaaOver
namespace Go.Proofs.Ytepmndadbikijaa
open Go.RowKit

theorem wp_over_f {α : Type} {P : Program} {n : Nat} {g : Operand} {ps : Array Tmp} {assign body : Code} {Q : Exit → Act → World → Prop} {a : Act} {w : World}
    {gf : Nat} {lb : Array Value} (hg : a.eval g = .func (.func gf) #[] lb) (eg : ∀ args w, (callFunc gf args).run P w = .ok (.enter gf args) w)
    {encs : α → Array Value} {M : Nat → Prop} {full : List α} (hseq : Gives P gf lb encs M full w)
    (hM : ∀ k, M k → k < w.heap.size) (hps : ∀ x, (encs x).size = ps.size)
    (I : List α → World → Prop) (Ix : Code → List α → World → Prop) (hI : OwnFrom w.heap.size I) (hIx : ∀ c, OwnFrom w.heap.size (Ix c)) (h0 : I [] w) (fa : Array Value → α → Array Value)
    (hassign : ∀ (l m : Nat) (x : α) (W : World) (K : Act → World → Prop), K { tmps := fa a.tmps x, defers := [] } W →
      assign.wpIn (Fence.wide.inRound l) m P (Exit.then K (fun _ _ _ => False)) { tmps := (ps.zip (encs x)).foldl (fun t (p, v) => t.setIfInBounds p v) a.tmps, defers := [] } W)
    (hbody : ∀ (l m : Nat) (pre : List α) (x : α) (rest : List α) (W : World), full = pre ++ x :: rest → I pre W → body.wpIn (Fence.wide.inRound l) m P (RoundP M I Ix (pre ++ [x]) W) { tmps := fa a.tmps x, defers := [] } W)
    (hdone : ∀ (D : Nat) (W : World), w.heap.size ≤ D → I full W → W.heap[D]? = some (.deferred (some [])) → Q .normal { a with defers := { target := .collected D, args := #[] } :: a.defers } W)
    (hstop : ∀ (D : Nat) (c : Code) (pre rest : List α) (W : World), w.heap.size ≤ D → full = pre ++ rest → Ix c pre W → W.heap[D]? = some (.deferred (some [])) → c.wpIn Fence.wide n P Q { a with defers := { target := .collected D, args := #[] } :: a.defers } W) :
    (Code.rangeFunc g ps assign body).wpIn Fence.wide n P Q a w :=
  wp_over hg eg hseq hM hps I Ix hI hIx h0 (fun x => { tmps := fa a.tmps x, defers := [] }) hassign hbody hdone hstop
end Go.Proofs.Ytepmndadbikijaa
