/-
  Layer 10: what the walks of touches know. Written by gen_tq.py.
-/
import Derived.Test.YthjdfneibogcgaaDoorGive
namespace Go.Proofs.YthjdfneibogcgaaDoor
open Go.RowKit
set_option maxHeartbeats 16000000
set_option linter.unusedVariables false
set_option linter.unusedSimpArgs false

/-- A block is made, at the operation. -/
theorem o_alloc {ty : TypeId} {n : Nat} {d : Option Tmp} {op : Oper} {a : Act} {w : World} {K : Act → World → Prop} {Q : Exit → Act → World → Prop} (hd : op.dst = d) (c : Array Value) (hc : Ok1 n c) (h : (execOp a.eval op).run Tryd.prog w = .ok (.value (.pointer (some ⟨w.heap.size, 0, none⟩))) (w.alloc (.cells c ty)))
    (hK : ∀ g W, w.heap.size = g → Rf ty n W g c → Below w.heap.size w W → g < W.heap.size → K (a.put d (.pointer (some ⟨g, 0, none⟩))) W) : op.wp Tryd.prog a w K Q := by
  subst hd
  unfold Oper.wp
  rw [h]
  exact hK _ _ rfl (hc.new ty w) (bel1 _ _) (by simp)
/-- Before any touch is given: what lies below stays, and boxes. -/
structure Pb (w : World) (bs : List (Nat × TypeId × Nat × Array Value)) (W : World) : Prop where
  k : Below w.heap.size w W
  b : Bks W bs
def Bks.Low (m : Nat) : List (Nat × TypeId × Nat × Array Value) → Prop
  | [] => True
  | (b, _, _, _) :: r => b < m ∧ Bks.Low m r
theorem Bks.h0 {W : World} {b : Nat} {ty : TypeId} {n : Nat} {c : Array Value} {r : List (Nat × TypeId × Nat × Array Value)} (h : Bks W ((b, ty, n, c) :: r)) : Rf ty n W b c := h.1.1
theorem Bks.h1 {W : World} {x : Nat × TypeId × Nat × Array Value} {b : Nat} {ty : TypeId} {n : Nat} {c : Array Value} {r : List (Nat × TypeId × Nat × Array Value)} (h : Bks W (x :: (b, ty, n, c) :: r)) : Rf ty n W b c := h.2.1.1
theorem Bks.h2 {W : World} {x y : Nat × TypeId × Nat × Array Value} {b : Nat} {ty : TypeId} {n : Nat} {c : Array Value} {r : List (Nat × TypeId × Nat × Array Value)} (h : Bks W (x :: y :: (b, ty, n, c) :: r)) : Rf ty n W b c := h.2.2.1.1
theorem Bks.below {W W' : World} (hb : Below W.heap.size W W') : ∀ {l : List (Nat × TypeId × Nat × Array Value)}, Bks W l → Bks W' l
  | [], _ => trivial
  | (b, ty, n, c) :: r, ⟨⟨h, h1, h2⟩, hr⟩ => ⟨⟨h.below hb, h1, h2⟩, Bks.below hb hr⟩
theorem Bks.setOther {W : World} {g : Nat} {c' : Array Value} : ∀ {l : List (Nat × TypeId × Nat × Array Value)}, (∀ x ∈ l, x.1 ≠ g) → Bks W l → Bks (W.setRow g c') l
  | [], _, _ => trivial
  | (b, ty, n, c) :: r, hg, ⟨⟨h, h1, h2⟩, hr⟩ => ⟨⟨h.setOther (hg _ (List.mem_cons_self ..)) c', h1, h2⟩, Bks.setOther (fun x hx => hg x (List.mem_cons_of_mem _ hx)) hr⟩
section
variable {w W W' : World} {bs : List (Nat × TypeId × Nat × Array Value)}
theorem Pb.after (h : Pb w bs W) (hb : Below W.heap.size W W') : Pb w bs W' := ⟨h.k.trans (hb.mono h.k.size), h.b.below hb⟩
theorem Pb.drew (h : Pb w bs W) : Pb w bs W.drew := h.after (Below.refl _ _).drew
theorem Pb.box (h : Pb w bs W) {g : Nat} {ty : TypeId} {n : Nat} {c : Array Value} (hb : Below W.heap.size W W') (hg : Rf ty n W' g c) (h1 : ty ≠ 64) (h2 : ty ≠ 70) : Pb w ((g, ty, n, c) :: bs) W' := ⟨(h.after hb).k, ⟨⟨hg, h1, h2⟩, (h.after hb).b⟩⟩
theorem Pb.new (w : World) {ty : TypeId} {n : Nat} {c : Array Value} (hc : Ok1 n c) (h1 : ty ≠ 64) (h2 : ty ≠ 70) : Pb w [(w.heap.size, ty, n, c)] (w.alloc (.cells c ty)) := ⟨bel1 _ _, ⟨⟨hc.new ty w, h1, h2⟩, trivial⟩⟩
theorem Pb.nil (w : World) : Pb w [] w := ⟨Below.refl _ _, trivial⟩
/-- The head box is written anew. -/
theorem Pb.set {g : Nat} {ty : TypeId} {n : Nat} {c c' : Array Value} (h : Pb w ((g, ty, n, c) :: bs) W) (hg : w.heap.size ≤ g) (hn : ∀ x ∈ bs, x.1 ≠ g) (hc : Ok1 n c') : Pb w ((g, ty, n, c') :: bs) (W.setRow g c') := by
  obtain ⟨hk, ⟨⟨hr, h1, h2⟩, hb⟩⟩ := h
  exact ⟨below_setRow hk hg c', ⟨⟨hr.set hc, h1, h2⟩, hb.setOther hn⟩⟩
theorem Pb.swap {x y : Nat × TypeId × Nat × Array Value} (h : Pb w (x :: y :: bs) W) : Pb w (y :: x :: bs) W := ⟨h.k, ⟨h.b.2.1, h.b.1, h.b.2.2⟩⟩
theorem Pb.rot {x y z : Nat × TypeId × Nat × Array Value} (h : Pb w (x :: y :: z :: bs) W) : Pb w (z :: x :: y :: bs) W := ⟨h.k, ⟨h.b.2.2.1, h.b.1, h.b.2.1, h.b.2.2.2⟩⟩
theorem Pb.tq {N T : Nat} {l : List Tch} (h : Pb w bs W) (hA : At N w T l) : Tq N w T l bs W := ⟨hA.below h.k, Kp.of_below h.k (Nat.le_of_lt hA.lt), h.b⟩
end
/-- A row of places behind a touch. -/
theorem pl1 (W : World) (k n : Int) : PlIs (W.alloc (.cells #[.int .i64 k, .int .i64 n] 49)) (.slice (some ⟨W.heap.size, 0, none⟩) 1 1) [⟨k, n⟩] := PlIs.lit W [⟨k, n⟩] (by simp [maxLen])
theorem pl2 (W : World) (k n k' n' : Int) : PlIs (W.alloc (.cells #[.int .i64 k, .int .i64 n, .int .i64 k', .int .i64 n'] 49)) (.slice (some ⟨W.heap.size, 0, none⟩) 2 2) [⟨k, n⟩, ⟨k', n'⟩] := PlIs.lit W [⟨k, n⟩, ⟨k', n'⟩] (by simp [maxLen])
end Go.Proofs.YthjdfneibogcgaaDoor
