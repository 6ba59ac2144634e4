/-
  Layer 12: Apply of a flow: walk. (written by gen_ap.py)
-/
import Derived.Test.YtiohlmccnllklaaGreatDoorH19
set_option linter.unusedVariables false
set_option linter.unusedSimpArgs false
namespace Go.Proofs.YtiohlmccnllklaaGreatDoor
open Go.RowKit
set_option maxHeartbeats 8000000
set_option maxRecDepth 100000
set_option linter.unusedVariables false
set_option linter.unusedSimpArgs false

theorem o_callb {P : Program} {op : Oper} {a : Act} {b : Value → Act} {w : World} {K : Act → World → Prop} {Q : Exit → Act → World → Prop} {F : FuncId} {args : Array Value} (d : Option Tmp) (he : (execOp a.eval op).run P w = .ok (.enter F args) w)
    (hc : Calls P F args w fun e w' => ∃ v, e = .returned v ∧ K (b v) w') (hd : op.dst = d := by rfl) (ha : ∀ v, a.put d v = b v := by intro v; (simp only [Act.put, List.setIfInBounds_toArray, List.set_cons_zero, List.set_cons_succ]; rfl)) : op.wp P a w K Q := by
  subst hd
  exact o_call he (hc.mono fun e w' ⟨v, h1, h2⟩ => ⟨v, h1, by rw [ha]; exact h2⟩)
theorem last_some {l : List T.Pr} {q : T.Pl} : ∀ {ts : List T.Tc} {o : Option Int} {x : Int}, T.last l q o ts = some x → o = some x ∨ ∃ t ∈ ts, t.1 ≠ T.none0 ∧ t.1 = q ∧ x = T.tog l 0 t.2
  | [], o, x, h => .inl h
  | t :: r, o, x, h => by
    rcases last_some (ts := r) h with e | ⟨t', ht, h1⟩
    · by_cases c : t.1 ≠ T.none0 ∧ t.1 = q
      · rw [if_pos c] at e
        exact .inr ⟨t, by simp, c.1, c.2, (Option.some.inj e).symm⟩
      · rw [if_neg c] at e; exact .inl e
    · exact .inr ⟨t', by simp [ht], h1⟩
theorem last_is {l : List T.Pr} {q : T.Pl} {ts : List T.Tc} {x : Int} (h : T.last l q none ts = some x) : ∃ t ∈ ts, t.1 ≠ T.none0 ∧ t.1 = q ∧ x = T.tog l 0 t.2 := by
  rcases last_some h with e | e
  · cases e
  · exact e
/-- What places have when the new sets that are not left have come. -/
def gone (g : T.Pl → Option Int) (ps : List T.Pr) (left : Lit → Bool) (q : T.Pl) : Int := match g q with | some x => if left (L2.pk q.1 q.2) = true then T.get ps q else x | none => T.get ps q
theorem gone_some {g : T.Pl → Option Int} {ps : List T.Pr} {left : Lit → Bool} {q : T.Pl} {x : Int} (h : g q = some x) : gone g ps left q = if left (L2.pk q.1 q.2) = true then T.get ps q else x := by unfold gone; rw [h]
theorem gone_none {g : T.Pl → Option Int} {ps : List T.Pr} {left : Lit → Bool} {q : T.Pl} (h : g q = none) : gone g ps left q = T.get ps q := by unfold gone; rw [h]
/-- A round of Apply. -/
structure RgI (w3 : World) (S Tb P : Nat) (f : T.Fl) (m : Nat) (FT : List Nat) (C : Nat → Nat) (FM FD : Nat → Prop) (g : T.Pl → Option Int) (mb n : Nat) (Dm : DataW Unit) (left : Lit → Bool) (cnt : Nat) (W : World) : Prop where
  r : W.ranges Tryz.prog 42 (plainElem Tryz.prog 23) mb w3.heap.size n Dm left cnt
  fl : ∃ ps' M' D' C' FM' FD', FlIs W S Tb P { f with ps := ps' } m FT M' D' C' FM' FD' ∧ (∀ q, T.get ps' q = gone g f.ps left q) ∧ (∀ j, plB P C' FM' FD' j → plB P C FM FD j ∨ w3.heap.size < j)
  t : Turned (plB P C FM FD) w3 W
theorem RgI.after {w3 W W' : World} {S Tb P : Nat} {f : T.Fl} {m : Nat} {FT : List Nat} {C : Nat → Nat} {FM FD : Nat → Prop} {g : T.Pl → Option Int} {mb n : Nat} {Dm : DataW Unit} {left : Lit → Bool} {cnt : Nat} (h : RgI w3 S Tb P f m FT C FM FD g mb n Dm left cnt W) (hb : Below W.heap.size W W') : RgI w3 S Tb P f m FT C FM FD g mb n Dm left cnt W' := by
  obtain ⟨ps', M', D', C', FM', FD', h1, h2, h3⟩ := h.fl
  refine ⟨?_, ⟨ps', M', D', C', FM', FD', h1.below hb, h2, h3⟩, h.t.trans (Turned.of_below hb (fun _ => False)) (fun _ e => e.elim)⟩
  obtain ⟨es, clock, since, seen, c0, k1, k2, k3, k4, k5, k6⟩ := h.r
  exact ⟨es, clock, since, seen, c0, (hb.block _ (Array.getElem?_eq_some_iff.1 k1).1).trans k1, k2, k3, k4, (hb.block _ (Array.getElem?_eq_some_iff.1 k5).1).trans k5, k6⟩
theorem ranges_keep {w w' : World} {P : Program} {k : TypeId} {R : Value → Option (DataW Unit × List MemPlace)} {b r n : Nat} {D : DataW Unit} {left : Lit → Bool} {cnt : Nat} (h : w.ranges P k R b r n D left cnt) (h1 : w'.heap[b]? = w.heap[b]?) (h2 : w'.heap[r]? = w.heap[r]?) : w'.ranges P k R b r n D left cnt := by
  obtain ⟨es, clock, since, seen, c0, k1, k2, k3, k4, k5, k6⟩ := h
  exact ⟨es, clock, since, seen, c0, h1.trans k1, k2, k3, k4, h2.trans k5, k6⟩
end Go.Proofs.YtiohlmccnllklaaGreatDoor
