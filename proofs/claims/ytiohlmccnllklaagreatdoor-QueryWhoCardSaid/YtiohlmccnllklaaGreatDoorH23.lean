/-
  Layer 12: alike: walk. (written by gen_alk.py) Layer 12: Same: walk. (written by gen_sam.py)
-/
import Derived.Test.YtiohlmccnllklaaGreatDoorH22
set_option linter.unusedVariables false
set_option linter.unusedSimpArgs false
namespace Go.Proofs.YtiohlmccnllklaaGreatDoor
open Go.RowKit
set_option maxHeartbeats 8000000
set_option maxRecDepth 100000
set_option linter.unusedVariables false
set_option linter.unusedSimpArgs false

section
variable {w : World} {P P2 M M2 D D2 : Nat} {C C2 : Nat → Nat} {fr se : Int} {ps qs : List T.Pr} {FM FM2 FD FD2 : Nat → Prop}
/-- Both stand. -/
def Both (P P2 M M2 D D2 : Nat) (C C2 : Nat → Nat) (fr se : Int) (ps qs : List T.Pr) (FM FM2 FD FD2 : Nat → Prop) (W : World) : Prop := PlIs W P M D C fr se ps FM FD ∧ PlIs W P2 M2 D2 C2 fr se qs FM2 FD2
theorem Both.stb (P P2 M M2 D D2 : Nat) (C C2 : Nat → Nat) (fr se : Int) (ps qs : List T.Pr) (FM FM2 FD FD2 : Nat → Prop) : Free.Stb (Both P P2 M M2 D D2 C C2 fr se ps qs FM FM2 FD FD2) := fun W W' h hb => ⟨h.1.below hb, h.2.below hb⟩
theorem same_pl (h : Both P P2 M M2 D D2 C C2 fr se ps qs FM FM2 FD FD2 w) (hk : ∀ k : Nat, T.cntK k = true → T.kd (k : Int) ps = T.kd (k : Int) qs) :
    decide (ps = qs) = (smE (T.sm ps) (T.sm qs) && (decide (T.row ps 10 (64 * fr.toNat) = T.row qs 10 (64 * fr.toNat)) && decide (T.row ps 12 (64 * se.toNat) = T.row qs 12 (64 * se.toNat)))) := by
  obtain ⟨h1, h2⟩ := h
  rw [Bool.eq_iff_iff]
  simp only [Bool.and_eq_true, decide_eq_true_eq]
  constructor
  · rintro rfl; exact ⟨smE_iff.2 fun _ _ => rfl, rfl, rfl⟩
  · rintro ⟨a, b, c⟩
    exact T.same_of h1.ris h2.ris h1.may h2.may (by have := h1.bd.1; omega) (by have := h1.bd.2; omega) (smE_iff.1 a) b c (fun k hc n => kd_get h1.ris h2.ris (hk k hc) n)
/-- A round of alike. -/
structure AlI (w : World) (P P2 M M2 D D2 : Nat) (C C2 : Nat → Nat) (fr se : Int) (ps qs : List T.Pr) (FM FM2 FD FD2 : Nat → Prop) (j : Nat) (W : World) : Prop where
  h : Both P P2 M M2 D D2 C C2 fr se ps qs FM FM2 FD FD2 W
  b : Below w.heap.size w W
  k : ∀ k : Nat, k < j → T.cntK k = true → T.kd (k : Int) ps = T.kd (k : Int) qs
end
end Go.Proofs.YtiohlmccnllklaaGreatDoor
namespace Go.Proofs.YtiohlmccnllklaaGreatDoor
open Go.RowKit
set_option maxHeartbeats 8000000
set_option maxRecDepth 100000
set_option linter.unusedVariables false
set_option linter.unusedSimpArgs false

theorem row_later {w w' : World} {base : Nat} {e : TypeId} {v : Value} {n : Nat} {xs : List Value} (h : w.ownsRow base e 1 v n xs) (hb : Below w.heap.size w w') : w'.ownsRow 0 e 1 v n xs := by
  refine ⟨h.1, ?_⟩
  rcases h.2 with h0 | ⟨g, cap, cur, rfl, _, hg, r⟩
  · exact .inl h0
  · exact .inr ⟨g, cap, cur, rfl, Nat.zero_le _, (hb.block g (Array.getElem?_eq_some_iff.1 hg).1).trans hg, r⟩
section
variable {w : World} {S S2 Tb Tb2 P P2 m m2 M M2 D D2 : Nat} {FT FT2 : List Nat} {C C2 : Nat → Nat} {fr se mo : Int} {ss ss2 : List Int} {ps qs : List T.Pr} {FM FM2 FD FD2 : Nat → Prop}
def BothF (S S2 Tb Tb2 P P2 m m2 M M2 D D2 : Nat) (FT FT2 : List Nat) (C C2 : Nat → Nat) (fr se mo : Int) (ss ss2 : List Int) (ps qs : List T.Pr) (FM FM2 FD FD2 : Nat → Prop) (W : World) : Prop := FlIs W S Tb P ⟨fr, se, mo, ss, ps⟩ m FT M D C FM FD ∧ FlIs W S2 Tb2 P2 ⟨fr, se, mo, ss2, qs⟩ m2 FT2 M2 D2 C2 FM2 FD2
theorem BothF.stb (S S2 Tb Tb2 P P2 m m2 M M2 D D2 : Nat) (FT FT2 : List Nat) (C C2 : Nat → Nat) (fr se mo : Int) (ss ss2 : List Int) (ps qs : List T.Pr) (FM FM2 FD FD2 : Nat → Prop) : Free.Stb (BothF S S2 Tb Tb2 P P2 m m2 M M2 D D2 FT FT2 C C2 fr se mo ss ss2 ps qs FM FM2 FD FD2) := fun W W' h hb => ⟨h.1.below hb, h.2.below hb⟩
end
end Go.Proofs.YtiohlmccnllklaaGreatDoor
