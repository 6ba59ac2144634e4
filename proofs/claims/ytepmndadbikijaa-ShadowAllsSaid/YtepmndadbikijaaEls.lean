/-
  Layer 3: which byte comes next among those that have sets. No program.
-/
import Derived.Test.YtepmndadbikijaaMath
namespace Go.Proofs.Ytepmndadbikijaa

def elsFrom (l : List Int) (a d : Nat) : List Nat := (List.range' a d).filter (nz l)
theorem els_from (l : List Int) (a d : Nat) : els l (a + d) = els l a ++ elsFrom l a d := by
  unfold els elsFrom
  rw [List.range_eq_range', List.range_eq_range', ← List.filter_append]
  congr 1
  have := List.range'_append_1 (s := 0) (m := a) (n := d)
  simpa using this.symm
theorem from_first {l : List Int} : ∀ {d a x : Nat} {rest : List Nat}, elsFrom l a d = x :: rest → a ≤ x ∧ x < a + d ∧ nz l x = true ∧ ∀ j, a ≤ j → j < x → nz l j = false
  | 0, a, x, rest, h => by simp [elsFrom] at h
  | d + 1, a, x, rest, h => by
    unfold elsFrom at h
    rw [List.range'_succ, List.filter_cons] at h
    cases hz : nz l a with
    | true =>
      rw [hz, if_pos rfl] at h
      obtain rfl := (List.cons.inj h).1
      exact ⟨Nat.le_refl _, by omega, hz, fun j h1 h2 => by omega⟩
    | false =>
      rw [hz, if_neg (by simp)] at h
      obtain ⟨h1, h2, h3, h4⟩ := from_first (d := d) (a := a + 1) h
      refine ⟨by omega, by omega, h3, fun j h5 h6 => ?_⟩
      by_cases e : j = a
      · subst e; exact hz
      · exact h4 j (by omega) h6
theorem els_none {l : List Int} {a : Nat} : ∀ x, a ≤ x → (∀ j, a ≤ j → j < x → nz l j = false) → els l x = els l a
  | 0, h, _ => by rw [show a = 0 by omega]
  | x + 1, h, hz => by
    by_cases e : a = x + 1
    · rw [e]
    · rw [els_succ, hz x (by omega) (by omega), els_none x (by omega) (fun j h1 h2 => hz j h1 (by omega))]; simp
/-- The next byte. -/
theorem els_next {l : List Int} {n a x : Nat} {pre rest : List Nat} (ha : a ≤ n) (hp : els l a = pre) (h : els l n = pre ++ x :: rest) :
    a ≤ x ∧ x < n ∧ nz l x = true ∧ (∀ j, a ≤ j → j < x → nz l j = false) ∧ els l (x + 1) = pre ++ [x] := by
  have h1 := els_from l a (n - a)
  rw [show a + (n - a) = n by omega, h, hp] at h1
  have h2 := List.append_cancel_left h1
  obtain ⟨q1, q2, q3, q4⟩ := from_first h2.symm
  refine ⟨q1, by omega, q3, q4, ?_⟩
  rw [els_succ, els_none x q1 q4, hp, q3]; simp
/-- No byte is left. -/
theorem els_last {l : List Int} {n a : Nat} (ha : a ≤ n) (h : els l n = els l a) : ∀ j, a ≤ j → j < n → nz l j = false := by
  intro j h1 h2
  have h3 := els_from l a (n - a)
  rw [show a + (n - a) = n by omega, h] at h3
  have h4 : elsFrom l a (n - a) = [] := by simpa using h3
  cases hz : nz l j with
  | false => rfl
  | true =>
    have : j ∈ elsFrom l a (n - a) := by unfold elsFrom; simp [hz]; omega
    rw [h4] at this; cases this
end Go.Proofs.Ytepmndadbikijaa
