/-
  A scope that is left forward by one goto: what stands behind the label is walked from the frame in which the goto stands. No program.
-/
import Derived.WalkKit
import Derived.WalkMore
import Derived.ScopeJumps
namespace Go.Proofs.YtafnclkkncokpaaDoor
open Go.RowKit

/-- By a goto to l: K; by another goto: no way out; else Q. -/
def Fwd (l : Nat) (K : Act → World → Prop) (Q : Exit → Act → World → Prop) : Exit → Act → World → Prop
  | .goto l', a, w => l' = l ∧ K a w
  | e, a, w => Q e a w

section
variable {l : Nat} {K : Act → World → Prop} {Q : Exit → Act → World → Prop} {a : Act} {w : World}
theorem Fwd_normal : Fwd l K Q .normal a w = Q .normal a w := rfl
theorem Fwd_exit (id : Nat) : Fwd l K Q (.exit id) a w = Q (.exit id) a w := rfl
theorem Fwd_ret : Fwd l K Q .ret a w = Q .ret a w := rfl
theorem Fwd_panic (ch : List PanicEntry) : Fwd l K Q (.panic ch) a w = Q (.panic ch) a w := rfl
theorem Fwd_goto : Fwd l K Q (.goto l) a w = (True ∧ K a w) := by simp [Fwd]

theorem wp_scope_fwd {P : Program} {c rest : Code} (l : Nat) (hf : findLabel c l = some rest)
    (first : c.wp P (Fwd l (fun a' w' => rest.wp P (Exit.noGoto Q) a' w') Q) a w) : (Code.scope c).wp P Q a w := by
  intro b k cs
  have hg : gotoIn l (.inScope c :: k) = some (.code rest :: .inScope c :: k) := by simp [gotoIn, hf]
  obtain ⟨e, a₁, w₁, hq, harr⟩ := first b (.inScope c :: k) cs
  cases e with
  | normal => exact ⟨.normal, a₁, w₁, hq, .head step_scope (Steps.trans harr (.one step_inScope))⟩
  | exit id => exact ⟨.exit id, a₁, w₁, hq, fun k' hk => .head step_scope (harr k' (by simp [exitTo, hk]))⟩
  | goto l' =>
    obtain ⟨rfl, hK⟩ := hq
    obtain ⟨e₂, a₂, w₂, hq₂, harr₂⟩ := hK b (.inScope c :: k) cs
    have hjump := Steps.head (P := P) (step_scope (P := P) (b := b) (a := a) (k := k) (cs := cs) (w := w) (c := c)) (harr _ hg)
    cases e₂ with
    | normal => exact ⟨.normal, a₂, w₂, hq₂, Steps.trans hjump (Steps.trans harr₂ (.one step_inScope))⟩
    | exit id => exact ⟨.exit id, a₂, w₂, hq₂, fun k' hk => Steps.trans hjump (harr₂ k' (by simp [exitTo, hk]))⟩
    | goto l'' => exact hq₂.elim
    | ret => exact ⟨_, a₂, w₂, hq₂, .of_steps hjump harr₂⟩
    | panic ch => exact ⟨_, a₂, w₂, hq₂, .of_steps hjump harr₂⟩
    | outgrown => exact ⟨_, a₂, w₂, hq₂, .of_steps hjump harr₂⟩
  | ret => exact ⟨_, a₁, w₁, hq, .of_steps (.one step_scope) harr⟩
  | panic ch => exact ⟨_, a₁, w₁, hq, .of_steps (.one step_scope) harr⟩
  | outgrown => exact ⟨_, a₁, w₁, hq, .of_steps (.one step_scope) harr⟩
end
end Go.Proofs.YtafnclkkncokpaaDoor
