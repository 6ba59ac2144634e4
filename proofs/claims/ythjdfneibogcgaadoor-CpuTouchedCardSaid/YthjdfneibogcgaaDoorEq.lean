/-
  Layer 10: == of states, of their registers, of what is wanted, of places.
-/
import Derived.Test.YthjdfneibogcgaaDoorSem
import Derived.Test.YthjdfneibogcgaaDoorTab
import Derived.Laws.StructEq
import Derived.WalkSpells
import Derived.WalkLawsBesides
namespace Go.Proofs.YthjdfneibogcgaaDoor
open Go.RowKit
set_option linter.unusedVariables false
set_option linter.unusedSimpArgs false
set_option maxHeartbeats 1000000

/-- The cells of registers. -/
def rgc (f : Nat → Int) : Array Value := #[.int .u32 (f 0), .int .u32 (f 1), .int .u32 (f 2), .int .u32 (f 3), .int .u32 (f 4), .int .u32 (f 5), .int .u32 (f 6), .int .u32 (f 7)]
set_option maxRecDepth 100000 in
theorem part_rg (f : Nat → Int) (i : Nat) (hi : i < 8) (w : World) : (part 22 (rgc f) i).run Tryd.prog w = .ok (.int .u32 (f i)) w := by
  iterate 8 (rcases i with _ | i; exact (by kernel_rfl))
  omega
theorem eq_u32 (d : Nat) (a b : Int) (w : World) : (Op.equalIn (d + 1) 22 (.int .u32 a) (.int .u32 b)).run Tryd.prog w = .ok (a == b) w := run_equalIn_int w d 22 .u32 .u32 _ _ Tryd.underlying22
theorem eq_regs (d : Nat) (f : Nat → Int) (w : World) : (Op.equalIn (d + 1 + 1) 23 (.agg (rgc f)) (.agg (rgc f))).run Tryd.prog w = .ok true w := by
  have z : ∀ w : World, (sizeOf 22).run Tryd.prog w = .ok 1 w := fun w => by kernel_rfl
  have p := fun (i : Nat) (hi : i < 8) (w : World) => part_rg f i hi w
  have q := fun (a : Int) (w : World) => eq_u32 d a a w
  rw [Op.equalIn]
  simp only [Sem.run_bind, run_underlying Tryd.underlying23, Result.andThen_ok]
  simp only [Std.Legacy.Range.forIn_eq_forIn_range', Std.Legacy.Range.size, Nat.sub_zero, Nat.add_sub_cancel, Nat.div_one, z, Result.andThen_ok, Nat.mul_one]
  have loop : ∀ (n s : Nat), s + n ≤ 8 → Sem.run Tryd.prog (forIn (List.range' s n) ((none, ()) : Option Bool × Unit) fun i __s => do
      let __do_lift ← part 22 (rgc f) (i * 1)
      let __do_lift_1 ← part 22 (rgc f) (i * 1)
      let __do_lift ← Op.equalIn (d + 1) 22 __do_lift __do_lift_1
      if (!__do_lift) = true then pure (ForInStep.done (some false, ())) else pure (ForInStep.yield (none, ()))) w = .ok (none, ()) w := by
    intro n
    induction n with
    | zero => intro s _; simp
    | succ n ih =>
      intro s h
      rw [List.range'_succ, List.forIn_cons]
      simp only [Sem.run_bind, Nat.mul_one, part_rg f s (by omega) w, eq_u32, Result.andThen_ok, beq_self_eq_true, Bool.not_true, Bool.false_eq_true, if_false, Sem.run_pure]
      have := ih (s + 1) (by omega)
      simp only [Nat.mul_one] at this
      exact this
  have := loop 8 0 (by omega)
  simp only [Nat.mul_one] at this
  rw [this]
  rfl
theorem eq_state (s : Sta) (w : World) : (Op.equalIn 10000 25 (.agg (sc s)) (.agg (sc s))).run Tryd.prog w = .ok true w := by
  have p0 : ∀ (w : World), (part 23 (sc s) 0).run Tryd.prog w = .ok (.agg (rgc s.r)) w := fun w => by kernel_rfl
  have q := fun (w : World) => eq_regs 9997 s.r w
  rw [run_equalIn_struct w 9999 25 _ _ (by kernel_rfl) (by kernel_rfl)]
  simp only [Program.fieldsOf, Tryd.underlying25]
  have a8 : ∀ (w : World), (part 22 (sc s) 8).run Tryd.prog w = .ok (.int .u32 s.pc) w := fun w => by kernel_rfl
  have a9 : ∀ (w : World), (part 22 (sc s) 9).run Tryd.prog w = .ok (.int .u32 s.epc) w := fun w => by kernel_rfl
  have a10 : ∀ (w : World), (part 22 (sc s) 10).run Tryd.prog w = .ok (.int .u32 s.cs) w := fun w => by kernel_rfl
  have a11 : ∀ (w : World), (part 22 (sc s) 11).run Tryd.prog w = .ok (.int .u32 s.vec) w := fun w => by kernel_rfl
  have a12 : ∀ (w : World), (part 22 (sc s) 12).run Tryd.prog w = .ok (.int .u32 s.tab) w := fun w => by kernel_rfl
  have a13 : ∀ (w : World), (part 4 (sc s) 13).run Tryd.prog w = .ok (.bool s.su) w := fun w => by kernel_rfl
  have a14 : ∀ (w : World), (part 4 (sc s) 14).run Tryd.prog w = .ok (.bool s.pv) w := fun w => by kernel_rfl
  have a15 : ∀ (w : World), (part 4 (sc s) 15).run Tryd.prog w = .ok (.bool s.en) w := fun w => by kernel_rfl
  have e1 : ∀ (a : Int) (w : World), (Op.equalIn 9999 22 (.int .u32 a) (.int .u32 a)).run Tryd.prog w = .ok true w := fun a w => by rw [eq_u32 9998 a a w]; simp
  have e2 : ∀ (a : Bool) (w : World), (Op.equalIn 9999 4 (.bool a) (.bool a)).run Tryd.prog w = .ok true w := fun a w => by rw [run_equalIn_bool' w 9998 4 a a Tryd.underlying4]; simp
  simp [Op.eqFields, Sem.run_bind, Sem.run_ite, p0, q, a8, a9, a10, a11, a12, a13, a14, a15, e1, e2, Result.andThen_ok]
theorem eq_want (x : Wnt) (w : World) : (Op.equalIn 10000 42 (.agg (wnt x)) (.agg (wnt x))).run Tryd.prog w = .ok true w := by
  rw [run_equalIn_struct w 9999 42 _ _ (by kernel_rfl) (by kernel_rfl)]
  simp only [Program.fieldsOf, Tryd.underlying42, wnt]
  go_simp
theorem eq_place (p q : Plc) (w : World) : (Op.equalIn 10000 49 (.agg #[.int .i64 p.kind, .int .i64 p.n]) (.agg #[.int .i64 q.kind, .int .i64 q.n])).run Tryd.prog w = .ok (decide (p = q)) w := by
  rw [run_equalIn_struct w 9999 49 _ _ (by kernel_rfl) (by kernel_rfl)]
  simp only [Program.fieldsOf, Tryd.underlying49]
  go_simp
  obtain ⟨a, b⟩ := p
  obtain ⟨c, d⟩ := q
  simp only [Plc.mk.injEq]
  by_cases h1 : a = c <;> by_cases h2 : b = d <;> simp [h1, h2]
/-! ### the operators -/
theorem eql_state (s : Sta) (w : World) : (binOp .eql 25 (.agg (sc s)) (.agg (sc s))).run Tryd.prog w = .ok (.bool true) w := by
  simp [binOp, Op.equal, Op.maxDepth, eq_state s, Sem.run_bind, Result.andThen]
theorem eql_want (x : Wnt) (w : World) : (binOp .eql 42 (.agg (wnt x)) (.agg (wnt x))).run Tryd.prog w = .ok (.bool true) w := by
  simp [binOp, Op.equal, Op.maxDepth, eq_want x, Sem.run_bind, Result.andThen]
theorem eql_place (p q : Plc) (w : World) : (binOp .eql 49 (.agg #[.int .i64 p.kind, .int .i64 p.n]) (.agg #[.int .i64 q.kind, .int .i64 q.n])).run Tryd.prog w = .ok (.bool (decide (p = q))) w := by
  simp [binOp, Op.equal, Op.maxDepth, eq_place p q, Sem.run_bind, Result.andThen]
theorem neq_place (p q : Plc) (w : World) : (binOp .neq 49 (.agg #[.int .i64 p.kind, .int .i64 p.n]) (.agg #[.int .i64 q.kind, .int .i64 q.n])).run Tryd.prog w = .ok (.bool (!decide (p = q))) w := by
  simp [binOp, Op.equal, Op.maxDepth, eq_place p q, Sem.run_bind, Result.andThen]
theorem eql_regs (f : Nat → Int) (w : World) : (binOp .eql 23 (.agg (rgc f)) (.agg (rgc f))).run Tryd.prog w = .ok (.bool true) w := by
  have := eq_regs 9998 f
  simp [binOp, Op.equal, Op.maxDepth, this, Sem.run_bind, Result.andThen]
theorem neq_regs (f : Nat → Int) (w : World) : (binOp .neq 23 (.agg (rgc f)) (.agg (rgc f))).run Tryd.prog w = .ok (.bool false) w := by
  have := eq_regs 9998 f
  simp [binOp, Op.equal, Op.maxDepth, this, Sem.run_bind, Result.andThen]
end Go.Proofs.YthjdfneibogcgaaDoor
