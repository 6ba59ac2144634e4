/-
  Layer 13: rules, compared.
-/
import Derived.Test.YtdpdoclhdjhjkaaGreatG30
import Derived.Test.YtdpdoclhdjhjkaaGreatG18
set_option linter.unusedVariables false
set_option linter.unusedSimpArgs false
namespace Go.Proofs.YtdpdoclhdjhjkaaGreat
open Go.RowKit
set_option maxHeartbeats 4000000
set_option maxRecDepth 100000
set_option linter.unusedVariables false
set_option linter.unusedSimpArgs false

theorem part_r5 (r : Ru) (o : Nat) {i : Nat} (hi : i < 5) (w : World) : (part 31 (r5 r o) (i * 1)).run Tryz.prog w = .ok (.int .u32 (r (o + i))) w := by
  rcases (show i = 0 ∨ i = 1 ∨ i = 2 ∨ i = 3 ∨ i = 4 by omega) with rfl | rfl | rfl | rfl | rfl <;> kernel_rfl
def e5 (r r' : Ru) (o : Nat) : Bool := (List.range' 0 5).all fun i => r (o + i) == r' (o + i)
theorem eq_5 (d : Nat) (r r' : Ru) (o : Nat) (w : World) : (Op.equalIn (d + 2) 65 (.agg (r5 r o)) (.agg (r5 r' o))).run Tryz.prog w = .ok (e5 r r' o) w :=
  eq_arr (d := d + 1) (t := 31) (sz := 1) Tryz.underlying65 (by kernel_rfl) (fun i hi => part_r5 r o hi w) (fun i hi => part_r5 r' o hi w) (fun i hi => eq_u32n d _ _ w)
def ruE (r r' : Ru) : Bool := e5 r r' 0 && (e5 r r' 5 && (r 10 == r' 10))
theorem ruE_self (r : Ru) : ruE r r = true := by simp [ruE, e5]
theorem eq_ru (r r' : Ru) (w : World) : (Op.equalIn 10000 67 (.agg (ruC r)) (.agg (ruC r'))).run Tryz.prog w = .ok (ruE r r') w := by
  rw [run_equalIn_struct w 9999 67 _ _ (by kernel_rfl) (by kernel_rfl)]
  have h0 : (Op.equalIn 9999 65 (.agg (r5 r 0)) (.agg (r5 r' 0))).run Tryz.prog w = .ok (e5 r r' 0) w := eq_5 9997 r r' 0 w
  have h5 : (Op.equalIn 9999 65 (.agg (r5 r 5)) (.agg (r5 r' 5))).run Tryz.prog w = .ok (e5 r r' 5) w := eq_5 9997 r r' 5 w
  have hu : (Op.equalIn 9999 31 (.int .u32 (r 10)) (.int .u32 (r' 10))).run Tryz.prog w = .ok (r 10 == r' 10) w := eq_u32n 9998 (r 10) (r' 10) w
  have p0 : ∀ q : Ru, (part 65 (ruC q) 0).run Tryz.prog w = .ok (.agg (r5 q 0)) w := fun q => by kernel_rfl
  have p5 : ∀ q : Ru, (part 65 (ruC q) 5).run Tryz.prog w = .ok (.agg (r5 q 5)) w := fun q => by kernel_rfl
  have p10 : ∀ q : Ru, (part 31 (ruC q) 10).run Tryz.prog w = .ok (.int .u32 (q 10)) w := fun q => by kernel_rfl
  have s5 : (sizeOf 65).run Tryz.prog w = .ok 5 w := by kernel_rfl
  have s1 : (sizeOf 31).run Tryz.prog w = .ok 1 w := by kernel_rfl
  simp only [Program.fieldsOf, Tryz.underlying67]
  unfold ruE
  cases e1 : e5 r r' 0 <;> cases e2 : e5 r r' 5 <;> rw [e1] at h0 <;> rw [e2] at h5 <;> simp [Op.eqFields, Sem.run_bind, Result.andThen_ok, h0, h5, hu, p0, p5, p10, s5, s1]
  by_cases e3 : r 10 = r' 10 <;> simp [e3]
theorem guard_ru (o : BinOp) (x y : Operand) (xs ys : Array Value) (w : World) : (eqGuard o 67 x y (.agg xs) (.agg ys)).run Tryz.prog w = .ok () w := by
  have : Tryz.prog.eqGuardType Tryz.prog.depth 67 = false := by kernel_rfl
  unfold eqGuard
  simp [this]
theorem eql_ru (r r' : Ru) (w : World) : (binOp .eql 67 (.agg (ruC r)) (.agg (ruC r'))).run Tryz.prog w = .ok (.bool (ruE r r')) w := by
  simp [binOp, Op.equal, Op.maxDepth, eq_ru r r', Sem.run_bind, Result.andThen]
theorem neq_ru (r r' : Ru) (w : World) : (binOp .neq 67 (.agg (ruC r)) (.agg (ruC r'))).run Tryz.prog w = .ok (.bool (!ruE r r')) w := by
  simp [binOp, Op.equal, Op.maxDepth, eq_ru r r', Sem.run_bind, Result.andThen]
end Go.Proofs.YtdpdoclhdjhjkaaGreat
