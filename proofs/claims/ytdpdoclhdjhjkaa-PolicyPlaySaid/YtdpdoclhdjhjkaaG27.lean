/-
  Layer 13: a flow that is not there is asked for what decides: walks. Layer 13: rules, compared.
-/
import Derived.Test.YtdpdoclhdjhjkaaG20
import Derived.Test.YtdpdoclhdjhjkaaG00
import Derived.Test.YtdpdoclhdjhjkaaG24
import Derived.Test.YtdpdoclhdjhjkaaG18
set_option linter.unusedVariables false
set_option linter.unusedSimpArgs false
namespace Go.Proofs.Ytdpdoclhdjhjkaa
open Go.RowKit
set_option maxHeartbeats 8000000
set_option maxRecDepth 100000
set_option linter.unusedVariables false
set_option linter.unusedSimpArgs false

theorem refN_none (v : Value) (w : World) : Calls Try.prog 50 #[.pointer none, v] w fun e w' => e = .returned (.int .i64 1) ∧ Below w.heap.size w w' := by
  go_enter Try.func50, Try.ntmps50
  go_wp2_with (go_at_call 42; refine (none_nil _).mono ?_; rintro e w' ⟨rfl, rfl⟩)
  go_ret
  exact ⟨rfl, Below.refl _ _⟩
theorem DecidesN_none (v : Value) (w : World) : Calls Try.prog 40 #[.pointer none, v] w fun e w' => e = .returned (.tuple #[.int .u32 0, .int .i64 1]) ∧ Below w.heap.size w w' := by
  have HN := Lib.hid (refN_none v w)
  go_enter Try.func40, Try.ntmps40
  go_wp2
  refine L2.wp_scope_fwd 0 rfl ?_
  go_wp2_with (go_at_call 50; refine HN.out.mono ?_; rintro e w1 ⟨rfl, hb⟩)
  go_step3
  refine ⟨rfl, ?_⟩
  go_wp2
  rw [Exit.noGoto_ret]
  go_ret2
  exact ⟨rfl, hb⟩
end Go.Proofs.Ytdpdoclhdjhjkaa
namespace Go.Proofs.Ytdpdoclhdjhjkaa
open Go.RowKit
set_option maxHeartbeats 4000000
set_option maxRecDepth 100000
set_option linter.unusedVariables false
set_option linter.unusedSimpArgs false

theorem part_r5 (r : Ru) (o : Nat) {i : Nat} (hi : i < 5) (w : World) : (part 22 (r5 r o) (i * 1)).run Try.prog w = .ok (.int .u32 (r (o + i))) w := by
  rcases (show i = 0 ∨ i = 1 ∨ i = 2 ∨ i = 3 ∨ i = 4 by omega) with rfl | rfl | rfl | rfl | rfl <;> kernel_rfl
def e5 (r r' : Ru) (o : Nat) : Bool := (List.range' 0 5).all fun i => r (o + i) == r' (o + i)
theorem eq_5 (d : Nat) (r r' : Ru) (o : Nat) (w : World) : (Op.equalIn (d + 2) 23 (.agg (r5 r o)) (.agg (r5 r' o))).run Try.prog w = .ok (e5 r r' o) w :=
  eq_arr (d := d + 1) (t := 22) (sz := 1) Try.underlying23 (by kernel_rfl) (fun i hi => part_r5 r o hi w) (fun i hi => part_r5 r' o hi w) (fun i hi => eq_u32n d _ _ w)
def ruE (r r' : Ru) : Bool := e5 r r' 0 && (e5 r r' 5 && (r 10 == r' 10))
theorem ruE_self (r : Ru) : ruE r r = true := by simp [ruE, e5]
theorem eq_ru (r r' : Ru) (w : World) : (Op.equalIn 10000 25 (.agg (ruC r)) (.agg (ruC r'))).run Try.prog w = .ok (ruE r r') w := by
  rw [run_equalIn_struct w 9999 25 _ _ (by kernel_rfl) (by kernel_rfl)]
  have h0 : (Op.equalIn 9999 23 (.agg (r5 r 0)) (.agg (r5 r' 0))).run Try.prog w = .ok (e5 r r' 0) w := eq_5 9997 r r' 0 w
  have h5 : (Op.equalIn 9999 23 (.agg (r5 r 5)) (.agg (r5 r' 5))).run Try.prog w = .ok (e5 r r' 5) w := eq_5 9997 r r' 5 w
  have hu : (Op.equalIn 9999 22 (.int .u32 (r 10)) (.int .u32 (r' 10))).run Try.prog w = .ok (r 10 == r' 10) w := eq_u32n 9998 (r 10) (r' 10) w
  have p0 : ∀ q : Ru, (part 23 (ruC q) 0).run Try.prog w = .ok (.agg (r5 q 0)) w := fun q => by kernel_rfl
  have p5 : ∀ q : Ru, (part 23 (ruC q) 5).run Try.prog w = .ok (.agg (r5 q 5)) w := fun q => by kernel_rfl
  have p10 : ∀ q : Ru, (part 22 (ruC q) 10).run Try.prog w = .ok (.int .u32 (q 10)) w := fun q => by kernel_rfl
  have s5 : (sizeOf 23).run Try.prog w = .ok 5 w := by kernel_rfl
  have s1 : (sizeOf 22).run Try.prog w = .ok 1 w := by kernel_rfl
  simp only [Program.fieldsOf, Try.underlying25]
  unfold ruE
  cases e1 : e5 r r' 0 <;> cases e2 : e5 r r' 5 <;> rw [e1] at h0 <;> rw [e2] at h5 <;> simp [Op.eqFields, Sem.run_bind, Result.andThen_ok, h0, h5, hu, p0, p5, p10, s5, s1]
  by_cases e3 : r 10 = r' 10 <;> simp [e3]
theorem guard_ru (o : BinOp) (x y : Operand) (xs ys : Array Value) (w : World) : (eqGuard o 25 x y (.agg xs) (.agg ys)).run Try.prog w = .ok () w := by
  have : Try.prog.eqGuardType Try.prog.depth 25 = false := by kernel_rfl
  unfold eqGuard
  simp [this]
theorem eql_ru (r r' : Ru) (w : World) : (binOp .eql 25 (.agg (ruC r)) (.agg (ruC r'))).run Try.prog w = .ok (.bool (ruE r r')) w := by
  simp [binOp, Op.equal, Op.maxDepth, eq_ru r r', Sem.run_bind, Result.andThen]
theorem neq_ru (r r' : Ru) (w : World) : (binOp .neq 25 (.agg (ruC r)) (.agg (ruC r'))).run Try.prog w = .ok (.bool (!ruE r r')) w := by
  simp [binOp, Op.equal, Op.maxDepth, eq_ru r r', Sem.run_bind, Result.andThen]
end Go.Proofs.Ytdpdoclhdjhjkaa
