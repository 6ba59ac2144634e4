/-
  Layer 6: the small functions of package tlb: none, behind, New, Next: walks; equations between entries, between tables.
-/
import Derived.Test.YtafkjokbidkkhaaRows
import Derived.Test.YtafkjokbidkkhaaTab
import Derived.WalkKit
import Derived.WalkSpells
import Derived.WalkLawsBesides
import Derived.Lib.Hide
import Derived.Laws.StructEq
import Derived.Maps.OwnIn
import Derived.Maps.AppendAt
import Derived.BigQuiet
namespace Go.Proofs.Ytafkjokbidkkhaa
open Go.RowKit
set_option maxHeartbeats 400000

theorem none_nil (w : World) : Calls Try.prog 27 #[.pointer none] w fun e w' => e = .returned (.bool true) ∧ w = w' := by
  go_enter Try.func27, Try.ntmps27
  go_wp2
  go_ret
  exact ⟨rfl, rfl⟩
theorem none_at {w : World} {S : Nat} {t : Tl} (h : At w S t) : Calls Try.prog 27 #[.pointer (some ⟨S, 0, none⟩)] w fun e w' => e = .returned (.bool false) ∧ w = w' := by
  have hc := h.made
  go_enter Try.func27, Try.ntmps27
  go_wp2
  go_ret
  exact ⟨rfl, rfl⟩
theorem behind_any (n : Nat) (hn : n < 4) (w : World) : Calls Try.prog 29 #[.int .i64 (n : Int)] w fun e w' => e = .returned (.int .i64 (((n + 1) % 4 : Nat) : Int)) ∧ w = w' := by
  have ht : ((n : Int) + 1).tmod 4 = (((n + 1) % 4 : Nat) : Int) := by rw [Int.tmod_eq_emod_of_nonneg (by omega)]; omega
  go_enter Try.func29, Try.ntmps29
  go_wp2
  go_ret
  exact ⟨rfl, rfl⟩
theorem New_any (w : World) : Calls Try.prog 12 #[] w fun e w' => e = .returned (.pointer (some ⟨w.heap.size, 0, none⟩)) ∧ w' = w.alloc (.cells (pc T0) 62) := by
  go_enter Try.func12, Try.ntmps12
  go_wp2
  go_ret
  exact ⟨rfl, rfl⟩
theorem Next_nil (w : World) : Calls Try.prog 24 #[.pointer none] w fun e w' => e = .returned (.int .i64 0) ∧ w = w' := by
  go_enter Try.func24, Try.ntmps24
  go_wp2_with (go_at_call 27; refine (none_nil _).mono ?_; rintro e w' ⟨rfl, rfl⟩)
  go_ret
  exact ⟨rfl, rfl⟩
theorem Next_any {w : World} {S : Nat} {t : Tl} (h : At w S t) : Calls Try.prog 24 #[.pointer (some ⟨S, 0, none⟩)] w fun e w' => e = .returned (.int .i64 (t.nx : Int)) ∧ w = w' := by
  have hc := h.next
  have HN := Lib.hid (none_at h)
  go_enter Try.func24, Try.ntmps24
  go_wp2_with (go_at_call 27; refine HN.out.mono ?_; rintro e w' ⟨rfl, rfl⟩)
  go_ret
  exact ⟨rfl, rfl⟩

/-! ### what is alike -/
theorem eqE_any (a b : Ent) (d : Nat) (w : World) : (Op.equalIn (d + 1 + 1) 27 (.agg (cE a).toArray) (.agg (cE b).toArray)).run Try.prog w = .ok (a.eqb b) w := by
  rw [run_equalIn_struct w (d + 1) 27 _ _ (by kernel_rfl) (by kernel_rfl)]
  simp only [Program.fieldsOf, Try.underlying27, cE]
  go_simp
  unfold Ent.eqb
  by_cases h1 : a.th = b.th <;> by_cases h2 : a.pg = b.pg <;> by_cases h3 : a.fr = b.fr <;> by_cases h4 : a.wr = b.wr <;> simp [h1, h2, h3, h4]
theorem partE (a : Tl) {i : Nat} (hi : i < 4) (w : World) : (part 27 (es a).toArray (i * 4)).run Try.prog w = .ok (.agg (cE (a.g i)).toArray) w := by
  rcases lt4 hi with rfl | rfl | rfl | rfl <;> kernel_rfl
theorem eqEs_any (a b : Tl) (d : Nat) (w : World) : (Op.equalIn (d + 1 + 1 + 1) 28 (.agg (es a).toArray) (.agg (es b).toArray)).run Try.prog w = .ok (a.eqs b) w := by
  have z := Try.sizeOf27
  have p0 : ∀ (a : Tl) (w : World), (part 27 (es a).toArray 0).run Try.prog w = .ok (.agg (cE a.s0).toArray) w := fun a w => partE a (i := 0) (by omega) w
  have p1 : ∀ (a : Tl) (w : World), (part 27 (es a).toArray 4).run Try.prog w = .ok (.agg (cE a.s1).toArray) w := fun a w => partE a (i := 1) (by omega) w
  have p2 : ∀ (a : Tl) (w : World), (part 27 (es a).toArray 8).run Try.prog w = .ok (.agg (cE a.s2).toArray) w := fun a w => partE a (i := 2) (by omega) w
  have p3 : ∀ (a : Tl) (w : World), (part 27 (es a).toArray 12).run Try.prog w = .ok (.agg (cE a.s3).toArray) w := fun a w => partE a (i := 3) (by omega) w
  have q : ∀ (a b : Ent) (w : World), (Op.equalIn (d + 2) 27 (.agg (cE a).toArray) (.agg (cE b).toArray)).run Try.prog w = .ok (a.eqb b) w := fun a b w => eqE_any a b d w
  rw [Op.equalIn]
  simp only [Sem.run_bind, run_underlying Try.underlying28, Result.andThen_ok]
  simp only [Std.Legacy.Range.forIn_eq_forIn_range', Std.Legacy.Range.size, Nat.sub_zero, Nat.add_sub_cancel, Nat.div_one, List.range'_succ, List.range'_zero, List.forIn_cons, List.forIn_nil]
  unfold Tl.eqs
  cases h0 : a.s0.eqb b.s0 <;> cases h1 : a.s1.eqb b.s1 <;> cases h2 : a.s2.eqb b.s2 <;> cases h3 : a.s3.eqb b.s3 <;> simp [Sem.run_bind, Result.andThen, z, p0, p1, p2, p3, q, h0, h1, h2, h3]
theorem partR0 (a : Tl) (w : World) : (part 28 (rc a) 0).run Try.prog w = .ok (.agg (es a).toArray) w := by kernel_rfl
theorem partR1 (a : Tl) (w : World) : (part 3 (rc a) 16).run Try.prog w = .ok (.int .i64 (a.nx : Int)) w := by kernel_rfl
theorem eqR_any (a b : Tl) (d : Nat) (w : World) : (Op.equalIn (d + 1 + 1 + 1 + 1) 30 (.agg (rc a)) (.agg (rc b))).run Try.prog w = .ok (a.eqb b) w := by
  have p0 := fun (a : Tl) (w : World) => partR0 a w
  have p1 := fun (a : Tl) (w : World) => partR1 a w
  have q := fun (w : World) => eqEs_any a b d w
  have q1 : ∀ w : World, (Op.equalIn (d + 1 + 1 + 1) 3 (.int .i64 (a.nx : Int)) (.int .i64 (b.nx : Int))).run Try.prog w = .ok ((a.nx : Int) == (b.nx : Int)) w := fun w => run_equalIn_int w (d + 1 + 1) 3 .i64 .i64 _ _ Try.underlying3
  rw [run_equalIn_struct w (d + 1 + 1 + 1) 30 _ _ (by kernel_rfl) (by kernel_rfl)]
  simp only [Program.fieldsOf, Try.underlying30]
  simp only [Op.eqFields, Sem.run_bind, Sem.run_ite, p0, p1, q, q1, Result.andThen_ok]
  unfold Tl.eqb
  clear p0 p1 q q1
  cases h : a.eqs b <;> by_cases e : a.nx = b.nx <;> simp [e] <;> omega
@[go_sem] theorem eqR (a b : Tl) (w : World) : (Op.equalIn 10000 30 (.agg (rc a)) (.agg (rc b))).run Try.prog w = .ok (a.eqb b) w := eqR_any a b 9996 w
@[go_sem] theorem eqEs (a b : Tl) (w : World) : (Op.equalIn 10000 28 (.agg (es a).toArray) (.agg (es b).toArray)).run Try.prog w = .ok (a.eqs b) w := eqEs_any a b 9997 w
end Go.Proofs.Ytafkjokbidkkhaa
