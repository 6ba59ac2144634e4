/-
  Layer 3: Same of package shadow, alike, maps.EqualFunc over its maps: walks.
-/
import Derived.Test.YtepmndadbikijaaAll
import Derived.Maps.RangeWalk
namespace Go.Proofs.Ytepmndadbikijaa
open Go.RowKit Go.Shelf
set_option maxHeartbeats 1000000
set_option linter.unusedSimpArgs false

/-! ### two pages held against each other -/
theorem part_u32 (l : List Int) (i : Nat) (hi : i < l.length) (w : World) : (part 26 (l.map (Value.int .u32)).toArray i).run Try.prog w = .ok (.int .u32 (at0 l i)) w := by
  have u3 := Try.underlying26
  have hg : (l.map (Value.int .u32))[i]? = some (.int .u32 (at0 l i)) := by simp [at0, hi]
  unfold part
  go_simp
  simp [at0, hi]
theorem eq_u32 (a b : Int) (w : World) : (Op.equalIn 9999 26 (.int .u32 a) (.int .u32 b)).run Try.prog w = .ok (a == b) w := by
  rw [show (9999 : Nat) = 9998 + 1 from rfl, Op.equalIn]
  simp [Sem.run_bind, run_underlying Try.underlying26, Result.andThen_ok]
theorem size_u32 (w : World) : (sizeOf 26).run Try.prog w = .ok 1 w := by kernel_rfl
def eqFrom (l m : List Int) (s : Nat) : Nat → Bool
  | 0 => true
  | n + 1 => (at0 l s == at0 m s) && eqFrom l m (s + 1) n
theorem eq_loop (l m : List Int) (hl : l.length = 64) (hm : m.length = 64) (w : World) : ∀ (n s : Nat), s + n ≤ 64 →
    Sem.run Try.prog (forIn (List.range' s n) ((none, ()) : Option Bool × Unit) fun i __s => do
      let __do_lift ← part 26 (l.map (Value.int .u32)).toArray (i * 1)
      let __do_lift_1 ← part 26 (m.map (Value.int .u32)).toArray (i * 1)
      let __do_lift ← Op.equalIn 9999 26 __do_lift __do_lift_1
      if (!__do_lift) = true then pure (ForInStep.done (some false, ())) else pure (ForInStep.yield (none, ()))) w = .ok (if eqFrom l m s n = true then (none, ()) else (some false, ())) w
  | 0, s, _ => by simp [eqFrom]
  | n + 1, s, h => by
    rw [List.range'_succ, List.forIn_cons]
    simp only [Sem.run_bind, Nat.mul_one, part_u32 l s (by omega) w, part_u32 m s (by omega) w, eq_u32, Result.andThen_ok]
    have ih := eq_loop l m hl hm w n (s + 1) (by omega)
    simp only [Nat.mul_one] at ih
    by_cases e : at0 l s = at0 m s
    · simp only [e, beq_self_eq_true, Bool.not_true, Bool.false_eq_true, if_false, Sem.run_pure, Result.andThen_ok]
      rw [ih]
      simp [eqFrom, e]
    · have e' : (at0 l s == at0 m s) = false := by simpa using e
      simp [eqFrom, e']
theorem eqFrom_at {l m : List Int} : ∀ {n s : Nat}, eqFrom l m s n = true → ∀ i, s ≤ i → i < s + n → at0 l i = at0 m i
  | 0, s, _, i, h1, h2 => by omega
  | n + 1, s, h, i, h1, h2 => by
    simp [eqFrom] at h
    by_cases e : i = s
    · subst e; exact h.1
    · exact eqFrom_at h.2 i (by omega) (by omega)
theorem eqFrom_self (l : List Int) : ∀ n s, eqFrom l l s n = true
  | 0, _ => rfl
  | n + 1, s => by simp [eqFrom, eqFrom_self l n (s + 1)]
theorem eqFrom_iff {l m : List Int} (hl : l.length = 64) (hm : m.length = 64) : eqFrom l m 0 64 = decide (l = m) := by
  rw [Bool.eq_iff_iff, decide_eq_true_eq]
  constructor
  · intro h; exact ext_at (P := 1) (by omega) (by omega) (fun i hi => eqFrom_at h i (by omega) (by omega))
  · rintro rfl; exact eqFrom_self _ _ _
theorem eq_pages (l m : List Int) (hl : l.length = 64) (hm : m.length = 64) (w : World) :
    (Op.equalIn 10000 70 (.agg (l.map (Value.int .u32)).toArray) (.agg (m.map (Value.int .u32)).toArray)).run Try.prog w = .ok (decide (l = m)) w := by
  rw [show (10000 : Nat) = 9999 + 1 from rfl, Op.equalIn]
  simp only [Sem.run_bind, run_underlying Try.underlying70, Result.andThen_ok]
  simp only [Std.Legacy.Range.forIn_eq_forIn_range', Std.Legacy.Range.size, Nat.sub_zero, Nat.add_sub_cancel, Nat.div_one, size_u32, Result.andThen_ok]
  rw [eq_loop l m hl hm w 64 0 (by omega), eqFrom_iff hl hm]
  by_cases h : l = m <;> simp [h]
theorem guard_pages (x y : Operand) (xs ys : Array Value) (w : World) : (eqGuard .eql 70 x y (.agg xs) (.agg ys)).run Try.prog w = .ok () w := by
  have : Try.prog.eqGuardType Try.prog.depth 70 = false := by kernel_rfl
  unfold eqGuard
  simp [this]
theorem eql_pages (l m : List Int) (hl : l.length = 64) (hm : m.length = 64) (w : World) :
    (binOp .eql 70 (.agg (l.map (Value.int .u32)).toArray) (.agg (m.map (Value.int .u32)).toArray)).run Try.prog w = .ok (.bool (decide (l = m))) w := by
  simp [binOp, Op.equal, Op.maxDepth, eq_pages l m hl hm, Sem.run_bind, Result.andThen]
def Pg (w : World) (a : Nat) (l : List Int) : Prop := w.heap[a]? = some (.cells (l.map (Value.int .u32)).toArray 70 (0, 0)) ∧ l.length = 64
theorem Pg.range {w W : World} {a : Nat} {l : List Int} (h : Pg w a l) (hw : W.heap = w.heap) : W.rangeAt a 0 (l.map (Value.int .u32)) := fun j v hv => by
  have h1 := h.1
  rw [← hw] at h1
  rw [Nat.zero_add]
  simp only [World.cell?, h1]
  simpa using hv

theorem alike1_any (a b : Nat) (w : World) (l m : List Int) (h1 : Pg w a l) (h2 : Pg w b m) : Calls Try.prog 50 #[.pointer (some ⟨a, 0, none⟩), .pointer (some ⟨b, 0, none⟩)] w fun e w' => e = .returned (.bool (decide (l = m))) ∧ w' = w.drew := by
  have hmo : Try.prog.follows .mixedOrders = true := by kernel_rfl
  have hi1 : (Try.prog.info? 70).map (·.size) = some (l.map (Value.int .u32)).length := by rw [A.infoP]; simp [h1.2]
  have hi2 : (Try.prog.info? 70).map (·.size) = some (m.map (Value.int .u32)).length := by rw [A.infoP]; simp [h2.2]
  go_enter Try.func50, Try.ntmps50
  go_wp2
  refine wp_mid (fun a' W => W = w.drew ∧ a' = { tmps := #[.pointer (some ⟨a, 0, none⟩), .pointer (some ⟨b, 0, none⟩), undef, undef, .bool (decide (l = m)), .pointer (some ⟨a, 0, none⟩), .pointer (some ⟨a, 0, none⟩), .agg (l.map (Value.int .u32)).toArray, .pointer (some ⟨b, 0, none⟩), .pointer (some ⟨b, 0, none⟩), .agg (m.map (Value.int .u32)).toArray, .bool (decide (l = m))], defers := [] }) ?reg ?rest
  case reg =>
    refine wp_region_held (S := fun W => W.heap = w.heap) hmo ?_
    change wpAnyH _ _ _ _ _ _ _ _ w.drew
    have hS0 : w.drew.heap = w.heap := rfl
    refine wpAnyH_take (i := 0) (v := .pointer (some ⟨a, 0, none⟩)) rfl (by kernel_rfl) (by kernel_rfl) (by kernel_rfl) (fun _ _ _ h => h) (.inl ⟨by rfl, fun W hW => by go_simp⟩) hS0 ?_
    try simp only [Act.put, List.setIfInBounds_toArray, List.set_cons_zero, List.set_cons_succ]
    refine wpAnyH_take (i := 1) (v := .pointer (some ⟨a, 0, none⟩)) rfl (by kernel_rfl) (by kernel_rfl) (by kernel_rfl) (fun _ _ _ h => h) (.inl ⟨by rfl, fun W hW => by go_simp⟩) hS0 ?_
    try simp only [Act.put, List.setIfInBounds_toArray, List.set_cons_zero, List.set_cons_succ]
    refine wpAnyH_take (i := 2) (v := .agg (l.map (Value.int .u32)).toArray) rfl (by kernel_rfl) (by kernel_rfl) (by kernel_rfl) (fun _ _ _ h => h) (yieldsIf_load_mid (by rfl) 70 _ rfl a 0 rfl (l.map (Value.int .u32)) _ (fun W hW => h1.range hW) Try.underlying70 rfl hi1) hS0 ?_
    try simp only [Act.put, List.setIfInBounds_toArray, List.set_cons_zero, List.set_cons_succ]
    refine wpAnyH_take (i := 3) (v := .pointer (some ⟨b, 0, none⟩)) rfl (by kernel_rfl) (by kernel_rfl) (by kernel_rfl) (fun _ _ _ h => h) (.inl ⟨by rfl, fun W hW => by go_simp⟩) hS0 ?_
    try simp only [Act.put, List.setIfInBounds_toArray, List.set_cons_zero, List.set_cons_succ]
    refine wpAnyH_take (i := 4) (v := .pointer (some ⟨b, 0, none⟩)) rfl (by kernel_rfl) (by kernel_rfl) (by kernel_rfl) (fun _ _ _ h => h) (.inl ⟨by rfl, fun W hW => by go_simp⟩) hS0 ?_
    try simp only [Act.put, List.setIfInBounds_toArray, List.set_cons_zero, List.set_cons_succ]
    refine wpAnyH_take (i := 5) (v := .agg (m.map (Value.int .u32)).toArray) rfl (by kernel_rfl) (by kernel_rfl) (by kernel_rfl) (fun _ _ _ h => h) (yieldsIf_load_mid (by rfl) 70 _ rfl b 0 rfl (m.map (Value.int .u32)) _ (fun W hW => h2.range hW) Try.underlying70 rfl hi2) hS0 ?_
    try simp only [Act.put, List.setIfInBounds_toArray, List.set_cons_zero, List.set_cons_succ]
    have he := fun W => eql_pages l m h1.2 h2.2 W
    have hgd := guard_pages
    refine wpAnyH_take (i := 6) (v := .bool (decide (l = m))) rfl (by kernel_rfl) (by kernel_rfl) (by kernel_rfl) (fun _ _ _ h => h) (.inl ⟨by rfl, fun W hW => by go_simp⟩) hS0 ?_
    try simp only [Act.put, List.setIfInBounds_toArray, List.set_cons_zero, List.set_cons_succ]
    refine wpAnyH_take (i := 7) (v := .bool (decide (l = m))) rfl (by kernel_rfl) (by kernel_rfl) (by kernel_rfl) (fun _ _ _ h => h) (.inl ⟨by rfl, fun W hW => by go_simp⟩) hS0 ?_
    try simp only [Act.put, List.setIfInBounds_toArray, List.set_cons_zero, List.set_cons_succ]
    exact wpAnyH_done (by kernel_rfl) ⟨rfl, rfl⟩ _
  case rest =>
    rintro _ _ ⟨rfl, rfl⟩
    clear h1 h2 hi1 hi2
    go_wp2
    go_ret
    exact ⟨rfl, rfl⟩
end Go.Proofs.Ytepmndadbikijaa
