/-
  Layer 3: the walk of ShadowCopies: the whole.
-/
import Derived.Test.YtepmndadbikijaaCopiesA
import Derived.Test.YtepmndadbikijaaCopiesB
namespace Go.Proofs.Ytepmndadbikijaa
open Go.RowKit Go.Shelf
set_option maxHeartbeats 1000000
set_option linter.unusedSimpArgs false
set_option linter.unusedVariables false
attribute [local go_sem] Oper.semAt_some

set_option maxRecDepth 100000 in
theorem ShadowCopies_walk (a : Int) (_ha : (Lit.int .i64 a).wf = true) (v : Value) (xs : List Step4) (xk xa xn xx : Int) (hxx : W32 xx) (w : World) (hin : StepsIn w v xs) :
    Calls Try.prog 7 #[.int .i64 a, v, .agg #[.int .i64 xk, .int .i64 xa, .int .i64 xn, .int .u32 xx]] w fun e w' => e = .returned (.bool true) ∧ Below w.heap.size w w' := by
  obtain ⟨o, cap, rfl, hcap, hlen, _⟩ := hin.form
  by_cases hbad : a < 1 ∨ 32 < a ∨ 40 < (xs.length : Int)
  · refine (callsIn_wide (n := 5)).1 ?_
    refine callsIn_of_wp_marks Try.func7 rfl trivial ?_ rfl
    refine wpIn_wide.2 ?_
    simp only [Try.ntmps7, List.size_toArray, List.length_cons, List.length_nil, Nat.reduceAdd, Nat.reduceSub, Array.replicate_succ, Array.replicate_zero, List.push_toArray, List.append_toArray, List.nil_append, List.cons_append]
    have e1 := heap_alloc_new (w.alloc (.cells #[.int .i64 xk, .int .i64 xa, .int .i64 xn, .int .u32 xx] 47)) (.cells #[.bool false] 4)
    rw [World.size_alloc] at e1
    have hb0 : Below w.heap.size w ((w.alloc (.cells #[.int .i64 xk, .int .i64 xa, .int .i64 xn, .int .u32 xx] 47)).alloc (.cells #[.bool false] 4)) := ((Below.refl _ _).alloc (Nat.le_refl _) _).alloc (by simp) _
    have hz0 := hb0.size
    simp at hz0
    have E1 := Lib.hid e1
    have HB0 := Lib.hid hb0
    clear e1 hb0 hin
    have hor : a < 1 ∨ (¬ a < 1 ∧ 32 < a) ∨ (¬ a < 1 ∧ ¬ 32 < a ∧ 40 < (xs.length : Int)) := by omega
    clear hbad
    rcases hor with q1 | ⟨q1, q2⟩ | ⟨q1, q2, q3⟩
    all_goals
      go_wp2_with (go_at_call 23; refine (works_any _).mono ?_; rintro e W1 ⟨rfl, hb⟩; have E2 := Lib.hid ((hb.block _ (by simp)).trans E1.out); have HB2 := Lib.hid (HB0.out.trans (hb.mono HB0.out.size)); clear hb; obtain ⟨cb, fb⟩ := boxed_cell E2.out)
      have hc := (boxed_cell (boxed_set E2.out (.bool true))).1
      refine ⟨.bool true, by simp [results, Try.results7, go_sem, hc], rfl, ?_⟩
      exact HB2.out.setCell (p := ⟨w.heap.size + 1, 0, none⟩) (by simp) _
  · obtain ⟨P, rfl⟩ := Int.eq_ofNat_of_zero_le (show 0 ≤ a by omega)
    by_cases hk0 : xk = 0
    · exact copies_set P (by omega) (by omega) o cap xs hcap hlen (by omega) xk xa xn xx hxx hk0 w hin
    · exact copies_fill P (by omega) (by omega) o cap xs hcap hlen (by omega) xk xa xn xx hxx hk0 w hin
end Go.Proofs.Ytepmndadbikijaa
