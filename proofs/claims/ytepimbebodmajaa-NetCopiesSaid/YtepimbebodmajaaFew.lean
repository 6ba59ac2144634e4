/-
  Layer 9: few of the statements: walk.
-/
import Derived.Test.YtepimbebodmajaaLeaf
import Derived.Test.YtepimbebodmajaaArgs
namespace Go.Proofs.Ytepimbebodmajaa
open Go.RowKit
set_option maxHeartbeats 1000000
set_option linter.unusedVariables false

def cost : List Ac → Nat
  | [] => 0
  | s :: r => 20 + s.b.length + cost r
theorem cost_append (a b : List Ac) : cost (a ++ b) = cost a + cost b := by
  induction a with
  | nil => simp [cost]
  | cons x r ih => simp only [List.cons_append, cost, ih]; omega
theorem take_snoc {α : Type} {xs : List α} {k : Nat} {s : α} (h : xs[k]? = some s) : xs.take (k + 1) = xs.take k ++ [s] := by
  obtain ⟨hk, rfl⟩ := List.getElem?_eq_some_iff.1 h
  rw [List.take_succ_eq_append_getElem hk]
theorem cost_step {xs : List Ac} {k : Nat} {s : Ac} (h : xs[k]? = some s) : cost (xs.take (k + 1)) = cost (xs.take k) + 20 + s.b.length := by
  rw [take_snoc h, cost_append]; simp only [cost]; omega
theorem cost_len (xs : List Ac) : 20 * xs.length ≤ cost xs := by
  induction xs with
  | nil => simp [cost]
  | cons x r ih => simp only [cost, List.length_cons]; omega
theorem cost_mem {xs : List Ac} {s : Ac} (h : s ∈ xs) : s.b.length ≤ cost xs := by
  induction xs with
  | nil => cases h
  | cons x r ih =>
    simp only [cost]
    rcases List.mem_cons.1 h with rfl | h
    · omega
    · have := ih h; omega
/-- What few tells. -/
def FewP (xs : List Ac) (w : World) (e : Ending) (w' : World) : Prop := ∃ q : Bool, e = .returned (.bool q) ∧ w = w' ∧ (q = true → cost xs ≤ 8000)
set_option maxRecDepth 100000 in
theorem few_any {w : World} {v : Value} {xs : List Ac} (h : ActsIn w v xs) : Calls Try.prog 9 #[v] w fun e w' => FewP xs w e w' := by
  obtain ⟨o, c, rfl, hc, hm, hat⟩ := h.form
  unfold maxLen at hm
  have HA := Lib.hid hat
  clear h hat
  go_enter Try.func9, Try.ntmps9
  go_wp2
  go_loopw [3, 4] (fun s q wr => ∃ k n : Nat, k ≤ xs.length ∧ s = .int .i64 (n : Int) ∧ q = .int .i64 (k : Int) ∧ wr = w ∧ Hid (n = cost (xs.take k)) ∧ n ≤ 140737488370000) (fun _ q _ => xs.length + 1 - (intOf q).toNat)
  case atStart => exact ⟨0, 0, by omega, rfl, rfl, rfl, rfl, by omega⟩
  case round =>
    obtain ⟨k, n, hk, rfl, rfl, rfl, HN, hn⟩ := hrel
    by_cases hlt : k < xs.length
    · by_cases h5 : n ≤ 8000
      · obtain ⟨a, s, bv, rfl, hs, hfit, h6⟩ := HA.out k hlt
        have hi : (k : Int) < (xs.length : Int) := by omega
        have h5' : (n : Int) ≤ 8000 := by omega
        obtain ⟨ob, cb, rfl, _, _, _⟩ := h6.nb.form
        have c2 := h6.b
        have hbl := hfit.bl
        have HN2 : Hid (n + 20 + s.b.length = cost (xs.take (k + 1))) := by show _ = _; rw [cost_step hs, ← HN.out]
        clear h6 hfit hs
        go_wp2
        go_roundw
        case rel => exact ⟨k + 1, n + 20 + s.b.length, by omega, by go_num, by go_num, trivial, HN2.out, by omega⟩
        case measure => simp [intOf]; omega
      · have h5' : ¬ (n : Int) ≤ 8000 := by omega
        have hi : (k : Int) < (xs.length : Int) := by omega
        go_wp2
        go_ret
        exact ⟨false, rfl, rfl, fun e => by cases e⟩
    · obtain rfl : k = xs.length := by omega
      have HC : Hid (n = cost xs) := by have := HN.out; rwa [List.take_length] at this
      have hlt' : ¬ ((xs.length : Nat) : Int) < (xs.length : Int) := by omega
      go_wp2
      go_ret
      exact ⟨decide (n ≤ 8000), by simp; omega, rfl, fun e => by rw [← HC.out]; simpa using e⟩
end Go.Proofs.Ytepimbebodmajaa
