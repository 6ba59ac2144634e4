/-
  Layer 6: slices that came in: integers; calls (an int, two words, two bools). The document's table behind calls.
-/
import Derived.Test.YtafkjokbidkkhaaTab
import Derived.Test.YtafkjokbidkkhaaAct
namespace Go.Proofs.Ytafkjokbidkkhaa
open Go.RowKit

def at0 (l : List Int) (i : Nat) : Int := l[i]?.getD 0
theorem at0_lt {l : List Int} {i : Nat} (h : i < l.length) : l[i]? = some (at0 l i) := by simp [at0, List.getElem?_eq_getElem h]
/-! ### a slice of integers -/
/-- A slice of one-cell integers. -/
def NumsIn (k : IntKind) (w : World) (v : Value) (xs : List Int) : Prop :=
  (v = .slice none 0 0 ∧ xs = []) ∨ ∃ (a : Addr) (c : Nat), v = .slice (some a) xs.length c ∧ xs.length ≤ c ∧ xs.length ≤ maxLen ∧ (∀ (i : Nat) x, xs[i]? = some x → w.cell? (a.add i) = some (.int k x)) ∧ ∀ x ∈ xs, (Lit.int k x).wf = true
theorem NumsIn.below {k : IntKind} {w w' : World} {v : Value} {xs : List Int} (h : NumsIn k w v xs) (hb : Below w.heap.size w w') : NumsIn k w' v xs := by
  rcases h with h | ⟨a, c, h1, h2, h3, h4, h5⟩
  · exact .inl h
  · refine .inr ⟨a, c, h1, h2, h3, fun i x hi => ?_, h5⟩
    have h6 := h4 i x hi
    have := World.block_lt_of_cell? _ _ h6
    unfold World.cell? at h6 ⊢
    rw [hb.block _ this]; exact h6
theorem NumsIn.form {k : IntKind} {w : World} {v : Value} {xs : List Int} (h : NumsIn k w v xs) : ∃ (o : Option Addr) (c : Nat), v = .slice o xs.length c ∧ xs.length ≤ c ∧ xs.length ≤ maxLen ∧ ∀ (i : Nat), i < xs.length → ∃ a, o = some a ∧ w.cell? (a.add i) = some (.int k (at0 xs i)) := by
  rcases h with ⟨rfl, rfl⟩ | ⟨a, c, h1, h2, h3, h4, h5⟩
  · exact ⟨none, 0, rfl, Nat.le_refl _, by simp, fun i hi => by simp at hi⟩
  · exact ⟨some a, c, h1, h2, h3, fun i hi => ⟨a, rfl, h4 i _ (at0_lt hi)⟩⟩

/-! ### calls -/
structure Act5 where
  k : Int
  p : Int
  f : Int
  wr : Bool
  th : Bool
def ActsIn (w : World) (v : Value) (xs : List Act5) : Prop :=
  (v = .slice none 0 0 ∧ xs = []) ∨ ∃ (a : Addr) (c : Nat), v = .slice (some a) xs.length c ∧ xs.length ≤ c ∧ xs.length ≤ maxLen ∧ ∀ (i : Nat) s, xs[i]? = some s → w.cell? (a.add (i * 5)) = some (.int .i64 s.k) ∧ w.cell? (a.add (i * 5 + 1)) = some (.int .u32 s.p) ∧ w.cell? (a.add (i * 5 + 2)) = some (.int .u32 s.f) ∧ w.cell? (a.add (i * 5 + 3)) = some (.bool s.wr) ∧ w.cell? (a.add (i * 5 + 4)) = some (.bool s.th)
theorem keep_cell {w w' : World} (hb : Below w.heap.size w w') {p : Addr} {v : Value} (h : w.cell? p = some v) : w'.cell? p = some v := by
  have := World.block_lt_of_cell? _ _ h
  unfold World.cell? at h ⊢
  rw [hb.block _ this]; exact h
theorem ActsIn.below {w w' : World} {v : Value} {xs : List Act5} (h : ActsIn w v xs) (hb : Below w.heap.size w w') : ActsIn w' v xs := by
  rcases h with h | ⟨a, c, h1, h2, h3, h4⟩
  · exact .inl h
  · refine .inr ⟨a, c, h1, h2, h3, fun i s hi => ?_⟩
    obtain ⟨q0, q1, q2, q3, q4⟩ := h4 i s hi
    exact ⟨keep_cell hb q0, keep_cell hb q1, keep_cell hb q2, keep_cell hb q3, keep_cell hb q4⟩
theorem ActsIn.form {w : World} {v : Value} {xs : List Act5} (h : ActsIn w v xs) : ∃ (o : Option Addr) (c : Nat), v = .slice o xs.length c ∧ xs.length ≤ c ∧ xs.length ≤ maxLen := by
  rcases h with ⟨rfl, rfl⟩ | ⟨a, c, h1, h2, h3, _⟩
  · exact ⟨none, 0, rfl, Nat.le_refl _, by simp⟩
  · exact ⟨some a, c, h1, h2, h3⟩
def plT (xs : List Act5) : Tl := xs.foldl (fun t s => actT t s.k s.p s.f s.wr) T0
theorem plT_step {xs : List Act5} {k : Nat} {s : Act5} (h : xs[k]? = some s) : plT (xs.take (k + 1)) = actT (plT (xs.take k)) s.k s.p s.f s.wr := by
  have hk := (List.getElem?_eq_some_iff.1 h).1
  rw [List.take_succ_eq_append_getElem hk]
  unfold plT
  rw [List.foldl_append]
  have : xs[k] = s := (List.getElem?_eq_some_iff.1 h).2
  simp [this]
theorem ok_fold : ∀ (xs : List Act5) (t : Tl), Ok t → Ok (xs.foldl (fun t s => actT t s.k s.p s.f s.wr) t)
  | [], _, h => h
  | s :: xs, t, h => ok_fold xs _ (ok_act h _ _ _ _)
theorem ok_plT (xs : List Act5) : Ok (plT xs) := ok_fold xs _ ok_T0
end Go.Proofs.Ytafkjokbidkkhaa
