/-
  Layer 2: how long a slice that came in may be: the reach.
-/
import Derived.Test.YtafnclkkncokpaaDoorArgs
import Derived.Test.YtafnclkkncokpaaDoorWalkPlay
import Derived.SizedLaws
namespace Go.Proofs.YtafnclkkncokpaaDoor
open Go.ChangeShapes Go.WideShapes Go.ChangeAt Go.RowKit Go.Joins Go.Deep
set_option maxRecDepth 100000
section
variable {H : Type} {enc : TypeId × Value → H} {w : World} {base b0 : Nat} {spare : Nat → Bool} {held : Bool} {r : Reach} {v : Value} {d : DataW H} {p : List MemPlace}
theorem slice_datum {P : Program} {t e : TypeId} (ht : P.underlying t = some (.slice e)) (h : DataW.Trod enc P w base spare held t v d p) (hv : Value.okWide P w r b0 t v) {o : Option Addr} {n c : Nat} (he : v = .slice o n c) :
    n = 0 ∨ ∃ el sp, d = .slice el sp ∧ el.length = n := by
  obtain ⟨fuel, hf⟩ := h
  rw [slice_cells ht hv] at hf
  rcases open_slice ht hf with ⟨h0, _⟩ | ⟨a, len, cap, m, n', D, Pl, hcs, hb, hl, hm, hmm, hx, hi⟩
  · have : v = .slice none 0 0 := by simpa using h0
    rw [he] at this
    cases this
    exact .inl rfl
  · have h1 : v = .slice (some a) len cap := by simpa using hcs
    rw [he] at h1
    cases h1
    simp only [Prod.mk.injEq] at hx
    exact .inr ⟨_, _, hx.1, by simp⟩
theorem steps_len {P : Program} {ts : List TypeId} {ds : List (DataW H)} {t e : TypeId} {xs : List Step4} (hsz : (DataW.weightsEach P ts ds).all (· ≤ reachBytes) = true) (j : Nat) (hj : ts[j]? = some t) (hd : ds[j]? = some d) (ht : P.underlying t = some (.slice e)) (hb : 1 ≤ P.bytesOf e)
    (h : DataW.Trod enc P w base spare held t v d p) (hv : Value.okWide P w r b0 t v) (hin : StepsIn w v xs) : xs.length ≤ 140737488355328 := by
  obtain ⟨o, c, he, _, _, _⟩ := hin.form
  rcases slice_datum ht h hv he with h0 | ⟨el, sp, rfl, hn⟩
  · omega
  · have h1 := sized_slice hsz hj hd ht
    have h2 := reachBytes_lt
    have h3 : el.length + sp.length ≤ (el.length + sp.length) * P.bytesOf e := Nat.le_mul_of_pos_right _ hb
    omega
end
end Go.Proofs.YtafnclkkncokpaaDoor
