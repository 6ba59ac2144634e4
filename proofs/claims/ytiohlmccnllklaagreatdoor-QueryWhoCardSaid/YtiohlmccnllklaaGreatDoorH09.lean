/-
  Layer 12: calls as arguments; which are more than the statements do: walks.
-/
import Derived.Test.YtiohlmccnllklaaGreatDoorH01
import Derived.Test.YtiohlmccnllklaaGreatDoorH07
set_option linter.unusedVariables false
set_option linter.unusedSimpArgs false
namespace Go.Proofs.YtiohlmccnllklaaGreatDoor
open Go.RowKit
set_option maxHeartbeats 8000000
set_option maxRecDepth 100000
set_option linter.unusedVariables false
set_option linter.unusedSimpArgs false

/-- A call. -/
structure Ac where
  k : Int
  n : Int
  p : T.Pl
  s : Int
  ts : List T.Tc
structure Ac.Ok (a : Ac) : Prop where
  k : I64 a.k
  n : I64 a.n
  p : Pi a.p
  s : W32 a.s
def acc (a : Ac) (v : Value) : Array Value := #[.int .i64 a.k, .int .i64 a.n, .int .i64 a.p.1, .int .i64 a.p.2, .int .u32 a.s, v]
theorem acc_ok (a : Ac) {v : Value} (h : v.oneCell' = true) : Ok1 6 (acc a v) := ⟨rfl, by simp [acc, h, show ∀ (k : IntKind) (x : Int), (Value.int k x).oneCell' = true from fun _ _ => rfl]⟩
/-- The cells of calls. -/
def AcC (w : World) : List Ac → List Value → Prop
  | [], cs => cs = []
  | a :: r, cs => ∃ v cs', cs = (acc a v).toList ++ cs' ∧ TsIn w v a.ts ∧ AcC w r cs'
def ActsIn (w : World) (v : Value) (l : List Ac) : Prop := ∃ cs, Rd 6 w v l.length cs ∧ AcC w l cs ∧ ∀ a ∈ l, a.Ok
section
variable {w w' : World} {v : Value} {l : List Ac}
theorem AcC.below (hb : Below w.heap.size w w') : ∀ (l : List Ac) (cs : List Value), AcC w l cs → AcC w' l cs
  | [], _, h => h
  | _ :: r, _, ⟨v, cs', e, hp, hr⟩ => ⟨v, cs', e, hp.below hb, AcC.below hb r cs' hr⟩
theorem AcC.at_ : ∀ (l : List Ac) (cs : List Value) (k : Nat) (a : Ac), AcC w l cs → l[k]? = some a → ∃ v, (cs.drop (k * 6)).take 6 = (acc a v).toList ∧ TsIn w v a.ts
  | [], _, k, t, _, h => by simp at h
  | y :: r, _, 0, t, ⟨v, cs', e, hp, hr⟩, h => by
    simp at h; subst h
    exact ⟨v, by rw [e]; rfl, hp⟩
  | y :: r, _, k + 1, t, ⟨v, cs', e, hp, hr⟩, h => by
    rw [List.getElem?_cons_succ] at h
    obtain ⟨v', h1, h2⟩ := AcC.at_ r cs' k t hr h
    refine ⟨v', ?_, h2⟩
    rw [e, show (k + 1) * 6 = k * 6 + 6 by omega]
    exact h1
theorem ActsIn.below (h : ActsIn w v l) (hb : Below w.heap.size w w') : ActsIn w' v l := by
  obtain ⟨cs, h1, h2, h3⟩ := h
  exact ⟨cs, h1.below hb, AcC.below hb _ _ h2, h3⟩
theorem ActsIn.shape (h : ActsIn w v l) : ∃ ao c, v = .slice ao l.length c ∧ l.length ≤ c ∧ l.length ≤ maxLen := by
  obtain ⟨cs, h1, _⟩ := h
  exact h1.shape
/-- The cells of a call in a row. -/
structure AtC (w : World) (g o : Nat) (a : Ac) (tv : Value) : Prop where
  k : w.cell? ⟨g, o, none⟩ = some (.int .i64 a.k)
  n : w.cell? ⟨g, o + 1, none⟩ = some (.int .i64 a.n)
  p1 : w.cell? ⟨g, o + 2, none⟩ = some (.int .i64 a.p.1)
  p2 : w.cell? ⟨g, o + 3, none⟩ = some (.int .i64 a.p.2)
  s : w.cell? ⟨g, o + 4, none⟩ = some (.int .u32 a.s)
  t : w.cell? ⟨g, o + 5, none⟩ = some tv
theorem AtC.below {g o : Nat} {a : Ac} {tv : Value} (h : AtC w g o a tv) (hb : Below w.heap.size w w') : AtC w' g o a tv :=
  ⟨cell_below h.k hb, cell_below h.n hb, cell_below h.p1 hb, cell_below h.p2 hb, cell_below h.s hb, cell_below h.t hb⟩
theorem ActsIn.at_ (h : ActsIn w v l) {k : Nat} (hk : k < l.length) : ∃ g o c a tv, v = .slice (some ⟨g, o, none⟩) l.length c ∧ l[k]? = some a ∧ a.Ok ∧ TsIn w tv a.ts ∧ AtC w g (o + k * 6) a tv ∧ w.rangeAt g (o + k * 6) (acc a tv).toList := by
  obtain ⟨cs, h1, h2, h3⟩ := h
  obtain ⟨g, o, c, e, _, hr⟩ := h1.elem hk
  have ha : l[k]? = some l[k] := List.getElem?_eq_getElem hk
  obtain ⟨tv, h4, h5⟩ := AcC.at_ l cs k _ h2 ha
  rw [h4] at hr
  exact ⟨g, o, c, _, tv, e, ha, h3 _ (List.getElem_mem hk), h5, ⟨hr 0 _ rfl, hr 1 _ rfl, hr 2 _ rfl, hr 3 _ rfl, hr 4 _ rfl, hr 5 _ rfl⟩, hr⟩
end

/-! ### more than is done -/
def broadS (l : List T.Tc) : Bool := decide (20 < l.length) || l.any fun t => decide (20 < t.2.length)
def vastS (l : List Ac) : Bool := decide (30 < l.length) || l.any fun a => decide (200 < a.n ∧ a.n ≤ 65536) || broadS a.ts
theorem any_false_succ {α : Type} (f : α → Bool) (l : List α) (k : Nat) (x : α) (h : l[k]? = some x) (h0 : (l.take k).any f = false) (h1 : f x = false) : (l.take (k + 1)).any f = false := by
  rw [List.take_add_one, h]; simp [h0, h1]
theorem any_hit {α : Type} {f : α → Bool} {l : List α} {k : Nat} {x : α} (h : l[k]? = some x) (h1 : f x = true) : l.any f = true := List.any_eq_true.2 ⟨x, List.mem_of_getElem? h, h1⟩
end Go.Proofs.YtiohlmccnllklaaGreatDoor
