/-
  Layer 7: arguments opened: a call (an int, an int, bytes, a byte, a word, a bool), slices of calls, of slices of bytes, of ints; how long the bytes may be: the reach.
-/
import Derived.Test.YtmnkggnghflcpaaRows
import Derived.Test.YtmnkggnghflcpaaTab
import Derived.WalkKit
import Derived.ProofKit
import Derived.OpenShut
import Derived.Lib.SmallJoins
import Derived.Deep.Slices
import Derived.Deep.Fields
import Derived.ChangeSame
import Derived.ChangeSlices
import Derived.ChangeArms
import Derived.WideShapes
import Derived.SizedLaws
namespace Go.Proofs.Ytmnkggnghflcpaa
open Go.ChangeShapes Go.WideShapes Go.ChangeAt Go.RowKit Go.Joins Go.Deep

structure Ac.Fit (a : Ac) : Prop where
  ok : a.Ok
  bl : a.b.length ≤ 140737488355328
/-- A call lies at an address; bv: its bytes. -/
structure At6 (w : World) (q : Addr) (s : Ac) (bv : Value) : Prop where
  k : w.cell? q = some (.int .i64 s.k)
  ln : w.cell? ⟨q.block, q.off + 1, none⟩ = some (.int .i64 s.ln)
  b : w.cell? ⟨q.block, q.off + 2, none⟩ = some bv
  y : w.cell? ⟨q.block, q.off + 3, none⟩ = some (.int .u8 s.y)
  x : w.cell? ⟨q.block, q.off + 4, none⟩ = some (.int .u32 s.x)
  up : w.cell? ⟨q.block, q.off + 5, none⟩ = some (.bool s.up)
  nb : NumsIn .u8 w bv s.b
def ActsIn (w : World) (v : Value) (xs : List Ac) : Prop :=
  (v = .slice none 0 0 ∧ xs = []) ∨ ∃ (a : Addr) (c : Nat), v = .slice (some a) xs.length c ∧ xs.length ≤ c ∧ xs.length ≤ maxLen ∧ ∀ (i : Nat) s, xs[i]? = some s → s.Fit ∧ ∃ bv, At6 w (a.add (i * 6)) s bv
def BysIn (w : World) (v : Value) (xs : List (List Int)) : Prop :=
  (v = .slice none 0 0 ∧ xs = []) ∨ ∃ (a : Addr) (c : Nat), v = .slice (some a) xs.length c ∧ xs.length ≤ c ∧ xs.length ≤ maxLen ∧ ∀ (i : Nat) s, xs[i]? = some s → ∃ bv, w.cell? (a.add i) = some bv ∧ NumsIn .u8 w bv s
section
variable {w w' : World} {v : Value} {xs : List Ac}
theorem cell_below {q : Addr} {u : Value} (h : w.cell? q = some u) (hb : Below w.heap.size w w') : w'.cell? q = some u := by
  have hl := World.block_lt_of_cell? _ _ h
  unfold World.cell? at h ⊢
  rw [hb.block _ hl]; exact h
theorem At6.below {q : Addr} {s : Ac} {bv : Value} (h : At6 w q s bv) (hb : Below w.heap.size w w') : At6 w' q s bv :=
  ⟨cell_below h.k hb, cell_below h.ln hb, cell_below h.b hb, cell_below h.y hb, cell_below h.x hb, cell_below h.up hb, h.nb.below hb⟩
theorem ActsIn.below (h : ActsIn w v xs) (hb : Below w.heap.size w w') : ActsIn w' v xs := by
  rcases h with h | ⟨a, c, h1, h2, h3, h4⟩
  · exact .inl h
  · exact .inr ⟨a, c, h1, h2, h3, fun i s hs => ⟨(h4 i s hs).1, by obtain ⟨bv, h5⟩ := (h4 i s hs).2; exact ⟨bv, h5.below hb⟩⟩⟩
theorem BysIn.below {xs : List (List Int)} (h : BysIn w v xs) (hb : Below w.heap.size w w') : BysIn w' v xs := by
  rcases h with h | ⟨a, c, h1, h2, h3, h4⟩
  · exact .inl h
  · exact .inr ⟨a, c, h1, h2, h3, fun i s hs => by obtain ⟨bv, h5, h6⟩ := h4 i s hs; exact ⟨bv, cell_below h5 hb, h6.below hb⟩⟩
theorem ActsIn.form (h : ActsIn w v xs) : ∃ (o : Option Addr) (c : Nat), v = .slice o xs.length c ∧ xs.length ≤ c ∧ xs.length ≤ maxLen ∧ ∀ i, i < xs.length → ∃ a s bv, o = some a ∧ xs[i]? = some s ∧ s.Fit ∧ At6 w (a.add (i * 6)) s bv := by
  rcases h with ⟨rfl, rfl⟩ | ⟨a, c, h1, h2, h3, h4⟩
  · exact ⟨none, 0, rfl, Nat.le_refl _, by simp, fun i hi => by simp at hi⟩
  · refine ⟨some a, c, h1, h2, h3, fun i hi => ?_⟩
    obtain ⟨h5, bv, h6⟩ := h4 i _ (List.getElem?_eq_getElem hi)
    exact ⟨a, _, bv, rfl, List.getElem?_eq_getElem hi, h5, h6⟩
theorem BysIn.form {xs : List (List Int)} (h : BysIn w v xs) : ∃ (o : Option Addr) (c : Nat), v = .slice o xs.length c ∧ xs.length ≤ c ∧ xs.length ≤ maxLen ∧ ∀ i, i < xs.length → ∃ a s bv, o = some a ∧ xs[i]? = some s ∧ w.cell? (a.add i) = some bv ∧ NumsIn .u8 w bv s := by
  rcases h with ⟨rfl, rfl⟩ | ⟨a, c, h1, h2, h3, h4⟩
  · exact ⟨none, 0, rfl, Nat.le_refl _, by simp, fun i hi => by simp at hi⟩
  · refine ⟨some a, c, h1, h2, h3, fun i hi => ?_⟩
    obtain ⟨bv, h5, h6⟩ := h4 i _ (List.getElem?_eq_getElem hi)
    exact ⟨a, _, bv, rfl, List.getElem?_eq_getElem hi, h5, h6⟩
end

set_option maxRecDepth 100000
theorem slice_cells {P : Program} {t e : TypeId} {w : World} {r : Reach} {base : Nat} {v : Value} (ht : P.underlying t = some (.slice e)) (hv : Value.okWide P w r base t v) : v.cells.toList = [v] := by
  obtain ⟨a, len, cap, rfl⟩ := okWide_slice ht hv
  rfl
section
variable {H : Type} {enc : TypeId × Value → H} {w : World} {base b0 : Nat} {spare : Nat → Bool} {held : Bool} {r : Reach} {v : Value} {d : DataW H} {p : List MemPlace}
theorem weights_all {P : Program} {e : TypeId} : ∀ {l : List (DataW H)} {d : DataW H}, d ∈ l → ∀ n ∈ d.weights P e, n ∈ DataW.weightsAll P e l
  | x :: l, d, h, n, hn => by
    simp only [DataW.weightsAll, List.mem_append]
    rcases List.mem_cons.1 h with rfl | h
    · exact .inl hn
    · exact .inr (weights_all h n hn)
  | [], _, h, _, _ => by cases h
theorem nums_trod {P : Program} {t e : TypeId} {k : IntKind} {fuel : Nat} {x : DataW H × List MemPlace} (ht : P.underlying t = some (.slice e)) (he : P.underlying e = some (.int k)) (hc : P.cellsOf e = 1)
    (hf : DataW.trod enc P w base spare held fuel t [v] = some x) : ∃ xs, NumsIn k w v xs ∧ ((∀ n ∈ x.1.weights P t, n ≤ reachBytes) → xs.length * P.bytesOf e ≤ reachBytes) := by
  rcases open_ints ht he hc hf with ⟨h0, _⟩ | ⟨a, len, cap, zs, hcs, hb, hl, hm, hz, hx, hcell, hw⟩
  · exact ⟨[], .inl ⟨by simpa using h0, rfl⟩, fun _ => by simp⟩
  · have hle : len ≤ zs.length := by rw [hz]; split <;> omega
    have hlen : (zs.take len).length = len := by simp; omega
    refine ⟨zs.take len, .inr ⟨a, cap, by rw [hlen]; simpa using hcs, by rw [hlen]; omega, by rw [hlen]; omega, fun i x hi => ?_, fun x hx => hw x (List.mem_of_mem_take hx)⟩, fun hs => ?_⟩
    · have hil : i < len := by have := (List.getElem?_eq_some_iff.1 hi).1; omega
      rw [hcell i (by omega)]
      rw [List.getElem?_take_of_lt hil] at hi
      simp [List.getD, hi]
    · rw [hx] at hs
      have h1 := hs (((lits k (zs.take len) : List (DataW H)).length + (lits k (zs.drop len) : List (DataW H)).length) * P.bytesOf e) (by simp [DataW.weights, ht])
      have h2 : (lits k (zs.take len) : List (DataW H)).length = len := by simp [lits, hle]
      rw [h2, Nat.add_mul] at h1
      rw [hlen]; omega
theorem open_ints' (h : DataW.Trod enc Try.prog w base spare held 34 v d p) (hv : Value.okWide Try.prog w r b0 34 v) : ∃ xs, NumsIn .i64 w v xs := by
  obtain ⟨fuel, hf⟩ := h
  rw [slice_cells Try.underlying34 hv] at hf
  obtain ⟨xs, h1, _⟩ := nums_trod Try.underlying34 Try.underlying3 (by kernel_rfl) hf
  exact ⟨xs, h1⟩
theorem open_boolA (hv : Value.okWide Try.prog w r b0 4 v) : ∃ b, v = .bool b := okWide_bool Try.underlying4 hv
theorem reach_b {n : Nat} (h : n * Try.prog.bytesOf 5 ≤ reachBytes) : n ≤ 140737488355328 := by
  have e : Try.prog.bytesOf 5 = 1 := by kernel_rfl
  rw [e] at h
  have := reachBytes_lt
  omega
/-- The six cells of a call. -/
theorem act_cells6 {n : Nat} {c0 c1 c2 c3 c4 c5 : Value} {x : DataW H × List MemPlace} (ht : DataW.trod enc Try.prog w base spare held n 39 [c0, c1, c2, c3, c4, c5] = some x) (hsz : ∀ n ∈ x.1.weights Try.prog 39, n ≤ reachBytes) :
    ∃ s : Ac, s.Fit ∧ c0 = .int .i64 s.k ∧ c1 = .int .i64 s.ln ∧ NumsIn .u8 w c2 s.b ∧ c3 = .int .u8 s.y ∧ c4 = .int .u32 s.x ∧ c5 = .bool s.up := by
  obtain ⟨ys, n', _, hx, hlen, hyl, hf⟩ := DataW.trod_struct Try.underlying39 ht
  match ys, hyl with
  | [y0, y1, y2, y3, y4, y5], _ =>
    have h0 := hf 0 _ rfl
    have h1 := hf 1 _ rfl
    have h2 := hf 2 _ rfl
    have h3 := hf 3 _ rfl
    have h4 := hf 4 _ rfl
    have h5 := hf 5 _ rfl
    have ei : Try.prog.cellsOf 3 = 1 := by kernel_rfl
    have eb : Try.prog.cellsOf 28 = 1 := by kernel_rfl
    have e8 : Try.prog.cellsOf 5 = 1 := by kernel_rfl
    have e32 : Try.prog.cellsOf 26 = 1 := by kernel_rfl
    have e4 : Try.prog.cellsOf 4 = 1 := by kernel_rfl
    change DataW.trod enc Try.prog w base spare held n' 3 (List.take (Try.prog.cellsOf 3) [c0, c1, c2, c3, c4, c5]) = some y0 at h0
    change DataW.trod enc Try.prog w base spare held n' 3 (List.take (Try.prog.cellsOf 3) [c1, c2, c3, c4, c5]) = some y1 at h1
    change DataW.trod enc Try.prog w base spare held n' 28 (List.take (Try.prog.cellsOf 28) [c2, c3, c4, c5]) = some y2 at h2
    change DataW.trod enc Try.prog w base spare held n' 5 (List.take (Try.prog.cellsOf 5) [c3, c4, c5]) = some y3 at h3
    change DataW.trod enc Try.prog w base spare held n' 26 (List.take (Try.prog.cellsOf 26) [c4, c5]) = some y4 at h4
    change DataW.trod enc Try.prog w base spare held n' 4 (List.take (Try.prog.cellsOf 4) [c5]) = some y5 at h5
    rw [ei] at h0 h1
    rw [eb] at h2
    rw [e8] at h3
    rw [e32] at h4
    rw [e4] at h5
    obtain ⟨z0, q0, _, _⟩ := DataW.trod_int Try.underlying3 h0
    obtain ⟨z1, q1, _, _⟩ := DataW.trod_int Try.underlying3 h1
    obtain ⟨b, hb, hbl⟩ := nums_trod Try.underlying28 Try.underlying5 (by kernel_rfl) (show DataW.trod enc Try.prog w base spare held n' 28 [c2] = some y2 from h2)
    obtain ⟨z3, q3, _, f3⟩ := DataW.trod_int Try.underlying5 h3
    obtain ⟨z4, q4, _, f4⟩ := DataW.trod_int Try.underlying26 h4
    obtain ⟨z5, q5, _⟩ := DataW.trod_bool Try.underlying4 h5
    simp at q0 q1 q3 q4 q5
    refine ⟨⟨z0, z1, b, z3, z4, z5⟩, ⟨⟨u8_of_wf f3, w32_of_wf f4, hb.byt⟩, reach_b (hbl fun m hm => hsz m ?_)⟩, q0, q1, hb, q3, q4, q5⟩
    rw [hx]
    simp only [DataW.weights, Try.underlying39]
    exact DataW.weights_mem_each (j := 2) (t := 28) (d := y2.1) rfl rfl m hm
theorem open_act (hv : Value.okWide Try.prog w r b0 39 v) (h : DataW.Trod enc Try.prog w base spare held 39 v d p) (hsz : ∀ n ∈ d.weights Try.prog 39, n ≤ reachBytes) :
    ∃ (s : Ac) (bv : Value), s.Fit ∧ NumsIn .u8 w bv s.b ∧ v = .agg #[.int .i64 s.k, .int .i64 s.ln, bv, .int .u8 s.y, .int .u32 s.x, .bool s.up] := by
  obtain ⟨cs, rfl, hs⟩ := okWide_struct Try.underlying39 hv
  have hC : Try.prog.cellsOf 39 = 6 := by kernel_rfl
  rw [hC] at hs
  obtain ⟨l⟩ := cs
  match l, hs with
  | [c0, c1, c2, c3, c4, c5], _ =>
    obtain ⟨fuel, hf⟩ := h
    obtain ⟨s, hfit, e0, e1, hb, e3, e4, e5⟩ := act_cells6 (show DataW.trod enc Try.prog w base spare held fuel 39 [c0, c1, c2, c3, c4, c5] = _ from hf) hsz
    exact ⟨s, c2, hfit, hb, by rw [e0, e1, e3, e4, e5]⟩
theorem add_add1 (a : Addr) (n j : Nat) (hj : 0 < j) : (a.add n).add j = ⟨(a.add n).block, (a.add n).off + j, none⟩ := by
  unfold Addr.add
  split <;> split <;> first | omega | simp_all
theorem open_acts (h : DataW.Trod enc Try.prog w base spare held 22 v d p) (hv : Value.okWide Try.prog w r b0 22 v) (hsz : ∀ n ∈ d.weights Try.prog 22, n ≤ reachBytes) : ∃ xs, ActsIn w v xs := by
  obtain ⟨fuel, hf⟩ := h
  rw [slice_cells Try.underlying22 hv] at hf
  have hC : Try.prog.cellsOf 39 = 6 := by kernel_rfl
  rcases open_slice Try.underlying22 hf with ⟨h0, _⟩ | ⟨a, len, cap, m, n, D, Pl, hcs, hb, hl, hm, hmm, hx, hi⟩
  · exact ⟨[], .inl ⟨by simpa using h0, rfl⟩⟩
  · have hle : len ≤ m := by rw [hmm]; split <;> omega
    simp only [Prod.mk.injEq] at hx
    obtain ⟨rfl, _⟩ := hx
    have hD : ∀ i, i < len → ∀ n ∈ (D i).weights Try.prog 39, n ≤ reachBytes := fun i hil q hq => hsz q (by
      simp only [DataW.weights, Try.underlying22, List.mem_cons, List.mem_append]
      exact .inr (.inl (weights_all (List.mem_map.2 ⟨i, List.mem_range.2 hil, rfl⟩) q hq)))
    have each : ∀ i, i < len → ∃ (s : Ac) (bv : Value), s.Fit ∧ At6 w (a.add (i * 6)) s bv := by
      intro i hil
      obtain ⟨cs', hc, ht'⟩ := hi i (by omega)
      rw [hC] at hc
      obtain ⟨_, hcl, hat⟩ := World.cells?_some hc
      match cs', hcl with
      | [c0, c1, c2, c3, c4, c5], _ =>
        obtain ⟨s, hfit, rfl, rfl, hb', rfl, rfl, rfl⟩ := act_cells6 ht' (hD i hil)
        have a0 := hat 0 (by decide)
        have a1 := hat 1 (by decide)
        have a2 := hat 2 (by decide)
        have a3 := hat 3 (by decide)
        have a4 := hat 4 (by decide)
        have a5 := hat 5 (by decide)
        rw [add_add1 _ _ _ (by omega)] at a1 a2 a3 a4 a5
        exact ⟨s, c2, hfit, ⟨by rwa [Go.Deep.add_add, Nat.add_zero] at a0, a1, a2, a3, a4, a5, hb'⟩⟩
    obtain ⟨f, hf⟩ : ∃ f : Nat → Ac, ∀ i, i < len → (f i).Fit ∧ ∃ bv, At6 w (a.add (i * 6)) (f i) bv :=
      ⟨fun i => if h : i < len then (each i h).choose else ⟨0, 0, [], 0, 0, false⟩, fun i h => by simp only [dif_pos h]; obtain ⟨bv, h1, h2⟩ := (each i h).choose_spec; exact ⟨h1, bv, h2⟩⟩
    refine ⟨(List.range len).map f, .inr ⟨a, cap, by simpa using hcs, by simp; omega, by simp; omega, fun i s hs => ?_⟩⟩
    have hil : i < len := by have := (List.getElem?_eq_some_iff.1 hs).1; simpa using this
    rw [List.getElem?_map, List.getElem?_range hil] at hs
    cases hs
    exact hf i hil
theorem open_bytess (h : DataW.Trod enc Try.prog w base spare held 33 v d p) (hv : Value.okWide Try.prog w r b0 33 v) : ∃ xs, BysIn w v xs := by
  obtain ⟨fuel, hf⟩ := h
  rw [slice_cells Try.underlying33 hv] at hf
  have hC : Try.prog.cellsOf 28 = 1 := by kernel_rfl
  rcases open_slice Try.underlying33 hf with ⟨h0, _⟩ | ⟨a, len, cap, m, n, D, Pl, hcs, hb, hl, hm, hmm, hx, hi⟩
  · exact ⟨[], .inl ⟨by simpa using h0, rfl⟩⟩
  · have hle : len ≤ m := by rw [hmm]; split <;> omega
    have each : ∀ i, i < len → ∃ (s : List Int) (bv : Value), w.cell? (a.add i) = some bv ∧ NumsIn .u8 w bv s := by
      intro i hil
      obtain ⟨cs', hc, ht'⟩ := hi i (by omega)
      rw [hC, Nat.mul_one] at hc
      obtain ⟨_, hcl, hat⟩ := World.cells?_some hc
      match cs', hcl with
      | [c0], _ =>
        have a0 := hat 0 (by decide)
        obtain ⟨s, h1, _⟩ := nums_trod Try.underlying28 Try.underlying5 (by kernel_rfl) ht'
        exact ⟨s, c0, by rwa [Go.Deep.add_add, Nat.add_zero] at a0, h1⟩
    obtain ⟨f, hf⟩ : ∃ f : Nat → List Int, ∀ i, i < len → ∃ bv, w.cell? (a.add i) = some bv ∧ NumsIn .u8 w bv (f i) :=
      ⟨fun i => if h : i < len then (each i h).choose else [], fun i h => by simp only [dif_pos h]; exact (each i h).choose_spec⟩
    refine ⟨(List.range len).map f, .inr ⟨a, cap, by simpa using hcs, by simp; omega, by simp; omega, fun i s hs => ?_⟩⟩
    have hil : i < len := by have := (List.getElem?_eq_some_iff.1 hs).1; simpa using this
    rw [List.getElem?_map, List.getElem?_range hil] at hs
    cases hs
    exact hf i hil
end
end Go.Proofs.Ytmnkggnghflcpaa
