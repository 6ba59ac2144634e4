/-
  Layer 9: arguments opened: a call (an int, bytes), slices of calls, of slices of bytes; how long the bytes may be: the reach.
-/
import Derived.Test.YtepimbebodmajaaRows
import Derived.Test.YtepimbebodmajaaTab
import Derived.Test.YtepimbebodmajaaPut
import Derived.WalkKit
import Derived.ProofKit
import Derived.OpenShut
import Derived.Lib.SmallJoins
import Derived.Deep.Slices
import Derived.Deep.Fields
import Derived.ChangeSame
import Derived.ChangeSlices
import Derived.ChangeArms
import Derived.WideShapes
import Derived.SizedLaws
namespace Go.Proofs.Ytepimbebodmajaa
open Go.ChangeShapes Go.WideShapes Go.ChangeAt Go.RowKit Go.Joins Go.Deep

structure Ac.Fit (a : Ac) : Prop where
  byt : Byt a.b
  bl : a.b.length ≤ 140737488355328
/-- A call lies at an address; bv: its bytes. -/
structure At2 (w : World) (q : Addr) (s : Ac) (bv : Value) : Prop where
  k : w.cell? q = some (.int .i64 s.k)
  b : w.cell? ⟨q.block, q.off + 1, none⟩ = some bv
  nb : NumsIn .u8 w bv s.b
def ActsIn (w : World) (v : Value) (xs : List Ac) : Prop :=
  (v = .slice none 0 0 ∧ xs = []) ∨ ∃ (a : Addr) (c : Nat), v = .slice (some a) xs.length c ∧ xs.length ≤ c ∧ xs.length ≤ maxLen ∧ ∀ (i : Nat) s, xs[i]? = some s → s.Fit ∧ ∃ bv, At2 w (a.add (i * 2)) s bv
def BysIn (w : World) (v : Value) (xs : List (List Int)) : Prop :=
  (v = .slice none 0 0 ∧ xs = []) ∨ ∃ (a : Addr) (c : Nat), v = .slice (some a) xs.length c ∧ xs.length ≤ c ∧ xs.length ≤ maxLen ∧ ∀ (i : Nat) s, xs[i]? = some s → ∃ bv, w.cell? (a.add i) = some bv ∧ NumsIn .u8 w bv s ∧ s.length ≤ 140737488355328
section
variable {w w' : World} {v : Value} {xs : List Ac}
theorem At2.below {q : Addr} {s : Ac} {bv : Value} (h : At2 w q s bv) (hb : Below w.heap.size w w') : At2 w' q s bv :=
  ⟨cell_below h.k hb, cell_below h.b hb, h.nb.below hb⟩
theorem ActsIn.below (h : ActsIn w v xs) (hb : Below w.heap.size w w') : ActsIn w' v xs := by
  rcases h with h | ⟨a, c, h1, h2, h3, h4⟩
  · exact .inl h
  · exact .inr ⟨a, c, h1, h2, h3, fun i s hs => ⟨(h4 i s hs).1, by obtain ⟨bv, h5⟩ := (h4 i s hs).2; exact ⟨bv, h5.below hb⟩⟩⟩
theorem BysIn.below {xs : List (List Int)} (h : BysIn w v xs) (hb : Below w.heap.size w w') : BysIn w' v xs := by
  rcases h with h | ⟨a, c, h1, h2, h3, h4⟩
  · exact .inl h
  · exact .inr ⟨a, c, h1, h2, h3, fun i s hs => by obtain ⟨bv, h5, h6, h7⟩ := h4 i s hs; exact ⟨bv, cell_below h5 hb, h6.below hb, h7⟩⟩
theorem ActsIn.form (h : ActsIn w v xs) : ∃ (o : Option Addr) (c : Nat), v = .slice o xs.length c ∧ xs.length ≤ c ∧ xs.length ≤ maxLen ∧ ∀ i, i < xs.length → ∃ a s bv, o = some a ∧ xs[i]? = some s ∧ s.Fit ∧ At2 w (a.add (i * 2)) s bv := by
  rcases h with ⟨rfl, rfl⟩ | ⟨a, c, h1, h2, h3, h4⟩
  · exact ⟨none, 0, rfl, Nat.le_refl _, by simp, fun i hi => by simp at hi⟩
  · refine ⟨some a, c, h1, h2, h3, fun i hi => ?_⟩
    obtain ⟨h5, bv, h6⟩ := h4 i _ (List.getElem?_eq_getElem hi)
    exact ⟨a, _, bv, rfl, List.getElem?_eq_getElem hi, h5, h6⟩
theorem BysIn.form {xs : List (List Int)} (h : BysIn w v xs) : ∃ (o : Option Addr) (c : Nat), v = .slice o xs.length c ∧ xs.length ≤ c ∧ xs.length ≤ maxLen ∧ ∀ i, i < xs.length → ∃ a s bv, o = some a ∧ xs[i]? = some s ∧ w.cell? (a.add i) = some bv ∧ NumsIn .u8 w bv s ∧ s.length ≤ 140737488355328 := by
  rcases h with ⟨rfl, rfl⟩ | ⟨a, c, h1, h2, h3, h4⟩
  · exact ⟨none, 0, rfl, Nat.le_refl _, by simp, fun i hi => by simp at hi⟩
  · refine ⟨some a, c, h1, h2, h3, fun i hi => ?_⟩
    obtain ⟨bv, h5, h6, h7⟩ := h4 i _ (List.getElem?_eq_getElem hi)
    exact ⟨a, _, bv, rfl, List.getElem?_eq_getElem hi, h5, h6, h7⟩
end

set_option maxRecDepth 100000
theorem slice_cells {P : Program} {t e : TypeId} {w : World} {r : Reach} {base : Nat} {v : Value} (ht : P.underlying t = some (.slice e)) (hv : Value.okWide P w r base t v) : v.cells.toList = [v] := by
  obtain ⟨a, len, cap, rfl⟩ := okWide_slice ht hv
  rfl
section
variable {H : Type} {enc : TypeId × Value → H} {w : World} {base b0 : Nat} {spare : Nat → Bool} {held : Bool} {r : Reach} {v : Value} {d : DataW H} {p : List MemPlace}
theorem weights_all {P : Program} {e : TypeId} : ∀ {l : List (DataW H)} {d : DataW H}, d ∈ l → ∀ n ∈ d.weights P e, n ∈ DataW.weightsAll P e l
  | x :: l, d, h, n, hn => by
    simp only [DataW.weightsAll, List.mem_append]
    rcases List.mem_cons.1 h with rfl | h
    · exact .inl hn
    · exact .inr (weights_all h n hn)
  | [], _, h, _, _ => by cases h
theorem nums_trod {P : Program} {t e : TypeId} {k : IntKind} {fuel : Nat} {x : DataW H × List MemPlace} (ht : P.underlying t = some (.slice e)) (he : P.underlying e = some (.int k)) (hc : P.cellsOf e = 1)
    (hf : DataW.trod enc P w base spare held fuel t [v] = some x) : ∃ xs, NumsIn k w v xs ∧ ((∀ n ∈ x.1.weights P t, n ≤ reachBytes) → xs.length * P.bytesOf e ≤ reachBytes) := by
  rcases open_ints ht he hc hf with ⟨h0, _⟩ | ⟨a, len, cap, zs, hcs, hb, hl, hm, hz, hx, hcell, hw⟩
  · exact ⟨[], .inl ⟨by simpa using h0, rfl⟩, fun _ => by simp⟩
  · have hle : len ≤ zs.length := by rw [hz]; split <;> omega
    have hlen : (zs.take len).length = len := by simp; omega
    refine ⟨zs.take len, .inr ⟨a, cap, by rw [hlen]; simpa using hcs, by rw [hlen]; omega, by rw [hlen]; omega, fun i x hi => ?_, fun x hx => hw x (List.mem_of_mem_take hx)⟩, fun hs => ?_⟩
    · have hil : i < len := by have := (List.getElem?_eq_some_iff.1 hi).1; omega
      rw [hcell i (by omega)]
      rw [List.getElem?_take_of_lt hil] at hi
      simp [List.getD, hi]
    · rw [hx] at hs
      have h1 := hs (((lits k (zs.take len) : List (DataW H)).length + (lits k (zs.drop len) : List (DataW H)).length) * P.bytesOf e) (by simp [DataW.weights, ht])
      have h2 : (lits k (zs.take len) : List (DataW H)).length = len := by simp [lits, hle]
      rw [h2, Nat.add_mul] at h1
      rw [hlen]; omega
theorem reach_b {n : Nat} (h : n * Try.prog.bytesOf 5 ≤ reachBytes) : n ≤ 140737488355328 := by
  have e : Try.prog.bytesOf 5 = 1 := by kernel_rfl
  rw [e] at h
  have := reachBytes_lt
  omega
/-- The two cells of a call. -/
theorem act_cells2 {n : Nat} {c0 c1 : Value} {x : DataW H × List MemPlace} (ht : DataW.trod enc Try.prog w base spare held n 36 [c0, c1] = some x) (hsz : ∀ n ∈ x.1.weights Try.prog 36, n ≤ reachBytes) :
    ∃ s : Ac, s.Fit ∧ c0 = .int .i64 s.k ∧ NumsIn .u8 w c1 s.b := by
  obtain ⟨ys, n', _, hx, hlen, hyl, hf⟩ := DataW.trod_struct Try.underlying36 ht
  match ys, hyl with
  | [y0, y1], _ =>
    have h0 := hf 0 _ rfl
    have h1 := hf 1 _ rfl
    have ei : Try.prog.cellsOf 3 = 1 := by kernel_rfl
    have eb : Try.prog.cellsOf 32 = 1 := by kernel_rfl
    change DataW.trod enc Try.prog w base spare held n' 3 (List.take (Try.prog.cellsOf 3) [c0, c1]) = some y0 at h0
    change DataW.trod enc Try.prog w base spare held n' 32 (List.take (Try.prog.cellsOf 32) [c1]) = some y1 at h1
    rw [ei] at h0
    rw [eb] at h1
    obtain ⟨z0, q0, _, _⟩ := DataW.trod_int Try.underlying3 h0
    obtain ⟨b, hb, hbl⟩ := nums_trod Try.underlying32 Try.underlying5 (by kernel_rfl) (show DataW.trod enc Try.prog w base spare held n' 32 [c1] = some y1 from h1)
    simp at q0
    refine ⟨⟨z0, b⟩, ⟨hb.byt, reach_b (hbl fun m hm => hsz m ?_)⟩, q0, hb⟩
    rw [hx]
    simp only [DataW.weights, Try.underlying36]
    exact DataW.weights_mem_each (j := 1) (t := 32) (d := y1.1) rfl rfl m hm
theorem open_act (hv : Value.okWide Try.prog w r b0 36 v) (h : DataW.Trod enc Try.prog w base spare held 36 v d p) (hsz : ∀ n ∈ d.weights Try.prog 36, n ≤ reachBytes) :
    ∃ (s : Ac) (bv : Value), s.Fit ∧ NumsIn .u8 w bv s.b ∧ v = .agg #[.int .i64 s.k, bv] := by
  obtain ⟨cs, rfl, hs⟩ := okWide_struct Try.underlying36 hv
  have hC : Try.prog.cellsOf 36 = 2 := by kernel_rfl
  rw [hC] at hs
  obtain ⟨l⟩ := cs
  match l, hs with
  | [c0, c1], _ =>
    obtain ⟨fuel, hf⟩ := h
    obtain ⟨s, hfit, e0, hb⟩ := act_cells2 (show DataW.trod enc Try.prog w base spare held fuel 36 [c0, c1] = _ from hf) hsz
    exact ⟨s, c1, hfit, hb, by rw [e0]⟩
theorem open_bytes (h : DataW.Trod enc Try.prog w base spare held 32 v d p) (hv : Value.okWide Try.prog w r b0 32 v) : ∃ xs, NumsIn .u8 w v xs := by
  obtain ⟨fuel, hf⟩ := h
  rw [slice_cells Try.underlying32 hv] at hf
  obtain ⟨xs, h1, _⟩ := nums_trod Try.underlying32 Try.underlying5 (by kernel_rfl) hf
  exact ⟨xs, h1⟩
theorem add_add1 (a : Addr) (n j : Nat) (hj : 0 < j) : (a.add n).add j = ⟨(a.add n).block, (a.add n).off + j, none⟩ := by
  unfold Addr.add
  split <;> split <;> first | omega | simp_all
theorem open_acts (h : DataW.Trod enc Try.prog w base spare held 22 v d p) (hv : Value.okWide Try.prog w r b0 22 v) (hsz : ∀ n ∈ d.weights Try.prog 22, n ≤ reachBytes) : ∃ xs, ActsIn w v xs := by
  obtain ⟨fuel, hf⟩ := h
  rw [slice_cells Try.underlying22 hv] at hf
  have hC : Try.prog.cellsOf 36 = 2 := by kernel_rfl
  rcases open_slice Try.underlying22 hf with ⟨h0, _⟩ | ⟨a, len, cap, m, n, D, Pl, hcs, hb, hl, hm, hmm, hx, hi⟩
  · exact ⟨[], .inl ⟨by simpa using h0, rfl⟩⟩
  · have hle : len ≤ m := by rw [hmm]; split <;> omega
    simp only [Prod.mk.injEq] at hx
    obtain ⟨rfl, _⟩ := hx
    have hD : ∀ i, i < len → ∀ n ∈ (D i).weights Try.prog 36, n ≤ reachBytes := fun i hil q hq => hsz q (by
      simp only [DataW.weights, Try.underlying22, List.mem_cons, List.mem_append]
      exact .inr (.inl (weights_all (List.mem_map.2 ⟨i, List.mem_range.2 hil, rfl⟩) q hq)))
    have each : ∀ i, i < len → ∃ (s : Ac) (bv : Value), s.Fit ∧ At2 w (a.add (i * 2)) s bv := by
      intro i hil
      obtain ⟨cs', hc, ht'⟩ := hi i (by omega)
      rw [hC] at hc
      obtain ⟨_, hcl, hat⟩ := World.cells?_some hc
      match cs', hcl with
      | [c0, c1], _ =>
        obtain ⟨s, hfit, rfl, hb'⟩ := act_cells2 ht' (hD i hil)
        have a0 := hat 0 (by decide)
        have a1 := hat 1 (by decide)
        rw [add_add1 _ _ _ (by omega)] at a1
        exact ⟨s, c1, hfit, ⟨by rwa [Go.Deep.add_add, Nat.add_zero] at a0, a1, hb'⟩⟩
    obtain ⟨f, hf⟩ : ∃ f : Nat → Ac, ∀ i, i < len → (f i).Fit ∧ ∃ bv, At2 w (a.add (i * 2)) (f i) bv :=
      ⟨fun i => if h : i < len then (each i h).choose else ⟨0, []⟩, fun i h => by simp only [dif_pos h]; obtain ⟨bv, h1, h2⟩ := (each i h).choose_spec; exact ⟨h1, bv, h2⟩⟩
    refine ⟨(List.range len).map f, .inr ⟨a, cap, by simpa using hcs, by simp; omega, by simp; omega, fun i s hs => ?_⟩⟩
    have hil : i < len := by have := (List.getElem?_eq_some_iff.1 hs).1; simpa using this
    rw [List.getElem?_map, List.getElem?_range hil] at hs
    cases hs
    exact hf i hil
theorem open_bytess (h : DataW.Trod enc Try.prog w base spare held 26 v d p) (hv : Value.okWide Try.prog w r b0 26 v) (hsz : ∀ n ∈ d.weights Try.prog 26, n ≤ reachBytes) : ∃ xs, BysIn w v xs := by
  obtain ⟨fuel, hf⟩ := h
  rw [slice_cells Try.underlying26 hv] at hf
  have hC : Try.prog.cellsOf 32 = 1 := by kernel_rfl
  rcases open_slice Try.underlying26 hf with ⟨h0, _⟩ | ⟨a, len, cap, m, n, D, Pl, hcs, hb, hl, hm, hmm, hx, hi⟩
  · exact ⟨[], .inl ⟨by simpa using h0, rfl⟩⟩
  · have hle : len ≤ m := by rw [hmm]; split <;> omega
    simp only [Prod.mk.injEq] at hx
    obtain ⟨rfl, _⟩ := hx
    have hD : ∀ i, i < len → ∀ n ∈ (D i).weights Try.prog 32, n ≤ reachBytes := fun i hil q hq => hsz q (by
      simp only [DataW.weights, Try.underlying26, List.mem_cons, List.mem_append]
      exact .inr (.inl (weights_all (List.mem_map.2 ⟨i, List.mem_range.2 hil, rfl⟩) q hq)))
    have each : ∀ i, i < len → ∃ (s : List Int) (bv : Value), w.cell? (a.add i) = some bv ∧ NumsIn .u8 w bv s ∧ s.length ≤ 140737488355328 := by
      intro i hil
      obtain ⟨cs', hc, ht'⟩ := hi i (by omega)
      rw [hC, Nat.mul_one] at hc
      obtain ⟨_, hcl, hat⟩ := World.cells?_some hc
      match cs', hcl with
      | [c0], _ =>
        have a0 := hat 0 (by decide)
        obtain ⟨s, h1, h2⟩ := nums_trod Try.underlying32 Try.underlying5 (by kernel_rfl) ht'
        exact ⟨s, c0, by rwa [Go.Deep.add_add, Nat.add_zero] at a0, h1, reach_b (h2 (hD i hil))⟩
    obtain ⟨f, hf⟩ : ∃ f : Nat → List Int, ∀ i, i < len → ∃ bv, w.cell? (a.add i) = some bv ∧ NumsIn .u8 w bv (f i) ∧ (f i).length ≤ 140737488355328 :=
      ⟨fun i => if h : i < len then (each i h).choose else [], fun i h => by simp only [dif_pos h]; exact (each i h).choose_spec⟩
    refine ⟨(List.range len).map f, .inr ⟨a, cap, by simpa using hcs, by simp; omega, by simp; omega, fun i s hs => ?_⟩⟩
    have hil : i < len := by have := (List.getElem?_eq_some_iff.1 hs).1; simpa using this
    rw [List.getElem?_map, List.getElem?_range hil] at hs
    cases hs
    exact hf i hil
end
end Go.Proofs.Ytepimbebodmajaa
