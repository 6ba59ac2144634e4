/-
  Layer 8: arguments opened: a sector that is written (an int and an array of bytes), a slice of such, bytes, an int.
-/
import Derived.Test.YtbinpapgfddafaaRows
import Derived.Test.YtbinpapgfddafaaTab
import Derived.WalkKit
import Derived.ProofKit
import Derived.OpenShut
import Derived.Lib.SmallJoins
import Derived.Deep.Slices
import Derived.Deep.Fields
import Derived.ChangeSame
import Derived.ChangeSlices
import Derived.ChangeArms
import Derived.WideShapes
import Derived.SizedLaws
namespace Go.Proofs.Ytbinpapgfddafaa
open Go.ChangeShapes Go.WideShapes Go.ChangeAt Go.RowKit Go.Joins Go.Deep

/-- A sector that is written: its number, its bytes. -/
structure Ac where
  n : Int
  x : List Int
structure Ac.Ok (s : Ac) : Prop where
  len : s.x.length = 64
  byt : Byt s.x
def acL (s : Ac) : List Value := .int .i64 s.n :: bv s.x
def ActsIn (w : World) (v : Value) (xs : List Ac) : Prop :=
  ∃ (ao : Option Addr) (c : Nat), v = .slice ao xs.length c ∧ xs.length ≤ c ∧ xs.length ≤ maxLen ∧ ∀ (i : Nat) s, xs[i]? = some s → s.Ok ∧ ∃ g o, ao = some ⟨g, o, none⟩ ∧ w.cell? ⟨g, o + i * 65, none⟩ = some (.int .i64 s.n) ∧ w.rangeAt g (o + i * 65 + 1) (bv s.x)
section
variable {w w' : World} {v : Value} {xs : List Ac}
theorem cell_below {q : Addr} {u : Value} (h : w.cell? q = some u) (hb : Below w.heap.size w w') : w'.cell? q = some u := by
  have hl := World.block_lt_of_cell? _ _ h
  unfold World.cell? at h ⊢
  rw [hb.block _ hl]; exact h
theorem range_below {g o : Nat} {l : List Value} (h : w.rangeAt g o l) (hb : Below w.heap.size w w') : w'.rangeAt g o l := fun j u hj => cell_below (h j u hj) hb
theorem ActsIn.below (h : ActsIn w v xs) (hb : Below w.heap.size w w') : ActsIn w' v xs := by
  obtain ⟨ao, c, h1, h2, h3, h4⟩ := h
  refine ⟨ao, c, h1, h2, h3, fun i s hs => ?_⟩
  obtain ⟨h5, g, o, h6, h7, h8⟩ := h4 i s hs
  exact ⟨h5, g, o, h6, cell_below h7 hb, range_below h8 hb⟩
end
set_option maxRecDepth 100000
theorem slice_cells {P : Program} {t e : TypeId} {w : World} {r : Reach} {base : Nat} {v : Value} (ht : P.underlying t = some (.slice e)) (hv : Value.okWide P w r base t v) : v.cells.toList = [v] := by
  obtain ⟨a, len, cap, rfl⟩ := okWide_slice ht hv
  rfl
section
variable {H : Type} {enc : TypeId × Value → H} {w : World} {base b0 : Nat} {spare : Nat → Bool} {held : Bool} {r : Reach} {v : Value} {d : DataW H} {p : List MemPlace}
theorem nums_trod {P : Program} {t e : TypeId} {k : IntKind} {fuel : Nat} {x : DataW H × List MemPlace} (ht : P.underlying t = some (.slice e)) (he : P.underlying e = some (.int k)) (hc : P.cellsOf e = 1)
    (hf : DataW.trod enc P w base spare held fuel t [v] = some x) : ∃ xs, NumsIn k w v xs := by
  rcases open_ints ht he hc hf with ⟨h0, _⟩ | ⟨a, len, cap, zs, hcs, hb, hl, hm, hz, hx, hcell, hw⟩
  · exact ⟨[], .inl ⟨by simpa using h0, rfl⟩⟩
  · have hle : len ≤ zs.length := by rw [hz]; split <;> omega
    have hlen : (zs.take len).length = len := by simp; omega
    refine ⟨zs.take len, .inr ⟨a, cap, by rw [hlen]; simpa using hcs, by rw [hlen]; omega, by rw [hlen]; omega, fun i x hi => ?_, fun x hx => hw x (List.mem_of_mem_take hx)⟩⟩
    have hil : i < len := by have := (List.getElem?_eq_some_iff.1 hi).1; omega
    rw [hcell i (by omega)]
    rw [List.getElem?_take_of_lt hil] at hi
    simp [List.getD, hi]
theorem open_bytes (h : DataW.Trod enc Try.prog w base spare held 22 v d p) (hv : Value.okWide Try.prog w r b0 22 v) : ∃ xs, NumsIn .u8 w v xs := by
  obtain ⟨fuel, hf⟩ := h
  rw [slice_cells Try.underlying22 hv] at hf
  exact nums_trod Try.underlying22 Try.underlying5 (by kernel_rfl) hf
/-- An array's cells are bytes. -/
theorem arr_cells {n : Nat} {cs : List Value} {x : DataW H × List MemPlace} (h : DataW.trod enc Try.prog w base spare held n 37 cs = some x) : ∃ zs : List Int, zs.length = 64 ∧ Byt zs ∧ cs = bv zs := by
  obtain ⟨xs, m, rfl, hx, hlen, hn, hel⟩ := DataW.trod_array Try.underlying37 h
  have hC : Try.prog.cellsOf 37 = 64 := by kernel_rfl
  have h1 : Try.prog.cellsOf 5 = 1 := by kernel_rfl
  rw [hC] at hlen
  have each : ∀ i, i < 64 → ∃ z, (0 ≤ z ∧ z < 256) ∧ cs[i]? = some (.int .u8 z) := by
    intro i hi
    have h2 := hel i hi
    rw [h1, Nat.mul_one] at h2
    obtain ⟨y, hy⟩ : ∃ y, xs[i]? = some y := ⟨_, List.getElem?_eq_getElem (by omega)⟩
    rw [hy] at h2
    obtain ⟨z, q, _, f⟩ := DataW.trod_int Try.underlying5 h2
    refine ⟨z, u8_of_wf f, ?_⟩
    have : ((cs.drop i).take 1)[0]? = cs[i]? := by rw [List.getElem?_take, if_pos (by omega), List.getElem?_drop]; simp
    rw [← this, q]; rfl
  obtain ⟨f, hf⟩ : ∃ f : Nat → Int, ∀ i, i < 64 → (0 ≤ f i ∧ f i < 256) ∧ cs[i]? = some (.int .u8 (f i)) :=
    ⟨fun i => if h : i < 64 then (each i h).choose else 0, fun i h => by simp only [dif_pos h]; exact (each i h).choose_spec⟩
  refine ⟨(List.range 64).map f, by simp, fun y hy => ?_, ?_⟩
  · obtain ⟨i, hi, rfl⟩ := List.mem_map.1 hy
    exact (hf i (List.mem_range.1 hi)).1
  · refine List.ext_getElem? fun i => ?_
    by_cases hi : i < 64
    · rw [(hf i hi).2, bv_at, List.getElem?_map, List.getElem?_range hi]; rfl
    · rw [List.getElem?_eq_none (by omega), List.getElem?_eq_none (by simp [bv]; omega)]
/-- The cells of a sector that is written. -/
theorem act_cells {n : Nat} {cs : List Value} {x : DataW H × List MemPlace} (ht : DataW.trod enc Try.prog w base spare held n 44 cs = some x) : ∃ s : Ac, s.Ok ∧ cs = acL s := by
  obtain ⟨ys, n', _, hx, hlen, hyl, hf⟩ := DataW.trod_struct Try.underlying44 ht
  have hC : Try.prog.cellsOf 44 = 65 := by kernel_rfl
  rw [hC] at hlen
  match cs, hlen with
  | c0 :: rest, hlen =>
    match ys, hyl with
    | [y0, y1], _ =>
      have h0 := hf 0 _ rfl
      have h1 := hf 1 _ rfl
      have ei : Try.prog.cellsOf 3 = 1 := by kernel_rfl
      have ea : Try.prog.cellsOf 37 = 64 := by kernel_rfl
      change DataW.trod enc Try.prog w base spare held n' 3 (List.take (Try.prog.cellsOf 3) (c0 :: rest)) = some y0 at h0
      change DataW.trod enc Try.prog w base spare held n' 37 (List.take (Try.prog.cellsOf 37) rest) = some y1 at h1
      rw [ei] at h0
      rw [ea] at h1
      obtain ⟨z0, q0, _, _⟩ := DataW.trod_int Try.underlying3 h0
      simp at q0
      have hr : rest.take 64 = rest := List.take_of_length_le (by simp at hlen; omega)
      rw [hr] at h1
      obtain ⟨zs, k1, k2, k3⟩ := arr_cells h1
      exact ⟨⟨z0, zs⟩, ⟨k1, k2⟩, by rw [q0, k3]; rfl⟩
theorem open_act (hv : Value.okWide Try.prog w r b0 44 v) (h : DataW.Trod enc Try.prog w base spare held 44 v d p) : ∃ s : Ac, s.Ok ∧ v = .agg (acL s).toArray := by
  obtain ⟨cs, rfl, hs⟩ := okWide_struct Try.underlying44 hv
  obtain ⟨fuel, hf⟩ := h
  obtain ⟨s, h1, h2⟩ := act_cells (cs := cs.toList) hf
  exact ⟨s, h1, by rw [← h2]⟩
theorem open_acts (h : DataW.Trod enc Try.prog w base spare held 33 v d p) (hv : Value.okWide Try.prog w r b0 33 v) : ∃ xs, ActsIn w v xs := by
  obtain ⟨fuel, hf⟩ := h
  rw [slice_cells Try.underlying33 hv] at hf
  have hC : Try.prog.cellsOf 44 = 65 := by kernel_rfl
  rcases open_slice Try.underlying33 hf with ⟨h0, _⟩ | ⟨a, len, cap, m, n, D, Pl, hcs, hb, hl, hm, hmm, hx, hi⟩
  · exact ⟨[], none, 0, by simpa using h0, Nat.le_refl _, by simp, fun i s hs => by simp at hs⟩
  · have hle : len ≤ m := by rw [hmm]; split <;> omega
    have each : ∀ i, i < len → ∃ (s : Ac), s.Ok ∧ ∃ g o, (some a : Option Addr) = some ⟨g, o, none⟩ ∧ w.cell? ⟨g, o + i * 65, none⟩ = some (.int .i64 s.n) ∧ w.rangeAt g (o + i * 65 + 1) (bv s.x) := by
      intro i hil
      obtain ⟨cs', hc, ht'⟩ := hi i (by omega)
      rw [hC] at hc
      obtain ⟨_, hcl, hat⟩ := World.cells?_some hc
      obtain ⟨s, hok, rfl⟩ := act_cells ht'
      have hal : (acL s).length = 65 := by simp [acL, bv, hok.len]
      obtain ⟨g, o, sp⟩ := a
      have h64 := hat 0 (by omega)
      rw [Go.Deep.add_add] at h64
      cases sp with
      | some sp =>
        exfalso
        obtain ⟨cs0, hc0, ht0⟩ := hi 0 (by omega)
        rw [hC] at hc0
        obtain ⟨_, _, hat0⟩ := World.cells?_some hc0
        obtain ⟨s0, _, rfl⟩ := act_cells ht0
        have h0 := hat0 0 (by omega)
        rw [Nat.zero_mul, Go.Deep.add_add] at h0
        unfold Addr.add at h0
        simp [acL, World.cell?] at h0
        split at h0 <;> cases h0
      | none =>
        refine ⟨s, hok, g, o, rfl, ?_, fun j u hj => ?_⟩
        · rw [add_lit, Nat.add_zero] at h64
          exact h64
        · have hjl : j < 64 := by have := (List.getElem?_eq_some_iff.1 hj).1; rw [bv_length, hok.len] at this; exact this
          have h1 := hat (j + 1) (by omega)
          rw [Go.Deep.add_add, add_lit] at h1
          rw [show o + i * 65 + 1 + j = o + (i * 65 + (j + 1)) by omega, h1]
          exact hj
    obtain ⟨f, hf⟩ : ∃ f : Nat → Ac, ∀ i, i < len → (f i).Ok ∧ ∃ g o, (some a : Option Addr) = some ⟨g, o, none⟩ ∧ w.cell? ⟨g, o + i * 65, none⟩ = some (.int .i64 (f i).n) ∧ w.rangeAt g (o + i * 65 + 1) (bv (f i).x) :=
      ⟨fun i => if h : i < len then (each i h).choose else ⟨0, []⟩, fun i h => by simp only [dif_pos h]; exact (each i h).choose_spec⟩
    refine ⟨(List.range len).map f, some a, cap, by simpa using hcs, by simp; omega, by simp; omega, fun i s hs => ?_⟩
    have hil : i < len := by have := (List.getElem?_eq_some_iff.1 hs).1; simpa using this
    rw [List.getElem?_map, List.getElem?_range hil] at hs
    cases hs
    exact hf i hil
end
end Go.Proofs.Ytbinpapgfddafaa
