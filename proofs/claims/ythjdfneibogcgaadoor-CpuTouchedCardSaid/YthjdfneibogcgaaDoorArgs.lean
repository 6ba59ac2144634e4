/-
  Layer 10: arguments opened: a state, a word and what it is told, a slice of such.
-/
import Derived.Test.YthjdfneibogcgaaDoorRows
import Derived.Test.YthjdfneibogcgaaDoorTab
import Derived.Test.YthjdfneibogcgaaDoorSem
import Derived.Test.YthjdfneibogcgaaDoorGs
import Derived.WalkKit
import Derived.ProofKit
import Derived.OpenShut
import Derived.Lib.SmallJoins
import Derived.Deep.Slices
import Derived.Deep.Fields
import Derived.ChangeSame
import Derived.ChangeSlices
import Derived.ChangeArms
import Derived.WideShapes
import Derived.SizedLaws
namespace Go.Proofs.YthjdfneibogcgaaDoor
open Go.ChangeShapes Go.WideShapes Go.ChangeAt Go.RowKit Go.Joins Go.Deep

/-- A word, and what it is told. -/
structure Td where
  w : Int
  t : Int
structure Td.Ok (s : Td) : Prop where
  w : W32 s.w
  t : W32 s.t
def tdc (s : Td) : Array Value := #[.int .u32 s.w, .int .u32 s.t]
def TdsIn (w : World) (v : Value) (xs : List Td) : Prop :=
  ∃ (ao : Option Addr) (c : Nat), v = .slice ao xs.length c ∧ xs.length ≤ c ∧ xs.length ≤ maxLen ∧ ∀ (i : Nat) s, xs[i]? = some s → s.Ok ∧ ∃ g o, ao = some ⟨g, o, none⟩ ∧ w.cell? ⟨g, o + i * 2, none⟩ = some (.int .u32 s.w) ∧ w.cell? ⟨g, o + i * 2 + 1, none⟩ = some (.int .u32 s.t)
section
variable {w w' : World} {v : Value} {xs : List Td}
theorem cell_below {q : Addr} {u : Value} (h : w.cell? q = some u) (hb : Below w.heap.size w w') : w'.cell? q = some u := by
  have hl := World.block_lt_of_cell? _ _ h
  unfold World.cell? at h ⊢
  rw [hb.block _ hl]; exact h
theorem TdsIn.below (h : TdsIn w v xs) (hb : Below w.heap.size w w') : TdsIn w' v xs := by
  obtain ⟨ao, c, h1, h2, h3, h4⟩ := h
  refine ⟨ao, c, h1, h2, h3, fun i s hs => ?_⟩
  obtain ⟨h5, g, o, h6, h7, h8⟩ := h4 i s hs
  exact ⟨h5, g, o, h6, cell_below h7 hb, cell_below h8 hb⟩
end
set_option maxRecDepth 100000
theorem slice_cells {P : Program} {t e : TypeId} {w : World} {r : Reach} {base : Nat} {v : Value} (ht : P.underlying t = some (.slice e)) (hv : Value.okWide P w r base t v) : v.cells.toList = [v] := by
  obtain ⟨a, len, cap, rfl⟩ := okWide_slice ht hv
  rfl
section
variable {H : Type} {enc : TypeId × Value → H} {w : World} {base b0 : Nat} {spare : Nat → Bool} {held : Bool} {r : Reach} {v : Value} {d : DataW H} {p : List MemPlace}
/-- An array's cells are words. -/
theorem arr_cells {n : Nat} {cs : List Value} {x : DataW H × List MemPlace} (h : DataW.trod enc Tryd.prog w base spare held n 23 cs = some x) : ∃ f : Nat → Int, (∀ k, W32 (f k)) ∧ cs = (List.range 8).map fun k => .int .u32 (f k) := by
  obtain ⟨xs, m, rfl, hx, hlen, hn, hel⟩ := DataW.trod_array Tryd.underlying23 h
  have hC : Tryd.prog.cellsOf 23 = 8 := by kernel_rfl
  have h1 : Tryd.prog.cellsOf 22 = 1 := by kernel_rfl
  rw [hC] at hlen
  have each : ∀ i, i < 8 → ∃ z, W32 z ∧ cs[i]? = some (.int .u32 z) := by
    intro i hi
    have h2 := hel i hi
    rw [h1, Nat.mul_one] at h2
    obtain ⟨y, hy⟩ : ∃ y, xs[i]? = some y := ⟨_, List.getElem?_eq_getElem (by omega)⟩
    rw [hy] at h2
    obtain ⟨z, q, _, f⟩ := DataW.trod_int Tryd.underlying22 h2
    refine ⟨z, w32_of_wf f, ?_⟩
    have : ((cs.drop i).take 1)[0]? = cs[i]? := by rw [List.getElem?_take, if_pos (by omega), List.getElem?_drop]; simp
    rw [← this, q]; rfl
  obtain ⟨f, hf⟩ : ∃ f : Nat → Int, ∀ i, W32 (f i) ∧ (i < 8 → cs[i]? = some (.int .u32 (f i))) :=
    ⟨fun i => if h : i < 8 then (each i h).choose else 0, fun i => by
      by_cases h : i < 8
      · simp only [dif_pos h]; exact ⟨(each i h).choose_spec.1, fun _ => (each i h).choose_spec.2⟩
      · simp only [dif_neg h]; exact ⟨⟨by decide, by decide⟩, fun q => absurd q h⟩⟩
  refine ⟨f, fun k => (hf k).1, ?_⟩
  refine List.ext_getElem? fun i => ?_
  by_cases hi : i < 8
  · rw [(hf i).2 hi, List.getElem?_map, List.getElem?_range hi]; rfl
  · rw [List.getElem?_eq_none (by omega), List.getElem?_eq_none (by simp; omega)]
theorem state_cells {n : Nat} {cs : List Value} {x : DataW H × List MemPlace} (ht : DataW.trod enc Tryd.prog w base spare held n 25 cs = some x) : ∃ s : Sta, s.Ok ∧ cs = (sc s).toList := by
  obtain ⟨ys, n', _, hx, hlen, hyl, hf⟩ := DataW.trod_struct Tryd.underlying25 ht
  have hC : Tryd.prog.cellsOf 25 = 16 := by kernel_rfl
  rw [hC] at hlen
  match cs, hlen with
  | [c0, c1, c2, c3, c4, c5, c6, c7, c8, c9, c10, c11, c12, c13, c14, c15], hlen =>
    match ys, hyl with
    | [y0, y1, y2, y3, y4, y5, y6, y7, y8], _ =>
      have ea : Tryd.prog.cellsOf 23 = 8 := by kernel_rfl
      have e1 : Tryd.prog.cellsOf 22 = 1 := by kernel_rfl
      have e2 : Tryd.prog.cellsOf 4 = 1 := by kernel_rfl
      have h0 := hf 0 _ rfl
      have h1 := hf 1 _ rfl
      have h2 := hf 2 _ rfl
      have h3 := hf 3 _ rfl
      have h4 := hf 4 _ rfl
      have h5 := hf 5 _ rfl
      have h6 := hf 6 _ rfl
      have h7 := hf 7 _ rfl
      have h8 := hf 8 _ rfl
      change DataW.trod enc Tryd.prog w base spare held n' 23 (List.take (Tryd.prog.cellsOf 23) [c0, c1, c2, c3, c4, c5, c6, c7, c8, c9, c10, c11, c12, c13, c14, c15]) = some y0 at h0
      change DataW.trod enc Tryd.prog w base spare held n' 22 (List.take (Tryd.prog.cellsOf 22) [c8, c9, c10, c11, c12, c13, c14, c15]) = some y1 at h1
      change DataW.trod enc Tryd.prog w base spare held n' 22 (List.take (Tryd.prog.cellsOf 22) [c9, c10, c11, c12, c13, c14, c15]) = some y2 at h2
      change DataW.trod enc Tryd.prog w base spare held n' 22 (List.take (Tryd.prog.cellsOf 22) [c10, c11, c12, c13, c14, c15]) = some y3 at h3
      change DataW.trod enc Tryd.prog w base spare held n' 22 (List.take (Tryd.prog.cellsOf 22) [c11, c12, c13, c14, c15]) = some y4 at h4
      change DataW.trod enc Tryd.prog w base spare held n' 22 (List.take (Tryd.prog.cellsOf 22) [c12, c13, c14, c15]) = some y5 at h5
      change DataW.trod enc Tryd.prog w base spare held n' 4 (List.take (Tryd.prog.cellsOf 4) [c13, c14, c15]) = some y6 at h6
      change DataW.trod enc Tryd.prog w base spare held n' 4 (List.take (Tryd.prog.cellsOf 4) [c14, c15]) = some y7 at h7
      change DataW.trod enc Tryd.prog w base spare held n' 4 (List.take (Tryd.prog.cellsOf 4) [c15]) = some y8 at h8
      rw [ea] at h0
      rw [e1] at h1 h2 h3 h4 h5
      rw [e2] at h6 h7 h8
      obtain ⟨f, hk, q0⟩ := arr_cells h0
      obtain ⟨z1, q1, _, f1⟩ := DataW.trod_int Tryd.underlying22 h1
      obtain ⟨z2, q2, _, f2⟩ := DataW.trod_int Tryd.underlying22 h2
      obtain ⟨z3, q3, _, f3⟩ := DataW.trod_int Tryd.underlying22 h3
      obtain ⟨z4, q4, _, f4⟩ := DataW.trod_int Tryd.underlying22 h4
      obtain ⟨z5, q5, _, f5⟩ := DataW.trod_int Tryd.underlying22 h5
      obtain ⟨z6, q6, _⟩ := DataW.trod_bool Tryd.underlying4 h6
      obtain ⟨z7, q7, _⟩ := DataW.trod_bool Tryd.underlying4 h7
      obtain ⟨z8, q8, _⟩ := DataW.trod_bool Tryd.underlying4 h8
      have r8 : (List.range 8).map (fun k => Value.int .u32 (f k)) = [.int .u32 (f 0), .int .u32 (f 1), .int .u32 (f 2), .int .u32 (f 3), .int .u32 (f 4), .int .u32 (f 5), .int .u32 (f 6), .int .u32 (f 7)] := rfl
      rw [r8] at q0
      simp at q0 q1 q2 q3 q4 q5 q6 q7 q8
      obtain ⟨rfl, rfl, rfl, rfl, rfl, rfl, rfl, rfl⟩ := q0
      subst q1 q2 q3 q4 q5 q6 q7 q8
      exact ⟨⟨f, z1, z2, z3, z4, z5, z6, z7, z8⟩, ⟨hk, w32_of_wf f1, w32_of_wf f2, w32_of_wf f3, w32_of_wf f4, w32_of_wf f5⟩, rfl⟩
theorem open_state (hv : Value.okWide Tryd.prog w r b0 25 v) (h : DataW.Trod enc Tryd.prog w base spare held 25 v d p) : ∃ s : Sta, s.Ok ∧ v = .agg (sc s) := by
  obtain ⟨cs, rfl, hs⟩ := okWide_struct Tryd.underlying25 hv
  obtain ⟨fuel, hf⟩ := h
  obtain ⟨s, h1, h2⟩ := state_cells (cs := cs.toList) hf
  exact ⟨s, h1, by rw [show cs = sc s from Array.ext' h2]⟩
theorem told_cells {n : Nat} {cs : List Value} {x : DataW H × List MemPlace} (ht : DataW.trod enc Tryd.prog w base spare held n 30 cs = some x) : ∃ s : Td, s.Ok ∧ cs = (tdc s).toList := by
  obtain ⟨ys, n', _, hx, hlen, hyl, hf⟩ := DataW.trod_struct Tryd.underlying30 ht
  have hC : Tryd.prog.cellsOf 30 = 2 := by kernel_rfl
  rw [hC] at hlen
  match cs, hlen with
  | [c0, c1], hlen =>
    match ys, hyl with
    | [y0, y1], _ =>
      have e1 : Tryd.prog.cellsOf 22 = 1 := by kernel_rfl
      have h0 := hf 0 _ rfl
      have h1 := hf 1 _ rfl
      change DataW.trod enc Tryd.prog w base spare held n' 22 (List.take (Tryd.prog.cellsOf 22) [c0, c1]) = some y0 at h0
      change DataW.trod enc Tryd.prog w base spare held n' 22 (List.take (Tryd.prog.cellsOf 22) [c1]) = some y1 at h1
      rw [e1] at h0 h1
      obtain ⟨z0, q0, _, f0⟩ := DataW.trod_int Tryd.underlying22 h0
      obtain ⟨z1, q1, _, f1⟩ := DataW.trod_int Tryd.underlying22 h1
      simp at q0 q1
      subst q0 q1
      exact ⟨⟨z0, z1⟩, ⟨w32_of_wf f0, w32_of_wf f1⟩, rfl⟩
theorem open_told (hv : Value.okWide Tryd.prog w r b0 30 v) (h : DataW.Trod enc Tryd.prog w base spare held 30 v d p) : ∃ s : Td, s.Ok ∧ v = .agg (tdc s) := by
  obtain ⟨cs, rfl, hs⟩ := okWide_struct Tryd.underlying30 hv
  obtain ⟨fuel, hf⟩ := h
  obtain ⟨s, h1, h2⟩ := told_cells (cs := cs.toList) hf
  exact ⟨s, h1, by rw [show cs = tdc s from Array.ext' h2]⟩
theorem open_tolds (h : DataW.Trod enc Tryd.prog w base spare held 26 v d p) (hv : Value.okWide Tryd.prog w r b0 26 v) : ∃ xs, TdsIn w v xs := by
  obtain ⟨fuel, hf⟩ := h
  rw [slice_cells Tryd.underlying26 hv] at hf
  have hC : Tryd.prog.cellsOf 30 = 2 := by kernel_rfl
  rcases open_slice Tryd.underlying26 hf with ⟨h0, _⟩ | ⟨a, len, cap, m, n, D, Pl, hcs, hb, hl, hm, hmm, hx, hi⟩
  · exact ⟨[], none, 0, by simpa using h0, Nat.le_refl _, by simp, fun i s hs => by simp at hs⟩
  · have hle : len ≤ m := by rw [hmm]; split <;> omega
    have each : ∀ i, i < len → ∃ (s : Td), s.Ok ∧ ∃ g o, (some a : Option Addr) = some ⟨g, o, none⟩ ∧ w.cell? ⟨g, o + i * 2, none⟩ = some (.int .u32 s.w) ∧ w.cell? ⟨g, o + i * 2 + 1, none⟩ = some (.int .u32 s.t) := by
      intro i hil
      obtain ⟨cs', hc, ht'⟩ := hi i (by omega)
      rw [hC] at hc
      obtain ⟨_, hcl, hat⟩ := World.cells?_some hc
      obtain ⟨s, hok, rfl⟩ := told_cells ht'
      obtain ⟨g, o, sp⟩ := a
      have h0' := hat 0 (by omega)
      rw [Go.Deep.add_add] at h0'
      cases sp with
      | some sp =>
        exfalso
        obtain ⟨cs0, hc0, ht0⟩ := hi 0 (by omega)
        rw [hC] at hc0
        obtain ⟨_, _, hat0⟩ := World.cells?_some hc0
        obtain ⟨s0, _, rfl⟩ := told_cells ht0
        have h0 := hat0 0 (by omega)
        rw [Nat.zero_mul, Go.Deep.add_add] at h0
        unfold Addr.add at h0
        simp [tdc, World.cell?] at h0
        split at h0 <;> cases h0
      | none =>
        have h1' := hat 1 (by omega)
        rw [Go.Deep.add_add] at h1'
        rw [add_lit] at h0' h1'
        exact ⟨s, hok, g, o, rfl, by rw [Nat.add_zero] at h0'; exact h0', by rw [Nat.add_assoc]; exact h1'⟩
    obtain ⟨f, hf⟩ : ∃ f : Nat → Td, ∀ i, i < len → (f i).Ok ∧ ∃ g o, (some a : Option Addr) = some ⟨g, o, none⟩ ∧ w.cell? ⟨g, o + i * 2, none⟩ = some (.int .u32 (f i).w) ∧ w.cell? ⟨g, o + i * 2 + 1, none⟩ = some (.int .u32 (f i).t) :=
      ⟨fun i => if h : i < len then (each i h).choose else ⟨0, 0⟩, fun i h => by simp only [dif_pos h]; exact (each i h).choose_spec⟩
    refine ⟨(List.range len).map f, some a, cap, by simpa using hcs, by simp; omega, by simp; omega, fun i s hs => ?_⟩
    have hil : i < len := by have := (List.getElem?_eq_some_iff.1 hs).1; simpa using this
    rw [List.getElem?_map, List.getElem?_range hil] at hs
    cases hs
    exact hf i hil
end
end Go.Proofs.YthjdfneibogcgaaDoor
