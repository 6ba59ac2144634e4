/-
  Layer 5: arguments opened: an access (a word, an int, a word); slices of bytes, of accesses.
-/
import Derived.Test.YthcipnmcmcihgaaRows
import Derived.Test.YthcipnmcmcihgaaTab
import Derived.WalkKit
import Derived.ProofKit
import Derived.OpenShut
import Derived.Lib.SmallJoins
import Derived.Deep.Slices
import Derived.Deep.Fields
import Derived.ChangeSame
import Derived.ChangeSlices
namespace Go.Proofs.Ythcipnmcmcihgaa
open Go.ChangeShapes Go.WideShapes Go.ChangeAt Go.RowKit Go.Joins Go.Deep

/-- A slice of accesses as it came in: each a word, an int, a word. -/
structure Acc3 where
  a : Int
  d : Int
  x : Int
structure Acc3.Ok (s : Acc3) : Prop where
  a : W32 s.a
  d : (Lit.int .i64 s.d).wf = true
  x : W32 s.x
def AccsIn (w : World) (v : Value) (xs : List Acc3) : Prop :=
  (v = .slice none 0 0 ∧ xs = []) ∨ ∃ (a : Addr) (c : Nat), v = .slice (some a) xs.length c ∧ xs.length ≤ c ∧ xs.length ≤ maxLen ∧ (∀ (i : Nat) s, xs[i]? = some s → w.cell? (a.add (i * 3)) = some (.int .u32 s.a) ∧ w.cell? (a.add (i * 3 + 1)) = some (.int .i64 s.d) ∧ w.cell? (a.add (i * 3 + 2)) = some (.int .u32 s.x)) ∧ ∀ s ∈ xs, s.Ok

set_option maxRecDepth 100000
theorem slice_cells {P : Program} {t e : TypeId} {w : World} {r : Reach} {base : Nat} {v : Value} (ht : P.underlying t = some (.slice e)) (hv : Value.okWide P w r base t v) : v.cells.toList = [v] := by
  obtain ⟨a, len, cap, rfl⟩ := okWide_slice ht hv
  rfl
section
variable {H : Type} {enc : TypeId × Value → H} {w : World} {base b0 : Nat} {spare : Nat → Bool} {held : Bool} {r : Reach} {v : Value} {d : DataW H} {p : List MemPlace}
theorem nums_in {P : Program} {t e : TypeId} {k : IntKind} (ht : P.underlying t = some (.slice e)) (he : P.underlying e = some (.int k)) (hc : P.cellsOf e = 1)
    (h : DataW.Trod enc P w base spare held t v d p) (hv : Value.okWide P w r b0 t v) : ∃ xs, NumsIn k w v xs := by
  obtain ⟨fuel, hf⟩ := h
  rw [slice_cells ht hv] at hf
  rcases open_ints ht he hc hf with ⟨h0, _⟩ | ⟨a, len, cap, zs, hcs, hb, hl, hm, hz, _, hcell, hw⟩
  · exact ⟨[], .inl ⟨by simpa using h0, rfl⟩⟩
  · have hle : len ≤ zs.length := by rw [hz]; split <;> omega
    have hlen : (zs.take len).length = len := by simp; omega
    refine ⟨zs.take len, .inr ⟨a, cap, by rw [hlen]; simpa using hcs, by rw [hlen]; omega, by rw [hlen]; omega, fun i x hi => ?_, fun x hx => hw x (List.mem_of_mem_take hx)⟩⟩
    have hil : i < len := by have := (List.getElem?_eq_some_iff.1 hi).1; omega
    rw [hcell i (by omega)]
    rw [List.getElem?_take_of_lt hil] at hi
    simp [List.getD, hi]
theorem open_bytes (h : DataW.Trod enc Try.prog w base spare held 22 v d p) (hv : Value.okWide Try.prog w r b0 22 v) : ∃ xs, NumsIn .u8 w v xs :=
  nums_in Try.underlying22 Try.underlying5 (by kernel_rfl) h hv
theorem open_acc (hv : Value.okWide Try.prog w r b0 36 v) (h : DataW.Trod enc Try.prog w base spare held 36 v d p) :
    ∃ s : Acc3, v = .agg #[.int .u32 s.a, .int .i64 s.d, .int .u32 s.x] ∧ s.Ok := by
  obtain ⟨v0, v1, v2, y0, y1, y2, n, rfl, _, _, h0, h1, h2⟩ := open_agg3 Try.underlying36 (by kernel_rfl) (by kernel_rfl) hv h
  obtain ⟨k, e0, _, q0⟩ := DataW.trod_int Try.underlying34 h0
  obtain ⟨a, e1, _, q1⟩ := DataW.trod_int Try.underlying3 h1
  obtain ⟨b, e2, _, q2⟩ := DataW.trod_int Try.underlying34 h2
  simp at e0 e1 e2
  subst e0 e1 e2
  exact ⟨⟨k, a, b⟩, rfl, w32_of_wf q0, q1, w32_of_wf q2⟩
theorem open_accs (h : DataW.Trod enc Try.prog w base spare held 51 v d p) (hv : Value.okWide Try.prog w r b0 51 v) : ∃ xs, AccsIn w v xs := by
  obtain ⟨fuel, hf⟩ := h
  rw [slice_cells Try.underlying51 hv] at hf
  have hC : Try.prog.cellsOf 36 = 3 := by kernel_rfl
  rcases open_slice Try.underlying51 hf with ⟨h0, _⟩ | ⟨a, len, cap, m, n, D, Pl, hcs, hb, hl, hm, hmm, _, hi⟩
  · exact ⟨[], .inl ⟨by simpa using h0, rfl⟩⟩
  · have hle : len ≤ m := by rw [hmm]; split <;> omega
    have each : ∀ i, i < m → ∃ s : Acc3, (w.cell? (a.add (i * 3)) = some (.int .u32 s.a) ∧ w.cell? (a.add (i * 3 + 1)) = some (.int .i64 s.d) ∧ w.cell? (a.add (i * 3 + 2)) = some (.int .u32 s.x)) ∧ s.Ok := by
      intro i him
      obtain ⟨cs', hc, ht'⟩ := hi i him
      rw [hC] at hc
      obtain ⟨ys, n', _, _, hlen, hyl, hf⟩ := DataW.trod_struct Try.underlying36 ht'
      obtain ⟨_, hcl, hat⟩ := World.cells?_some hc
      match cs', hcl with
      | [c0, c1, c2], _ =>
        match ys, hyl with
        | [y0, y1, y2], _ =>
          have h0 := hf 0 _ rfl
          have h1 := hf 1 _ rfl
          have h2 := hf 2 _ rfl
          have e3 : Try.prog.cellsOf 3 = 1 := by kernel_rfl
          have e35 : Try.prog.cellsOf 34 = 1 := by kernel_rfl
          change DataW.trod enc Try.prog w base spare held n' 34 (List.take (Try.prog.cellsOf 34) [c0, c1, c2]) = some y0 at h0
          change DataW.trod enc Try.prog w base spare held n' 3 (List.take (Try.prog.cellsOf 3) [c1, c2]) = some y1 at h1
          change DataW.trod enc Try.prog w base spare held n' 34 (List.take (Try.prog.cellsOf 34) [c2]) = some y2 at h2
          rw [e3] at h1
          rw [e35] at h0 h2
          obtain ⟨z0, q0, _, f0⟩ := DataW.trod_int Try.underlying34 h0
          obtain ⟨z1, q1, _, f1⟩ := DataW.trod_int Try.underlying3 h1
          obtain ⟨z2, q2, _, f2⟩ := DataW.trod_int Try.underlying34 h2
          simp at q0 q1 q2
          subst q0 q1 q2
          refine ⟨⟨z0, z1, z2⟩, ⟨?_, ?_, ?_⟩, ⟨w32_of_wf f0, f1, w32_of_wf f2⟩⟩
          · have := hat 0 (by decide)
            rwa [Go.Deep.add_add, Nat.add_zero] at this
          · have := hat 1 (by decide)
            rwa [Go.Deep.add_add] at this
          · have := hat 2 (by decide)
            rwa [Go.Deep.add_add] at this
    obtain ⟨f, hf⟩ : ∃ f : Nat → Acc3, ∀ i, i < m → (w.cell? (a.add (i * 3)) = some (.int .u32 (f i).a) ∧ w.cell? (a.add (i * 3 + 1)) = some (.int .i64 (f i).d) ∧ w.cell? (a.add (i * 3 + 2)) = some (.int .u32 (f i).x)) ∧ (f i).Ok :=
      ⟨fun i => if h : i < m then (each i h).choose else ⟨0, 0, 0⟩, fun i h => by simp only [dif_pos h]; exact (each i h).choose_spec⟩
    refine ⟨(List.range len).map f, .inr ⟨a, cap, by simpa using hcs, by simp; omega, by simp; omega, fun i s hs => ?_, fun s hs => ?_⟩⟩
    · have hil : i < len := by have := (List.getElem?_eq_some_iff.1 hs).1; simpa using this
      rw [List.getElem?_map, List.getElem?_range hil] at hs
      cases hs
      exact (hf i (by omega)).1
    · obtain ⟨i, hi', rfl⟩ := List.mem_map.1 hs
      exact (hf i (by have := List.mem_range.1 hi'; omega)).2
end
end Go.Proofs.Ythcipnmcmcihgaa
