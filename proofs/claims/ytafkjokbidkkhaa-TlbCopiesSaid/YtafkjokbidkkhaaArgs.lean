/-
  Layer 6: arguments opened: bools, a call, slices of calls, of words.
-/
import Derived.Test.YtafkjokbidkkhaaRows
import Derived.Test.YtafkjokbidkkhaaNums
import Derived.WalkKit
import Derived.ProofKit
import Derived.OpenShut
import Derived.Lib.SmallJoins
import Derived.Deep.Slices
import Derived.Deep.Fields
import Derived.ChangeSame
import Derived.ChangeSlices
import Derived.ChangeArms
import Derived.WideShapes
namespace Go.Proofs.Ytafkjokbidkkhaa
open Go.ChangeShapes Go.WideShapes Go.ChangeAt Go.RowKit Go.Joins Go.Deep

set_option maxRecDepth 100000
theorem slice_cells {P : Program} {t e : TypeId} {w : World} {r : Reach} {base : Nat} {v : Value} (ht : P.underlying t = some (.slice e)) (hv : Value.okWide P w r base t v) : v.cells.toList = [v] := by
  obtain ⟨a, len, cap, rfl⟩ := okWide_slice ht hv
  rfl
section
variable {H : Type} {enc : TypeId × Value → H} {w : World} {base b0 : Nat} {spare : Nat → Bool} {held : Bool} {r : Reach} {v : Value} {d : DataW H} {p : List MemPlace}
theorem nums_in {P : Program} {t e : TypeId} {k : IntKind} (ht : P.underlying t = some (.slice e)) (he : P.underlying e = some (.int k)) (hc : P.cellsOf e = 1)
    (h : DataW.Trod enc P w base spare held t v d p) (hv : Value.okWide P w r b0 t v) : ∃ xs, NumsIn k w v xs := by
  obtain ⟨fuel, hf⟩ := h
  rw [slice_cells ht hv] at hf
  rcases open_ints ht he hc hf with ⟨h0, _⟩ | ⟨a, len, cap, zs, hcs, hb, hl, hm, hz, _, hcell, hw⟩
  · exact ⟨[], .inl ⟨by simpa using h0, rfl⟩⟩
  · have hle : len ≤ zs.length := by rw [hz]; split <;> omega
    have hlen : (zs.take len).length = len := by simp; omega
    refine ⟨zs.take len, .inr ⟨a, cap, by rw [hlen]; simpa using hcs, by rw [hlen]; omega, by rw [hlen]; omega, fun i x hi => ?_, fun x hx => hw x (List.mem_of_mem_take hx)⟩⟩
    have hil : i < len := by have := (List.getElem?_eq_some_iff.1 hi).1; omega
    rw [hcell i (by omega)]
    rw [List.getElem?_take_of_lt hil] at hi
    simp [List.getD, hi]
theorem open_u32s (h : DataW.Trod enc Try.prog w base spare held 35 v d p) (hv : Value.okWide Try.prog w r b0 35 v) : ∃ xs, NumsIn .u32 w v xs :=
  nums_in Try.underlying35 Try.underlying25 (by kernel_rfl) h hv
theorem open_boolA (hv : Value.okWide Try.prog w r b0 4 v) : ∃ b, v = .bool b := okWide_bool Try.underlying4 hv
/-- The five cells of a call. -/
theorem act_cells5 {n : Nat} {c0 c1 c2 c3 c4 : Value} {x : DataW H × List MemPlace} (ht : DataW.trod enc Try.prog w base spare held n 40 [c0, c1, c2, c3, c4] = some x) :
    ∃ s : Act5, c0 = .int .i64 s.k ∧ c1 = .int .u32 s.p ∧ c2 = .int .u32 s.f ∧ c3 = .bool s.wr ∧ c4 = .bool s.th := by
  obtain ⟨ys, n', _, _, hlen, hyl, hf⟩ := DataW.trod_struct Try.underlying40 ht
  match ys, hyl with
  | [y0, y1, y2, y3, y4], _ =>
    have h0 := hf 0 _ rfl
    have h1 := hf 1 _ rfl
    have h2 := hf 2 _ rfl
    have h3 := hf 3 _ rfl
    have h4 := hf 4 _ rfl
    have e3 : Try.prog.cellsOf 3 = 1 := by kernel_rfl
    have e25 : Try.prog.cellsOf 25 = 1 := by kernel_rfl
    have e4 : Try.prog.cellsOf 4 = 1 := by kernel_rfl
    change DataW.trod enc Try.prog w base spare held n' 3 (List.take (Try.prog.cellsOf 3) [c0, c1, c2, c3, c4]) = some y0 at h0
    change DataW.trod enc Try.prog w base spare held n' 25 (List.take (Try.prog.cellsOf 25) [c1, c2, c3, c4]) = some y1 at h1
    change DataW.trod enc Try.prog w base spare held n' 25 (List.take (Try.prog.cellsOf 25) [c2, c3, c4]) = some y2 at h2
    change DataW.trod enc Try.prog w base spare held n' 4 (List.take (Try.prog.cellsOf 4) [c3, c4]) = some y3 at h3
    change DataW.trod enc Try.prog w base spare held n' 4 (List.take (Try.prog.cellsOf 4) [c4]) = some y4 at h4
    rw [e3] at h0
    rw [e25] at h1 h2
    rw [e4] at h3 h4
    obtain ⟨z0, q0, _, _⟩ := DataW.trod_int Try.underlying3 h0
    obtain ⟨z1, q1, _, _⟩ := DataW.trod_int Try.underlying25 h1
    obtain ⟨z2, q2, _, _⟩ := DataW.trod_int Try.underlying25 h2
    obtain ⟨z3, q3, _⟩ := DataW.trod_bool Try.underlying4 h3
    obtain ⟨z4, q4, _⟩ := DataW.trod_bool Try.underlying4 h4
    simp at q0 q1 q2 q3 q4
    exact ⟨⟨z0, z1, z2, z3, z4⟩, q0, q1, q2, q3, q4⟩
theorem open_act (hv : Value.okWide Try.prog w r b0 40 v) (h : DataW.Trod enc Try.prog w base spare held 40 v d p) :
    ∃ s : Act5, v = .agg #[.int .i64 s.k, .int .u32 s.p, .int .u32 s.f, .bool s.wr, .bool s.th] := by
  obtain ⟨cs, rfl, hsz⟩ := okWide_struct Try.underlying40 hv
  have hC : Try.prog.cellsOf 40 = 5 := by kernel_rfl
  rw [hC] at hsz
  obtain ⟨l⟩ := cs
  match l, hsz with
  | [c0, c1, c2, c3, c4], _ =>
    obtain ⟨fuel, hf⟩ := h
    obtain ⟨s, e0, e1, e2, e3, e4⟩ := act_cells5 (show DataW.trod enc Try.prog w base spare held fuel 40 [c0, c1, c2, c3, c4] = _ from hf)
    exact ⟨s, by rw [e0, e1, e2, e3, e4]⟩
theorem open_acts (h : DataW.Trod enc Try.prog w base spare held 22 v d p) (hv : Value.okWide Try.prog w r b0 22 v) : ∃ xs, ActsIn w v xs := by
  obtain ⟨fuel, hf⟩ := h
  rw [slice_cells Try.underlying22 hv] at hf
  have hC : Try.prog.cellsOf 40 = 5 := by kernel_rfl
  rcases open_slice Try.underlying22 hf with ⟨h0, _⟩ | ⟨a, len, cap, m, n, D, Pl, hcs, hb, hl, hm, hmm, _, hi⟩
  · exact ⟨[], .inl ⟨by simpa using h0, rfl⟩⟩
  · have hle : len ≤ m := by rw [hmm]; split <;> omega
    have each : ∀ i, i < m → ∃ s : Act5, w.cell? (a.add (i * 5)) = some (.int .i64 s.k) ∧ w.cell? (a.add (i * 5 + 1)) = some (.int .u32 s.p) ∧ w.cell? (a.add (i * 5 + 2)) = some (.int .u32 s.f) ∧ w.cell? (a.add (i * 5 + 3)) = some (.bool s.wr) ∧ w.cell? (a.add (i * 5 + 4)) = some (.bool s.th) := by
      intro i him
      obtain ⟨cs', hc, ht'⟩ := hi i him
      rw [hC] at hc
      obtain ⟨_, hcl, hat⟩ := World.cells?_some hc
      match cs', hcl with
      | [c0, c1, c2, c3, c4], _ =>
        obtain ⟨s, rfl, rfl, rfl, rfl, rfl⟩ := act_cells5 ht'
        refine ⟨s, ?_, ?_, ?_, ?_, ?_⟩
        · have := hat 0 (by decide)
          rwa [Go.Deep.add_add, Nat.add_zero] at this
        · have := hat 1 (by decide)
          rwa [Go.Deep.add_add] at this
        · have := hat 2 (by decide)
          rwa [Go.Deep.add_add] at this
        · have := hat 3 (by decide)
          rwa [Go.Deep.add_add] at this
        · have := hat 4 (by decide)
          rwa [Go.Deep.add_add] at this
    obtain ⟨f, hf⟩ : ∃ f : Nat → Act5, ∀ i, i < m → w.cell? (a.add (i * 5)) = some (.int .i64 (f i).k) ∧ w.cell? (a.add (i * 5 + 1)) = some (.int .u32 (f i).p) ∧ w.cell? (a.add (i * 5 + 2)) = some (.int .u32 (f i).f) ∧ w.cell? (a.add (i * 5 + 3)) = some (.bool (f i).wr) ∧ w.cell? (a.add (i * 5 + 4)) = some (.bool (f i).th) :=
      ⟨fun i => if h : i < m then (each i h).choose else ⟨0, 0, 0, false, false⟩, fun i h => by simp only [dif_pos h]; exact (each i h).choose_spec⟩
    refine ⟨(List.range len).map f, .inr ⟨a, cap, by simpa using hcs, by simp; omega, by simp; omega, fun i s hs => ?_⟩⟩
    have hil : i < len := by have := (List.getElem?_eq_some_iff.1 hs).1; simpa using this
    rw [List.getElem?_map, List.getElem?_range hil] at hs
    cases hs
    exact hf i (by omega)
end
end Go.Proofs.Ytafkjokbidkkhaa
