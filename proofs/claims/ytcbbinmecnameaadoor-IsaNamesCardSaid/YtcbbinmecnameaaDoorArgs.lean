/-
  Layer 4: arguments opened: an instruction; slices of words, of ints, of instructions, of strings.
-/
import Derived.Test.YtcbbinmecnameaaDoorRows
import Derived.Test.YtcbbinmecnameaaDoorTab
import Derived.WalkKit
import Derived.ProofKit
import Derived.OpenShut
import Derived.Lib.SmallJoins
import Derived.Deep.Slices
import Derived.Deep.Fields
import Derived.ChangeSame
import Derived.ChangeSlices
namespace Go.Proofs.YtcbbinmecnameaaDoor
open Go.ChangeShapes Go.WideShapes Go.ChangeAt Go.RowKit Go.Joins Go.Deep

/-- A slice of one-cell integers as it came in. -/
def NumsIn (k : IntKind) (w : World) (v : Value) (xs : List Int) : Prop :=
  (v = .slice none 0 0 ∧ xs = []) ∨ ∃ (a : Addr) (c : Nat), v = .slice (some a) xs.length c ∧ xs.length ≤ c ∧ xs.length ≤ maxLen ∧ (∀ (i : Nat) x, xs[i]? = some x → w.cell? (a.add i) = some (.int k x)) ∧ ∀ x ∈ xs, (Lit.int k x).wf = true
/-- A slice of instructions as it came in. -/
def InsIn (w : World) (v : Value) (xs : List Ins) : Prop :=
  (v = .slice none 0 0 ∧ xs = []) ∨ ∃ (a : Addr) (c : Nat), v = .slice (some a) xs.length c ∧ xs.length ≤ c ∧ xs.length ≤ maxLen ∧ (∀ (i : Nat) s, xs[i]? = some s → w.cell? (a.add (i * 4)) = some (.int .i64 s.op) ∧ w.cell? (a.add (i * 4 + 1)) = some (.int .i64 s.a) ∧ w.cell? (a.add (i * 4 + 2)) = some (.int .i64 s.b) ∧ w.cell? (a.add (i * 4 + 3)) = some (.int .i64 s.imm)) ∧ ∀ s ∈ xs, I64 s
/-- A slice of strings as it came in. -/
def StrsIn (w : World) (v : Value) (ss : List ByteArray) : Prop :=
  (v = .slice none 0 0 ∧ ss = []) ∨ ∃ (a : Addr) (c : Nat), v = .slice (some a) ss.length c ∧ ss.length ≤ c ∧ ss.length ≤ maxLen ∧ (∀ (i : Nat) s, ss[i]? = some s → w.cell? (a.add i) = some (.string s)) ∧ ∀ s ∈ ss, s.size ≤ maxLen

set_option maxRecDepth 100000
theorem slice_cells {P : Program} {t e : TypeId} {w : World} {r : Reach} {base : Nat} {v : Value} (ht : P.underlying t = some (.slice e)) (hv : Value.okWide P w r base t v) : v.cells.toList = [v] := by
  obtain ⟨a, len, cap, rfl⟩ := okWide_slice ht hv
  rfl
section
variable {H : Type} {enc : TypeId × Value → H} {w : World} {base b0 : Nat} {spare : Nat → Bool} {held : Bool} {r : Reach} {v : Value} {d : DataW H} {p : List MemPlace}
theorem nums_in {P : Program} {t e : TypeId} {k : IntKind} (ht : P.underlying t = some (.slice e)) (he : P.underlying e = some (.int k)) (hc : P.cellsOf e = 1)
    (h : DataW.Trod enc P w base spare held t v d p) (hv : Value.okWide P w r b0 t v) : ∃ xs, NumsIn k w v xs := by
  obtain ⟨fuel, hf⟩ := h
  rw [slice_cells ht hv] at hf
  rcases open_ints ht he hc hf with ⟨h0, _⟩ | ⟨a, len, cap, zs, hcs, hb, hl, hm, hz, _, hcell, hw⟩
  · exact ⟨[], .inl ⟨by simpa using h0, rfl⟩⟩
  · have hle : len ≤ zs.length := by rw [hz]; split <;> omega
    have hlen : (zs.take len).length = len := by simp; omega
    refine ⟨zs.take len, .inr ⟨a, cap, by rw [hlen]; simpa using hcs, by rw [hlen]; omega, by rw [hlen]; omega, fun i x hi => ?_, fun x hx => hw x (List.mem_of_mem_take hx)⟩⟩
    have hil : i < len := by have := (List.getElem?_eq_some_iff.1 hi).1; omega
    rw [hcell i (by omega)]
    rw [List.getElem?_take_of_lt hil] at hi
    simp [List.getD, hi]
theorem open_u32s (h : DataW.Trod enc Tryd.prog w base spare held 22 v d p) (hv : Value.okWide Tryd.prog w r b0 22 v) : ∃ xs, NumsIn .u32 w v xs :=
  nums_in Tryd.underlying22 Tryd.underlying29 (by kernel_rfl) h hv
theorem open_ints' (h : DataW.Trod enc Tryd.prog w base spare held 42 v d p) (hv : Value.okWide Tryd.prog w r b0 42 v) : ∃ xs, NumsIn .i64 w v xs :=
  nums_in Tryd.underlying42 Tryd.underlying3 (by kernel_rfl) h hv
theorem strs_in (h : DataW.Trod enc Tryd.prog w base spare held 43 v d p) (hv : Value.okWide Tryd.prog w r b0 43 v) : ∃ ss, StrsIn w v ss := by
  obtain ⟨fuel, hf⟩ := h
  rw [slice_cells Tryd.underlying43 hv] at hf
  rcases open_strings Tryd.underlying43 Tryd.underlying9 (by kernel_rfl) hf with ⟨h0, _⟩ | ⟨a, len, cap, zs, hcs, hb, hl, hm, hz, _, hcell, hw⟩
  · exact ⟨[], .inl ⟨by simpa using h0, rfl⟩⟩
  · have hle : len ≤ zs.length := by rw [hz]; split <;> omega
    have hlen : (zs.take len).length = len := by simp; omega
    refine ⟨zs.take len, .inr ⟨a, cap, by rw [hlen]; simpa using hcs, by rw [hlen]; omega, by rw [hlen]; omega, fun i x hi => ?_, fun x hx => hw x (List.mem_of_mem_take hx)⟩⟩
    have hil : i < len := by have := (List.getElem?_eq_some_iff.1 hi).1; omega
    rw [hcell i (by omega)]
    rw [List.getElem?_take_of_lt hil] at hi
    simp [List.getD, hi]
theorem open_ins (hv : Value.okWide Tryd.prog w r b0 26 v) (h : DataW.Trod enc Tryd.prog w base spare held 26 v d p) :
    ∃ i : Ins, v = iv i ∧ I64 i := by
  obtain ⟨v0, v1, v2, v3, y0, y1, y2, y3, n, rfl, _, _, h0, h1, h2, h3⟩ := open_agg4 Tryd.underlying26 (by kernel_rfl) (by kernel_rfl) hv h
  obtain ⟨k, e0, _, q0⟩ := DataW.trod_int Tryd.underlying24 h0
  obtain ⟨a, e1, _, q1⟩ := DataW.trod_int Tryd.underlying3 h1
  obtain ⟨b, e2, _, q2⟩ := DataW.trod_int Tryd.underlying3 h2
  obtain ⟨x, e3, _, q3⟩ := DataW.trod_int Tryd.underlying3 h3
  simp at e0 e1 e2 e3
  subst e0 e1 e2 e3
  exact ⟨⟨k, a, b, x⟩, rfl, s64_of_wf q0, s64_of_wf q1, s64_of_wf q2, s64_of_wf q3⟩
theorem open_inss (h : DataW.Trod enc Tryd.prog w base spare held 34 v d p) (hv : Value.okWide Tryd.prog w r b0 34 v) : ∃ xs, InsIn w v xs := by
  obtain ⟨fuel, hf⟩ := h
  rw [slice_cells Tryd.underlying34 hv] at hf
  have hC : Tryd.prog.cellsOf 26 = 4 := by kernel_rfl
  rcases open_slice Tryd.underlying34 hf with ⟨h0, _⟩ | ⟨a, len, cap, m, n, D, Pl, hcs, hb, hl, hm, hmm, _, hi⟩
  · exact ⟨[], .inl ⟨by simpa using h0, rfl⟩⟩
  · have hle : len ≤ m := by rw [hmm]; split <;> omega
    have each : ∀ i, i < m → ∃ s : Ins, (w.cell? (a.add (i * 4)) = some (.int .i64 s.op) ∧ w.cell? (a.add (i * 4 + 1)) = some (.int .i64 s.a) ∧ w.cell? (a.add (i * 4 + 2)) = some (.int .i64 s.b) ∧ w.cell? (a.add (i * 4 + 3)) = some (.int .i64 s.imm)) ∧ I64 s := by
      intro i him
      obtain ⟨cs', hc, ht'⟩ := hi i him
      rw [hC] at hc
      obtain ⟨ys, n', _, _, hlen, hyl, hf⟩ := DataW.trod_struct Tryd.underlying26 ht'
      obtain ⟨_, hcl, hat⟩ := World.cells?_some hc
      match cs', hcl with
      | [c0, c1, c2, c3], _ =>
        match ys, hyl with
        | [y0, y1, y2, y3], _ =>
          have h0 := hf 0 _ rfl
          have h1 := hf 1 _ rfl
          have h2 := hf 2 _ rfl
          have h3 := hf 3 _ rfl
          have e3 : Tryd.prog.cellsOf 3 = 1 := by kernel_rfl
          have e35 : Tryd.prog.cellsOf 24 = 1 := by kernel_rfl
          change DataW.trod enc Tryd.prog w base spare held n' 24 (List.take (Tryd.prog.cellsOf 24) [c0, c1, c2, c3]) = some y0 at h0
          change DataW.trod enc Tryd.prog w base spare held n' 3 (List.take (Tryd.prog.cellsOf 3) [c1, c2, c3]) = some y1 at h1
          change DataW.trod enc Tryd.prog w base spare held n' 3 (List.take (Tryd.prog.cellsOf 3) [c2, c3]) = some y2 at h2
          change DataW.trod enc Tryd.prog w base spare held n' 3 (List.take (Tryd.prog.cellsOf 3) [c3]) = some y3 at h3
          rw [e3] at h1 h2 h3
          rw [e35] at h0
          obtain ⟨z0, q0, _, f0⟩ := DataW.trod_int Tryd.underlying24 h0
          obtain ⟨z1, q1, _, f1⟩ := DataW.trod_int Tryd.underlying3 h1
          obtain ⟨z2, q2, _, f2⟩ := DataW.trod_int Tryd.underlying3 h2
          obtain ⟨z3, q3, _, f3⟩ := DataW.trod_int Tryd.underlying3 h3
          simp at q0 q1 q2 q3
          subst q0 q1 q2 q3
          refine ⟨⟨z0, z1, z2, z3⟩, ⟨?_, ?_, ?_, ?_⟩, ⟨s64_of_wf f0, s64_of_wf f1, s64_of_wf f2, s64_of_wf f3⟩⟩
          · have := hat 0 (by decide)
            rwa [Go.Deep.add_add, Nat.add_zero] at this
          · have := hat 1 (by decide)
            rwa [Go.Deep.add_add] at this
          · have := hat 2 (by decide)
            rwa [Go.Deep.add_add] at this
          · have := hat 3 (by decide)
            rwa [Go.Deep.add_add] at this
    obtain ⟨f, hf⟩ : ∃ f : Nat → Ins, ∀ i, i < m → (w.cell? (a.add (i * 4)) = some (.int .i64 (f i).op) ∧ w.cell? (a.add (i * 4 + 1)) = some (.int .i64 (f i).a) ∧ w.cell? (a.add (i * 4 + 2)) = some (.int .i64 (f i).b) ∧ w.cell? (a.add (i * 4 + 3)) = some (.int .i64 (f i).imm)) ∧ I64 (f i) :=
      ⟨fun i => if h : i < m then (each i h).choose else zeroI, fun i h => by simp only [dif_pos h]; exact (each i h).choose_spec⟩
    refine ⟨(List.range len).map f, .inr ⟨a, cap, by simpa using hcs, by simp; omega, by simp; omega, fun i s hs => ?_, fun s hs => ?_⟩⟩
    · have hil : i < len := by have := (List.getElem?_eq_some_iff.1 hs).1; simpa using this
      rw [List.getElem?_map, List.getElem?_range hil] at hs
      cases hs
      exact (hf i (by omega)).1
    · obtain ⟨i, hi', rfl⟩ := List.mem_map.1 hs
      exact (hf i (by have := List.mem_range.1 hi'; omega)).2
end
end Go.Proofs.YtcbbinmecnameaaDoor
