/-
  Layer 16: arguments opened: a log, a record, bytes.
-/
import Derived.Test.YtjffclcjijpmiaaRows
import Derived.Test.YtjffclcjijpmiaaG06
import Derived.WalkKit
import Derived.ProofKit
import Derived.OpenShut
import Derived.Lib.SmallJoins
import Derived.Deep.Slices
import Derived.Deep.Fields
import Derived.ChangeSame
import Derived.ChangeSlices
import Derived.ChangeArms
import Derived.WideShapes
import Derived.SizedLaws
set_option linter.unusedVariables false
set_option linter.unusedSimpArgs false
namespace Go.Proofs.Ytjffclcjijpmiaa.LG
open Go.ChangeShapes Go.WideShapes Go.ChangeAt Go.RowKit Go.Joins Go.Deep
set_option maxRecDepth 100000
set_option linter.unusedVariables false

theorem slice_cells {P : Program} {t e : TypeId} {w : World} {r : Reach} {base : Nat} {v : Value} (ht : P.underlying t = some (.slice e)) (hv : Value.okWide P w r base t v) : v.cells.toList = [v] := by
  obtain ⟨a, len, cap, rfl⟩ := okWide_slice ht hv
  rfl
theorem rng_flat {α : Type} {w : World} {g o sz : Nat} : ∀ (l : List (α × List Value)) (i0 : Nat), (∀ (i : Nat) x, l[i]? = some x → x.2.length = sz ∧ w.rangeAt g (o + (i0 + i) * sz) x.2) → w.rangeAt g (o + i0 * sz) (l.flatMap Prod.snd)
  | [], _, _ => fun j u hj => by simp at hj
  | y :: r, i0, h => fun j u hj => by
    obtain ⟨h1, h2⟩ := h 0 y rfl
    rw [List.flatMap_cons] at hj
    by_cases hlt : j < y.2.length
    · rw [List.getElem?_append_left hlt] at hj
      exact h2 j u hj
    · rw [List.getElem?_append_right (by omega)] at hj
      have := rng_flat r (i0 + 1) (fun i x hx => by
        have := h (i + 1) x hx
        rw [show i0 + (i + 1) = i0 + 1 + i by omega] at this
        exact this) (j - y.2.length) u hj
      rw [show o + (i0 + 1) * sz + (j - y.2.length) = o + i0 * sz + j by rw [h1, Nat.add_mul]; omega] at this
      exact this
theorem flat_snd_len {α : Type} {sz : Nat} : ∀ (l : List (α × List Value)), (∀ x ∈ l, x.2.length = sz) → (l.flatMap Prod.snd).length = l.length * sz
  | [], _ => by simp
  | y :: r, h => by rw [List.flatMap_cons, List.length_append, flat_snd_len r (fun x hx => h x (by simp [hx])), h y (by simp), List.length_cons, Nat.add_mul]; omega
theorem cell_spot {w : World} {a : Addr} {u : Value} (h : w.cell? a = some u) : a = ⟨a.block, a.off, none⟩ := by
  obtain ⟨b, o, s⟩ := a
  unfold World.cell? at h
  cases s with
  | none => rfl
  | some x => simp only at h; split at h <;> simp at h
section
variable {H : Type} {enc : TypeId × Value → H} {w : World} {base b0 : Nat} {spare : Nat → Bool} {held : Bool} {r : Reach} {v : Value} {d : DataW H} {p : List MemPlace}
/-- A list of rows of sz cells each. -/
theorem open_rows {t e : TypeId} {sz : Nat} (ht : Try.prog.underlying t = some (.slice e)) (hC : Try.prog.cellsOf e = sz) (hs : 0 < sz) {α : Type} (P : α → List Value → Prop)
    (each : ∀ (n : Nat) (cs : List Value) (x : DataW H × List MemPlace), cs.length = sz → DataW.trod enc Try.prog w base spare held n e cs = some x → ∃ a, P a cs) {fuel : Nat} {x : DataW H × List MemPlace} (hf : DataW.trod enc Try.prog w base spare held fuel t [v] = some x) :
    ∃ l : List (α × List Value), Rd sz w v l.length (l.flatMap Prod.snd) ∧ ∀ y ∈ l, y.2.length = sz ∧ P y.1 y.2 := by
  rcases open_slice ht hf with ⟨h0, _⟩ | ⟨a, len, cap, m, n, D, Pl, hcs, hb, hl, hm, hmm, hx, hi⟩
  · refine ⟨[], ?_, fun y hy => by cases hy⟩
    have : v = .slice none 0 0 := by simpa using h0
    rw [this]; exact Rd.nil sz w none 0
  · have hle : len ≤ m := by rw [hmm]; split <;> omega
    have hv : v = .slice (some a) len cap := by simpa using hcs
    have ea : ∀ i, i < len → ∃ y : α × List Value, y.2.length = sz ∧ P y.1 y.2 ∧ ∀ j u, y.2[j]? = some u → w.cell? ((a.add (i * sz)).add j) = some u := by
      intro i hil
      obtain ⟨cs', hc, ht'⟩ := hi i (by omega)
      rw [hC] at hc
      obtain ⟨_, hcl, hat⟩ := World.cells?_some hc
      obtain ⟨y, hy⟩ := each _ cs' _ hcl ht'
      refine ⟨(y, cs'), hcl, hy, fun j u hj => ?_⟩
      have hj' : j < cs'.length := (List.getElem?_eq_some_iff.1 hj).1
      have := hat j (by omega)
      rw [Go.Deep.add_add] at this
      rw [Go.Deep.add_add, this]
      simpa using hj
    rcases Nat.eq_zero_or_pos len with e0 | e0
    · subst e0
      exact ⟨[], by rw [hv]; exact Rd.nil sz w (some a) cap, fun y hy => by cases hy⟩
    obtain ⟨f, hf⟩ : ∃ f : Nat → α × List Value, ∀ i, i < len → (f i).2.length = sz ∧ P (f i).1 (f i).2 ∧ ∀ j u, (f i).2[j]? = some u → w.cell? ((a.add (i * sz)).add j) = some u :=
      ⟨fun i => if h : i < len then (ea i h).choose else (ea 0 e0).choose, fun i h => by simp only [dif_pos h]; exact (ea i h).choose_spec⟩
    refine ⟨(List.range len).map f, ⟨?_, some a, cap, by rw [hv]; simp, by simp; omega, by simp; omega, fun hn => ?_⟩, fun y hy => ?_⟩
    · exact flat_snd_len _ fun y hy => by
        obtain ⟨i, hi', rfl⟩ := List.mem_map.1 hy
        exact (hf i (by simpa using hi')).1
    · have hl0 : 0 < len := by simpa using hn
      have a00 : ∃ u, w.cell? a = some u := by
        obtain ⟨h1, _, h3⟩ := hf 0 hl0
        have := h3 0 _ (List.getElem?_eq_getElem (by omega))
        exact ⟨_, by simpa [Addr.add] using this⟩
      obtain ⟨u0, hu0⟩ := a00
      have hspot := cell_spot hu0
      refine ⟨a.block, a.off, by rw [← hspot], ?_⟩
      have := rng_flat (w := w) (g := a.block) (o := a.off) (sz := sz) ((List.range len).map f) 0 (fun i x hx => ?_)
      · rwa [Nat.zero_mul, Nat.add_zero] at this
      · have hil : i < len := by have := (List.getElem?_eq_some_iff.1 hx).1; simpa using this
        rw [List.getElem?_map, List.getElem?_range hil] at hx
        cases hx
        refine ⟨(hf i hil).1, fun j u hj => ?_⟩
        have := (hf i hil).2.2 j u hj
        rw [hspot, add_lit, add_lit] at this
        rw [Nat.zero_add]; exact this
    · obtain ⟨i, hi', rfl⟩ := List.mem_map.1 hy
      exact ⟨(hf i (by simpa using hi')).1, (hf i (by simpa using hi')).2.1⟩
theorem flat_congr {α β : Type} {f g : α → List β} {l : List α} (h : ∀ y ∈ l, f y = g y) : l.flatMap f = l.flatMap g := by
  induction l with
  | nil => rfl
  | cons y r ih => rw [List.flatMap_cons, List.flatMap_cons, h y (by simp), ih fun z hz => h z (by simp [hz])]
theorem i64_of {z : Int} (h : (Lit.int .i64 z).wf = true) : I64 z := by
  simp only [Lit.wf, IntKind.min, IntKind.max, IntKind.signed, IntKind.bits, Bool.and_eq_true, decide_eq_true_eq, if_true] at h
  unfold I64
  omega
theorem u8_of {z : Int} (h : (Lit.int .u8 z).wf = true) : 0 ≤ z ∧ z < 256 := by
  simp [Lit.wf, IntKind.min, IntKind.max, IntKind.signed, IntKind.bits] at h
  omega
theorem bytes_trod {fuel : Nat} {x : DataW H × List MemPlace} (hf : DataW.trod enc Try.prog w base spare held fuel 34 [v] = some x) : ∃ l, Bs w v l := by
  obtain ⟨l, h1, h2⟩ := open_rows (sz := 1) Try.underlying34 (by kernel_rfl) (by omega) (fun (q : Int) cs => cs = [.int .u8 q] ∧ 0 ≤ q ∧ q < 256) (fun n cs x hl ht => by
    match cs, hl with
    | [c0], _ =>
      obtain ⟨z0, q0, _, w0⟩ := DataW.trod_int Try.underlying5 ht
      simp at q0
      exact ⟨z0, by rw [q0], u8_of w0⟩) hf
  refine ⟨l.map Prod.fst, ?_, fun q hq => ?_⟩
  · have e : u8s (l.map Prod.fst) = l.flatMap Prod.snd := by
      unfold u8s
      rw [List.map_map]
      clear h1 hf
      induction l with
      | nil => rfl
      | cons y t ih =>
        rw [List.map_cons, List.flatMap_cons, (h2 y (by simp)).2.1, ih (fun z hz => h2 z (by simp [hz]))]
        rfl
    rw [List.length_map, e]; exact h1
  · obtain ⟨y, hy, rfl⟩ := List.mem_map.1 hq
    exact (h2 y hy).2.2
/-- A record's cells. -/
theorem rec_cells {n : Nat} {cs : List Value} {x : DataW H × List MemPlace} (hl : cs.length = 4) (ht : DataW.trod enc Try.prog w base spare held n 42 cs = some x) : ∃ r : Rc, (∃ bv, cs = rcl r bv ∧ Bs w bv r.bs) ∧ Ri r := by
  obtain ⟨ys, n', _, hx, hlen, hyl, hf⟩ := DataW.trod_struct Try.underlying42 ht
  match cs, hl, ys, hyl with
  | [c0, c1, c2, c3], _, [y0, y1, y2, y3], _ =>
    have h0 := hf 0 _ rfl
    have h1 := hf 1 _ rfl
    have h2 := hf 2 _ rfl
    have h3 := hf 3 _ rfl
    have e0 : Try.prog.cellsOf 2 = 1 := by kernel_rfl
    have e1 : Try.prog.cellsOf 40 = 1 := by kernel_rfl
    have e2 : Try.prog.cellsOf 3 = 1 := by kernel_rfl
    have e3 : Try.prog.cellsOf 34 = 1 := by kernel_rfl
    change DataW.trod enc Try.prog w base spare held n' 2 (List.take (Try.prog.cellsOf 2) [c0, c1, c2, c3]) = some y0 at h0
    change DataW.trod enc Try.prog w base spare held n' 40 (List.take (Try.prog.cellsOf 40) [c1, c2, c3]) = some y1 at h1
    change DataW.trod enc Try.prog w base spare held n' 3 (List.take (Try.prog.cellsOf 3) [c2, c3]) = some y2 at h2
    change DataW.trod enc Try.prog w base spare held n' 34 (List.take (Try.prog.cellsOf 34) [c3]) = some y3 at h3
    rw [e0] at h0
    rw [e1] at h1
    rw [e2] at h2
    rw [e3] at h3
    obtain ⟨z0, q0, _, w0⟩ := DataW.trod_int Try.underlying2 h0
    obtain ⟨z1, q1, _, w1⟩ := DataW.trod_int Try.underlying40 h1
    obtain ⟨z2, q2, _, w2⟩ := DataW.trod_int Try.underlying3 h2
    obtain ⟨l, hb⟩ := bytes_trod (show DataW.trod enc Try.prog w base spare held n' 34 [c3] = some y3 from h3)
    simp at q0 q1 q2
    exact ⟨⟨z0, z1, z2, l⟩, ⟨c3, by rw [q0, q1, q2]; rfl, hb⟩, ⟨i64_of w0, i64_of w1, i64_of w2⟩⟩
theorem rcc_of {w : World} : ∀ (l : List (Rc × List Value)), (∀ y ∈ l, ∃ bv, y.2 = rcl y.1 bv ∧ Bs w bv y.1.bs) → RcC w (l.map Prod.fst) (l.flatMap Prod.snd)
  | [], _ => rfl
  | y :: r, h => by
    obtain ⟨bv, h1, h2⟩ := h y (by simp)
    exact ⟨bv, r.flatMap Prod.snd, by rw [List.flatMap_cons, h1], h2, rcc_of r fun z hz => h z (by simp [hz])⟩
theorem recs_trod {fuel : Nat} {x : DataW H × List MemPlace} (hf : DataW.trod enc Try.prog w base spare held fuel 24 [v] = some x) : ∃ l, RsIn w v l := by
  obtain ⟨l, h1, h2⟩ := open_rows (sz := 4) Try.underlying24 (by kernel_rfl) (by omega) (fun (q : Rc) cs => (∃ bv, cs = rcl q bv ∧ Bs w bv q.bs) ∧ Ri q) (fun n cs x hl ht => rec_cells hl ht) hf
  refine ⟨l.map Prod.fst, l.flatMap Prod.snd, by rw [List.length_map]; exact h1, rcc_of l fun y hy => (h2 y hy).2.1, fun q hq => ?_⟩
  obtain ⟨y, hy, rfl⟩ := List.mem_map.1 hq
  exact (h2 y hy).2.2
theorem form_cells {n : Nat} {cs : List Value} {x : DataW H × List MemPlace} (hl : cs.length = 2) (ht : DataW.trod enc Try.prog w base spare held n 23 cs = some x) : ∃ a b : Int, cs = [.int .i64 a, .int .i64 b] ∧ I64 a ∧ I64 b := by
  obtain ⟨ys, n', _, hx, hlen, hyl, hf⟩ := DataW.trod_struct Try.underlying23 ht
  match cs, hl, ys, hyl with
  | [c0, c1], _, [y0, y1], _ =>
    have h0 := hf 0 _ rfl
    have h1 := hf 1 _ rfl
    have e2 : Try.prog.cellsOf 3 = 1 := by kernel_rfl
    change DataW.trod enc Try.prog w base spare held n' 3 (List.take (Try.prog.cellsOf 3) [c0, c1]) = some y0 at h0
    change DataW.trod enc Try.prog w base spare held n' 3 (List.take (Try.prog.cellsOf 3) [c1]) = some y1 at h1
    rw [e2] at h0 h1
    obtain ⟨z0, q0, _, w0⟩ := DataW.trod_int Try.underlying3 h0
    obtain ⟨z1, q1, _, w1⟩ := DataW.trod_int Try.underlying3 h1
    simp at q0 q1
    exact ⟨z0, z1, by rw [q0, q1], i64_of w0, i64_of w1⟩
/-- A log's cells. -/
theorem log_cells {n : Nat} {cs : List Value} {x : DataW H × List MemPlace} (hl : cs.length = 6) (ht : DataW.trod enc Try.prog w base spare held n 26 cs = some x) : ∃ (l : Lg) (rv : Value), cs = (lgc l rv).toList ∧ LgIn w rv l := by
  obtain ⟨ys, n', _, hx, hlen, hyl, hf⟩ := DataW.trod_struct Try.underlying26 ht
  match cs, hl, ys, hyl with
  | [c0, c1, c2, c3, c4, c5], _, [y0, y1, y2, y3, y4], _ =>
    have h0 := hf 0 _ rfl
    have h1 := hf 1 _ rfl
    have h2 := hf 2 _ rfl
    have h3 := hf 3 _ rfl
    have h4 := hf 4 _ rfl
    have e0 : Try.prog.cellsOf 23 = 2 := by kernel_rfl
    have e1 : Try.prog.cellsOf 3 = 1 := by kernel_rfl
    have e2 : Try.prog.cellsOf 24 = 1 := by kernel_rfl
    have e3 : Try.prog.cellsOf 4 = 1 := by kernel_rfl
    have e4 : Try.prog.cellsOf 2 = 1 := by kernel_rfl
    change DataW.trod enc Try.prog w base spare held n' 23 (List.take (Try.prog.cellsOf 23) [c0, c1, c2, c3, c4, c5]) = some y0 at h0
    change DataW.trod enc Try.prog w base spare held n' 3 (List.take (Try.prog.cellsOf 3) [c2, c3, c4, c5]) = some y1 at h1
    change DataW.trod enc Try.prog w base spare held n' 24 (List.take (Try.prog.cellsOf 24) [c3, c4, c5]) = some y2 at h2
    change DataW.trod enc Try.prog w base spare held n' 4 (List.take (Try.prog.cellsOf 4) [c4, c5]) = some y3 at h3
    change DataW.trod enc Try.prog w base spare held n' 2 (List.take (Try.prog.cellsOf 2) [c5]) = some y4 at h4
    rw [e0] at h0
    rw [e1] at h1
    rw [e2] at h2
    rw [e3] at h3
    rw [e4] at h4
    obtain ⟨za, zb, q0, wa, wb⟩ := form_cells (cs := [c0, c1]) rfl h0
    obtain ⟨z1, q1, _, w1⟩ := DataW.trod_int Try.underlying3 h1
    obtain ⟨l, hr⟩ := recs_trod (show DataW.trod enc Try.prog w base spare held n' 24 [c3] = some y2 from h2)
    obtain ⟨z3, q3, _⟩ := DataW.trod_bool Try.underlying4 h3
    obtain ⟨z4, q4, _, w4⟩ := DataW.trod_int Try.underlying2 h4
    simp at q0 q1 q3 q4
    exact ⟨⟨za, zb, z1, l, z3, z4⟩, c3, by rw [q0.1, q0.2, q1, q3, q4]; rfl, hr, wa, wb, i64_of w1, i64_of w4⟩
theorem open_log (hv : Value.okWide Try.prog w r b0 26 v) (h : DataW.Trod enc Try.prog w base spare held 26 v d p) : ∃ (l : Lg) (rv : Value), v = .agg (lgc l rv) ∧ LgIn w rv l := by
  obtain ⟨cs, rfl, hs⟩ := okWide_struct Try.underlying26 hv
  have hC : Try.prog.cellsOf 26 = 6 := by kernel_rfl
  rw [hC] at hs
  obtain ⟨fuel, hf⟩ := h
  obtain ⟨l, rv, h1, h2⟩ := log_cells (cs := cs.toList) (by simpa using hs) (show DataW.trod enc Try.prog w base spare held fuel 26 cs.toList = _ from hf)
  exact ⟨l, rv, by rw [← Array.toArray_toList (xs := cs), h1], h2⟩
theorem open_rec (hv : Value.okWide Try.prog w r b0 42 v) (h : DataW.Trod enc Try.prog w base spare held 42 v d p) : ∃ (q : Rc) (bv : Value), v = .agg (rcl q bv).toArray ∧ Bs w bv q.bs ∧ Ri q := by
  obtain ⟨cs, rfl, hs⟩ := okWide_struct Try.underlying42 hv
  have hC : Try.prog.cellsOf 42 = 4 := by kernel_rfl
  rw [hC] at hs
  obtain ⟨fuel, hf⟩ := h
  obtain ⟨q, ⟨bv, h1, h2⟩, h3⟩ := rec_cells (cs := cs.toList) (by simpa using hs) (show DataW.trod enc Try.prog w base spare held fuel 42 cs.toList = _ from hf)
  exact ⟨q, bv, by rw [← Array.toArray_toList (xs := cs), h1], h2, h3⟩
theorem open_bytes (hv : Value.okWide Try.prog w r b0 34 v) (h : DataW.Trod enc Try.prog w base spare held 34 v d p) : ∃ l, Bs w v l := by
  obtain ⟨fuel, hf⟩ := h
  rw [slice_cells Try.underlying34 hv] at hf
  exact bytes_trod hf
end
end Go.Proofs.Ytjffclcjijpmiaa.LG
