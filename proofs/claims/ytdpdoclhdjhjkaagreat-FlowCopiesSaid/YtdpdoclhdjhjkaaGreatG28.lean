/-
  Layer 12: arguments opened: lists of places, of touches, of calls, of triples.
-/
import Derived.Test.YtdpdoclhdjhjkaaGreatRows
import Derived.Test.YtdpdoclhdjhjkaaGreatG06
import Derived.WalkKit
import Derived.ProofKit
import Derived.OpenShut
import Derived.Lib.SmallJoins
import Derived.Deep.Slices
import Derived.Deep.Fields
import Derived.ChangeSame
import Derived.ChangeSlices
import Derived.ChangeArms
import Derived.WideShapes
import Derived.SizedLaws
set_option linter.unusedVariables false
set_option linter.unusedSimpArgs false
namespace Go.Proofs.YtdpdoclhdjhjkaaGreat
open Go.ChangeShapes Go.WideShapes Go.ChangeAt Go.RowKit Go.Joins Go.Deep
set_option maxRecDepth 100000
set_option linter.unusedVariables false

theorem slice_cells {P : Program} {t e : TypeId} {w : World} {r : Reach} {base : Nat} {v : Value} (ht : P.underlying t = some (.slice e)) (hv : Value.okWide P w r base t v) : v.cells.toList = [v] := by
  obtain ⟨a, len, cap, rfl⟩ := okWide_slice ht hv
  rfl
theorem rng_flat {α : Type} {w : World} {g o sz : Nat} : ∀ (l : List (α × List Value)) (i0 : Nat), (∀ (i : Nat) x, l[i]? = some x → x.2.length = sz ∧ w.rangeAt g (o + (i0 + i) * sz) x.2) → w.rangeAt g (o + i0 * sz) (l.flatMap Prod.snd)
  | [], _, _ => fun j u hj => by simp at hj
  | y :: r, i0, h => fun j u hj => by
    obtain ⟨h1, h2⟩ := h 0 y rfl
    rw [List.flatMap_cons] at hj
    by_cases hlt : j < y.2.length
    · rw [List.getElem?_append_left hlt] at hj
      exact h2 j u hj
    · rw [List.getElem?_append_right (by omega)] at hj
      have := rng_flat r (i0 + 1) (fun i x hx => by
        have := h (i + 1) x hx
        rw [show i0 + (i + 1) = i0 + 1 + i by omega] at this
        exact this) (j - y.2.length) u hj
      rw [show o + (i0 + 1) * sz + (j - y.2.length) = o + i0 * sz + j by rw [h1, Nat.add_mul]; omega] at this
      exact this
theorem flat_snd_len {α : Type} {sz : Nat} : ∀ (l : List (α × List Value)), (∀ x ∈ l, x.2.length = sz) → (l.flatMap Prod.snd).length = l.length * sz
  | [], _ => by simp
  | y :: r, h => by rw [List.flatMap_cons, List.length_append, flat_snd_len r (fun x hx => h x (by simp [hx])), h y (by simp), List.length_cons, Nat.add_mul]; omega
theorem cell_spot {w : World} {a : Addr} {u : Value} (h : w.cell? a = some u) : a = ⟨a.block, a.off, none⟩ := by
  obtain ⟨b, o, s⟩ := a
  unfold World.cell? at h
  cases s with
  | none => rfl
  | some x => simp only at h; split at h <;> simp at h
section
variable {H : Type} {enc : TypeId × Value → H} {w : World} {base b0 : Nat} {spare : Nat → Bool} {held : Bool} {r : Reach} {v : Value} {d : DataW H} {p : List MemPlace}
/-- A list of rows of sz cells each. -/
theorem open_rows {t e : TypeId} {sz : Nat} (ht : Tryz.prog.underlying t = some (.slice e)) (hC : Tryz.prog.cellsOf e = sz) (hs : 0 < sz) {α : Type} (P : α → List Value → Prop)
    (each : ∀ (n : Nat) (cs : List Value) (x : DataW H × List MemPlace), cs.length = sz → DataW.trod enc Tryz.prog w base spare held n e cs = some x → ∃ a, P a cs) {fuel : Nat} {x : DataW H × List MemPlace} (hf : DataW.trod enc Tryz.prog w base spare held fuel t [v] = some x) :
    ∃ l : List (α × List Value), Rd sz w v l.length (l.flatMap Prod.snd) ∧ ∀ y ∈ l, y.2.length = sz ∧ P y.1 y.2 := by
  rcases open_slice ht hf with ⟨h0, _⟩ | ⟨a, len, cap, m, n, D, Pl, hcs, hb, hl, hm, hmm, hx, hi⟩
  · refine ⟨[], ?_, fun y hy => by cases hy⟩
    have : v = .slice none 0 0 := by simpa using h0
    rw [this]; exact Rd.nil sz w none 0
  · have hle : len ≤ m := by rw [hmm]; split <;> omega
    have hv : v = .slice (some a) len cap := by simpa using hcs
    have ea : ∀ i, i < len → ∃ y : α × List Value, y.2.length = sz ∧ P y.1 y.2 ∧ ∀ j u, y.2[j]? = some u → w.cell? ((a.add (i * sz)).add j) = some u := by
      intro i hil
      obtain ⟨cs', hc, ht'⟩ := hi i (by omega)
      rw [hC] at hc
      obtain ⟨_, hcl, hat⟩ := World.cells?_some hc
      obtain ⟨y, hy⟩ := each _ cs' _ hcl ht'
      refine ⟨(y, cs'), hcl, hy, fun j u hj => ?_⟩
      have hj' : j < cs'.length := (List.getElem?_eq_some_iff.1 hj).1
      have := hat j (by omega)
      rw [Go.Deep.add_add] at this
      rw [Go.Deep.add_add, this]
      simpa using hj
    rcases Nat.eq_zero_or_pos len with e0 | e0
    · subst e0
      exact ⟨[], by rw [hv]; exact Rd.nil sz w (some a) cap, fun y hy => by cases hy⟩
    obtain ⟨f, hf⟩ : ∃ f : Nat → α × List Value, ∀ i, i < len → (f i).2.length = sz ∧ P (f i).1 (f i).2 ∧ ∀ j u, (f i).2[j]? = some u → w.cell? ((a.add (i * sz)).add j) = some u :=
      ⟨fun i => if h : i < len then (ea i h).choose else (ea 0 e0).choose, fun i h => by simp only [dif_pos h]; exact (ea i h).choose_spec⟩
    refine ⟨(List.range len).map f, ⟨?_, some a, cap, by rw [hv]; simp, by simp; omega, by simp; omega, fun hn => ?_⟩, fun y hy => ?_⟩
    · exact flat_snd_len _ fun y hy => by
        obtain ⟨i, hi', rfl⟩ := List.mem_map.1 hy
        exact (hf i (by simpa using hi')).1
    · have hl0 : 0 < len := by simpa using hn
      have a00 : ∃ u, w.cell? a = some u := by
        obtain ⟨h1, _, h3⟩ := hf 0 hl0
        have := h3 0 _ (List.getElem?_eq_getElem (by omega))
        exact ⟨_, by simpa [Addr.add] using this⟩
      obtain ⟨u0, hu0⟩ := a00
      have hspot := cell_spot hu0
      refine ⟨a.block, a.off, by rw [← hspot], ?_⟩
      have := rng_flat (w := w) (g := a.block) (o := a.off) (sz := sz) ((List.range len).map f) 0 (fun i x hx => ?_)
      · rwa [Nat.zero_mul, Nat.add_zero] at this
      · have hil : i < len := by have := (List.getElem?_eq_some_iff.1 hx).1; simpa using this
        rw [List.getElem?_map, List.getElem?_range hil] at hx
        cases hx
        refine ⟨(hf i hil).1, fun j u hj => ?_⟩
        have := (hf i hil).2.2 j u hj
        rw [hspot, add_lit, add_lit] at this
        rw [Nat.zero_add]; exact this
    · obtain ⟨i, hi', rfl⟩ := List.mem_map.1 hy
      exact ⟨(hf i (by simpa using hi')).1, (hf i (by simpa using hi')).2.1⟩
theorem flat_congr {α β : Type} {f g : α → List β} {l : List α} (h : ∀ y ∈ l, f y = g y) : l.flatMap f = l.flatMap g := by
  induction l with
  | nil => rfl
  | cons y r ih => rw [List.flatMap_cons, List.flatMap_cons, h y (by simp), ih fun z hz => h z (by simp [hz])]
/-- A place's cells. -/
theorem place_cells {n : Nat} {cs : List Value} {x : DataW H × List MemPlace} (hl : cs.length = 2) (ht : DataW.trod enc Tryz.prog w base spare held n 35 cs = some x) : ∃ q : T.Pl, cs = plc q ∧ Pi q := by
  obtain ⟨ys, n', _, hx, hlen, hyl, hf⟩ := DataW.trod_struct Tryz.underlying35 ht
  match cs, hl, ys, hyl with
  | [c0, c1], _, [y0, y1], _ =>
    have h0 := hf 0 _ rfl
    have h1 := hf 1 _ rfl
    have ek : Tryz.prog.cellsOf 33 = 1 := by kernel_rfl
    have ei : Tryz.prog.cellsOf 3 = 1 := by kernel_rfl
    change DataW.trod enc Tryz.prog w base spare held n' 33 (List.take (Tryz.prog.cellsOf 33) [c0, c1]) = some y0 at h0
    change DataW.trod enc Tryz.prog w base spare held n' 3 (List.take (Tryz.prog.cellsOf 3) [c1]) = some y1 at h1
    rw [ek] at h0
    rw [ei] at h1
    obtain ⟨z0, q0, _, w0⟩ := DataW.trod_int Tryz.underlying33 h0
    obtain ⟨z1, q1, _, w1⟩ := DataW.trod_int Tryz.underlying3 h1
    simp at q0 q1
    exact ⟨(z0, z1), by rw [q0, q1]; rfl, i64_of_wf w0, i64_of_wf w1⟩
theorem pls_trod {fuel : Nat} {x : DataW H × List MemPlace} (hf : DataW.trod enc Tryz.prog w base spare held fuel 88 [v] = some x) : ∃ l, PlsIn w v l := by
  obtain ⟨l, h1, h2⟩ := open_rows (sz := 2) Tryz.underlying88 (by kernel_rfl) (by omega) (fun q cs => cs = plc q ∧ Pi q) (fun n cs x hl ht => place_cells hl ht) hf
  refine ⟨l.map Prod.fst, ?_, fun q hq => ?_⟩
  · have e : (l.map Prod.fst).flatMap plc = l.flatMap Prod.snd := by
      rw [List.flatMap_map]
      exact flat_congr fun y hy => ((h2 y hy).2.1).symm
    rw [List.length_map, e]; exact h1
  · obtain ⟨y, hy, rfl⟩ := List.mem_map.1 hq
    exact (h2 y hy).2.2
theorem touch_cells {n : Nat} {cs : List Value} {x : DataW H × List MemPlace} (hl : cs.length = 3) (ht : DataW.trod enc Tryz.prog w base spare held n 90 cs = some x) : ∃ q : T.Tc, (∃ fv, cs = [.int .i64 q.1.1, .int .i64 q.1.2, fv] ∧ PlsIn w fv q.2) ∧ Pi q.1 := by
  obtain ⟨ys, n', _, hx, hlen, hyl, hf⟩ := DataW.trod_struct Tryz.underlying90 ht
  match cs, hl, ys, hyl with
  | [c0, c1, c2], _, [y0, y1], _ =>
    have h0 := hf 0 _ rfl
    have h1 := hf 1 _ rfl
    have ek : Tryz.prog.cellsOf 35 = 2 := by kernel_rfl
    have ei : Tryz.prog.cellsOf 88 = 1 := by kernel_rfl
    change DataW.trod enc Tryz.prog w base spare held n' 35 (List.take (Tryz.prog.cellsOf 35) [c0, c1, c2]) = some y0 at h0
    change DataW.trod enc Tryz.prog w base spare held n' 88 (List.take (Tryz.prog.cellsOf 88) [c2]) = some y1 at h1
    rw [ek] at h0
    rw [ei] at h1
    obtain ⟨q, hq, hpi⟩ := place_cells (cs := [c0, c1]) rfl h0
    obtain ⟨l, hp⟩ := pls_trod (show DataW.trod enc Tryz.prog w base spare held n' 88 [c2] = some y1 from h1)
    simp [plc] at hq
    exact ⟨(q, l), ⟨c2, by rw [hq.1, hq.2], hp⟩, hpi⟩
theorem tcc_of {w : World} : ∀ (l : List (T.Tc × List Value)), (∀ y ∈ l, ∃ fv, y.2 = [.int .i64 y.1.1.1, .int .i64 y.1.1.2, fv] ∧ PlsIn w fv y.1.2) → TcC w (l.map Prod.fst) (l.flatMap Prod.snd)
  | [], _ => rfl
  | y :: r, h => by
    obtain ⟨fv, h1, h2⟩ := h y (by simp)
    exact ⟨fv, r.flatMap Prod.snd, by rw [List.flatMap_cons, h1]; rfl, h2, tcc_of r fun z hz => h z (by simp [hz])⟩
theorem ts_trod {fuel : Nat} {x : DataW H × List MemPlace} (hf : DataW.trod enc Tryz.prog w base spare held fuel 36 [v] = some x) : ∃ l, TsIn w v l := by
  obtain ⟨l, h1, h2⟩ := open_rows (sz := 3) Tryz.underlying36 (by kernel_rfl) (by omega) (fun (q : T.Tc) cs => (∃ fv, cs = [.int .i64 q.1.1, .int .i64 q.1.2, fv] ∧ PlsIn w fv q.2) ∧ Pi q.1) (fun n cs x hl ht => touch_cells hl ht) hf
  refine ⟨l.map Prod.fst, l.flatMap Prod.snd, by rw [List.length_map]; exact h1, tcc_of l fun y hy => (h2 y hy).2.1, fun q hq => ?_⟩
  obtain ⟨y, hy, rfl⟩ := List.mem_map.1 hq
  exact (h2 y hy).2.2
theorem act_cells {n : Nat} {cs : List Value} {x : DataW H × List MemPlace} (hl : cs.length = 6) (ht : DataW.trod enc Tryz.prog w base spare held n 38 cs = some x) : ∃ q : Ac, (∃ tv, cs = (acc q tv).toList ∧ TsIn w tv q.ts) ∧ q.Ok := by
  obtain ⟨ys, n', _, hx, hlen, hyl, hf⟩ := DataW.trod_struct Tryz.underlying38 ht
  match cs, hl, ys, hyl with
  | [c0, c1, c2, c3, c4, c5], _, [y0, y1, y2, y3, y4], _ =>
    have h0 := hf 0 _ rfl
    have h1 := hf 1 _ rfl
    have h2 := hf 2 _ rfl
    have h3 := hf 3 _ rfl
    have h4 := hf 4 _ rfl
    have ei : Tryz.prog.cellsOf 3 = 1 := by kernel_rfl
    have ep : Tryz.prog.cellsOf 35 = 2 := by kernel_rfl
    have eu : Tryz.prog.cellsOf 31 = 1 := by kernel_rfl
    have et : Tryz.prog.cellsOf 36 = 1 := by kernel_rfl
    change DataW.trod enc Tryz.prog w base spare held n' 3 (List.take (Tryz.prog.cellsOf 3) [c0, c1, c2, c3, c4, c5]) = some y0 at h0
    change DataW.trod enc Tryz.prog w base spare held n' 3 (List.take (Tryz.prog.cellsOf 3) [c1, c2, c3, c4, c5]) = some y1 at h1
    change DataW.trod enc Tryz.prog w base spare held n' 35 (List.take (Tryz.prog.cellsOf 35) [c2, c3, c4, c5]) = some y2 at h2
    change DataW.trod enc Tryz.prog w base spare held n' 31 (List.take (Tryz.prog.cellsOf 31) [c4, c5]) = some y3 at h3
    change DataW.trod enc Tryz.prog w base spare held n' 36 (List.take (Tryz.prog.cellsOf 36) [c5]) = some y4 at h4
    rw [ei] at h0 h1
    rw [ep] at h2
    rw [eu] at h3
    rw [et] at h4
    obtain ⟨z0, q0, _, w0⟩ := DataW.trod_int Tryz.underlying3 h0
    obtain ⟨z1, q1, _, w1⟩ := DataW.trod_int Tryz.underlying3 h1
    obtain ⟨q, hq, hpi⟩ := place_cells (cs := [c2, c3]) rfl h2
    obtain ⟨z3, q3, _, w3⟩ := DataW.trod_int Tryz.underlying31 h3
    obtain ⟨l, hp⟩ := ts_trod (show DataW.trod enc Tryz.prog w base spare held n' 36 [c5] = some y4 from h4)
    simp at q0 q1 q3
    simp [plc] at hq
    exact ⟨⟨z0, z1, q, z3, l⟩, ⟨c5, by rw [q0, q1, hq.1, hq.2, q3]; rfl, hp⟩, ⟨i64_of_wf w0, i64_of_wf w1, hpi, w32_of_wf w3⟩⟩
theorem acc_of {w : World} : ∀ (l : List (Ac × List Value)), (∀ y ∈ l, ∃ tv, y.2 = (acc y.1 tv).toList ∧ TsIn w tv y.1.ts) → AcC w (l.map Prod.fst) (l.flatMap Prod.snd)
  | [], _ => rfl
  | y :: r, h => by
    obtain ⟨tv, h1, h2⟩ := h y (by simp)
    exact ⟨tv, r.flatMap Prod.snd, by rw [List.flatMap_cons, h1], h2, acc_of r fun z hz => h z (by simp [hz])⟩
theorem open_acts (h : DataW.Trod enc Tryz.prog w base spare held 22 v d p) (hv : Value.okWide Tryz.prog w r b0 22 v) : ∃ xs, ActsIn w v xs := by
  obtain ⟨fuel, hf⟩ := h
  rw [slice_cells Tryz.underlying22 hv] at hf
  obtain ⟨l, h1, h2⟩ := open_rows (sz := 6) Tryz.underlying22 (by kernel_rfl) (by omega) (fun (q : Ac) cs => (∃ tv, cs = (acc q tv).toList ∧ TsIn w tv q.ts) ∧ q.Ok) (fun n cs x hl ht => act_cells hl ht) hf
  refine ⟨l.map Prod.fst, l.flatMap Prod.snd, by rw [List.length_map]; exact h1, acc_of l fun y hy => (h2 y hy).2.1, fun q hq => ?_⟩
  obtain ⟨y, hy, rfl⟩ := List.mem_map.1 hq
  exact (h2 y hy).2.2
theorem open_places (h : DataW.Trod enc Tryz.prog w base spare held 88 v d p) (hv : Value.okWide Tryz.prog w r b0 88 v) : ∃ xs, PlsIn w v xs := by
  obtain ⟨fuel, hf⟩ := h
  rw [slice_cells Tryz.underlying88 hv] at hf
  exact pls_trod hf
theorem open_act (hv : Value.okWide Tryz.prog w r b0 38 v) (h : DataW.Trod enc Tryz.prog w base spare held 38 v d p) : ∃ (a : Ac) (tv : Value), a.Ok ∧ TsIn w tv a.ts ∧ v = .agg (acc a tv) := by
  obtain ⟨cs, rfl, hs⟩ := okWide_struct Tryz.underlying38 hv
  have hC : Tryz.prog.cellsOf 38 = 6 := by kernel_rfl
  rw [hC] at hs
  obtain ⟨fuel, hf⟩ := h
  obtain ⟨a, ⟨tv, h1, h2⟩, h3⟩ := act_cells (cs := cs.toList) (by simpa using hs) (show DataW.trod enc Tryz.prog w base spare held fuel 38 cs.toList = _ from hf)
  exact ⟨a, tv, h3, h2, by rw [← Array.toArray_toList (xs := cs), h1]⟩
theorem open_boolA (hv : Value.okWide Tryz.prog w r b0 4 v) : ∃ b, v = .bool b := okWide_bool Tryz.underlying4 hv
theorem open_form (hv : Value.okWide Tryz.prog w r b0 26 v) (h : DataW.Trod enc Tryz.prog w base spare held 26 v d p) : ∃ fr se : Int, I64 fr ∧ I64 se ∧ v = .agg #[.int .i64 fr, .int .i64 se] := by
  obtain ⟨cs, rfl, hs⟩ := okWide_struct Tryz.underlying26 hv
  have hC : Tryz.prog.cellsOf 26 = 2 := by kernel_rfl
  rw [hC] at hs
  obtain ⟨l⟩ := cs
  match l, hs with
  | [c0, c1], _ =>
    obtain ⟨fuel, hf⟩ := h
    obtain ⟨ys, n', _, hx, hlen, hyl, hf⟩ := DataW.trod_struct Tryz.underlying26 (show DataW.trod enc Tryz.prog w base spare held fuel 26 [c0, c1] = _ from hf)
    match ys, hyl with
    | [y0, y1], _ =>
      have h0 := hf 0 _ rfl
      have h1 := hf 1 _ rfl
      have ei : Tryz.prog.cellsOf 3 = 1 := by kernel_rfl
      change DataW.trod enc Tryz.prog w base spare held n' 3 (List.take (Tryz.prog.cellsOf 3) [c0, c1]) = some y0 at h0
      change DataW.trod enc Tryz.prog w base spare held n' 3 (List.take (Tryz.prog.cellsOf 3) [c1]) = some y1 at h1
      rw [ei] at h0 h1
      obtain ⟨z0, q0, _, w0⟩ := DataW.trod_int Tryz.underlying3 h0
      obtain ⟨z1, q1, _, w1⟩ := DataW.trod_int Tryz.underlying3 h1
      simp at q0 q1
      exact ⟨z0, z1, i64_of_wf w0, i64_of_wf w1, by rw [q0, q1]⟩
/-- Three numbers. -/
abbrev Tr3 := Int × Int × Int
def tri (x : Tr3) : List Value := [.int .i64 x.1, .int .i64 x.2.1, .int .i64 x.2.2]
def TriIn (w : World) (v : Value) (l : List Tr3) : Prop := Rd 3 w v l.length (l.flatMap tri) ∧ ∀ x ∈ l, I64 x.1 ∧ I64 x.2.1 ∧ I64 x.2.2
end
end Go.Proofs.YtdpdoclhdjhjkaaGreat
