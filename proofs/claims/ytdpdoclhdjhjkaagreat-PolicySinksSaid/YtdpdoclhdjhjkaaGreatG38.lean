/-
  Layer 13: arguments opened: rules, marks, calls, pairs of sets.
-/
import Derived.Test.YtdpdoclhdjhjkaaGreatG28
import Derived.Test.YtdpdoclhdjhjkaaGreatG37
import Derived.Test.YtdpdoclhdjhjkaaGreatG29
set_option linter.unusedVariables false
set_option linter.unusedSimpArgs false
namespace Go.Proofs.YtdpdoclhdjhjkaaGreat
open Go.ChangeShapes Go.WideShapes Go.ChangeAt Go.RowKit Go.Joins Go.Deep
set_option maxRecDepth 100000
set_option linter.unusedVariables false
section
variable {H : Type} {enc : TypeId × Value → H} {w : World} {base b0 : Nat} {spare : Nat → Bool} {held : Bool} {r : Reach} {v : Value} {d : DataW H} {p : List MemPlace}
/-- An array of sets. -/
theorem arr_cells {ty : TypeId} {N n : Nat} (ht : Tryz.prog.underlying ty = some (.array N 31)) {cs : List Value} {x : DataW H × List MemPlace} (hl : cs.length = N) (h : DataW.trod enc Tryz.prog w base spare held n ty cs = some x) : ∃ f : Nat → Int, (∀ i, i < N → W32 (f i)) ∧ ∀ i, i < N → cs[i]? = some (.int .u32 (f i)) := by
  obtain ⟨xs, m, rfl, hx, hlen, hn, hel⟩ := DataW.trod_array ht h
  have h1 : Tryz.prog.cellsOf 31 = 1 := by kernel_rfl
  have each : ∀ i, i < N → ∃ z, W32 z ∧ cs[i]? = some (.int .u32 z) := by
    intro i hi
    have h2 := hel i hi
    rw [h1, Nat.mul_one] at h2
    obtain ⟨y, hy⟩ : ∃ y, xs[i]? = some y := ⟨_, List.getElem?_eq_getElem (by omega)⟩
    rw [hy] at h2
    obtain ⟨z, q, _, f⟩ := DataW.trod_int Tryz.underlying31 h2
    refine ⟨z, w32_of_wf f, ?_⟩
    have : ((cs.drop i).take 1)[0]? = cs[i]? := by rw [List.getElem?_take, if_pos (by omega), List.getElem?_drop]; simp
    rw [← this, q]; rfl
  refine ⟨fun i => if h : i < N then (each i h).choose else 0, fun i hi => ?_, fun i hi => ?_⟩
  · simp only [dif_pos hi]; exact (each i hi).choose_spec.1
  · simp only [dif_pos hi]; exact (each i hi).choose_spec.2
theorem ok_arr {P : Program} {ty e : TypeId} {N : Nat} {w : World} {r : Reach} {b0 : Nat} {v : Value} (ht : P.underlying ty = some (.array N e)) (h : Value.okWide P w r b0 ty v) : ∃ cs, v = .agg cs ∧ cs.size = P.cellsOf ty := by
  simp only [Value.okWide, ht] at h
  obtain ⟨cs, h1, h2, _⟩ := h
  exact ⟨cs, h1, h2⟩
theorem arr_agg {ty : TypeId} {N : Nat} (ht : Tryz.prog.underlying ty = some (.array N 31)) (hC : Tryz.prog.cellsOf ty = N) (hv : Value.okWide Tryz.prog w r b0 ty v) (h : DataW.Trod enc Tryz.prog w base spare held ty v d p) : ∃ f : Nat → Int, (∀ i, i < N → W32 (f i)) ∧ v = .agg ((List.range N).map fun i => Value.int .u32 (f i)).toArray := by
  obtain ⟨cs, rfl, hs⟩ := ok_arr ht hv
  rw [hC] at hs
  obtain ⟨fuel, hf⟩ := h
  obtain ⟨f, h1, h2⟩ := arr_cells ht (cs := cs.toList) (by simpa using hs) (show DataW.trod enc Tryz.prog w base spare held fuel ty cs.toList = _ from hf)
  refine ⟨f, h1, congrArg Value.agg ?_⟩
  apply Array.ext
  · simp [hs]
  · intro i hi1 hi2
    have hi : i < N := by omega
    have := h2 i hi
    rw [Array.getElem?_toList, Array.getElem?_eq_getElem hi1] at this
    simp only [Option.some.injEq] at this
    rw [this]
    simp
/-- Rules. -/
theorem open_rules (hv : Value.okWide Tryz.prog w r b0 67 v) (h : DataW.Trod enc Tryz.prog w base spare held 67 v d p) : ∃ q : Ru, RuW q ∧ v = .agg (ruC q) := by
  obtain ⟨cs, rfl, hs⟩ := okWide_struct Tryz.underlying67 hv
  have hC : Tryz.prog.cellsOf 67 = 11 := by kernel_rfl
  rw [hC] at hs
  obtain ⟨l⟩ := cs
  match l, hs with
  | [c0, c1, c2, c3, c4, c5, c6, c7, c8, c9, c10], _ =>
    obtain ⟨fuel, hf⟩ := h
    obtain ⟨ys, n', _, hx, hlen, hyl, hf⟩ := DataW.trod_struct Tryz.underlying67 (show DataW.trod enc Tryz.prog w base spare held fuel 67 [c0, c1, c2, c3, c4, c5, c6, c7, c8, c9, c10] = _ from hf)
    match ys, hyl with
    | [y0, y1, y2], _ =>
      have h0 := hf 0 _ rfl
      have h1 := hf 1 _ rfl
      have h2 := hf 2 _ rfl
      have e5 : Tryz.prog.cellsOf 65 = 5 := by kernel_rfl
      have eu : Tryz.prog.cellsOf 31 = 1 := by kernel_rfl
      change DataW.trod enc Tryz.prog w base spare held n' 65 (List.take (Tryz.prog.cellsOf 65) [c0, c1, c2, c3, c4, c5, c6, c7, c8, c9, c10]) = some y0 at h0
      change DataW.trod enc Tryz.prog w base spare held n' 65 (List.take (Tryz.prog.cellsOf 65) [c5, c6, c7, c8, c9, c10]) = some y1 at h1
      change DataW.trod enc Tryz.prog w base spare held n' 31 (List.take (Tryz.prog.cellsOf 31) [c10]) = some y2 at h2
      rw [e5] at h0 h1
      rw [eu] at h2
      obtain ⟨f, f1, f2⟩ := arr_cells Tryz.underlying65 (cs := [c0, c1, c2, c3, c4]) rfl h0
      obtain ⟨g, g1, g2⟩ := arr_cells Tryz.underlying65 (cs := [c5, c6, c7, c8, c9]) rfl h1
      obtain ⟨z, q, _, hz⟩ := DataW.trod_int Tryz.underlying31 h2
      have a0 := f2 0 (by omega); have a1 := f2 1 (by omega); have a2 := f2 2 (by omega); have a3 := f2 3 (by omega); have a4 := f2 4 (by omega)
      have b0 := g2 0 (by omega); have b1 := g2 1 (by omega); have b2 := g2 2 (by omega); have b3 := g2 3 (by omega); have b4 := g2 4 (by omega)
      simp at a0 a1 a2 a3 a4 b0 b1 b2 b3 b4 q
      refine ⟨fun i => if i < 5 then f i else if i < 10 then g (i - 5) else z, fun i hi => ?_, ?_⟩
      · show W32 (if i < 5 then f i else if i < 10 then g (i - 5) else z)
        split
        · exact f1 i (by omega)
        · split
          · exact g1 (i - 5) (by omega)
          · exact w32_of_wf hz
      · rw [a0, a1, a2, a3, a4, b0, b1, b2, b3, b4, q]; rfl
theorem mks_cells {ty : TypeId} {n : Nat} {cs : List Value} {x : DataW H × List MemPlace} (hty : ty = 92) (hl : cs.length = 3) (ht : DataW.trod enc Tryz.prog w base spare held n 92 cs = some x) : ∃ q : T.Pr, cs = prc q ∧ Pi q.1 ∧ W32 q.2 := by
  obtain ⟨ys, n', _, hx, hlen, hyl, hf⟩ := DataW.trod_struct Tryz.underlying92 ht
  match cs, hl, ys, hyl with
  | [c0, c1, c2], _, [y0, y1], _ =>
    have h0 := hf 0 _ rfl
    have h1 := hf 1 _ rfl
    have ek : Tryz.prog.cellsOf 35 = 2 := by kernel_rfl
    have ei : Tryz.prog.cellsOf 31 = 1 := by kernel_rfl
    change DataW.trod enc Tryz.prog w base spare held n' 35 (List.take (Tryz.prog.cellsOf 35) [c0, c1, c2]) = some y0 at h0
    change DataW.trod enc Tryz.prog w base spare held n' 31 (List.take (Tryz.prog.cellsOf 31) [c2]) = some y1 at h1
    rw [ek] at h0
    rw [ei] at h1
    obtain ⟨q, hq, hpi⟩ := place_cells (cs := [c0, c1]) rfl h0
    obtain ⟨z, e, _, hz⟩ := DataW.trod_int Tryz.underlying31 h1
    simp [plc] at hq e
    exact ⟨(q, z), by rw [hq.1, hq.2, e]; rfl, hpi, w32_of_wf hz⟩
theorem open_mks (h : DataW.Trod enc Tryz.prog w base spare held 68 v d p) (hv : Value.okWide Tryz.prog w r b0 68 v) : ∃ xs, MksIn w v xs := by
  obtain ⟨fuel, hf⟩ := h
  rw [slice_cells Tryz.underlying68 hv] at hf
  obtain ⟨l, h1, h2⟩ := open_rows (sz := 3) Tryz.underlying68 (by kernel_rfl) (by omega) (fun (q : T.Pr) cs => cs = prc q ∧ Pi q.1 ∧ W32 q.2) (fun n cs x hl ht => mks_cells rfl hl ht) hf
  refine ⟨l.map Prod.fst, ?_, fun q hq => ?_⟩
  · have e : (l.map Prod.fst).flatMap prc = l.flatMap Prod.snd := by
      rw [List.flatMap_map]
      exact flat_congr fun y hy => ((h2 y hy).2.1).symm
    show Rd 3 w v (l.map Prod.fst).length ((l.map Prod.fst).flatMap prc)
    rw [List.length_map, e]; exact h1
  · obtain ⟨y, hy, rfl⟩ := List.mem_map.1 hq
    exact (h2 y hy).2.2
theorem open_touches (h : DataW.Trod enc Tryz.prog w base spare held 36 v d p) (hv : Value.okWide Tryz.prog w r b0 36 v) : ∃ xs, TsIn w v xs := by
  obtain ⟨fuel, hf⟩ := h
  rw [slice_cells Tryz.underlying36 hv] at hf
  exact ts_trod hf
theorem open_four (hv : Value.okWide Tryz.prog w r b0 87 v) (h : DataW.Trod enc Tryz.prog w base spare held 87 v d p) : ∃ f : Nat → Int, (∀ i, i < 4 → W32 (f i)) ∧ v = .agg #[.int .u32 (f 0), .int .u32 (f 1), .int .u32 (f 2), .int .u32 (f 3)] := by
  obtain ⟨f, h1, h2⟩ := arr_agg (N := 4) Tryz.underlying87 (by kernel_rfl) hv h
  exact ⟨f, h1, h2⟩
end
end Go.Proofs.YtdpdoclhdjhjkaaGreat
