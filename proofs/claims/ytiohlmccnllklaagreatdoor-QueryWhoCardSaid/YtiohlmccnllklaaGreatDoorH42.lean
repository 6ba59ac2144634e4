/-
  Layer 14: arguments: adds, numbers of one kind. No walk. Layer 14: arguments opened: adds, lists of places, of numbers.
-/
import Derived.Test.YtiohlmccnllklaaGreatDoorH06
import Derived.Test.YtiohlmccnllklaaGreatDoorH29
import Derived.Test.YtiohlmccnllklaaGreatDoorRows
import Derived.WalkKit
import Derived.ProofKit
import Derived.OpenShut
import Derived.Lib.SmallJoins
import Derived.Deep.Slices
import Derived.Deep.Fields
import Derived.ChangeSame
import Derived.ChangeSlices
import Derived.ChangeArms
import Derived.WideShapes
import Derived.SizedLaws
set_option linter.unusedVariables false
set_option linter.unusedSimpArgs false
namespace Go.Proofs.YtiohlmccnllklaaGreatDoor.Q
open Go.RowKit
set_option maxRecDepth 100000
set_option linter.unusedVariables false

/-- The cells of adds. -/
def AdC (w : World) : List T.Ad → List Value → Prop
  | [], cs => cs = []
  | a :: r, cs => ∃ v cs', cs = .int .i64 a.1 :: v :: cs' ∧ TsIn w v a.2 ∧ AdC w r cs'
def AdsIn (w : World) (v : Value) (l : List T.Ad) : Prop := ∃ cs, Rd 2 w v l.length cs ∧ AdC w l cs ∧ ∀ a ∈ l, I64 a.1
section
variable {w w' : World} {v : Value} {l : List T.Ad}
theorem AdC.below (hb : Below w.heap.size w w') : ∀ (l : List T.Ad) (cs : List Value), AdC w l cs → AdC w' l cs
  | [], _, h => h
  | _ :: r, _, ⟨v, cs', e, hp, hr⟩ => ⟨v, cs', e, hp.below hb, AdC.below hb r cs' hr⟩
theorem AdC.at_ : ∀ (l : List T.Ad) (cs : List Value) (k : Nat) (a : T.Ad), AdC w l cs → l[k]? = some a → ∃ v, (cs.drop (k * 2)).take 2 = [.int .i64 a.1, v] ∧ TsIn w v a.2
  | [], _, k, t, _, h => by simp at h
  | y :: r, _, 0, t, ⟨v, cs', e, hp, hr⟩, h => by
    simp at h; subst h
    exact ⟨v, by rw [e]; rfl, hp⟩
  | y :: r, _, k + 1, t, ⟨v, cs', e, hp, hr⟩, h => by
    rw [List.getElem?_cons_succ] at h
    obtain ⟨v', h1, h2⟩ := AdC.at_ r cs' k t hr h
    refine ⟨v', ?_, h2⟩
    rw [e, show (k + 1) * 2 = k * 2 + 2 by omega]
    exact h1
theorem AdC.cut : ∀ (l : List T.Ad) (cs : List Value) (k : Nat), AdC w l cs → AdC w (l.take k) (cs.take (k * 2))
  | _, _, 0, _ => by rw [List.take_zero, Nat.zero_mul, List.take_zero]; exact rfl
  | [], cs, k + 1, h => by
    have : cs = [] := h
    rw [this]; simp [AdC]
  | y :: r, cs, k + 1, ⟨v, cs', e, hp, hr⟩ => by
    rw [List.take_succ_cons, e, show (k + 1) * 2 = k * 2 + 1 + 1 by omega, List.take_succ_cons, List.take_succ_cons]
    exact ⟨v, _, rfl, hp, AdC.cut r cs' k hr⟩
theorem AdsIn.below (h : AdsIn w v l) (hb : Below w.heap.size w w') : AdsIn w' v l := by
  obtain ⟨cs, h1, h2, h3⟩ := h
  exact ⟨cs, h1.below hb, AdC.below hb _ _ h2, h3⟩
theorem AdsIn.shape (h : AdsIn w v l) : ∃ ao c, v = .slice ao l.length c ∧ l.length ≤ c ∧ l.length ≤ maxLen := by
  obtain ⟨cs, h1, _⟩ := h
  exact h1.shape
theorem AdsIn.at_ (h : AdsIn w v l) {k : Nat} (hk : k < l.length) : ∃ g o c a tv, v = .slice (some ⟨g, o, none⟩) l.length c ∧ l[k]? = some a ∧ I64 a.1 ∧ TsIn w tv a.2 ∧ w.rangeAt g (o + k * 2) [.int .i64 a.1, tv] := by
  obtain ⟨cs, h1, h2, h3⟩ := h
  obtain ⟨g, o, c, e, _, hr⟩ := h1.elem hk
  have ht : l[k]? = some l[k] := List.getElem?_eq_getElem hk
  obtain ⟨tv, h4, h5⟩ := AdC.at_ l cs k _ h2 ht
  rw [h4] at hr
  exact ⟨g, o, c, _, tv, e, ht, h3 _ (List.getElem_mem hk), h5, hr⟩
theorem AdsIn.cut {g o c : Nat} (h : AdsIn w (.slice (some ⟨g, o, none⟩) l.length c) l) {k : Nat} (hk : k ≤ l.length) : AdsIn w (.slice (some ⟨g, o, none⟩) k c) (l.take k) := by
  obtain ⟨cs, ⟨h1, ao, c', e, h2, h3, h4⟩, h5, h6⟩ := h
  have hl : (l.take k).length = k := by rw [List.length_take]; omega
  simp at e
  obtain ⟨rfl, rfl⟩ := e
  refine ⟨cs.take (k * 2), ⟨?_, _, c, by rw [hl], by omega, by omega, fun hn => ?_⟩, AdC.cut _ _ _ h5, fun a ha => h6 a (List.mem_of_mem_take ha)⟩
  · rw [List.length_take, hl, h1]; omega
  · obtain ⟨g', o', e', hr⟩ := h4 (by omega)
    refine ⟨g', o', e', fun j u hj => hr j u ?_⟩
    rw [List.getElem?_take] at hj
    split at hj
    · exact hj
    · cases hj
end
/-- Numbers of a kind. -/
def NIn (k : IntKind) (w : World) (v : Value) (l : List Int) : Prop := Rd 1 w v l.length (l.map fun x => Value.int k x)
section
variable {k : IntKind} {w w' : World} {v : Value} {l : List Int}
theorem NIn.below (h : NIn k w v l) (hb : Below w.heap.size w w') : NIn k w' v l := Rd.below h hb
theorem NIn.shape (h : NIn k w v l) : ∃ ao c, v = .slice ao l.length c ∧ l.length ≤ c ∧ l.length ≤ maxLen := Rd.shape h
theorem NIn.at_ (h : NIn k w v l) {i : Nat} (hi : i < l.length) : ∃ g o c x, v = .slice (some ⟨g, o, none⟩) l.length c ∧ l[i]? = some x ∧ w.cell? ⟨g, o + i, none⟩ = some (.int k x) := by
  obtain ⟨g, o, c, e, _, hr⟩ := Rd.elem h hi
  have hx : l[i]? = some l[i] := List.getElem?_eq_getElem hi
  refine ⟨g, o, c, _, e, hx, ?_⟩
  have := hr 0 (.int k l[i]) (by rw [List.getElem?_take, if_pos (by omega), List.getElem?_drop, Nat.mul_one, Nat.add_zero, List.getElem?_map, hx]; rfl)
  rwa [Nat.mul_one, Nat.add_zero] at this
end
end Go.Proofs.YtiohlmccnllklaaGreatDoor.Q
namespace Go.Proofs.YtiohlmccnllklaaGreatDoor.Q
open Go.ChangeShapes Go.WideShapes Go.ChangeAt Go.RowKit Go.Joins Go.Deep
set_option maxRecDepth 100000
set_option linter.unusedVariables false

theorem slice_cells {P : Program} {t e : TypeId} {w : World} {r : Reach} {base : Nat} {v : Value} (ht : P.underlying t = some (.slice e)) (hv : Value.okWide P w r base t v) : v.cells.toList = [v] := by
  obtain ⟨a, len, cap, rfl⟩ := okWide_slice ht hv
  rfl
theorem rng_flat {α : Type} {w : World} {g o sz : Nat} : ∀ (l : List (α × List Value)) (i0 : Nat), (∀ (i : Nat) x, l[i]? = some x → x.2.length = sz ∧ w.rangeAt g (o + (i0 + i) * sz) x.2) → w.rangeAt g (o + i0 * sz) (l.flatMap Prod.snd)
  | [], _, _ => fun j u hj => by simp at hj
  | y :: r, i0, h => fun j u hj => by
    obtain ⟨h1, h2⟩ := h 0 y rfl
    rw [List.flatMap_cons] at hj
    by_cases hlt : j < y.2.length
    · rw [List.getElem?_append_left hlt] at hj
      exact h2 j u hj
    · rw [List.getElem?_append_right (by omega)] at hj
      have := rng_flat r (i0 + 1) (fun i x hx => by
        have := h (i + 1) x hx
        rw [show i0 + (i + 1) = i0 + 1 + i by omega] at this
        exact this) (j - y.2.length) u hj
      rw [show o + (i0 + 1) * sz + (j - y.2.length) = o + i0 * sz + j by rw [h1, Nat.add_mul]; omega] at this
      exact this
theorem flat_snd_len {α : Type} {sz : Nat} : ∀ (l : List (α × List Value)), (∀ x ∈ l, x.2.length = sz) → (l.flatMap Prod.snd).length = l.length * sz
  | [], _ => by simp
  | y :: r, h => by rw [List.flatMap_cons, List.length_append, flat_snd_len r (fun x hx => h x (by simp [hx])), h y (by simp), List.length_cons, Nat.add_mul]; omega
theorem cell_spot {w : World} {a : Addr} {u : Value} (h : w.cell? a = some u) : a = ⟨a.block, a.off, none⟩ := by
  obtain ⟨b, o, s⟩ := a
  unfold World.cell? at h
  cases s with
  | none => rfl
  | some x => simp only at h; split at h <;> simp at h
section
variable {H : Type} {enc : TypeId × Value → H} {w : World} {base b0 : Nat} {spare : Nat → Bool} {held : Bool} {r : Reach} {v : Value} {d : DataW H} {p : List MemPlace}
/-- A list of rows of sz cells each. -/
theorem open_rows {t e : TypeId} {sz : Nat} (ht : Tryz.prog.underlying t = some (.slice e)) (hC : Tryz.prog.cellsOf e = sz) (hs : 0 < sz) {α : Type} (P : α → List Value → Prop)
    (each : ∀ (n : Nat) (cs : List Value) (x : DataW H × List MemPlace), cs.length = sz → DataW.trod enc Tryz.prog w base spare held n e cs = some x → ∃ a, P a cs) {fuel : Nat} {x : DataW H × List MemPlace} (hf : DataW.trod enc Tryz.prog w base spare held fuel t [v] = some x) :
    ∃ l : List (α × List Value), Rd sz w v l.length (l.flatMap Prod.snd) ∧ ∀ y ∈ l, y.2.length = sz ∧ P y.1 y.2 := by
  rcases open_slice ht hf with ⟨h0, _⟩ | ⟨a, len, cap, m, n, D, Pl, hcs, hb, hl, hm, hmm, hx, hi⟩
  · refine ⟨[], ?_, fun y hy => by cases hy⟩
    have : v = .slice none 0 0 := by simpa using h0
    rw [this]; exact Rd.nil sz w none 0
  · have hle : len ≤ m := by rw [hmm]; split <;> omega
    have hv : v = .slice (some a) len cap := by simpa using hcs
    have ea : ∀ i, i < len → ∃ y : α × List Value, y.2.length = sz ∧ P y.1 y.2 ∧ ∀ j u, y.2[j]? = some u → w.cell? ((a.add (i * sz)).add j) = some u := by
      intro i hil
      obtain ⟨cs', hc, ht'⟩ := hi i (by omega)
      rw [hC] at hc
      obtain ⟨_, hcl, hat⟩ := World.cells?_some hc
      obtain ⟨y, hy⟩ := each _ cs' _ hcl ht'
      refine ⟨(y, cs'), hcl, hy, fun j u hj => ?_⟩
      have hj' : j < cs'.length := (List.getElem?_eq_some_iff.1 hj).1
      have := hat j (by omega)
      rw [Go.Deep.add_add] at this
      rw [Go.Deep.add_add, this]
      simpa using hj
    rcases Nat.eq_zero_or_pos len with e0 | e0
    · subst e0
      exact ⟨[], by rw [hv]; exact Rd.nil sz w (some a) cap, fun y hy => by cases hy⟩
    obtain ⟨f, hf⟩ : ∃ f : Nat → α × List Value, ∀ i, i < len → (f i).2.length = sz ∧ P (f i).1 (f i).2 ∧ ∀ j u, (f i).2[j]? = some u → w.cell? ((a.add (i * sz)).add j) = some u :=
      ⟨fun i => if h : i < len then (ea i h).choose else (ea 0 e0).choose, fun i h => by simp only [dif_pos h]; exact (ea i h).choose_spec⟩
    refine ⟨(List.range len).map f, ⟨?_, some a, cap, by rw [hv]; simp, by simp; omega, by simp; omega, fun hn => ?_⟩, fun y hy => ?_⟩
    · exact flat_snd_len _ fun y hy => by
        obtain ⟨i, hi', rfl⟩ := List.mem_map.1 hy
        exact (hf i (by simpa using hi')).1
    · have hl0 : 0 < len := by simpa using hn
      have a00 : ∃ u, w.cell? a = some u := by
        obtain ⟨h1, _, h3⟩ := hf 0 hl0
        have := h3 0 _ (List.getElem?_eq_getElem (by omega))
        exact ⟨_, by simpa [Addr.add] using this⟩
      obtain ⟨u0, hu0⟩ := a00
      have hspot := cell_spot hu0
      refine ⟨a.block, a.off, by rw [← hspot], ?_⟩
      have := rng_flat (w := w) (g := a.block) (o := a.off) (sz := sz) ((List.range len).map f) 0 (fun i x hx => ?_)
      · rwa [Nat.zero_mul, Nat.add_zero] at this
      · have hil : i < len := by have := (List.getElem?_eq_some_iff.1 hx).1; simpa using this
        rw [List.getElem?_map, List.getElem?_range hil] at hx
        cases hx
        refine ⟨(hf i hil).1, fun j u hj => ?_⟩
        have := (hf i hil).2.2 j u hj
        rw [hspot, add_lit, add_lit] at this
        rw [Nat.zero_add]; exact this
    · obtain ⟨i, hi', rfl⟩ := List.mem_map.1 hy
      exact ⟨(hf i (by simpa using hi')).1, (hf i (by simpa using hi')).2.1⟩
theorem flat_congr {α β : Type} {f g : α → List β} {l : List α} (h : ∀ y ∈ l, f y = g y) : l.flatMap f = l.flatMap g := by
  induction l with
  | nil => rfl
  | cons y r ih => rw [List.flatMap_cons, List.flatMap_cons, h y (by simp), ih fun z hz => h z (by simp [hz])]
/-- A place's cells. -/
theorem place_cells {n : Nat} {cs : List Value} {x : DataW H × List MemPlace} (hl : cs.length = 2) (ht : DataW.trod enc Tryz.prog w base spare held n 42 cs = some x) : ∃ q : T.Pl, cs = plc q ∧ Pi q := by
  obtain ⟨ys, n', _, hx, hlen, hyl, hf⟩ := DataW.trod_struct Tryz.underlying42 ht
  match cs, hl, ys, hyl with
  | [c0, c1], _, [y0, y1], _ =>
    have h0 := hf 0 _ rfl
    have h1 := hf 1 _ rfl
    have ek : Tryz.prog.cellsOf 40 = 1 := by kernel_rfl
    have ei : Tryz.prog.cellsOf 3 = 1 := by kernel_rfl
    change DataW.trod enc Tryz.prog w base spare held n' 40 (List.take (Tryz.prog.cellsOf 40) [c0, c1]) = some y0 at h0
    change DataW.trod enc Tryz.prog w base spare held n' 3 (List.take (Tryz.prog.cellsOf 3) [c1]) = some y1 at h1
    rw [ek] at h0
    rw [ei] at h1
    obtain ⟨z0, q0, _, w0⟩ := DataW.trod_int Tryz.underlying40 h0
    obtain ⟨z1, q1, _, w1⟩ := DataW.trod_int Tryz.underlying3 h1
    simp at q0 q1
    exact ⟨(z0, z1), by rw [q0, q1]; rfl, i64_of_wf w0, i64_of_wf w1⟩
theorem pls_trod {fuel : Nat} {x : DataW H × List MemPlace} (hf : DataW.trod enc Tryz.prog w base spare held fuel 24 [v] = some x) : ∃ l, PlsIn w v l := by
  obtain ⟨l, h1, h2⟩ := open_rows (sz := 2) Tryz.underlying24 (by kernel_rfl) (by omega) (fun q cs => cs = plc q ∧ Pi q) (fun n cs x hl ht => place_cells hl ht) hf
  refine ⟨l.map Prod.fst, ?_, fun q hq => ?_⟩
  · have e : (l.map Prod.fst).flatMap plc = l.flatMap Prod.snd := by
      rw [List.flatMap_map]
      exact flat_congr fun y hy => ((h2 y hy).2.1).symm
    rw [List.length_map, e]; exact h1
  · obtain ⟨y, hy, rfl⟩ := List.mem_map.1 hq
    exact (h2 y hy).2.2
theorem touch_cells {n : Nat} {cs : List Value} {x : DataW H × List MemPlace} (hl : cs.length = 3) (ht : DataW.trod enc Tryz.prog w base spare held n 61 cs = some x) : ∃ q : T.Tc, (∃ fv, cs = [.int .i64 q.1.1, .int .i64 q.1.2, fv] ∧ PlsIn w fv q.2) ∧ Pi q.1 := by
  obtain ⟨ys, n', _, hx, hlen, hyl, hf⟩ := DataW.trod_struct Tryz.underlying61 ht
  match cs, hl, ys, hyl with
  | [c0, c1, c2], _, [y0, y1], _ =>
    have h0 := hf 0 _ rfl
    have h1 := hf 1 _ rfl
    have ek : Tryz.prog.cellsOf 42 = 2 := by kernel_rfl
    have ei : Tryz.prog.cellsOf 24 = 1 := by kernel_rfl
    change DataW.trod enc Tryz.prog w base spare held n' 42 (List.take (Tryz.prog.cellsOf 42) [c0, c1, c2]) = some y0 at h0
    change DataW.trod enc Tryz.prog w base spare held n' 24 (List.take (Tryz.prog.cellsOf 24) [c2]) = some y1 at h1
    rw [ek] at h0
    rw [ei] at h1
    obtain ⟨q, hq, hpi⟩ := place_cells (cs := [c0, c1]) rfl h0
    obtain ⟨l, hp⟩ := pls_trod (show DataW.trod enc Tryz.prog w base spare held n' 24 [c2] = some y1 from h1)
    simp [plc] at hq
    exact ⟨(q, l), ⟨c2, by rw [hq.1, hq.2], hp⟩, hpi⟩
theorem tcc_of {w : World} : ∀ (l : List (T.Tc × List Value)), (∀ y ∈ l, ∃ fv, y.2 = [.int .i64 y.1.1.1, .int .i64 y.1.1.2, fv] ∧ PlsIn w fv y.1.2) → TcC w (l.map Prod.fst) (l.flatMap Prod.snd)
  | [], _ => rfl
  | y :: r, h => by
    obtain ⟨fv, h1, h2⟩ := h y (by simp)
    exact ⟨fv, r.flatMap Prod.snd, by rw [List.flatMap_cons, h1]; rfl, h2, tcc_of r fun z hz => h z (by simp [hz])⟩
theorem ts_trod {fuel : Nat} {x : DataW H × List MemPlace} (hf : DataW.trod enc Tryz.prog w base spare held fuel 111 [v] = some x) : ∃ l, TsIn w v l := by
  obtain ⟨l, h1, h2⟩ := open_rows (sz := 3) Tryz.underlying111 (by kernel_rfl) (by omega) (fun (q : T.Tc) cs => (∃ fv, cs = [.int .i64 q.1.1, .int .i64 q.1.2, fv] ∧ PlsIn w fv q.2) ∧ Pi q.1) (fun n cs x hl ht => touch_cells hl ht) hf
  refine ⟨l.map Prod.fst, l.flatMap Prod.snd, by rw [List.length_map]; exact h1, tcc_of l fun y hy => (h2 y hy).2.1, fun q hq => ?_⟩
  obtain ⟨y, hy, rfl⟩ := List.mem_map.1 hq
  exact (h2 y hy).2.2
theorem open_places (h : DataW.Trod enc Tryz.prog w base spare held 24 v d p) (hv : Value.okWide Tryz.prog w r b0 24 v) : ∃ xs, PlsIn w v xs := by
  obtain ⟨fuel, hf⟩ := h
  rw [slice_cells Tryz.underlying24 hv] at hf
  exact pls_trod hf
theorem ad_cells {n : Nat} {cs : List Value} {x : DataW H × List MemPlace} (hl : cs.length = 2) (ht : DataW.trod enc Tryz.prog w base spare held n 113 cs = some x) : ∃ q : T.Ad, (∃ tv, cs = [.int .i64 q.1, tv] ∧ TsIn w tv q.2) ∧ I64 q.1 := by
  obtain ⟨ys, n', _, hx, hlen, hyl, hf⟩ := DataW.trod_struct Tryz.underlying113 ht
  match cs, hl, ys, hyl with
  | [c0, c1], _, [y0, y1], _ =>
    have h0 := hf 0 _ rfl
    have h1 := hf 1 _ rfl
    have ek : Tryz.prog.cellsOf 2 = 1 := by kernel_rfl
    have ei : Tryz.prog.cellsOf 111 = 1 := by kernel_rfl
    change DataW.trod enc Tryz.prog w base spare held n' 2 (List.take (Tryz.prog.cellsOf 2) [c0, c1]) = some y0 at h0
    change DataW.trod enc Tryz.prog w base spare held n' 111 (List.take (Tryz.prog.cellsOf 111) [c1]) = some y1 at h1
    rw [ek] at h0
    rw [ei] at h1
    obtain ⟨z0, q0, _, w0⟩ := DataW.trod_int Tryz.underlying2 h0
    obtain ⟨l, hp⟩ := ts_trod (show DataW.trod enc Tryz.prog w base spare held n' 111 [c1] = some y1 from h1)
    simp at q0
    exact ⟨(z0, l), ⟨c1, by rw [q0], hp⟩, i64_of_wf w0⟩
theorem adc_of {w : World} : ∀ (l : List (T.Ad × List Value)), (∀ y ∈ l, ∃ tv, y.2 = [.int .i64 y.1.1, tv] ∧ TsIn w tv y.1.2) → AdC w (l.map Prod.fst) (l.flatMap Prod.snd)
  | [], _ => rfl
  | y :: r, h => by
    obtain ⟨fv, h1, h2⟩ := h y (by simp)
    exact ⟨fv, r.flatMap Prod.snd, by rw [List.flatMap_cons, h1]; rfl, h2, adc_of r fun z hz => h z (by simp [hz])⟩
theorem open_adds (h : DataW.Trod enc Tryz.prog w base spare held 53 v d p) (hv : Value.okWide Tryz.prog w r b0 53 v) : ∃ xs, AdsIn w v xs := by
  obtain ⟨fuel, hf⟩ := h
  rw [slice_cells Tryz.underlying53 hv] at hf
  obtain ⟨l, h1, h2⟩ := open_rows (sz := 2) Tryz.underlying53 (by kernel_rfl) (by omega) (fun (q : T.Ad) cs => (∃ tv, cs = [.int .i64 q.1, tv] ∧ TsIn w tv q.2) ∧ I64 q.1) (fun n cs x hl ht => ad_cells hl ht) hf
  refine ⟨l.map Prod.fst, l.flatMap Prod.snd, by rw [List.length_map]; exact h1, adc_of l fun y hy => (h2 y hy).2.1, fun q hq => ?_⟩
  obtain ⟨y, hy, rfl⟩ := List.mem_map.1 hq
  exact (h2 y hy).2.2
/-- Numbers of one kind. -/
theorem open_nums {t e : TypeId} {k : IntKind} (ht : Tryz.prog.underlying t = some (.slice e)) (he : Tryz.prog.underlying e = some (.int k)) (hC : Tryz.prog.cellsOf e = 1) (h : DataW.Trod enc Tryz.prog w base spare held t v d p) (hv : Value.okWide Tryz.prog w r b0 t v) :
    ∃ xs, NIn k w v xs ∧ ∀ x ∈ xs, (Lit.int k x).wf = true := by
  obtain ⟨fuel, hf⟩ := h
  rw [slice_cells ht hv] at hf
  obtain ⟨l, h1, h2⟩ := open_rows (sz := 1) ht hC (by omega) (fun (q : Int) cs => cs = [.int k q] ∧ (Lit.int k q).wf = true) (fun n cs x hl hh => by
    obtain ⟨z, q0, _, w0⟩ := DataW.trod_int he hh
    exact ⟨z, q0, w0⟩) hf
  refine ⟨l.map Prod.fst, ?_, fun q hq => ?_⟩
  · have e : (l.map Prod.fst).map (fun x => Value.int k x) = l.flatMap Prod.snd := by
      clear h1
      induction l with
      | nil => rfl
      | cons y s ih =>
        rw [List.map_cons, List.map_cons, List.flatMap_cons, ih fun z hz => h2 z (List.mem_cons_of_mem _ hz), (h2 y (by simp)).2.1]
        rfl
    unfold NIn
    rw [List.length_map, e]; exact h1
  · obtain ⟨y, hy, rfl⟩ := List.mem_map.1 hq
    exact (h2 y hy).2.2
theorem open_u8s (h : DataW.Trod enc Tryz.prog w base spare held 199 v d p) (hv : Value.okWide Tryz.prog w r b0 199 v) : ∃ xs, NIn .u8 w v xs ∧ ∀ x ∈ xs, 0 ≤ x ∧ x < 256 := by
  obtain ⟨xs, h1, h2⟩ := open_nums Tryz.underlying199 Tryz.underlying5 (by kernel_rfl) h hv
  exact ⟨xs, h1, fun x hx => by
    have := h2 x hx
    simp [Lit.wf] at this
    rw [show IntKind.u8.min = 0 from rfl, show IntKind.u8.max = 255 from rfl] at this
    omega⟩
theorem open_place (hv : Value.okWide Tryz.prog w r b0 42 v) (h : DataW.Trod enc Tryz.prog w base spare held 42 v d p) : ∃ q : T.Pl, Pi q ∧ v = .agg #[.int .i64 q.1, .int .i64 q.2] := by
  obtain ⟨cs, rfl, hs⟩ := okWide_struct Tryz.underlying42 hv
  have hC : Tryz.prog.cellsOf 42 = 2 := by kernel_rfl
  rw [hC] at hs
  obtain ⟨fuel, hf⟩ := h
  obtain ⟨q, h1, h2⟩ := place_cells (cs := cs.toList) (by simpa using hs) (show DataW.trod enc Tryz.prog w base spare held fuel 42 cs.toList = _ from hf)
  exact ⟨q, h2, by rw [← Array.toArray_toList (xs := cs), h1]; rfl⟩
end
end Go.Proofs.YtiohlmccnllklaaGreatDoor.Q
