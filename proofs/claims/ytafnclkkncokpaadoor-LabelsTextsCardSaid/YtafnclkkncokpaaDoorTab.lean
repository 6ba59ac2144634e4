/-
  Layer 2: what a world holds where a table lies: its block, its sets, its two maps; which blocks are a table's own.
-/
import Derived.Test.YtafnclkkncokpaaDoorRows
import Derived.Test.YtafnclkkncokpaaDoorMath
import Derived.WalkKit
import Derived.Below
import Derived.Maps.Ext
import Derived.Maps.OwnSet
import Derived.Maps.AppendAt
import Derived.DeepKeys5
import Derived.Laws.NewBlocks
import Derived.Deep.Draws
namespace Go.Proofs.YtafnclkkncokpaaDoor
open Go.RowKit

/-! ### worlds that turn in some blocks alone -/
structure Turned (F : List Nat) (w w' : World) : Prop where
  os : w'.os = w.os
  tape : w'.tape = w.tape
  output : w'.output = w.output
  size : w.heap.size ≤ w'.heap.size
  block : ∀ k, k < w.heap.size → k ∉ F → w'.heap[k]? = w.heap[k]?

theorem Turned.refl (F : List Nat) (w : World) : Turned F w w := ⟨rfl, rfl, rfl, Nat.le_refl _, fun _ _ _ => rfl⟩
theorem Turned.trans {F G : List Nat} {a b c : World} (h : Turned F a b) (k : Turned G b c) (hG : ∀ x ∈ G, x ∈ F ∨ a.heap.size ≤ x) : Turned F a c :=
  ⟨k.os.trans h.os, k.tape.trans h.tape, k.output.trans h.output, Nat.le_trans h.size k.size, fun i hi hn =>
    (k.block i (Nat.lt_of_lt_of_le hi h.size) (fun hm => by rcases hG i hm with h' | h'; exact hn h'; omega)).trans (h.block i hi hn)⟩
theorem Turned.mono {F G : List Nat} {a b : World} (h : Turned F a b) (hG : ∀ x ∈ F, x ∈ G) : Turned G a b :=
  ⟨h.os, h.tape, h.output, h.size, fun k hk hn => h.block k hk (fun hm => hn (hG k hm))⟩
theorem Turned.of_below {w w' : World} (h : Below w.heap.size w w') (F : List Nat) : Turned F w w' := ⟨h.os, h.tape, h.output, h.size, fun k hk _ => h.block k hk⟩
theorem Turned.of_grown {w w' : World} {row : Option Nat} (h : w.grownBy w' row) {F : List Nat} (hr : ∀ k, row = some k → k ∈ F) : Turned F w w' :=
  ⟨h.os, h.tape, h.output, h.size, fun k hk hn => h.block k hk (fun e => hn (hr k e.symm))⟩
theorem Turned.alloc {F : List Nat} {a w : World} (h : Turned F a w) (o : Obj) : Turned F a (w.alloc o) :=
  h.trans (G := []) ⟨rfl, rfl, rfl, by simp, fun k hk _ => Below.heap_alloc _ _ _ hk⟩ (fun x hx => by cases hx)
theorem Turned.drew {F : List Nat} {a w : World} (h : Turned F a w) : Turned F a w.drew := ⟨h.os, h.tape, h.output, h.size, h.block⟩
theorem Turned.setCell {F : List Nat} {a w : World} (h : Turned F a w) {p : Addr} (hp : p.block ∈ F ∨ a.heap.size ≤ p.block) (u : Value) : Turned F a (w.setCell p u) :=
  h.trans (G := [p.block]) ⟨rfl, rfl, rfl, by simp [World.setCell], fun k _ hn => Below.heap_setCell _ _ _ _ (by simpa using hn)⟩ (fun x hx => by simp at hx; subst hx; exact hp)
theorem Turned.below {F : List Nat} {w w' : World} (h : Turned F w w') {B : Nat} (hB : B ≤ w.heap.size) (hF : ∀ k ∈ F, B ≤ k) : Below B w w' :=
  ⟨h.os, h.tape, h.output, h.size, fun k hk => h.block k (by omega) (fun hm => by have := hF k hm; omega)⟩
theorem Turned.grown {w w' : World} {k : Nat} (h : Turned [k] w w') : w.grownBy w' (some k) :=
  ⟨h.os, h.tape, h.output, h.size, fun i hi hn => h.block i hi (by simpa using hn)⟩

theorem below_drewN (B : Nat) (w : World) (n : Nat) : Below B w (w.drewN n) := ⟨rfl, rfl, rfl, Nat.le_refl _, fun _ _ => rfl⟩

/-- A block known whole stays where it is not turned. -/
theorem Turned.keep {F : List Nat} {w w' : World} (h : Turned F w w') {k : Nat} {o : Obj} (hk : w.heap[k]? = some o) (hn : k ∉ F) : w'.heap[k]? = some o :=
  (h.block k (Array.getElem?_eq_some_iff.1 hk).1 hn).trans hk
theorem Turned.row {F : List Nat} {w w' : World} (h : Turned F w w') {base : Nat} {e : TypeId} {size n : Nat} {v : Value} {xs : List Value} (ho : w.ownsRow base e size v n xs) (hn : ∀ g, v.ownBlock = some g → g ∉ F) : w'.ownsRow base e size v n xs := by
  refine ⟨ho.1, ?_⟩
  rcases ho.2 with hnil | ⟨g, cap, cur, rfl, hb, hgg, rest⟩
  · exact .inl hnil
  · exact .inr ⟨g, cap, cur, rfl, hb, h.keep hgg (hn g rfl), rest⟩
theorem Turned.map {F : List Nat} {w w' : World} (h : Turned F w w') {H : Type} {P : Program} {k : TypeId} {R : Value → Option (DataW H × List MemPlace)} {b n : Nat} {D : DataW H} (ho : w.ownsMap P k R b n D) (hn : b ∉ F) : w'.ownsMap P k R b n D := by
  obtain ⟨es, clock, hb, r⟩ := ho
  exact ⟨es, clock, h.keep hb hn, r⟩

/-! ### the two maps -/
/-- The key of a pair. -/
def pk (a b : Int) : Lit := .string (keyBytes [.int .i64 a, .int .i64 b])
theorem pairType : Tryd.prog.keyType 73 = true := by kernel_rfl
theorem pairLaw : Maps.Keyed Tryd.prog 73 := Maps.Keyed.of_law (deep_law_gate (by kernel_rfl) (of_decide_eq_true (by kernel_rfl)) (of_decide_eq_true (by kernel_rfl)) pairType (by kernel_rfl))
theorem numLaw : Maps.Keyed Tryd.prog 35 := Maps.int_keyed Tryd.underlying35
theorem key_pair {a b : Int} (wa : (Lit.int .i64 a).wf = true) (wb : (Lit.int .i64 b).wf = true) : keyOf Tryd.prog 73 (.agg #[.int .i64 a, .int .i64 b]) = some (pk a b) := by
  have hc : Tryd.prog.cellsOf 73 = 2 := by kernel_rfl
  have hi : Tryd.prog.cellsOf 3 = 1 := by kernel_rfl
  have h0 : 0 < Tryd.prog.types.size := of_decide_eq_true (by kernel_rfl)
  obtain ⟨m, hm⟩ : ∃ m, Tryd.prog.types.size = m + 1 := ⟨Tryd.prog.types.size - 1, by omega⟩
  have hu := Tryd.underlying73
  have hv := Tryd.underlying3
  unfold keyOf
  simp only [hu]
  rw [if_pos (by simp [pairType, Value.formed, hu, hc]), hm]
  unfold Program.keyLits
  simp only [hu, Value.cells]
  rw [if_pos (by rw [hc]; exact ⟨rfl, by kernel_rfl⟩)]
  simp [Program.keyLits, hi, hv, wa, wb, pk]
theorem isKey_pk (a b : Int) : WideAt.IsKeyLit (pk a b) := trivial
theorem isKey_u32 (x : Int) : WideAt.IsKeyLit (Lit.int .u32 x) := trivial
theorem key_u32 {x : Int} (h : W32 x) : keyOf Tryd.prog 35 (.int .u32 x) = some (.int .u32 x)   := Maps.keyOf_int_mk Tryd.underlying35 (wf_of_w32 h)
theorem pk_inj {a b c d : Int} (wa : (Lit.int .i64 a).wf = true) (wb : (Lit.int .i64 b).wf = true) (wc : (Lit.int .i64 c).wf = true) (wd : (Lit.int .i64 d).wf = true) (h : pk a b = pk c d) : a = c ∧ b = d := by
  have h1 := key_pair wa wb
  have h2 := key_pair wc wd
  rw [h] at h1
  have e := pairLaw.inj h1 h2
  simp at e
  exact e

def NumD (ss : List Int) (D : DataW Unit) : Prop := ∀ x, W32 x → Maps.has D (.int .u32 x) = decide (x ∈ ss) ∧ D.atKey (.int .u32 x) (.lit (.int .i64 0)) = .lit (.int .i64 (if x ∈ ss then (pos ss x : Int) else 0))
def JoinD (ss : List Int) (J : DataW Unit) : Prop := ∀ a b : Int, (Lit.int .i64 a).wf = true → (Lit.int .i64 b).wf = true → Maps.has J (pk a b) = true →
  ∃ i j n : Nat, a = i ∧ b = j ∧ i < ss.length ∧ j < ss.length ∧ n < ss.length ∧ J.atKey (pk a b) (.lit (.int .i64 0)) = .lit (.int .i64 n) ∧ ss[n]? = some (orI (ss[i]?.getD 0) (ss[j]?.getD 0))

theorem numD_new : NumD [0] ((DataW.map []).put (.int .u32 0) (.lit (.int .i64 0))) := by
  intro x _
  by_cases h : x = 0
  · subst h
    rw [Maps.has_put_same Maps.isMap_empty (isKey_u32 0), Maps.atKey_put_same Maps.isMap_empty (isKey_u32 0)]
    simp [pos]
  · rw [Maps.has_put_other (by simpa using h), Maps.atKey_put_other (by simpa using h)]
    simp [h, Maps.has, DataW.atKey]
theorem NumD.snoc {ss : List Int} {D : DataW Unit} (h : NumD ss D) (hD : Maps.IsMap D) {y : Int} (hy : y ∉ ss) : NumD (ss ++ [y]) (D.put (.int .u32 y) (.lit (.int .i64 (ss.length : Int)))) := by
  intro x hx
  by_cases e : x = y
  · subst e
    rw [Maps.has_put_same hD (isKey_u32 x), Maps.atKey_put_same hD (isKey_u32 x)]
    simp [pos_snoc_new hy]
  · obtain ⟨h1, h2⟩ := h x hx
    rw [Maps.has_put_other (by simpa using e), Maps.atKey_put_other (by simpa using e), h1, h2]
    by_cases hm : x ∈ ss
    · simp [hm, pos_snoc_old hm]
    · simp [hm, e]
theorem joinD_new (ss : List Int) : JoinD ss (.map []) := by
  intro a b _ _ h
  simp [Maps.has] at h
theorem JoinD.snoc {ss : List Int} {J : DataW Unit} (h : JoinD ss J) (y : Int) : JoinD (ss ++ [y]) J := by
  intro a b wa wb hh
  obtain ⟨i, j, n, ha, hb, hi, hj, hn, hat, hs⟩ := h a b wa wb hh
  refine ⟨i, j, n, ha, hb, by simp; omega, by simp; omega, by simp; omega, hat, ?_⟩
  rw [List.getElem?_append_left hn, List.getElem?_append_left hi, List.getElem?_append_left hj]
  exact hs
theorem JoinD.put {ss : List Int} {J : DataW Unit} (h : JoinD ss J) (hJ : Maps.IsMap J) {i j n : Nat} (wi : (Lit.int .i64 (i : Int)).wf = true) (wj : (Lit.int .i64 (j : Int)).wf = true) (hi : i < ss.length) (hj : j < ss.length) (hn : n < ss.length)
    (hs : ss[n]? = some (orI (ss[i]?.getD 0) (ss[j]?.getD 0))) : JoinD ss (J.put (pk i j) (.lit (.int .i64 (n : Int)))) := by
  intro a b wa wb hh
  by_cases e : pk a b = pk i j
  · obtain ⟨rfl, rfl⟩ := pk_inj wa wb wi wj e
    exact ⟨i, j, n, rfl, rfl, hi, hj, hn, Maps.atKey_put_same hJ (isKey_pk _ _) _ _, hs⟩
  · rw [Maps.has_put_other e] at hh
    obtain ⟨i', j', n', h1, h2, h3, h4, h5, h6, h7⟩ := h a b wa wb hh
    exact ⟨i', j', n', h1, h2, h3, h4, h5, by rw [Maps.atKey_put_other e]; exact h6, h7⟩

/-! ### a table -/
def cellsTab (most : Int) (g n c mb jb : Nat) : Array Value := #[.int .i64 most, .slice (some ⟨g, 0, none⟩) n c, .map (some mb), .map (some jb)]
/-- The limbs, the blocks named. -/
structure TabIs (w : World) (T g c mb jb : Nat) (most : Int) (ss : List Int) (m : Nat) (D J : DataW Unit) : Prop where
  blk : w.heap[T]? = some (.cells (cellsTab most g ss.length c mb jb) 61 (0, 0))
  row : w.ownsRow 0 35 1 (.slice (some ⟨g, 0, none⟩) ss.length c) ss.length (ss.map (Value.int .u32))
  num : w.ownsMap Tryd.prog 35 (plainElem Tryd.prog 3) mb ss.length D
  numD : NumD ss D
  jnd : w.ownsMap Tryd.prog 73 (plainElem Tryd.prog 3) jb m J
  joinD : JoinD ss J
  ne : mb ≠ jb
  sets : Sets most ss
/-- A TABLE LIES AT BLOCK T: its bound, its sets; at most m joined pairs are remembered; F: the blocks that are its own. -/
def Tab (w : World) (T : Nat) (most : Int) (ss : List Int) (m : Nat) (F : List Nat) : Prop := ∃ g c mb jb D J, F = [T, g, mb, jb] ∧ TabIs w T g c mb jb most ss m D J

section
variable {w w' : World} {T g c mb jb : Nat} {most : Int} {ss : List Int} {m : Nat} {D J : DataW Unit} {F G : List Nat}
theorem TabIs.rowBlk (h : TabIs w T g c mb jb most ss m D J) : ∃ cur, w.heap[g]? = some (.cells cur 35 (0, 0)) := by
  rcases h.row.2 with ⟨h0, _⟩ | ⟨g', cap, cur, hv, _, hg, _⟩
  · cases h0
  · simp at hv
    obtain ⟨rfl, rfl⟩ := hv
    exact ⟨cur, hg⟩
theorem TabIs.numBlk (h : TabIs w T g c mb jb most ss m D J) : ∃ es k, w.heap[mb]? = some (.map es k) := by
  obtain ⟨es, k, hb, _⟩ := h.num
  exact ⟨es, k, hb⟩
theorem TabIs.jndBlk (h : TabIs w T g c mb jb most ss m D J) : ∃ es k, w.heap[jb]? = some (.map es k) := by
  obtain ⟨es, k, hb, _⟩ := h.jnd
  exact ⟨es, k, hb⟩
/-- The four blocks differ. -/
theorem TabIs.differ (h : TabIs w T g c mb jb most ss m D J) : T ≠ g ∧ T ≠ mb ∧ T ≠ jb ∧ g ≠ mb ∧ g ≠ jb := by
  obtain ⟨cur, hg⟩ := h.rowBlk
  obtain ⟨e1, k1, h1⟩ := h.numBlk
  obtain ⟨e2, k2, h2⟩ := h.jndBlk
  have hT := h.blk
  refine ⟨?_, ?_, ?_, ?_, ?_⟩
  · rintro rfl; rw [hg] at hT; simp at hT
  · rintro rfl; rw [h1] at hT; simp at hT
  · rintro rfl; rw [h2] at hT; simp at hT
  · rintro rfl; rw [hg] at h1; simp at h1
  · rintro rfl; rw [hg] at h2; simp at h2
theorem TabIs.lt (h : TabIs w T g c mb jb most ss m D J) : ∀ k ∈ [T, g, mb, jb], k < w.heap.size := by
  obtain ⟨cur, hg⟩ := h.rowBlk
  obtain ⟨e1, k1, h1⟩ := h.numBlk
  obtain ⟨e2, k2, h2⟩ := h.jndBlk
  intro k hk
  simp at hk
  rcases hk with rfl | rfl | rfl | rfl
  · exact (Array.getElem?_eq_some_iff.1 h.blk).1
  · exact (Array.getElem?_eq_some_iff.1 hg).1
  · exact (Array.getElem?_eq_some_iff.1 h1).1
  · exact (Array.getElem?_eq_some_iff.1 h2).1
theorem Tab.lt (h : Tab w T most ss m F) : ∀ k ∈ F, k < w.heap.size := by
  obtain ⟨g, c, mb, jb, D, J, rfl, h⟩ := h
  exact h.lt
theorem Tab.mem (h : Tab w T most ss m F) : T ∈ F := by
  obtain ⟨g, c, mb, jb, D, J, rfl, h⟩ := h
  simp
theorem Tab.sets (h : Tab w T most ss m F) : Sets most ss := by
  obtain ⟨g, c, mb, jb, D, J, rfl, h⟩ := h
  exact h.sets
/-- What is turned elsewhere leaves a table as it is. -/
theorem TabIs.kept (h : TabIs w T g c mb jb most ss m D J) (ht : Turned G w w') (hd : ∀ k ∈ [T, g, mb, jb], k ∉ G) : TabIs w' T g c mb jb most ss m D J :=
  ⟨ht.keep h.blk (hd T (by simp)), ht.row h.row (fun k e => by simp [Value.ownBlock] at e; subst e; exact hd _ (by simp)), ht.map h.num (hd mb (by simp)), h.numD, ht.map h.jnd (hd jb (by simp)), h.joinD, h.ne, h.sets⟩
theorem Tab.kept (h : Tab w T most ss m F) (ht : Turned G w w') (hd : ∀ k ∈ F, k ∉ G) : Tab w' T most ss m F := by
  obtain ⟨g, c, mb, jb, D, J, rfl, h⟩ := h
  exact ⟨g, c, mb, jb, D, J, rfl, h.kept ht hd⟩
theorem Tab.below (h : Tab w T most ss m F) (hb : Below w.heap.size w w') : Tab w' T most ss m F := h.kept (Turned.of_below hb []) (fun _ _ hk => by cases hk)
theorem Tab.alloc (h : Tab w T most ss m F) (o : Obj) : Tab (w.alloc o) T most ss m F := h.below ((Below.refl _ _).alloc (Nat.le_refl _) _)
theorem Tab.mono (h : Tab w T most ss m F) {m' : Nat} (hm : m ≤ m') : Tab w T most ss m' F := by
  obtain ⟨g, c, mb, jb, D, J, rfl, h⟩ := h
  exact ⟨g, c, mb, jb, D, J, rfl, h.blk, h.row, h.num, h.numD, h.jnd.mono hm, h.joinD, h.ne, h.sets⟩
/-- The cells of a table's block. -/
theorem TabIs.cell (h : TabIs w T g c mb jb most ss m D J) : w.cell? ⟨T, 0, none⟩ = some (.int .i64 most) ∧ w.cell? ⟨T, 1, none⟩ = some (.slice (some ⟨g, 0, none⟩) ss.length c) ∧ w.cell? ⟨T, 2, none⟩ = some (.map (some mb)) ∧ w.cell? ⟨T, 3, none⟩ = some (.map (some jb)) := by
  have hb := h.blk
  simp [World.cell?, hb, cellsTab]
theorem TabIs.free (h : TabIs w T g c mb jb most ss m D J) : w.frozen? ⟨T, 0, none⟩ = false ∧ w.frozen? ⟨T, 1, none⟩ = false ∧ w.frozen? ⟨T, 2, none⟩ = false ∧ w.frozen? ⟨T, 3, none⟩ = false := by
  have hb := h.blk
  simp [World.frozen?, hb]
theorem TabIs.set_ (h : TabIs w T g c mb jb most ss m D J) {k : Nat} (hk : k < ss.length) : w.cell? ⟨g, k, none⟩ = some (.int .u32 (ss[k]?.getD 0)) := by
  have h1 := h.row.cells (g := g) rfl k (.int .u32 (ss[k]?.getD 0)) (by simp [List.getElem?_eq_getElem hk])
  have e : (⟨g, 0, none⟩ : Addr).add k = ⟨g, k, none⟩ := by unfold Addr.add; split <;> simp_all
  rw [e] at h1
  exact h1
end
end Go.Proofs.YtafnclkkncokpaaDoor
