/-
  Layer 10 (as in layer 9): what a world holds: blocks known whole; slices that may be grown in place, whatever their elements, also ones whose beginning was cut off; append onto them.
-/
import Derived.Test.YthjdfneibogcgaaDoorRows
import Derived.Test.YthjdfneibogcgaaDoorMath
import Derived.WalkKit
import Derived.Below
import Derived.Laws.Rows
import Derived.Laws.Tables
import Derived.Laws.NewBlocks
import Derived.Laws.AppendOwn
import Derived.Deep.MidRow
import Derived.Deep.WholeRow
import Derived.Deep.Draws
import Derived.Deep.AppendSrc
namespace Go.Proofs.YthjdfneibogcgaaDoor
open Go.RowKit
set_option linter.unusedVariables false

/-! ### worlds that turn in some blocks alone -/
structure Turned (F : Nat → Prop) (w w' : World) : Prop where
  os : w'.os = w.os
  tape : w'.tape = w.tape
  output : w'.output = w.output
  size : w.heap.size ≤ w'.heap.size
  block : ∀ k, k < w.heap.size → ¬ F k → w'.heap[k]? = w.heap[k]?

theorem Turned.refl (F : Nat → Prop) (w : World) : Turned F w w := ⟨rfl, rfl, rfl, Nat.le_refl _, fun _ _ _ => rfl⟩
theorem Turned.trans {F G : Nat → Prop} {a b c : World} (h : Turned F a b) (k : Turned G b c) (hG : ∀ x, G x → F x ∨ a.heap.size ≤ x) : Turned F a c :=
  ⟨k.os.trans h.os, k.tape.trans h.tape, k.output.trans h.output, Nat.le_trans h.size k.size, fun i hi hn =>
    (k.block i (Nat.lt_of_lt_of_le hi h.size) (fun hm => by rcases hG i hm with h' | h'; exact hn h'; omega)).trans (h.block i hi hn)⟩
theorem Turned.mono {F G : Nat → Prop} {a b : World} (h : Turned F a b) (hG : ∀ x, F x → G x) : Turned G a b :=
  ⟨h.os, h.tape, h.output, h.size, fun k hk hn => h.block k hk (fun hm => hn (hG k hm))⟩
theorem Turned.of_below {w w' : World} (h : Below w.heap.size w w') (F : Nat → Prop) : Turned F w w' := ⟨h.os, h.tape, h.output, h.size, fun k hk _ => h.block k hk⟩
theorem Turned.of_grown {w w' : World} {row : Option Nat} (h : w.grownBy w' row) {F : Nat → Prop} (hr : ∀ k, row = some k → F k) : Turned F w w' :=
  ⟨h.os, h.tape, h.output, h.size, fun k hk hn => h.block k hk (fun e => hn (hr k e.symm))⟩
theorem Turned.alloc {F : Nat → Prop} {a w : World} (h : Turned F a w) (o : Obj) : Turned F a (w.alloc o) :=
  h.trans (G := fun _ => False) ⟨rfl, rfl, rfl, by simp, fun k hk _ => Below.heap_alloc _ _ _ hk⟩ (fun x hx => hx.elim)
theorem Turned.drew {F : Nat → Prop} {a w : World} (h : Turned F a w) : Turned F a w.drew := ⟨h.os, h.tape, h.output, h.size, h.block⟩
theorem Turned.setCell {F : Nat → Prop} {a w : World} (h : Turned F a w) {p : Addr} (hp : F p.block ∨ a.heap.size ≤ p.block) (u : Value) : Turned F a (w.setCell p u) :=
  h.trans (G := fun k => k = p.block) ⟨rfl, rfl, rfl, by simp [World.setCell], fun k _ hn => Below.heap_setCell _ _ _ _ hn⟩ (fun x hx => by subst hx; exact hp)
theorem Turned.below {F : Nat → Prop} {w w' : World} (h : Turned F w w') {B : Nat} (hB : B ≤ w.heap.size) (hF : ∀ k, F k → B ≤ k) : Below B w w' :=
  ⟨h.os, h.tape, h.output, h.size, fun k hk => h.block k (by omega) (fun hm => by have := hF k hm; omega)⟩
theorem below_drewN (B : Nat) (w : World) (n : Nat) : Below B w (w.drewN n) := ⟨rfl, rfl, rfl, Nat.le_refl _, fun _ _ => rfl⟩
/-- A block known whole stays where it is not turned. -/
theorem Turned.keep {F : Nat → Prop} {w w' : World} (h : Turned F w w') {k : Nat} {o : Obj} (hk : w.heap[k]? = some o) (hn : ¬ F k) : w'.heap[k]? = some o :=
  (h.block k (Array.getElem?_eq_some_iff.1 hk).1 hn).trans hk
theorem Turned.row {F : Nat → Prop} {w w' : World} (h : Turned F w w') {base : Nat} {e : TypeId} {size n : Nat} {v : Value} {xs : List Value} (ho : w.ownsRow base e size v n xs) (hn : ∀ g, v.ownBlock = some g → ¬ F g) : w'.ownsRow base e size v n xs := by
  refine ⟨ho.1, ?_⟩
  rcases ho.2 with hnil | ⟨g, cap, cur, rfl, hb, hgg, rest⟩
  · exact .inl hnil
  · exact .inr ⟨g, cap, cur, rfl, hb, h.keep hgg (hn g rfl), rest⟩

theorem add_lit (g o i : Nat) : (⟨g, o, none⟩ : Addr).add i = ⟨g, o + i, none⟩ := by unfold Addr.add; split <;> simp_all

/-- A block known whole. -/
def Blk (w : World) (b : Nat) (cs : Array Value) (ty : TypeId) : Prop := w.heap[b]? = some (.cells cs ty (0, 0))
section
variable {w w' : World} {b : Nat} {cs : Array Value} {ty : TypeId}
theorem Blk.lt (h : Blk w b cs ty) : b < w.heap.size := (Array.getElem?_eq_some_iff.1 h).1
theorem Blk.keep (h : Blk w b cs ty) (hk : w'.heap[b]? = w.heap[b]?) : Blk w' b cs ty := hk.trans h
theorem Blk.below (h : Blk w b cs ty) (hb : Below w.heap.size w w') : Blk w' b cs ty := h.keep (hb.block _ h.lt)
theorem Blk.below' {B : Nat} (h : Blk w b cs ty) (hb : Below B w w') (hB : b < B) : Blk w' b cs ty := h.keep (hb.block _ hB)
theorem Blk.turned {F : Nat → Prop} (h : Blk w b cs ty) (ht : Turned F w w') (hn : ¬ F b) : Blk w' b cs ty := ht.keep h hn
theorem Blk.drew (h : Blk w b cs ty) : Blk w.drew b cs ty := h
theorem Blk.alloc (h : Blk w b cs ty) (o : Obj) : Blk (w.alloc o) b cs ty := h.keep (Below.heap_alloc _ _ _ h.lt)
theorem blk_new (w : World) (cs : Array Value) (ty : TypeId) : Blk (w.alloc (.cells cs ty)) w.heap.size cs ty := heap_alloc_new w _
theorem Blk.cell (h : Blk w b cs ty) (j : Nat) : w.cell? ⟨b, j, none⟩ = cs[j]? := cell_of_row w b j cs ty (0, 0) h
theorem Blk.frozen (h : Blk w b cs ty) (j : Nat) : w.frozen? ⟨b, j, none⟩ = false := by unfold Blk at h; simp [World.frozen?, h]
theorem Blk.range (h : Blk w b cs ty) (o : Nat) (l : List Value) (hl : (cs.toList.drop o).take l.length = l) : w.rangeAt b o l := fun j v hj => by
  have hlt := (List.getElem?_eq_some_iff.1 hj).1
  rw [h.cell, ← hj]
  have : l[j]? = ((cs.toList.drop o).take l.length)[j]? := by rw [hl]
  rw [this, List.getElem?_take, if_pos hlt, List.getElem?_drop]; simp
theorem Blk.there (h : Blk w b cs ty) (o n : Nat) (hn : o + n ≤ cs.size) : w.there b o n := fun j hj =>
  ⟨by rw [h.cell, Array.getElem?_eq_getElem (by omega)]; rfl, h.frozen _⟩
/-- A whole block is written anew. -/
theorem Blk.set (h : Blk w b cs ty) (cs' : Array Value) : Blk (w.setRow b cs') b cs' ty := setRow_heap w b cs cs' ty (0, 0) h
theorem Blk.setOther (h : Blk w b cs ty) {g : Nat} (hg : b ≠ g) (cs' : Array Value) : Blk (w.setRow g cs') b cs ty := (setRow_other w g b cs' hg).trans h
theorem Blk.setCell (h : Blk w b cs ty) (j : Nat) (v : Value) : Blk (w.setCell ⟨b, j, none⟩ v) b (cs.setIfInBounds j v) ty := heap_setCell_same w b j _ _ _ h
theorem Blk.setCells : ∀ (vs : List Value) (o : Nat) {w : World} {cs : Array Value}, Blk w b cs ty → o + vs.length ≤ cs.size → Blk (w.setCells b o vs) b (cs.toList.take o ++ (vs ++ cs.toList.drop (o + vs.length))).toArray ty
  | [], o, w, cs, h, _ => by simpa [World.setCells, List.take_append_drop] using h
  | v :: vs, o, w, cs, h, hl => by
    have h1 := Blk.setCells vs (o + 1) (h.setCell o v) (by simp at hl ⊢; omega)
    simp only [World.setCells]
    refine Eq.trans h1 ?_
    congr 3
    simp only [List.length_cons] at hl
    have hlen : o < cs.toList.length := by simp; omega
    have e1 : (cs.setIfInBounds o v).toList = cs.toList.set o v := by simp
    rw [e1, List.take_set, List.drop_set, if_pos (by omega)]
    rw [List.take_succ_eq_append_getElem (by simpa using hlen), List.set_append, if_neg (by simp; omega)]
    simp [show min o cs.size = o by omega, Nat.add_assoc, Nat.add_comm 1]
end
theorem turned_setRow (w : World) (g : Nat) (cs : Array Value) : Turned (fun k => k = g) w (w.setRow g cs) :=
  ⟨rfl, rfl, rfl, by simp, fun k _ hn => setRow_other w g k cs hn⟩
theorem turned_setCells (b : Nat) : ∀ (vs : List Value) (o : Nat) (w : World), Turned (fun k => k = b) w (w.setCells b o vs)
  | [], _, w => Turned.refl _ w
  | v :: vs, o, w => by
    rw [World.setCells]
    exact ((Turned.refl (fun k => k = b) w).setCell (p := ⟨b, o, none⟩) (.inl rfl) v).trans (turned_setCells b vs (o + 1) _) (fun x (hx : x = b) => .inl hx)

/-! ### a slice that may be grown in place -/
/-- The block that a slice may be grown in: none, if it has no capacity. -/
def blkOf : Value → Option Nat
  | .slice (some a) _ c => if c = 0 then none else some a.block
  | _ => none
/-- A slice of n elements of type e, of sz cells each: its cells are cs. -/
def Gs (e : TypeId) (sz : Nat) (w : World) (v : Value) (n : Nat) (cs : List Value) : Prop :=
  cs.length = n * sz ∧ ∃ (ao : Option Addr) (c : Nat), v = .slice ao n c ∧ n ≤ c ∧ c ≤ maxLen ∧
    (0 < c → ∃ g o cur, ao = some ⟨g, o, none⟩ ∧ Blk w g cur e ∧ o + c * sz ≤ cur.size ∧ (cur.toList.drop o).take (n * sz) = cs)
section
variable {e : TypeId} {sz : Nat} {w w' : World} {v : Value} {n : Nat} {cs : List Value}
theorem Gs.len (h : Gs e sz w v n cs) : cs.length = n * sz := h.1
theorem Gs.nil (e : TypeId) (sz : Nat) (w : World) : Gs e sz w (.slice none 0 0) 0 [] := ⟨by simp, none, 0, rfl, Nat.le_refl _, by simp [maxLen], fun h => by omega⟩
theorem Gs.empty (e : TypeId) (sz : Nat) (w : World) (ao : Option Addr) : Gs e sz w (.slice ao 0 0) 0 [] := ⟨by simp, ao, 0, rfl, Nat.le_refl _, by simp [maxLen], fun h => by omega⟩
theorem Gs.shape (h : Gs e sz w v n cs) : ∃ ao c, v = .slice ao n c ∧ n ≤ c ∧ n ≤ maxLen := by
  obtain ⟨_, ao, c, h1, h2, h3, _⟩ := h
  exact ⟨ao, c, h1, h2, by omega⟩
theorem Gs.one (h : Gs e sz w v n cs) : v.oneCell' = true := by
  obtain ⟨_, _, _, rfl, _⟩ := h; rfl
theorem Gs.in_ (h : Gs e sz w v n cs) {k : Nat} (hk : blkOf v = some k) : ∃ cur, Blk w k cur e := by
  obtain ⟨_, ao, c, rfl, h2, h3, h4⟩ := h
  cases ao with
  | none => simp [blkOf] at hk
  | some a =>
    simp [blkOf] at hk
    obtain ⟨g, o, cur, e1, e2, _⟩ := h4 (by omega)
    obtain ⟨_, rfl⟩ := hk
    simp at e1
    subst e1
    exact ⟨cur, e2⟩
theorem Gs.lt (h : Gs e sz w v n cs) {k : Nat} (hk : blkOf v = some k) : k < w.heap.size := by
  obtain ⟨cur, hc⟩ := h.in_ hk
  exact hc.lt
/-- It is no block of another type. -/
theorem Gs.ne (h : Gs e sz w v n cs) {S : Nat} {cc : Array Value} {ty : TypeId} (hS : Blk w S cc ty) (ht : ty ≠ e) {k : Nat} (hk : blkOf v = some k) : k ≠ S := by
  rintro rfl
  obtain ⟨cur, hc⟩ := h.in_ hk
  unfold Blk at hS hc
  rw [hS] at hc
  simp at hc
  exact ht hc.2
theorem Gs.keep (h : Gs e sz w v n cs) (hk : ∀ k, blkOf v = some k → w'.heap[k]? = w.heap[k]?) : Gs e sz w' v n cs := by
  obtain ⟨h0, ao, c, rfl, h2, h3, h4⟩ := h
  refine ⟨h0, ao, c, rfl, h2, h3, fun hc => ?_⟩
  obtain ⟨g, o, cur, rfl, e2, e3⟩ := h4 hc
  exact ⟨g, o, cur, rfl, e2.keep (hk g (by simp [blkOf]; omega)), e3⟩
theorem Gs.turned {F : Nat → Prop} (h : Gs e sz w v n cs) (ht : Turned F w w') (hn : ∀ k, blkOf v = some k → ¬ F k) : Gs e sz w' v n cs := h.keep fun k hk => ht.block k (h.lt hk) (hn k hk)
theorem Gs.below (h : Gs e sz w v n cs) (hb : Below w.heap.size w w') : Gs e sz w' v n cs := h.keep fun k hk => hb.block k (h.lt hk)
theorem Gs.cell (h : Gs e sz w v n cs) {j : Nat} {u : Value} (hj : cs[j]? = some u) : ∃ g o c, v = .slice (some ⟨g, o, none⟩) n c ∧ w.cell? ⟨g, o + j, none⟩ = some u ∧ w.frozen? ⟨g, o + j, none⟩ = false := by
  obtain ⟨h0, ao, c, rfl, h2, h3, h4⟩ := h
  have hjl := (List.getElem?_eq_some_iff.1 hj).1
  have hc : 0 < c := by
    rcases Nat.eq_zero_or_pos c with e | e
    · subst e; obtain rfl : n = 0 := by omega
      simp at h0; subst h0; simp at hjl
    · exact e
  obtain ⟨g, o, cur, rfl, e2, e3, e4⟩ := h4 hc
  refine ⟨g, o, c, rfl, ?_, e2.frozen _⟩
  rw [e2.cell]
  rw [← e4, List.getElem?_take, if_pos (by omega), List.getElem?_drop] at hj
  simpa using hj
/-- What it reads, from its head on. -/
theorem Gs.read (h : Gs e sz w v n cs) {a : Addr} {c : Nat} (hv : v = .slice (some a) n c) : ∀ j u, cs[j]? = some u → w.cell? (a.add j) = some u := fun j u hj => by
  obtain ⟨g, o, c', e1, e2, _⟩ := h.cell hj
  rw [hv] at e1
  simp at e1
  rw [e1.1, add_lit]; exact e2
/-- What is appended. -/
theorem Gs.src {P : Program} {sl e' : TypeId} (hu : P.underlying sl = some (.slice e')) (h : Gs e sz w v n cs) (h1 : ∀ u ∈ cs, u.oneCell' = true) : Src P sz sl v n cs w := by
  obtain ⟨ao, c, rfl, h2, h3⟩ := h.shape
  cases ao with
  | none =>
    have hn : n = 0 := by
      obtain ⟨h0, ao, c', e1, h5, _, h4⟩ := h
      rcases Nat.eq_zero_or_pos n with e | e
      · exact e
      · obtain ⟨_, _, _, e2, _⟩ := h4 (by omega)
        simp at e1; rw [← e1.1] at e2; cases e2
    subst hn
    have : cs = [] := by have := h.len; simpa using this
    subst this
    exact Src.ofNil w hu c
  | some a => exact Src.ofSlice w hu a n c cs h.len (h.read rfl) h1
/-- The first element is cut off. -/
theorem Gs.tail (h : Gs e sz w v (n + 1) cs) (hsz : 0 < sz) : ∃ (g o c : Nat), v = .slice (some ⟨g, o, none⟩) (n + 1) (c + 1) ∧ n ≤ c ∧ c ≤ maxLen ∧
    Gs e sz w (.slice (if c = 0 then some ⟨g, o, none⟩ else some ⟨g, o + sz, none⟩) n c) n (cs.drop sz) := by
  obtain ⟨h0, ao, c, rfl, h2, h3, h4⟩ := h
  obtain ⟨g, o, cur, rfl, e2, e3, e4⟩ := h4 (by omega)
  obtain ⟨c, rfl⟩ : ∃ d, c = d + 1 := ⟨c - 1, by omega⟩
  refine ⟨g, o, c, rfl, by omega, by omega, by rw [List.length_drop, h0, Nat.add_mul]; omega, _, c, rfl, by omega, by omega, fun hc => ⟨g, o + sz, cur, by rw [if_neg (by omega)], e2, by rw [Nat.add_mul] at e3; omega, ?_⟩⟩
  rw [← e4, List.drop_take, List.drop_drop, Nat.add_mul, Nat.one_mul, Nat.add_sub_cancel]
/-- A new row. -/
theorem Gs.lit (w : World) (e : TypeId) {sz n : Nat} {cs : Array Value} (hl : cs.size = n * sz) (hm : n ≤ maxLen) : Gs e sz (w.alloc (.cells cs e)) (.slice (some ⟨w.heap.size, 0, none⟩) n n) n cs.toList :=
  ⟨by simpa using hl, _, _, rfl, Nat.le_refl _, hm, fun _ => ⟨_, 0, _, rfl, blk_new _ _ _, by omega, by simp [← hl, List.take_of_length_le]⟩⟩
end
/-- Elements are appended: in place, or in a new row. -/
theorem run_append_g {P : Program} {sl sl2 e : TypeId} {sz bz : Nat} {z : Value} (hu : P.underlying sl = some (.slice e)) (hinf : (P.info? e).map (fun i => (i.zero, i.size, i.bytes)) = some (some z, sz, bz)) (hz : z.cells.size = sz) (hsz : 0 < sz) (hbz : bz ≤ 64)
    {w : World} {v vx : Value} {n m : Nat} {cs ys : List Value} (h : Gs e sz w v n cs) (hs : Src P sz sl2 vx m ys w) (hm : n + m ≤ 1000000) (ty : TypeId) :
    ∃ v' w', (Builtin.append_ #[sl, sl2] ty #[v, vx]).run P w = .ok v' w' ∧ Gs e sz w' v' (n + m) (cs ++ ys) ∧ Turned (fun k => blkOf v = some k) w w' ∧ (∀ k, blkOf v' = some k → blkOf v = some k ∨ w.heap.size ≤ k) := by
  obtain ⟨i0, hi, hz0, hz1, hz2⟩ := info_parts hinf
  have hyl := hs.newsLen
  obtain ⟨h0, ao, c, rfl, h2, h3, h4⟩ := h
  rw [← hz1] at hs
  by_cases hfit : n + m ≤ c
  · by_cases hc : 0 < c
    · obtain ⟨g, o, cur, rfl, e2, e3, e4⟩ := h4 hc
      have hsum : n * sz + m * sz ≤ c * sz := by rw [← Nat.add_mul]; exact Nat.mul_le_mul_right _ hfit
      have hcell : ∀ j, j < ys.length → (w.cell? ⟨g, o + n * i0.size + j, none⟩).isSome = true ∧ w.frozen? ⟨g, o + n * i0.size + j, none⟩ = false := fun j hj => by
        refine ⟨?_, e2.frozen _⟩
        rw [hz1, e2.cell, Array.getElem?_eq_getElem (by omega)]
        rfl
      have hrun := run_append_room_src (P := P) w sl sl2 ty e i0 hu hi g o n c vx m ys hs hfit (fun j hj => (hcell j hj).1) (fun j hj => (hcell j hj).2)
      rw [hz1] at hrun
      refine ⟨_, _, hrun, ⟨by rw [List.length_append, h0, hyl, Nat.add_mul], _, c, rfl, hfit, h3, fun _ => ⟨g, o, _, rfl, Blk.setCells ys (o + n * sz) e2 (by omega), ?_, ?_⟩⟩, (turned_setCells g _ _ w).mono (fun k e => by simp [blkOf]; exact ⟨by omega, e.symm⟩), ?_⟩
      · simp; omega
      · have e5 : (cur.toList.take (o + n * sz)).drop o = cs := by rw [List.drop_take]; simpa using e4
        show List.take ((n + m) * sz) (List.drop o (cur.toList.take (o + n * sz) ++ (ys ++ cur.toList.drop (o + n * sz + ys.length)))) = cs ++ ys
        rw [List.drop_append_of_le_length (by simp; omega), e5, ← List.append_assoc, List.take_append_of_le_length (by rw [List.length_append, h0, hyl, Nat.add_mul]; omega), List.take_of_length_le (by rw [List.length_append, h0, hyl, Nat.add_mul]; omega)]
      · intro k hk
        left
        simpa [blkOf] using hk
    · obtain rfl : c = 0 := by omega
      obtain rfl : m = 0 := by omega
      obtain rfl : n = 0 := by omega
      obtain rfl : ys = [] := by simpa using hyl
      obtain rfl : cs = [] := by simpa using h0
      have hrun : (Builtin.append_ #[sl, sl2] ty #[.slice ao 0 0, vx]).run P w = .ok (.slice ao 0 0) w := by
        have hk := hs.cells
        have hn := hs.len
        rcases hs.kind with ⟨e', hk2⟩ | hk2 <;> cases ao <;> simp [Builtin.append_, run_underlying hu, run_underlying hk2, sizeOf, typeInfo, hi, hn, hk, storeCells]
      exact ⟨_, w, hrun, Gs.empty e sz w ao, Turned.refl _ _, fun k hk => .inl hk⟩
  · have hold : (Builtin.firstCells i0.size n (.slice ao n c)).run P w.drew = .ok cs.toArray w.drew := by
      by_cases hc : 0 < c
      · obtain ⟨g, o, cur, rfl, e2, e3, e4⟩ := h4 hc
        refine run_firstCells_some w.drew i0.size n ⟨g, o, none⟩ n c cs (by rw [hz1]; exact h0) (fun j u hu => ?_)
        have hj : j < n * sz := by have := (List.getElem?_eq_some_iff.1 hu).1; omega
        rw [add_lit]
        show w.cell? _ = _
        rw [e2.cell]
        rw [← e4, List.getElem?_take, if_pos hj, List.getElem?_drop] at hu
        simpa using hu
      · obtain rfl : c = 0 := by omega
        obtain rfl : n = 0 := by omega
        obtain rfl : cs = [] := by simpa using h0
        cases ao with
        | none => exact run_firstCells_none w.drew i0.size 0 0 0
        | some a' => exact run_firstCells_some w.drew i0.size 0 a' 0 0 [] (by simp) (by intro _ _ h'; simp at h')
    have hb64 : (n + m) * bz ≤ (n + m) * 64 := Nat.mul_le_mul_left _ hbz
    have hrun := run_append_grow_src (P := P) w sl sl2 ty e i0 z hu hi hz0 ao n c cs hold vx m ys hs (by omega) (by omega) (growslice_fits (by omega) (by rw [hz2]; omega))
    have hge := grownCap_ge w (n + m) c e
    have hcm := grownCap_le_maxLen w (n + m) c e (by unfold maxLen; omega)
    refine ⟨_, _, hrun, ⟨by rw [List.length_append, h0, hyl, Nat.add_mul], _, _, rfl, hge, hcm, fun _ => ⟨w.heap.size, 0, _, rfl, blk_new w.drew _ _, ?_, ?_⟩⟩, (Turned.refl _ w).drew.alloc _, fun k hk => ?_⟩
    · have hmul : (n + m) * sz ≤ grownCap w (n + m) c e * sz := Nat.mul_le_mul_right _ hge
      rw [Array.size_append, size_zeroCells, hz, List.size_toArray, List.length_append, h0, hyl, Nat.sub_mul, ← Nat.add_mul]; omega
    · simp only [List.drop_zero, Array.toList_append]
      rw [List.take_append_of_le_length (by rw [List.length_append, h0, hyl, Nat.add_mul]; omega), List.take_of_length_le (by rw [List.length_append, h0, hyl, Nat.add_mul]; omega)]
    · right
      unfold blkOf at hk
      simp only at hk
      split at hk
      · cases hk
      · simp at hk; omega
/-- .. at the walk. -/
theorem wp_append_g {P : Program} {sl sl2 e : TypeId} {sz bz : Nat} {z : Value} {ops : Array Oper} {rest : List Oper} {o : Oper} {a : Act} {Q : Exit → Act → World → Prop} {w : World} (hgd : o.guard = none) (s x : Operand)
    (ho : o.op = .call { callee := .builtin .append, args := #[s, x], argTypes := #[sl, sl2] })
    (hu : P.underlying sl = some (.slice e)) (hinf : (P.info? e).map (fun i => (i.zero, i.size, i.bytes)) = some (some z, sz, bz)) (hz : z.cells.size = sz) (hsz : 0 < sz) (hbz : bz ≤ 64)
    {v vx : Value} {n m : Nat} {cs ys : List Value} (hs : a.eval s = v) (hv : a.eval x = vx) (h : Gs e sz w v n cs) (hx : Src P sz sl2 vx m ys w) (hm : n + m ≤ 1000000)
    (hK : ∀ v' w', Gs e sz w' v' (n + m) (cs ++ ys) → Turned (fun k => blkOf v = some k) w w' → (∀ k, blkOf v' = some k → blkOf v = some k ∨ w.heap.size ≤ k) → wpList P ops Q rest (a.put o.dst v') w') : wpList P ops Q (o :: rest) a w := by
  refine wpList_plain hgd fun K hK' => ?_
  obtain ⟨v', w', hrun, r1, r2, r3⟩ := run_append_g hu hinf hz hsz hbz h hx hm o.type
  unfold Oper.wp
  simp [execOp, ho, resolve, invoke, builtin, hs, hv, hrun, Result.andThen]
  exact hK' _ _ (hK v' w' r1 r2 r3)
/-- .. at the operation. -/
theorem o_append_g {P : Program} {sl sl2 e : TypeId} {sz bz : Nat} {z : Value} {d : Option Tmp} {op : Oper} {a : Act} {w : World} {K : Act → World → Prop} {Q : Exit → Act → World → Prop} (s x : Operand) (hd : op.dst = d)
    (ho : op.op = .call { callee := .builtin .append, args := #[s, x], argTypes := #[sl, sl2] })
    (hu : P.underlying sl = some (.slice e)) (hinf : (P.info? e).map (fun i => (i.zero, i.size, i.bytes)) = some (some z, sz, bz)) (hz : z.cells.size = sz) (hsz : 0 < sz) (hbz : bz ≤ 64)
    {v vx : Value} {n m : Nat} {cs ys : List Value} (hs : a.eval s = v) (hv : a.eval x = vx) (h : Gs e sz w v n cs) (hx : Src P sz sl2 vx m ys w) (hm : n + m ≤ 1000000)
    (hK : ∀ v' w', Gs e sz w' v' (n + m) (cs ++ ys) → Turned (fun k => blkOf v = some k) w w' → (∀ k, blkOf v' = some k → blkOf v = some k ∨ w.heap.size ≤ k) → K (a.put d v') w') : op.wp P a w K Q := by
  subst hd
  obtain ⟨v', w', hrun, r1, r2, r3⟩ := run_append_g hu hinf hz hsz hbz h hx hm op.type
  unfold Oper.wp
  simp [execOp, ho, resolve, invoke, builtin, hs, hv, hrun, Result.andThen]
  exact hK v' w' r1 r2 r3
end Go.Proofs.YthjdfneibogcgaaDoor
