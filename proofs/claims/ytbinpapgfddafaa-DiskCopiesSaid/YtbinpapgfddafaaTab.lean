/-
  Layer 8: what a world holds where a disk lies: blocks known whole; slices of bytes, also ones that may be grown in place; append onto them; a map of sectors.
-/
import Derived.Test.YtbinpapgfddafaaRows
import Derived.Test.YtbinpapgfddafaaMath
import Derived.WalkKit
import Derived.Below
import Derived.Maps.Ext
import Derived.Maps.OwnSet
import Derived.Maps.RangeWalk
import Derived.Lib.SlKeysI
import Derived.Laws.Rows
import Derived.Laws.Tables
import Derived.Laws.NewBlocks
import Derived.Laws.AppendOwn
import Derived.Deep.MidRow
import Derived.Deep.WholeRow
import Derived.Deep.Draws
import Derived.Deep.AppendSrc
namespace Go.Proofs.Ytbinpapgfddafaa
open Go.RowKit

/-- A number that is no negative one. -/
def natI : Value → Nat | .int _ q => q.toNat | _ => 0
/-! ### worlds that turn in some blocks alone -/
structure Turned (F : Nat → Prop) (w w' : World) : Prop where
  os : w'.os = w.os
  tape : w'.tape = w.tape
  output : w'.output = w.output
  size : w.heap.size ≤ w'.heap.size
  block : ∀ k, k < w.heap.size → ¬ F k → w'.heap[k]? = w.heap[k]?

theorem Turned.refl (F : Nat → Prop) (w : World) : Turned F w w := ⟨rfl, rfl, rfl, Nat.le_refl _, fun _ _ _ => rfl⟩
theorem Turned.trans {F G : Nat → Prop} {a b c : World} (h : Turned F a b) (k : Turned G b c) (hG : ∀ x, G x → F x ∨ a.heap.size ≤ x) : Turned F a c :=
  ⟨k.os.trans h.os, k.tape.trans h.tape, k.output.trans h.output, Nat.le_trans h.size k.size, fun i hi hn =>
    (k.block i (Nat.lt_of_lt_of_le hi h.size) (fun hm => by rcases hG i hm with h' | h'; exact hn h'; omega)).trans (h.block i hi hn)⟩
theorem Turned.mono {F G : Nat → Prop} {a b : World} (h : Turned F a b) (hG : ∀ x, F x → G x) : Turned G a b :=
  ⟨h.os, h.tape, h.output, h.size, fun k hk hn => h.block k hk (fun hm => hn (hG k hm))⟩
theorem Turned.of_below {w w' : World} (h : Below w.heap.size w w') (F : Nat → Prop) : Turned F w w' := ⟨h.os, h.tape, h.output, h.size, fun k hk _ => h.block k hk⟩
theorem Turned.of_grown {w w' : World} {row : Option Nat} (h : w.grownBy w' row) {F : Nat → Prop} (hr : ∀ k, row = some k → F k) : Turned F w w' :=
  ⟨h.os, h.tape, h.output, h.size, fun k hk hn => h.block k hk (fun e => hn (hr k e.symm))⟩
theorem Turned.alloc {F : Nat → Prop} {a w : World} (h : Turned F a w) (o : Obj) : Turned F a (w.alloc o) :=
  h.trans (G := fun _ => False) ⟨rfl, rfl, rfl, by simp, fun k hk _ => Below.heap_alloc _ _ _ hk⟩ (fun x hx => hx.elim)
theorem Turned.drew {F : Nat → Prop} {a w : World} (h : Turned F a w) : Turned F a w.drew := ⟨h.os, h.tape, h.output, h.size, h.block⟩
theorem Turned.setCell {F : Nat → Prop} {a w : World} (h : Turned F a w) {p : Addr} (hp : F p.block ∨ a.heap.size ≤ p.block) (u : Value) : Turned F a (w.setCell p u) :=
  h.trans (G := fun k => k = p.block) ⟨rfl, rfl, rfl, by simp [World.setCell], fun k _ hn => Below.heap_setCell _ _ _ _ hn⟩ (fun x hx => by subst hx; exact hp)
theorem Turned.below {F : Nat → Prop} {w w' : World} (h : Turned F w w') {B : Nat} (hB : B ≤ w.heap.size) (hF : ∀ k, F k → B ≤ k) : Below B w w' :=
  ⟨h.os, h.tape, h.output, h.size, fun k hk => h.block k (by omega) (fun hm => by have := hF k hm; omega)⟩
theorem below_drewN (B : Nat) (w : World) (n : Nat) : Below B w (w.drewN n) := ⟨rfl, rfl, rfl, Nat.le_refl _, fun _ _ => rfl⟩
/-- A block known whole stays where it is not turned. -/
theorem Turned.keep {F : Nat → Prop} {w w' : World} (h : Turned F w w') {k : Nat} {o : Obj} (hk : w.heap[k]? = some o) (hn : ¬ F k) : w'.heap[k]? = some o :=
  (h.block k (Array.getElem?_eq_some_iff.1 hk).1 hn).trans hk
theorem Turned.row {F : Nat → Prop} {w w' : World} (h : Turned F w w') {base : Nat} {e : TypeId} {size n : Nat} {v : Value} {xs : List Value} (ho : w.ownsRow base e size v n xs) (hn : ∀ g, v.ownBlock = some g → ¬ F g) : w'.ownsRow base e size v n xs := by
  refine ⟨ho.1, ?_⟩
  rcases ho.2 with hnil | ⟨g, cap, cur, rfl, hb, hgg, rest⟩
  · exact .inl hnil
  · exact .inr ⟨g, cap, cur, rfl, hb, h.keep hgg (hn g rfl), rest⟩

theorem Turned.map {F : Nat → Prop} {w w' : World} {H : Type} {P : Program} {k : TypeId} {R : Value → Option (DataW H × List MemPlace)} {b n : Nat} {D : DataW H} (h : Turned F w w') (ho : w.ownsMap P k R b n D) (hn : ¬ F b) : w'.ownsMap P k R b n D := by
  obtain ⟨es, clock, hb, r⟩ := ho
  exact ⟨es, clock, h.keep hb hn, r⟩
def bv (l : List Int) : List Value := l.map (Value.int .u8)
theorem bv_length (l : List Int) : (bv l).length = l.length := by simp [bv]
theorem bv_at (l : List Int) (i : Nat) : (bv l)[i]? = l[i]?.map (Value.int .u8) := by simp [bv]
theorem bv_one (l : List Int) : ∀ u ∈ bv l, u.oneCell' = true := by
  intro u hu
  obtain ⟨x, _, rfl⟩ := List.mem_map.1 hu
  rfl
theorem add_lit (g o i : Nat) : (⟨g, o, none⟩ : Addr).add i = ⟨g, o + i, none⟩ := by unfold Addr.add; split <;> simp_all

/-- A block known whole. -/
def Blk (w : World) (b : Nat) (cs : Array Value) (ty : TypeId) : Prop := w.heap[b]? = some (.cells cs ty (0, 0))
section
variable {w w' : World} {b : Nat} {cs : Array Value} {ty : TypeId}
theorem Blk.lt (h : Blk w b cs ty) : b < w.heap.size := (Array.getElem?_eq_some_iff.1 h).1
theorem Blk.keep (h : Blk w b cs ty) (hk : w'.heap[b]? = w.heap[b]?) : Blk w' b cs ty := hk.trans h
theorem Blk.below (h : Blk w b cs ty) (hb : Below w.heap.size w w') : Blk w' b cs ty := h.keep (hb.block _ h.lt)
theorem Blk.below' {B : Nat} (h : Blk w b cs ty) (hb : Below B w w') (hB : b < B) : Blk w' b cs ty := h.keep (hb.block _ hB)
theorem Blk.turned {F : Nat → Prop} (h : Blk w b cs ty) (ht : Turned F w w') (hn : ¬ F b) : Blk w' b cs ty := ht.keep h hn
theorem Blk.drew (h : Blk w b cs ty) : Blk w.drew b cs ty := h
theorem Blk.alloc (h : Blk w b cs ty) (o : Obj) : Blk (w.alloc o) b cs ty := h.keep (Below.heap_alloc _ _ _ h.lt)
theorem blk_new (w : World) (cs : Array Value) (ty : TypeId) : Blk (w.alloc (.cells cs ty)) w.heap.size cs ty := heap_alloc_new w _
theorem Blk.cell (h : Blk w b cs ty) (j : Nat) : w.cell? ⟨b, j, none⟩ = cs[j]? := cell_of_row w b j cs ty (0, 0) h
theorem Blk.frozen (h : Blk w b cs ty) (j : Nat) : w.frozen? ⟨b, j, none⟩ = false := by unfold Blk at h; simp [World.frozen?, h]
theorem Blk.range (h : Blk w b cs ty) (o : Nat) (l : List Value) (hl : (cs.toList.drop o).take l.length = l) : w.rangeAt b o l := fun j v hj => by
  have hlt := (List.getElem?_eq_some_iff.1 hj).1
  rw [h.cell, ← hj]
  have : l[j]? = ((cs.toList.drop o).take l.length)[j]? := by rw [hl]
  rw [this, List.getElem?_take, if_pos hlt, List.getElem?_drop]; simp
theorem Blk.there (h : Blk w b cs ty) (o n : Nat) (hn : o + n ≤ cs.size) : w.there b o n := fun j hj =>
  ⟨by rw [h.cell, Array.getElem?_eq_getElem (by omega)]; rfl, h.frozen _⟩
/-- A whole block is written anew. -/
theorem Blk.set (h : Blk w b cs ty) (cs' : Array Value) : Blk (w.setRow b cs') b cs' ty := setRow_heap w b cs cs' ty (0, 0) h
theorem Blk.setOther (h : Blk w b cs ty) {g : Nat} (hg : b ≠ g) (cs' : Array Value) : Blk (w.setRow g cs') b cs ty := (setRow_other w g b cs' hg).trans h
theorem Blk.setCell (h : Blk w b cs ty) (j : Nat) (v : Value) : Blk (w.setCell ⟨b, j, none⟩ v) b (cs.setIfInBounds j v) ty := heap_setCell_same w b j _ _ _ h
theorem Blk.setCells : ∀ (vs : List Value) (o : Nat) {w : World} {cs : Array Value}, Blk w b cs ty → o + vs.length ≤ cs.size → Blk (w.setCells b o vs) b (cs.toList.take o ++ (vs ++ cs.toList.drop (o + vs.length))).toArray ty
  | [], o, w, cs, h, _ => by simpa [World.setCells, List.take_append_drop] using h
  | v :: vs, o, w, cs, h, hl => by
    have h1 := Blk.setCells vs (o + 1) (h.setCell o v) (by simp at hl ⊢; omega)
    simp only [World.setCells]
    refine Eq.trans h1 ?_
    congr 3
    simp only [List.length_cons] at hl
    have hlen : o < cs.toList.length := by simp; omega
    have e1 : (cs.setIfInBounds o v).toList = cs.toList.set o v := by simp
    rw [e1, List.take_set, List.drop_set, if_pos (by omega)]
    rw [List.take_succ_eq_append_getElem (by simpa using hlen), List.set_append, if_neg (by simp; omega)]
    simp [show min o cs.size = o by omega, Nat.add_assoc, Nat.add_comm 1]
end
theorem turned_setRow (w : World) (g : Nat) (cs : Array Value) : Turned (fun k => k = g) w (w.setRow g cs) :=
  ⟨rfl, rfl, rfl, by simp, fun k _ hn => setRow_other w g k cs hn⟩
theorem turned_setCells (b : Nat) : ∀ (vs : List Value) (o : Nat) (w : World), Turned (fun k => k = b) w (w.setCells b o vs)
  | [], _, w => Turned.refl _ w
  | v :: vs, o, w => by
    rw [World.setCells]
    exact ((Turned.refl (fun k => k = b) w).setCell (p := ⟨b, o, none⟩) (.inl rfl) v).trans (turned_setCells b vs (o + 1) _) (fun x (hx : x = b) => .inl hx)

/-! ### a slice of bytes -/
/-- A slice of one-cell integers. -/
def NumsIn (k : IntKind) (w : World) (v : Value) (xs : List Int) : Prop :=
  (v = .slice none 0 0 ∧ xs = []) ∨ ∃ (a : Addr) (c : Nat), v = .slice (some a) xs.length c ∧ xs.length ≤ c ∧ xs.length ≤ maxLen ∧ (∀ (i : Nat) x, xs[i]? = some x → w.cell? (a.add i) = some (.int k x)) ∧ ∀ x ∈ xs, (Lit.int k x).wf = true
theorem NumsIn.byt {w : World} {v : Value} {xs : List Int} (h : NumsIn .u8 w v xs) : Byt xs := by
  rcases h with ⟨_, rfl⟩ | ⟨a, c, _, _, _, _, h⟩
  · intro x hx; cases hx
  · exact fun x hx => u8_of_wf (h x hx)
theorem NumsIn.below {k : IntKind} {w w' : World} {v : Value} {xs : List Int} (h : NumsIn k w v xs) (hb : Below w.heap.size w w') : NumsIn k w' v xs := by
  rcases h with h | ⟨a, c, h1, h2, h3, h4, h5⟩
  · exact .inl h
  · refine .inr ⟨a, c, h1, h2, h3, fun i x hi => ?_, h5⟩
    have h6 := h4 i x hi
    have := World.block_lt_of_cell? _ _ h6
    unfold World.cell? at h6 ⊢
    rw [hb.block _ this]; exact h6
theorem NumsIn.form {k : IntKind} {w : World} {v : Value} {xs : List Int} (h : NumsIn k w v xs) : ∃ (o : Option Addr) (c : Nat), v = .slice o xs.length c ∧ xs.length ≤ c ∧ xs.length ≤ maxLen ∧ ∀ (i : Nat), i < xs.length → ∃ a, o = some a ∧ w.cell? (a.add i) = some (.int k (at0 xs i)) := by
  rcases h with ⟨rfl, rfl⟩ | ⟨a, c, h1, h2, h3, h4, h5⟩
  · exact ⟨none, 0, rfl, Nat.le_refl _, by simp, fun i hi => by simp at hi⟩
  · exact ⟨some a, c, h1, h2, h3, fun i hi => ⟨a, rfl, h4 i _ (at0_lt hi)⟩⟩
/-- A slice of bytes as a string. -/
theorem str_conv {w : World} {v : Value} {xs : List Int} (h : NumsIn .u8 w v xs) : (convert 22 9 v).run Try.prog w = .ok (.string (strOfNums xs)) w := by
  rcases h with ⟨rfl, rfl⟩ | ⟨a, c, rfl, _, _, h4, _⟩
  · rw [run_convert_bytes_nil w 22 5 Try.underlying22 Try.underlying5 0 0 9 Try.underlying9]
    rfl
  · have hl : (loadCells a xs.length).run Try.prog w = .ok (xs.map (Value.int .u8)).toArray w := by
      have := run_loadCells_list (P := Try.prog) w a (xs.map (Value.int .u8)) (fun j v hj => by
        rw [List.getElem?_map] at hj
        obtain ⟨x, hx, rfl⟩ := Option.map_eq_some_iff.1 hj
        exact h4 j x hx)
      simpa using this
    rw [run_convert_bytes_string w 22 9 5 _ xs.length c Try.underlying22 Try.underlying5 Try.underlying9, run_bytesToString w _ xs.length c xs hl, foldl_push_bytes]
    simp [strOfNums, ByteArray.empty, ByteArray.emptyWithCapacity]
    rfl

/-! ### a slice of bytes that may be grown in place -/
theorem bv_append (a b : List Int) : bv (a ++ b) = bv a ++ bv b := by simp [bv]
/-- The block that a slice may be grown in: none, if it has no capacity. -/
def blkOf : Value → Option Nat
  | .slice (some a) _ c => if c = 0 then none else some a.block
  | _ => none
def Qs (w : World) (v : Value) (xs : List Int) : Prop :=
  Byt xs ∧ ∃ (ao : Option Addr) (c : Nat), v = .slice ao xs.length c ∧ xs.length ≤ c ∧ c ≤ maxLen ∧
    (0 < c → ∃ g o cur, ao = some ⟨g, o, none⟩ ∧ Blk w g cur 5 ∧ o + c ≤ cur.size ∧ (cur.toList.drop o).take xs.length = bv xs)
section
variable {w w' : World} {v : Value} {xs : List Int}
theorem Qs.byt (h : Qs w v xs) : Byt xs := h.1
theorem Qs.nil (w : World) : Qs w (.slice none 0 0) [] := ⟨fun x hx => (by cases hx), none, 0, rfl, Nat.le_refl _, by simp [maxLen], fun h => by omega⟩
theorem Qs.empty (w : World) (ao : Option Addr) : Qs w (.slice ao 0 0) [] := ⟨fun x hx => (by cases hx), ao, 0, rfl, Nat.le_refl _, by simp [maxLen], fun h => by omega⟩
theorem Qs.shape (h : Qs w v xs) : ∃ ao c, v = .slice ao xs.length c ∧ xs.length ≤ c := by
  obtain ⟨_, ao, c, h1, h2, _⟩ := h
  exact ⟨ao, c, h1, h2⟩
theorem Qs.in_ (h : Qs w v xs) {k : Nat} (hk : blkOf v = some k) : ∃ cur, Blk w k cur 5 := by
  obtain ⟨_, ao, c, rfl, h2, h3, h4⟩ := h
  cases ao with
  | none => simp [blkOf] at hk
  | some a =>
    simp [blkOf] at hk
    obtain ⟨g, o, cur, e1, e2, _⟩ := h4 (by omega)
    obtain ⟨_, rfl⟩ := hk
    simp at e1
    subst e1
    exact ⟨cur, e2⟩
theorem Qs.lt (h : Qs w v xs) {k : Nat} (hk : blkOf v = some k) : k < w.heap.size := by
  obtain ⟨cur, hc⟩ := h.in_ hk
  exact hc.lt
/-- It is no block of another type. -/
theorem Qs.ne (h : Qs w v xs) {S : Nat} {cs : Array Value} {ty : TypeId} (hS : Blk w S cs ty) (ht : ty ≠ 5) {k : Nat} (hk : blkOf v = some k) : k ≠ S := by
  rintro rfl
  obtain ⟨cur, hc⟩ := h.in_ hk
  unfold Blk at hS hc
  rw [hS] at hc
  simp at hc
  exact ht hc.2
theorem Qs.keep (h : Qs w v xs) (hk : ∀ k, blkOf v = some k → w'.heap[k]? = w.heap[k]?) : Qs w' v xs := by
  obtain ⟨h0, ao, c, rfl, h2, h3, h4⟩ := h
  refine ⟨h0, ao, c, rfl, h2, h3, fun hc => ?_⟩
  obtain ⟨g, o, cur, rfl, e2, e3⟩ := h4 hc
  exact ⟨g, o, cur, rfl, e2.keep (hk g (by simp [blkOf]; omega)), e3⟩
theorem Qs.turned {F : Nat → Prop} (h : Qs w v xs) (ht : Turned F w w') (hn : ∀ k, blkOf v = some k → ¬ F k) : Qs w' v xs := h.keep fun k hk => ht.block k (h.lt hk) (hn k hk)
theorem Qs.below (h : Qs w v xs) (hb : Below w.heap.size w w') : Qs w' v xs := h.keep fun k hk => hb.block k (h.lt hk)
theorem Qs.nums (h : Qs w v xs) : NumsIn .u8 w v xs := by
  obtain ⟨h0, ao, c, rfl, h2, h3, h4⟩ := h
  by_cases hc : 0 < c
  · obtain ⟨g, o, cur, rfl, e2, e3, e4⟩ := h4 hc
    refine .inr ⟨_, c, rfl, h2, by omega, fun i x hi => ?_, fun x hx => wf_of_u8 (h0 x hx)⟩
    have hil : i < xs.length := (List.getElem?_eq_some_iff.1 hi).1
    rw [add_lit, e2.cell]
    have h5 : (bv xs)[i]? = some (.int .u8 x) := by rw [bv_at, hi]; rfl
    rw [← e4, List.getElem?_take, if_pos hil, List.getElem?_drop] at h5
    simpa using h5
  · obtain rfl : c = 0 := by omega
    have : xs.length = 0 := by omega
    obtain rfl : xs = [] := List.eq_nil_of_length_eq_zero this
    cases ao with
    | none => exact .inl ⟨rfl, rfl⟩
    | some a => exact .inr ⟨a, 0, rfl, Nat.le_refl _, by simp, fun i x hi => by simp at hi, fun x hx => by cases hx⟩
/-- A literal. -/
theorem Qs.lit (w : World) {xs : List Int} (hb : Byt xs) (hm : xs.length ≤ maxLen) : Qs (w.alloc (.cells (bv xs).toArray 5)) (.slice (some ⟨w.heap.size, 0, none⟩) xs.length xs.length) xs :=
  ⟨hb, _, _, rfl, Nat.le_refl _, hm, fun _ => ⟨_, 0, _, rfl, blk_new _ _ _, by simp [bv], by simp [bv, List.take_of_length_le]⟩⟩
/-- The first byte is cut off. -/
theorem Qs.tail {x : Int} (h : Qs w v (x :: xs)) : ∃ (g o c : Nat), v = .slice (some ⟨g, o, none⟩) (xs.length + 1) (c + 1) ∧ xs.length ≤ c ∧ c ≤ maxLen ∧ w.cell? ⟨g, o, none⟩ = some (.int .u8 x) ∧
    Qs w (.slice (if c = 0 then some ⟨g, o, none⟩ else some ⟨g, o + 1, none⟩) xs.length c) xs := by
  obtain ⟨h0, ao, c, rfl, h2, h3, h4⟩ := h
  simp only [List.length_cons] at h2 h4 ⊢
  obtain ⟨g, o, cur, rfl, e2, e3, e4⟩ := h4 (by omega)
  obtain ⟨c, rfl⟩ : ∃ d, c = d + 1 := ⟨c - 1, by omega⟩
  have hx : cur.toList.drop o = .int .u8 x :: cur.toList.drop (o + 1) := by
    have hl : o < cur.toList.length := by simp; omega
    rw [List.drop_eq_getElem_cons hl] at e4 ⊢
    simp [bv] at e4
    simp [e4.1]
  refine ⟨g, o, c, rfl, by omega, by omega, ?_, fun y hy => h0 y (by simp [hy]), _, c, rfl, by omega, by omega, fun hc => ⟨g, o + 1, cur, by rw [if_neg (by omega)], e2, by omega, ?_⟩⟩
  · rw [e2.cell]
    have : (cur.toList.drop o)[0]? = some (.int .u8 x) := by rw [hx]; rfl
    rw [List.getElem?_drop] at this
    simpa using this
  · rw [hx] at e4
    simpa [bv] using e4
end
theorem A.infoB : (Try.prog.info? 5).map (fun i => (i.zero, i.size, i.bytes)) = some (some (.int .u8 0), 1, 1) := by kernel_rfl
/-- What is appended: a slice of bytes. -/
theorem NumsIn.src {w : World} {v : Value} {xs : List Int} (h : NumsIn .u8 w v xs) : Src Try.prog 1 22 v xs.length (bv xs) w := by
  rcases h with ⟨rfl, rfl⟩ | ⟨a, c, rfl, _, _, h4, _⟩
  · exact Src.ofNil w Try.underlying22 0
  · refine Src.ofSlice w Try.underlying22 a xs.length c (bv xs) (by simp [bv]) (fun j u hj => ?_) (bv_one xs)
    rw [bv_at] at hj
    obtain ⟨x, hx, rfl⟩ := Option.map_eq_some_iff.1 hj
    exact h4 j x hx
/-- Bytes are appended: in place, or in a new row. -/
theorem run_append_q {w : World} {v vx : Value} {xs ys : List Int} (h : Qs w v xs) (hx : NumsIn .u8 w vx ys) (hm : xs.length + ys.length ≤ 1000000) (ty : TypeId) :
    ∃ v' w', (Builtin.append_ #[22, 22] ty #[v, vx]).run Try.prog w = .ok v' w' ∧ Qs w' v' (xs ++ ys) ∧ Turned (fun k => blkOf v = some k) w w' ∧ (∀ k, blkOf v' = some k → blkOf v = some k ∨ w.heap.size ≤ k) := by
  obtain ⟨i0, hi, hz0, hz1, hz2⟩ := info_parts A.infoB
  have hs := hx.src
  have hby : Byt (xs ++ ys) := h.byt.append hx.byt
  obtain ⟨_, ao, c, rfl, h2, h3, h4⟩ := h
  have hl : (xs ++ ys).length = xs.length + ys.length := List.length_append
  rw [← hz1] at hs
  by_cases hfit : xs.length + ys.length ≤ c
  · by_cases hc : 0 < c
    · obtain ⟨g, o, cur, rfl, e2, e3, e4⟩ := h4 hc
      have hcell : ∀ j, j < (bv ys).length → w.cell? ⟨g, o + xs.length * i0.size + j, none⟩ = some (cur[o + xs.length + j]!) ∧ w.frozen? ⟨g, o + xs.length * i0.size + j, none⟩ = false := fun j hj => by
        rw [bv_length] at hj
        refine ⟨?_, e2.frozen _⟩
        rw [hz1, Nat.mul_one, e2.cell]
        rw [Array.getElem?_eq_getElem (by omega)]
        simp [show o + xs.length + j < cur.size by omega]
      have hrun := run_append_room_src (P := Try.prog) w 22 22 ty 5 i0 Try.underlying22 hi g o xs.length c vx ys.length (bv ys) hs hfit (fun j hj => by rw [(hcell j hj).1]; rfl) (fun j hj => (hcell j hj).2)
      rw [hz1, Nat.mul_one] at hrun
      refine ⟨_, _, hrun, ⟨hby, _, c, by rw [hl], by rw [hl]; exact hfit, h3, fun _ => ⟨g, o, _, rfl, Blk.setCells (bv ys) (o + xs.length) e2 (by rw [bv_length]; omega), ?_, ?_⟩⟩, (turned_setCells g _ _ w).mono (fun k e => by simp [blkOf]; exact ⟨by omega, e.symm⟩), ?_⟩
      · simp [bv_length]; omega
      · have e5 : (cur.toList.take (o + xs.length)).drop o = bv xs := by rw [List.drop_take]; simpa using e4
        show List.take (xs ++ ys).length (List.drop o (cur.toList.take (o + xs.length) ++ (bv ys ++ cur.toList.drop (o + xs.length + (bv ys).length)))) = bv (xs ++ ys)
        rw [List.drop_append_of_le_length (by simp; omega), e5, bv_append, ← List.append_assoc, List.take_append_of_le_length (by simp [bv_length]), List.take_of_length_le (by simp [bv_length])]
      · intro k hk
        left
        simpa [blkOf] using hk
    · obtain rfl : c = 0 := by omega
      obtain rfl : ys = [] := List.eq_nil_of_length_eq_zero (by omega)
      obtain rfl : xs = [] := List.eq_nil_of_length_eq_zero (by omega)
      have hrun : (Builtin.append_ #[22, 22] ty #[.slice ao 0 0, vx]).run Try.prog w = .ok (.slice ao 0 0) w := by
        have hk := hs.cells
        simp only [List.length_nil] at hk
        have hn := hs.len
        cases ao <;> simp [Builtin.append_, run_underlying Try.underlying22, sizeOf, typeInfo, hi, hn, hk, storeCells, bv]
      exact ⟨_, w, hrun, Qs.empty w ao, Turned.refl _ _, fun k hk => .inl hk⟩
  · have hold : (Builtin.firstCells i0.size xs.length (.slice ao xs.length c)).run Try.prog w.drew = .ok (bv xs).toArray w.drew := by
      by_cases hc : 0 < c
      · obtain ⟨g, o, cur, rfl, e2, e3, e4⟩ := h4 hc
        refine run_firstCells_some w.drew i0.size xs.length ⟨g, o, none⟩ xs.length c (bv xs) (by rw [hz1]; simp [bv]) (fun j u hu => ?_)
        have hj : j < xs.length := by have := (List.getElem?_eq_some_iff.1 hu).1; simpa [bv] using this
        rw [add_lit]
        show w.cell? _ = _
        rw [e2.cell]
        rw [← e4, List.getElem?_take, if_pos hj, List.getElem?_drop] at hu
        simpa using hu
      · obtain rfl : c = 0 := by omega
        obtain rfl : xs = [] := List.eq_nil_of_length_eq_zero (by omega)
        cases ao with
        | none => exact run_firstCells_none w.drew i0.size 0 0 0
        | some a' => exact run_firstCells_some w.drew i0.size 0 a' 0 0 [] (by simp) (by intro _ _ h'; simp at h')
    have hrun := run_append_grow_src (P := Try.prog) w 22 22 ty 5 i0 (.int .u8 0) Try.underlying22 hi hz0 ao xs.length c (bv xs) hold vx ys.length (bv ys) hs (by omega) (by omega) (growslice_fits (by omega) (by rw [hz2]; omega))
    have hge := grownCap_ge w (xs.length + ys.length) c 5
    have hcm := grownCap_le_maxLen w (xs.length + ys.length) c 5 (by unfold maxLen; omega)
    refine ⟨_, _, hrun, ⟨hby, _, _, by rw [hl], by rw [hl]; exact hge, hcm, fun _ => ⟨w.heap.size, 0, _, rfl, blk_new w.drew _ _, ?_, ?_⟩⟩, (Turned.refl _ w).drew.alloc _, fun k hk => ?_⟩
    · simp [size_zeroCells, bv_length, Value.cells]; omega
    · rw [hl]; simp only [bv, List.drop_zero, Array.toList_append, List.map_append]
      rw [List.take_append_of_le_length (by simp), List.take_of_length_le (by simp)]
    · right
      unfold blkOf at hk
      simp only at hk
      split at hk
      · cases hk
      · simp at hk; omega
/-- .. at the walk. -/
theorem wp_append_q {ops : Array Oper} {rest : List Oper} {o : Oper} {a : Act} {Q : Exit → Act → World → Prop} {w : World} (hgd : o.guard = none) (s x : Operand)
    (ho : o.op = .call { callee := .builtin .append, args := #[s, x], argTypes := #[22, 22] })
    {v vx : Value} {xs ys : List Int} (hs : a.eval s = v) (hv : a.eval x = vx) (h : Qs w v xs) (hx : NumsIn .u8 w vx ys) (hm : xs.length + ys.length ≤ 1000000)
    (hK : ∀ v' w', Qs w' v' (xs ++ ys) → Turned (fun k => blkOf v = some k) w w' → (∀ k, blkOf v' = some k → blkOf v = some k ∨ w.heap.size ≤ k) → wpList Try.prog ops Q rest (a.put o.dst v') w') : wpList Try.prog ops Q (o :: rest) a w := by
  refine wpList_plain hgd fun K hK' => ?_
  obtain ⟨v', w', hrun, r1, r2, r3⟩ := run_append_q h hx hm o.type
  unfold Oper.wp
  simp [execOp, ho, resolve, invoke, builtin, hs, hv, hrun, Result.andThen]
  exact hK' _ _ (hK v' w' r1 r2 r3)

/-! ### what a slice reads -/
/-- The block that a slice reads. -/
def rdBlk : Value → Option Nat
  | .slice (some a) n _ => if n = 0 then none else some a.block
  | _ => none
section
variable {w w' : World}
theorem NumsIn.keep {k : IntKind} {xs : List Int} {v : Value} (h : NumsIn k w v xs) (hk : ∀ b, rdBlk v = some b → w'.heap[b]? = w.heap[b]?) : NumsIn k w' v xs := by
  rcases h with h | ⟨a, c, rfl, h2, h3, h4, h5⟩
  · exact .inl h
  · refine .inr ⟨a, c, rfl, h2, h3, fun i x hi => ?_, h5⟩
    have h6 := h4 i x hi
    have hil : i < xs.length := (List.getElem?_eq_some_iff.1 hi).1
    have hb : (a.add i).block = a.block := by unfold Addr.add; split <;> rfl
    have := hk a.block (by simp [rdBlk]; intro e; rw [e] at hil; simp at hil)
    unfold World.cell? at h6 ⊢
    rw [hb] at h6 ⊢
    rw [this]; exact h6
theorem NumsIn.lt {k : IntKind} {xs : List Int} {v : Value} (h : NumsIn k w v xs) {b : Nat} (hb : rdBlk v = some b) : b < w.heap.size := by
  rcases h with ⟨rfl, _⟩ | ⟨a, c, rfl, h2, h3, h4, h5⟩
  · simp [rdBlk] at hb
  · simp [rdBlk] at hb
    obtain ⟨h0, rfl⟩ := hb
    have hl : 0 < xs.length := List.length_pos_iff.2 h0
    have h6 := h4 0 _ (List.getElem?_eq_getElem hl)
    have := World.block_lt_of_cell? _ _ h6
    have hb : (a.add 0).block = a.block := by unfold Addr.add; split <;> rfl
    omega
theorem Qs.rd {xs : List Int} {v : Value} (h : Qs w v xs) {k : Nat} (hk : rdBlk v = some k) : blkOf v = some k := by
  obtain ⟨_, ao, c, rfl, h2, h3, h4⟩ := h
  cases ao with
  | none => simp [rdBlk] at hk
  | some a =>
    simp [rdBlk] at hk
    have : 0 < xs.length := List.length_pos_iff.2 hk.1
    simp [blkOf]; exact ⟨by omega, hk.2⟩
theorem NumsIn.one {v : Value} {xs : List Int} {k : IntKind} (h : NumsIn k w v xs) : v.oneCell' = true := by
  obtain ⟨o, c, rfl, _⟩ := h.form
  rfl
theorem NumsIn.turned {k : IntKind} {xs : List Int} {v : Value} {F : Nat → Prop} (h : NumsIn k w v xs) (ht : Turned F w w') (hn : ∀ b, rdBlk v = some b → ¬ F b) : NumsIn k w' v xs := h.keep fun b hb => ht.block b (h.lt hb) (hn b hb)
/-- It reads no block that holds no bytes. -/
theorem NumsIn.not_in {k : IntKind} {xs : List Int} {v : Value} (h : NumsIn k w v xs) {S : Nat} (hS : ∀ j x, w.cell? ⟨S, j, none⟩ ≠ some (.int k x)) {b : Nat} (hb : rdBlk v = some b) : b ≠ S := by
  rintro rfl
  rcases h with ⟨rfl, _⟩ | ⟨a, c, rfl, h2, h3, h4, h5⟩
  · simp [rdBlk] at hb
  · simp [rdBlk] at hb
    obtain ⟨h0, rfl⟩ := hb
    have hl : 0 < xs.length := List.length_pos_iff.2 h0
    have h6 := h4 0 _ (List.getElem?_eq_getElem hl)
    have e : a.add 0 = a := by unfold Addr.add; split <;> simp_all
    rw [e] at h6
    obtain ⟨g, o, s⟩ := a
    cases s with
    | none => exact hS _ _ h6
    | some s => simp [World.cell?] at h6; split at h6 <;> cases h6
end

/-! ### a disk -/
/-- An element of the map, as it is held. -/
def hv (v : Value) : Option (DataW Value × List MemPlace) := some (.held v, [])
theorem hv_at (v : Value) : hv v = some (.held v, []) := rfl
theorem hv_inv {v u : Value} {ps : List MemPlace} (h : hv v = some (.held u, ps)) : v = u := by simpa [hv] using congrArg (fun z => z.map Prod.fst) h
theorem numLaw : Maps.Keyed Try.prog 3 := Maps.int_keyed Try.underlying3
theorem key_int {x : Int} (h : (Lit.int .i64 x).wf = true) : keyOf Try.prog 3 (.int .i64 x) = some (.int .i64 x) := Maps.keyOf_int_mk Try.underlying3 h
theorem isKey (x : Int) : WideAt.IsKeyLit (Lit.int .i64 x) := trivial
/-- A sector as cells, as a value. -/
def sc (x : List Int) : Array Value := (bv x).toArray
abbrev sv (x : List Int) : Value := .agg (sc x)
theorem sc_size {x : List Int} (h : x.length = 64) : (sc x).size = 64 := by simp [sc, bv, h]
theorem sc_toList (x : List Int) : (sc x).toList = bv x := rfl
theorem sc_one (x : List Int) : (sc x).all (·.oneCell') = true := all_oneCell_toArray (bv_one x)
theorem sc_at {x : List Int} {i : Nat} (h : i < x.length) : (sc x)[i]? = some (.int .u8 (at0 x i)) := by
  simp only [sc, List.getElem?_toArray]
  rw [bv_at, at0_lt h]; rfl
theorem sc_inj {x y : List Int} (h : sc x = sc y) : x = y := by
  have h1 : bv x = bv y := congrArg Array.toList h
  exact (List.map_inj_right (fun a b e => by simpa using e)).1 h1
theorem zero_sec (w : World) : (zeroValue 61).run Try.prog w = .ok (.agg (sc nou)) w := by kernel_rfl
theorem zero_arr (w : World) : (zeroValue 37).run Try.prog w = .ok (.agg (sc nou)) w := by kernel_rfl
/-- What a map holds: the used sectors' numbers, each leading to its bytes. -/
structure SecD (P : Nat) (b : List Int) (D : DataW Value) : Prop where
  has : ∀ k : Int, Maps.has D (.int .i64 k) = decide (0 ≤ k ∧ k.toNat ∈ uses b P)
  at_ : ∀ p : Nat, p ∈ uses b P → ∀ z, D.atKey (.int .i64 (p : Int)) z = .held (sv (sec b p))
structure DkIs (w : World) (S mb P : Nat) (b : List Int) (D : DataW Value) : Prop where
  dsk : Dsk P b
  blk : Blk w S #[.int .i64 (P : Int), .map (some mb)] 69
  map : w.ownsMap Try.prog 3 hv mb 32 D
  sd : SecD P b D
def dkF (S mb : Nat) (k : Nat) : Prop := k = S ∨ k = mb
/-- A DISK OF P SECTORS LIES AT BLOCK S; b: its bytes; F: the blocks that are its own. -/
def Dk (w : World) (S P : Nat) (b : List Int) (F : Nat → Prop) : Prop := ∃ mb D, F = dkF S mb ∧ DkIs w S mb P b D
section
variable {w w' : World} {S mb P : Nat} {b : List Int} {D : DataW Value} {F K : Nat → Prop}
theorem DkIs.mapBlk (h : DkIs w S mb P b D) : ∃ es k, w.heap[mb]? = some (.map es k) := by
  obtain ⟨es, k, hb, _⟩ := h.map
  exact ⟨es, k, hb⟩
theorem DkIs.ne (h : DkIs w S mb P b D) : S ≠ mb := by
  obtain ⟨e1, k1, h1⟩ := h.mapBlk
  rintro rfl
  have := h.blk
  unfold Blk at this
  rw [this] at h1; cases h1
theorem DkIs.lt (h : DkIs w S mb P b D) : ∀ k, dkF S mb k → k < w.heap.size := by
  obtain ⟨e1, k1, h1⟩ := h.mapBlk
  rintro k (rfl | rfl)
  · exact h.blk.lt
  · exact (Array.getElem?_eq_some_iff.1 h1).1
theorem Dk.lt (h : Dk w S P b F) : ∀ k, F k → k < w.heap.size := by
  obtain ⟨mb, D, rfl, h⟩ := h
  exact h.lt
theorem Dk.mem (h : Dk w S P b F) : F S := by
  obtain ⟨mb, D, rfl, h⟩ := h
  exact .inl rfl
theorem Dk.dsk (h : Dk w S P b F) : Dsk P b := by
  obtain ⟨mb, D, rfl, h⟩ := h
  exact h.dsk
theorem DkIs.keep (h : DkIs w S mb P b D) (hk : ∀ k, dkF S mb k → w'.heap[k]? = w.heap[k]?) : DkIs w' S mb P b D := by
  refine ⟨h.dsk, h.blk.keep (hk S (.inl rfl)), ?_, h.sd⟩
  obtain ⟨es, clock, hb, r⟩ := h.map
  exact ⟨es, clock, (hk mb (.inr rfl)).trans hb, r⟩
theorem Dk.keep (h : Dk w S P b F) (hk : ∀ k, F k → w'.heap[k]? = w.heap[k]?) : Dk w' S P b F := by
  obtain ⟨mb, D, rfl, h⟩ := h
  exact ⟨mb, D, rfl, h.keep hk⟩
theorem Dk.turned (h : Dk w S P b F) (ht : Turned K w w') (hd : ∀ k, F k → ¬ K k) : Dk w' S P b F := h.keep fun k hk => ht.block k (h.lt k hk) (hd k hk)
theorem Dk.below (h : Dk w S P b F) (hb : Below w.heap.size w w') : Dk w' S P b F := h.keep fun k hk => hb.block k (h.lt k hk)
theorem Dk.below' {B : Nat} (h : Dk w S P b F) (hb : Below B w w') (hB : ∀ k, F k → k < B) : Dk w' S P b F := h.keep fun k hk => hb.block k (hB k hk)
theorem Dk.alloc (h : Dk w S P b F) (o : Obj) : Dk (w.alloc o) S P b F := h.below ((Below.refl _ _).alloc (Nat.le_refl _) _)
theorem DkIs.cells (h : DkIs w S mb P b D) : w.cell? ⟨S, 0, none⟩ = some (.int .i64 (P : Int)) ∧ w.cell? ⟨S, 1, none⟩ = some (.map (some mb)) := by
  constructor <;> (rw [h.blk.cell]; rfl)
theorem Dk.cell (h : Dk w S P b F) : w.cell? ⟨S, 0, none⟩ = some (.int .i64 (P : Int)) := by
  obtain ⟨mb, D, rfl, h⟩ := h
  exact h.cells.1
/-- A slice of bytes lies apart from a disk. -/
theorem Dk.apart (h : Dk w S P b F) {v : Value} {xs : List Int} (hx : NumsIn .u8 w v xs) : ∀ k, rdBlk v = some k → ¬ F k := by
  obtain ⟨mb, D, rfl, h⟩ := h
  obtain ⟨es, ck, hm⟩ := h.mapBlk
  rintro k hk (e | e)
  · refine hx.not_in (S := S) (fun j x => ?_) hk e
    rw [h.blk.cell]
    rcases j with _ | _ | j
    · simp
    · simp
    · simp
  · refine hx.not_in (S := mb) (fun j x => ?_) hk e
    simp [World.cell?, hm]
theorem SecD.size (h : SecD P b D) {n : Nat} (hm : w.ownsMap Try.prog 3 hv mb n D) : Maps.size D = (uses b P).length ∧ (nat2int (uses b P)).Perm (intKeys D) := by
  obtain ⟨es, hD, hpw, _⟩ := hm.entries numLaw
  obtain ⟨es', hD', hko⟩ := hm.keysOf
  obtain rfl : es = es' := by rw [hD] at hD'; simpa using hD'
  subst hD
  have hp := perm_intKeys hpw (fun p hp => by obtain ⟨v, hv⟩ := hko p hp; obtain ⟨x, _, hx, _⟩ := Maps.keyOf_i64 Try.underlying3 hv; exact ⟨x, hx⟩) (uses_nodup b P) (fun x => by rw [h.has x, mem_nat2int]; simp)
  refine ⟨?_, hp⟩
  have := hp.length_eq
  rw [nat2int_len] at this
  rw [this]
  simp [Maps.size, intKeys]
end
theorem dk_new {w : World} {S mb P : Nat} (h0 : 1 ≤ P) (h1 : P ≤ 32) (hb : Blk w S #[.int .i64 (P : Int), .map (some mb)] 69) (hm : w.ownsMap Try.prog 3 hv mb 0 (DataW.map [])) : Dk w S P (nw P) (dkF S mb) :=
  ⟨mb, _, rfl, dsk_nw h0 h1, hb, hm.mono (by omega), ⟨fun k => by rw [uses_nw P P (Nat.le_refl _)]; simp [Maps.has], fun p hp => by rw [uses_nw P P (Nat.le_refl _)] at hp; cases hp⟩⟩
theorem infoS : (Try.prog.info? 61).map (·.size) = some 64 := by kernel_rfl
theorem infoA : (Try.prog.info? 37).map (·.size) = some 64 := by kernel_rfl

/-! ### stores of whole blocks, at the walk -/
section
variable {P : Program}
theorem wpList_store_blk {ops : Array Oper} {rest : List Oper} {o : Oper} {a : Act} {w : World} {Q : Exit → Act → World → Prop} (hgd : o.guard = none) (ty : TypeId) (x y : Operand) (ho : o.op = .store ty x y)
    (g : Nat) (cells old : Array Value) (hx : a.eval x = .pointer (some ⟨g, 0, none⟩)) (hy : a.eval y = .agg cells) (t : TypeId) (hg : Blk w g old t)
    (hi : (P.info? ty).map (·.size) = some cells.size) (hs : old.size = cells.size) (h1 : cells.all (·.oneCell') = true)
    (h : wpList P ops Q rest (a.put o.dst undef) (w.setRow g cells)) : wpList P ops Q (o :: rest) a w :=
  wpList_plain hgd fun K hK => by
    unfold Oper.wp execOp
    simp only [ho, hx, hy, Instr.storeAt, Instr.sureAddr, Sem.run_bind, Sem.run_pure, Result.andThen_ok, run_storeVar_row w g t ty old cells hg hi hs h1]
    exact hK _ _ h
end
end Go.Proofs.Ytbinpapgfddafaa
