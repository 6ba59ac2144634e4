/-
  Layer 5: what a world holds where frames lie: their block, the row of bytes; which blocks are their own.
-/
import Derived.Test.YthcipnmcmcihgaaRows
import Derived.Test.YthcipnmcmcihgaaMath
import Derived.WalkKit
import Derived.Below
import Derived.Maps.Ext
import Derived.Maps.OwnSet
import Derived.Laws.NewBlocks
import Derived.Laws.Rows
import Derived.Deep.Draws
import Derived.Laws.CopyOwn
import Derived.Laws.AppendOwn
namespace Go.Proofs.Ythcipnmcmcihgaa
open Go.RowKit

/-! ### worlds that turn in some blocks alone -/
structure Turned (F : Nat → Prop) (w w' : World) : Prop where
  os : w'.os = w.os
  tape : w'.tape = w.tape
  output : w'.output = w.output
  size : w.heap.size ≤ w'.heap.size
  block : ∀ k, k < w.heap.size → ¬ F k → w'.heap[k]? = w.heap[k]?

theorem Turned.refl (F : Nat → Prop) (w : World) : Turned F w w := ⟨rfl, rfl, rfl, Nat.le_refl _, fun _ _ _ => rfl⟩
theorem Turned.trans {F G : Nat → Prop} {a b c : World} (h : Turned F a b) (k : Turned G b c) (hG : ∀ x, G x → F x ∨ a.heap.size ≤ x) : Turned F a c :=
  ⟨k.os.trans h.os, k.tape.trans h.tape, k.output.trans h.output, Nat.le_trans h.size k.size, fun i hi hn =>
    (k.block i (Nat.lt_of_lt_of_le hi h.size) (fun hm => by rcases hG i hm with h' | h'; exact hn h'; omega)).trans (h.block i hi hn)⟩
theorem Turned.mono {F G : Nat → Prop} {a b : World} (h : Turned F a b) (hG : ∀ x, F x → G x) : Turned G a b :=
  ⟨h.os, h.tape, h.output, h.size, fun k hk hn => h.block k hk (fun hm => hn (hG k hm))⟩
theorem Turned.of_below {w w' : World} (h : Below w.heap.size w w') (F : Nat → Prop) : Turned F w w' := ⟨h.os, h.tape, h.output, h.size, fun k hk _ => h.block k hk⟩
theorem Turned.of_grown {w w' : World} {row : Option Nat} (h : w.grownBy w' row) {F : Nat → Prop} (hr : ∀ k, row = some k → F k) : Turned F w w' :=
  ⟨h.os, h.tape, h.output, h.size, fun k hk hn => h.block k hk (fun e => hn (hr k e.symm))⟩
theorem Turned.alloc {F : Nat → Prop} {a w : World} (h : Turned F a w) (o : Obj) : Turned F a (w.alloc o) :=
  h.trans (G := fun _ => False) ⟨rfl, rfl, rfl, by simp, fun k hk _ => Below.heap_alloc _ _ _ hk⟩ (fun x hx => hx.elim)
theorem Turned.drew {F : Nat → Prop} {a w : World} (h : Turned F a w) : Turned F a w.drew := ⟨h.os, h.tape, h.output, h.size, h.block⟩
theorem Turned.setCell {F : Nat → Prop} {a w : World} (h : Turned F a w) {p : Addr} (hp : F p.block ∨ a.heap.size ≤ p.block) (u : Value) : Turned F a (w.setCell p u) :=
  h.trans (G := fun k => k = p.block) ⟨rfl, rfl, rfl, by simp [World.setCell], fun k _ hn => Below.heap_setCell _ _ _ _ hn⟩ (fun x hx => by subst hx; exact hp)
theorem Turned.below {F : Nat → Prop} {w w' : World} (h : Turned F w w') {B : Nat} (hB : B ≤ w.heap.size) (hF : ∀ k, F k → B ≤ k) : Below B w w' :=
  ⟨h.os, h.tape, h.output, h.size, fun k hk => h.block k (by omega) (fun hm => by have := hF k hm; omega)⟩
theorem below_drewN (B : Nat) (w : World) (n : Nat) : Below B w (w.drewN n) := ⟨rfl, rfl, rfl, Nat.le_refl _, fun _ _ => rfl⟩
/-- A block known whole stays where it is not turned. -/
theorem Turned.keep {F : Nat → Prop} {w w' : World} (h : Turned F w w') {k : Nat} {o : Obj} (hk : w.heap[k]? = some o) (hn : ¬ F k) : w'.heap[k]? = some o :=
  (h.block k (Array.getElem?_eq_some_iff.1 hk).1 hn).trans hk
theorem Turned.row {F : Nat → Prop} {w w' : World} (h : Turned F w w') {base : Nat} {e : TypeId} {size n : Nat} {v : Value} {xs : List Value} (ho : w.ownsRow base e size v n xs) (hn : ∀ g, v.ownBlock = some g → ¬ F g) : w'.ownsRow base e size v n xs := by
  refine ⟨ho.1, ?_⟩
  rcases ho.2 with hnil | ⟨g, cap, cur, rfl, hb, hgg, rest⟩
  · exact .inl hnil
  · exact .inr ⟨g, cap, cur, rfl, hb, h.keep hgg (hn g rfl), rest⟩
theorem Turned.map {F : Nat → Prop} {w w' : World} {H : Type} {P : Program} {k : TypeId} {R : Value → Option (DataW H × List MemPlace)} {b n : Nat} {D : DataW H} (h : Turned F w w') (ho : w.ownsMap P k R b n D) (hn : ¬ F b) : w'.ownsMap P k R b n D := by
  obtain ⟨es, clock, hb, r⟩ := ho
  exact ⟨es, clock, h.keep hb hn, r⟩

/-! ### a row of bytes at a block's head -/
def bv (l : List Int) : List Value := l.map (Value.int .u8)
theorem bv_length (l : List Int) : (bv l).length = l.length := by simp [bv]
theorem bv_at (l : List Int) (i : Nat) : (bv l)[i]? = l[i]?.map (Value.int .u8) := by simp [bv]
theorem bv_one (l : List Int) : ∀ u ∈ bv l, u.oneCell' = true := by
  intro u hu
  obtain ⟨x, _, rfl⟩ := List.mem_map.1 hu
  rfl
def RowAt (w : World) (g : Nat) (l : List Int) : Prop := ∃ tl : List Value, w.heap[g]? = some (.cells (bv l ++ tl).toArray 5 (0, 0))
section
variable {w w' : World} {g : Nat} {l : List Int}
theorem add_lit (g o i : Nat) : (⟨g, o, none⟩ : Addr).add i = ⟨g, o + i, none⟩ := by unfold Addr.add; split <;> simp_all
theorem RowAt.cell (h : RowAt w g l) {i : Nat} (hi : i < l.length) : w.cell? ⟨g, i, none⟩ = some (.int .u8 (at0 l i)) ∧ w.frozen? ⟨g, i, none⟩ = false := by
  obtain ⟨tl, h⟩ := h
  refine ⟨?_, by simp [World.frozen?, h]⟩
  rw [cell_of_row w g i _ _ _ h]
  rw [List.getElem?_toArray, List.getElem?_append_left (by rw [bv_length]; exact hi), bv_at, at0_lt hi]; rfl
theorem RowAt.lt (h : RowAt w g l) : g < w.heap.size := by
  obtain ⟨tl, h⟩ := h
  exact (Array.getElem?_eq_some_iff.1 h).1
theorem RowAt.keep (h : RowAt w g l) (hk : w'.heap[g]? = w.heap[g]?) : RowAt w' g l := by
  obtain ⟨tl, h⟩ := h
  exact ⟨tl, hk.trans h⟩
theorem RowAt.set (h : RowAt w g l) {i : Nat} (hi : i < l.length) (x : Int) : RowAt (w.setCell ⟨g, i, none⟩ (.int .u8 x)) g (l.set i x) := by
  obtain ⟨tl, h⟩ := h
  refine ⟨tl, ?_⟩
  rw [heap_setCell_same w g i _ _ _ h]
  congr 2
  unfold bv
  rw [List.map_set, List.setIfInBounds_toArray, List.set_append_left _ _ (by simpa using hi)]
theorem RowAt.setRow (h : RowAt w g l) (k : Nat) (xs : List Int) (hk : k + xs.length ≤ l.length) {cur : Array Value} (hc : w.heap[g]? = some (.cells cur 5 (0, 0))) :
    RowAt (w.setRow g (cur.toList.take k ++ (bv xs ++ cur.toList.drop (k + (bv xs).length))).toArray) g (ldV l k xs) := by
  obtain ⟨tl, h⟩ := h
  rw [h] at hc
  obtain rfl : (bv l ++ tl).toArray = cur := by simpa using hc
  refine ⟨tl, ?_⟩
  rw [setRow_heap w g _ _ _ _ h]
  congr 2
  unfold ldV
  simp only [bv, List.map_append, List.map_take, List.map_drop, List.length_map]
  rw [List.take_append_of_le_length (by simp; omega), List.drop_append_of_le_length (by simp; omega)]
  simp
theorem rowAt_new (w : World) (l : List Int) (tl : List Value) : RowAt (w.alloc (.cells (bv l ++ tl).toArray 5)) w.heap.size l := ⟨tl, heap_alloc_new w _⟩
theorem rowAt_of_own {base n c : Nat} (h : w.ownsRow base 5 1 (.slice (some ⟨g, 0, none⟩) n c) n (bv l)) : RowAt w g l ∧ base ≤ g ∧ n ≤ c ∧ l.length = n ∧ c ≤ maxLen := by
  obtain ⟨h1, h2⟩ := h
  have hl : l.length = n := by simpa [bv] using h1
  rcases h2 with ⟨h0, _⟩ | ⟨g', cap, cur, hv, hb, hg, hn, hm, hc, ht⟩
  · cases h0
  · simp at hv
    obtain ⟨rfl, rfl⟩ := hv
    refine ⟨⟨cur.toList.drop n, ?_⟩, hb, hn, hl, hm⟩
    rw [hg]
    congr 2
    rw [← ht, Nat.mul_one, List.take_append_drop]
end

/-! ### a slice of bytes -/
/-- A slice of one-cell integers. -/
def NumsIn (k : IntKind) (w : World) (v : Value) (xs : List Int) : Prop :=
  (v = .slice none 0 0 ∧ xs = []) ∨ ∃ (a : Addr) (c : Nat), v = .slice (some a) xs.length c ∧ xs.length ≤ c ∧ xs.length ≤ maxLen ∧ (∀ (i : Nat) x, xs[i]? = some x → w.cell? (a.add i) = some (.int k x)) ∧ ∀ x ∈ xs, (Lit.int k x).wf = true
theorem NumsIn.byt {w : World} {v : Value} {xs : List Int} (h : NumsIn .u8 w v xs) : Byt xs := by
  rcases h with ⟨_, rfl⟩ | ⟨a, c, _, _, _, _, h⟩
  · intro x hx; cases hx
  · exact fun x hx => u8_of_wf (h x hx)
theorem NumsIn.below {k : IntKind} {w w' : World} {v : Value} {xs : List Int} (h : NumsIn k w v xs) (hb : Below w.heap.size w w') : NumsIn k w' v xs := by
  rcases h with h | ⟨a, c, h1, h2, h3, h4, h5⟩
  · exact .inl h
  · refine .inr ⟨a, c, h1, h2, h3, fun i x hi => ?_, h5⟩
    have h6 := h4 i x hi
    have := World.block_lt_of_cell? _ _ h6
    unfold World.cell? at h6 ⊢
    rw [hb.block _ this]; exact h6
theorem RowAt.nums {w : World} {g c : Nat} {l : List Int} (h : RowAt w g l) (hl : Byt l) (hc : l.length ≤ c) (hm : l.length ≤ maxLen) : NumsIn .u8 w (.slice (some ⟨g, 0, none⟩) l.length c) l :=
  .inr ⟨_, _, rfl, hc, hm, fun i x hi => by
    have hlt := (List.getElem?_eq_some_iff.1 hi).1
    rw [at0_lt hlt] at hi
    cases hi
    rw [add_lit, Nat.zero_add]
    exact (h.cell hlt).1, fun x hx => wf_of_u8 (hl x hx)⟩
theorem NumsIn.form {k : IntKind} {w : World} {v : Value} {xs : List Int} (h : NumsIn k w v xs) : ∃ (o : Option Addr) (c : Nat), v = .slice o xs.length c ∧ xs.length ≤ c ∧ xs.length ≤ maxLen ∧ ∀ (i : Nat), i < xs.length → ∃ a, o = some a ∧ w.cell? (a.add i) = some (.int k (at0 xs i)) := by
  rcases h with ⟨rfl, rfl⟩ | ⟨a, c, h1, h2, h3, h4, h5⟩
  · exact ⟨none, 0, rfl, Nat.le_refl _, by simp, fun i hi => by simp at hi⟩
  · exact ⟨some a, c, h1, h2, h3, fun i hi => ⟨a, rfl, h4 i _ (at0_lt hi)⟩⟩
/-- A slice of bytes as a string. -/
theorem str_conv {w : World} {v : Value} {xs : List Int} (h : NumsIn .u8 w v xs) : (convert 22 9 v).run Try.prog w = .ok (.string (strOfNums xs)) w := by
  rcases h with ⟨rfl, rfl⟩ | ⟨a, c, rfl, _, _, h4, _⟩
  · rw [run_convert_bytes_nil w 22 5 Try.underlying22 Try.underlying5 0 0 9 Try.underlying9]
    rfl
  · have hl : (loadCells a xs.length).run Try.prog w = .ok (xs.map (Value.int .u8)).toArray w := by
      have := run_loadCells_list (P := Try.prog) w a (xs.map (Value.int .u8)) (fun j v hj => by
        rw [List.getElem?_map] at hj
        obtain ⟨x, hx, rfl⟩ := Option.map_eq_some_iff.1 hj
        exact h4 j x hx)
      simpa using this
    rw [run_convert_bytes_string w 22 9 5 _ xs.length c Try.underlying22 Try.underlying5 Try.underlying9, run_bytesToString w _ xs.length c xs hl, foldl_push_bytes]
    simp [strOfNums, ByteArray.empty, ByteArray.emptyWithCapacity]
    rfl

/-! ### frames -/
structure FrIs (w : World) (S g c : Nat) (l : List Int) : Prop where
  bytes : Byt l
  lo : 64 ≤ l.length
  hi : l.length ≤ 2048
  pg : l.length % 64 = 0
  cap : l.length ≤ c
  capM : c ≤ maxLen
  blk : w.heap[S]? = some (.cells #[.slice (some ⟨g, 0, none⟩) l.length c] 55 (0, 0))
  row : RowAt w g l
def frB (S g : Nat) (k : Nat) : Prop := k = S ∨ k = g
/-- FRAMES LIE AT BLOCK S; l: their bytes; F: the blocks that are their own. -/
def Fr (w : World) (S : Nat) (l : List Int) (F : Nat → Prop) : Prop := ∃ g c, F = frB S g ∧ FrIs w S g c l
section
variable {w w' : World} {S g c : Nat} {l : List Int} {F K : Nat → Prop}
theorem FrIs.ne (h : FrIs w S g c l) : S ≠ g := by
  rintro rfl
  obtain ⟨tl, hr⟩ := h.row
  have hb := h.blk
  rw [hr] at hb
  have h0 := h.lo
  simp only [Option.some.injEq, Obj.cells.injEq] at hb
  have h1 := congrArg (fun a : Array Value => a.toList[0]?) hb.1
  obtain ⟨x, r, rfl⟩ : ∃ x r, l = x :: r := by
    cases l with
    | nil => simp at h0
    | cons x r => exact ⟨x, r, rfl⟩
  simp [bv] at h1
theorem FrIs.lt (h : FrIs w S g c l) : ∀ k, frB S g k → k < w.heap.size := by
  rintro k (rfl | rfl)
  · exact (Array.getElem?_eq_some_iff.1 h.blk).1
  · exact h.row.lt
theorem FrIs.kept' (h : FrIs w S g c l) (hk : ∀ k, frB S g k → w'.heap[k]? = w.heap[k]?) : FrIs w' S g c l :=
  ⟨h.bytes, h.lo, h.hi, h.pg, h.cap, h.capM, (hk S (.inl rfl)).trans h.blk, h.row.keep (hk g (.inr rfl))⟩
theorem FrIs.below (h : FrIs w S g c l) (hb : Below w.heap.size w w') : FrIs w' S g c l := h.kept' fun k hk => hb.block k (h.lt k hk)
theorem Fr.lt (h : Fr w S l F) : ∀ k, F k → k < w.heap.size := by
  obtain ⟨g, c, rfl, h⟩ := h
  exact h.lt
theorem Fr.mem (h : Fr w S l F) : F S := by
  obtain ⟨g, c, rfl, h⟩ := h
  exact .inl rfl
theorem Fr.kept' (h : Fr w S l F) (hk : ∀ k, F k → w'.heap[k]? = w.heap[k]?) : Fr w' S l F := by
  obtain ⟨g, c, rfl, h⟩ := h
  exact ⟨g, c, rfl, h.kept' hk⟩
theorem Fr.kept (h : Fr w S l F) (ht : Turned K w w') (hd : ∀ k, F k → ¬ K k) : Fr w' S l F := h.kept' fun k hk => ht.block k (h.lt k hk) (hd k hk)
theorem Fr.below (h : Fr w S l F) (hb : Below w.heap.size w w') : Fr w' S l F := h.kept' fun k hk => hb.block k (h.lt k hk)
theorem Fr.bytes (h : Fr w S l F) : Byt l := by
  obtain ⟨g, c, rfl, h⟩ := h
  exact h.bytes
theorem Fr.len (h : Fr w S l F) : 64 ≤ l.length ∧ l.length ≤ 2048 ∧ l.length % 64 = 0 := by
  obtain ⟨g, c, rfl, h⟩ := h
  exact ⟨h.lo, h.hi, h.pg⟩
theorem FrIs.cell (h : FrIs w S g c l) : w.cell? ⟨S, 0, none⟩ = some (.slice (some ⟨g, 0, none⟩) l.length c) := by
  simp [World.cell?, h.blk]
/-- The bytes written elsewise. -/
theorem FrIs.write (h : FrIs w S g c l) (ht : Turned (fun k => k = g) w w') {l' : List Int} (hl : l'.length = l.length) (hb : Byt l') (hr : RowAt w' g l') : FrIs w' S g c l' :=
  ⟨hb, by rw [hl]; exact h.lo, by rw [hl]; exact h.hi, by rw [hl]; exact h.pg, by rw [hl]; exact h.cap, h.capM, by rw [hl]; exact ht.keep h.blk h.ne, hr⟩
end
end Go.Proofs.Ythcipnmcmcihgaa
