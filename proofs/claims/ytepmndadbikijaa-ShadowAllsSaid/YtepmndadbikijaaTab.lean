/-
  Layer 3: what a world holds where a shadow lies: its block, its map of private pages, the pages' blocks; which blocks are a shadow's own.
-/
import Derived.Test.YtepmndadbikijaaRows
import Derived.Test.YtepmndadbikijaaMath
import Derived.WalkKit
import Derived.Below
import Derived.Maps.Ext
import Derived.Maps.OwnSet
import Derived.Maps.RangeWalk
import Derived.Laws.NewBlocks
import Derived.Deep.Draws
namespace Go.Proofs.Ytepmndadbikijaa
open Go.RowKit

/-! ### worlds that turn in some blocks alone -/
structure Turned (F : Nat → Prop) (w w' : World) : Prop where
  os : w'.os = w.os
  tape : w'.tape = w.tape
  output : w'.output = w.output
  size : w.heap.size ≤ w'.heap.size
  block : ∀ k, k < w.heap.size → ¬ F k → w'.heap[k]? = w.heap[k]?

theorem Turned.refl (F : Nat → Prop) (w : World) : Turned F w w := ⟨rfl, rfl, rfl, Nat.le_refl _, fun _ _ _ => rfl⟩
theorem Turned.trans {F G : Nat → Prop} {a b c : World} (h : Turned F a b) (k : Turned G b c) (hG : ∀ x, G x → F x ∨ a.heap.size ≤ x) : Turned F a c :=
  ⟨k.os.trans h.os, k.tape.trans h.tape, k.output.trans h.output, Nat.le_trans h.size k.size, fun i hi hn =>
    (k.block i (Nat.lt_of_lt_of_le hi h.size) (fun hm => by rcases hG i hm with h' | h'; exact hn h'; omega)).trans (h.block i hi hn)⟩
theorem Turned.mono {F G : Nat → Prop} {a b : World} (h : Turned F a b) (hG : ∀ x, F x → G x) : Turned G a b :=
  ⟨h.os, h.tape, h.output, h.size, fun k hk hn => h.block k hk (fun hm => hn (hG k hm))⟩
theorem Turned.of_below {w w' : World} (h : Below w.heap.size w w') (F : Nat → Prop) : Turned F w w' := ⟨h.os, h.tape, h.output, h.size, fun k hk _ => h.block k hk⟩
theorem Turned.of_grown {w w' : World} {row : Option Nat} (h : w.grownBy w' row) {F : Nat → Prop} (hr : ∀ k, row = some k → F k) : Turned F w w' :=
  ⟨h.os, h.tape, h.output, h.size, fun k hk hn => h.block k hk (fun e => hn (hr k e.symm))⟩
theorem Turned.alloc {F : Nat → Prop} {a w : World} (h : Turned F a w) (o : Obj) : Turned F a (w.alloc o) :=
  h.trans (G := fun _ => False) ⟨rfl, rfl, rfl, by simp, fun k hk _ => Below.heap_alloc _ _ _ hk⟩ (fun x hx => hx.elim)
theorem Turned.drew {F : Nat → Prop} {a w : World} (h : Turned F a w) : Turned F a w.drew := ⟨h.os, h.tape, h.output, h.size, h.block⟩
theorem Turned.setCell {F : Nat → Prop} {a w : World} (h : Turned F a w) {p : Addr} (hp : F p.block ∨ a.heap.size ≤ p.block) (u : Value) : Turned F a (w.setCell p u) :=
  h.trans (G := fun k => k = p.block) ⟨rfl, rfl, rfl, by simp [World.setCell], fun k _ hn => Below.heap_setCell _ _ _ _ hn⟩ (fun x hx => by subst hx; exact hp)
theorem Turned.below {F : Nat → Prop} {w w' : World} (h : Turned F w w') {B : Nat} (hB : B ≤ w.heap.size) (hF : ∀ k, F k → B ≤ k) : Below B w w' :=
  ⟨h.os, h.tape, h.output, h.size, fun k hk => h.block k (by omega) (fun hm => by have := hF k hm; omega)⟩
theorem below_drewN (B : Nat) (w : World) (n : Nat) : Below B w (w.drewN n) := ⟨rfl, rfl, rfl, Nat.le_refl _, fun _ _ => rfl⟩
/-- A block known whole stays where it is not turned. -/
theorem Turned.keep {F : Nat → Prop} {w w' : World} (h : Turned F w w') {k : Nat} {o : Obj} (hk : w.heap[k]? = some o) (hn : ¬ F k) : w'.heap[k]? = some o :=
  (h.block k (Array.getElem?_eq_some_iff.1 hk).1 hn).trans hk
theorem Turned.row {F : Nat → Prop} {w w' : World} (h : Turned F w w') {base : Nat} {e : TypeId} {size n : Nat} {v : Value} {xs : List Value} (ho : w.ownsRow base e size v n xs) (hn : ∀ g, v.ownBlock = some g → ¬ F g) : w'.ownsRow base e size v n xs := by
  refine ⟨ho.1, ?_⟩
  rcases ho.2 with hnil | ⟨g, cap, cur, rfl, hb, hgg, rest⟩
  · exact .inl hnil
  · exact .inr ⟨g, cap, cur, rfl, hb, h.keep hgg (hn g rfl), rest⟩
theorem Turned.map {F : Nat → Prop} {w w' : World} {H : Type} {P : Program} {k : TypeId} {R : Value → Option (DataW H × List MemPlace)} {b n : Nat} {D : DataW H} (h : Turned F w w') (ho : w.ownsMap P k R b n D) (hn : ¬ F b) : w'.ownsMap P k R b n D := by
  obtain ⟨es, clock, hb, r⟩ := ho
  exact ⟨es, clock, h.keep hb hn, r⟩

/-! ### the cells of a shadow's block -/
def shCells (c : Nat → Nat) (P : Int) (m : Option Nat) : Array Value :=
  ((((List.range 32).map fun p => Value.int .i64 (c p : Int)) ++ ([Value.int .i64 P, Value.map m] : List Value) ++ List.replicate 64 (Value.int .u32 0)) : List Value).toArray
theorem shCells_size (c : Nat → Nat) (P : Int) (m : Option Nat) : (shCells c P m).size = 98 := by simp [shCells]
theorem shCells_cnt (c : Nat → Nat) (P : Int) (m : Option Nat) {p : Nat} (hp : p < 32) : (shCells c P m)[p]? = some (.int .i64 (c p : Int)) := by
  simp [shCells, List.getElem?_append, hp]
theorem shCells_pages (c : Nat → Nat) (P : Int) (m : Option Nat) : (shCells c P m)[32]? = some (.int .i64 P) := by simp [shCells]
theorem shCells_map (c : Nat → Nat) (P : Int) (m : Option Nat) : (shCells c P m)[33]? = some (.map m) := by simp [shCells]
theorem shCells_nought (c : Nat → Nat) (P : Int) (m : Option Nat) {k : Nat} (hk : k < 64) : (shCells c P m)[34 + k]? = some (.int .u32 0) := by
  unfold shCells
  rw [List.getElem?_toArray, List.getElem?_append_right (by simp), List.getElem?_replicate, if_pos (by simp; omega)]
theorem shCells_ext {c : Nat → Nat} {P : Int} {m : Option Nat} {a : Array Value} (hs : a.size = 98) (h1 : ∀ p, p < 32 → a[p]? = some (.int .i64 (c p : Int))) (h2 : a[32]? = some (.int .i64 P)) (h3 : a[33]? = some (.map m))
    (h4 : ∀ k, k < 64 → a[34 + k]? = some (.int .u32 0)) : a = shCells c P m := by
  refine Array.ext_getElem? fun j => ?_
  rcases Nat.lt_or_ge j 32 with h | h
  · rw [h1 j h, shCells_cnt c P m h]
  · rcases Nat.lt_or_ge j 98 with h' | h'
    · by_cases e : j = 32
      · subst e; rw [h2, shCells_pages]
      · by_cases e' : j = 33
        · subst e'; rw [h3, shCells_map]
        · obtain ⟨k, rfl⟩ : ∃ k, j = 34 + k := ⟨j - 34, by omega⟩
          rw [h4 k (by omega), shCells_nought c P m (by omega)]
    · rw [Array.getElem?_eq_none (by omega), Array.getElem?_eq_none (by rw [shCells_size]; omega)]
theorem shCells_new (c : Nat → Nat) (P P' : Int) (m m' : Option Nat) : ((shCells c P m).setIfInBounds 32 (.int .i64 P')).setIfInBounds 33 (.map m') = shCells c P' m' := by
  refine shCells_ext (by simp [shCells_size]) (fun p hp => ?_) ?_ ?_ (fun k hk => ?_)
  · rw [Array.getElem?_setIfInBounds_ne (by omega), Array.getElem?_setIfInBounds_ne (by omega), shCells_cnt _ _ _ hp]
  · rw [Array.getElem?_setIfInBounds_ne (by omega), Array.getElem?_setIfInBounds_self_of_lt (by rw [shCells_size]; omega)]
  · rw [Array.getElem?_setIfInBounds_self_of_lt (by simp [shCells_size])]
  · rw [Array.getElem?_setIfInBounds_ne (by omega), Array.getElem?_setIfInBounds_ne (by omega), shCells_nought _ _ _ hk]
theorem shCells_count (c : Nat → Nat) (P : Int) (m : Option Nat) {p : Nat} (hp : p < 32) (n : Nat) : (shCells c P m).setIfInBounds p (.int .i64 (n : Int)) = shCells (fun q => if q = p then n else c q) P m := by
  refine shCells_ext (by simp [shCells_size]) (fun q hq => ?_) ?_ ?_ (fun k hk => ?_)
  · by_cases e : q = p
    · subst e; rw [Array.getElem?_setIfInBounds_self_of_lt (by rw [shCells_size]; omega)]; simp
    · rw [Array.getElem?_setIfInBounds_ne (by omega), shCells_cnt _ _ _ hq]; simp [e]
  · rw [Array.getElem?_setIfInBounds_ne (by omega), shCells_pages]
  · rw [Array.getElem?_setIfInBounds_ne (by omega), shCells_map]
  · rw [Array.getElem?_setIfInBounds_ne (by omega), shCells_nought _ _ _ hk]
theorem zero_sh (w : World) : (zeroValue 72).run Try.prog w = .ok (.agg (shCells (fun _ => 0) 0 none)) w := by kernel_rfl

/-! ### the map of private pages: a pointer reads as its block -/
def ptrElem : Value → Option (DataW Unit × List MemPlace)
  | .pointer none => some (.lit (.int .i64 (-1)), [])
  | .pointer (some ⟨g, 0, none⟩) => some (.lit (.int .i64 (g : Int)), [])
  | _ => none
theorem ptr_nil : ptrElem (.pointer none) = some (.lit (.int .i64 (-1)), []) := rfl
theorem ptr_at (g : Nat) : ptrElem (.pointer (some ⟨g, 0, none⟩)) = some (.lit (.int .i64 (g : Int)), []) := rfl
theorem ptr_inv {v : Value} {g : Nat} {ps : List MemPlace} (h : ptrElem v = some (.lit (.int .i64 (g : Int)), ps)) : v = .pointer (some ⟨g, 0, none⟩) := by
  unfold ptrElem at h
  split at h
  · simp at h
  · rename_i g'
    simp at h
    obtain ⟨h1, _⟩ := h
    have : g' = g := by omega
    rw [this]
  · cases h
theorem ptr_nil_inv {v : Value} {ps : List MemPlace} (h : ptrElem v = some (.lit (.int .i64 (-1)), ps)) : v = .pointer none := by
  unfold ptrElem at h
  split at h
  · rfl
  · simp at h
  · cases h
theorem numLaw : Maps.Keyed Try.prog 3 := Maps.int_keyed Try.underlying3
theorem key_int {x : Int} (h : (Lit.int .i64 x).wf = true) : keyOf Try.prog 3 (.int .i64 x) = some (.int .i64 x) := Maps.keyOf_int_mk Try.underlying3 h
theorem isKey (x : Int) : WideAt.IsKeyLit (Lit.int .i64 x) := trivial
theorem zeroPtr (w : World) : (zeroValue 74).run Try.prog w = .ok (.pointer none) w := by kernel_rfl
/-- What a map holds: the private pages' numbers, each leading to its block. -/
structure PrivD (P : Nat) (l : List Int) (G : Nat → Nat) (D : DataW Unit) : Prop where
  has : ∀ k : Int, Maps.has D (.int .i64 k) = decide (0 ≤ k ∧ priv l k.toNat = true)
  at_ : ∀ p : Nat, priv l p = true → ∀ z, D.atKey (.int .i64 (p : Int)) z = .lit (.int .i64 (G p : Int))
  size : Maps.size D = (privs l P).length

/-! ### a shadow -/
structure ShIs (w : World) (S mb P : Nat) (l : List Int) (G : Nat → Nat) (D : DataW Unit) : Prop where
  bytes : Bytes P l
  blk : w.heap[S]? = some (.cells (shCells (cnt l) P (some mb)) 72 (0, 0))
  map : w.ownsMap Try.prog 3 ptrElem mb (privs l P).length D
  pd : PrivD P l G D
  page : ∀ p, priv l p = true → w.heap[G p]? = some (.cells ((pg l p).map (Value.int .u32)).toArray 70 (0, 0))
  inj : ∀ p q, priv l p = true → priv l q = true → G p = G q → p = q
/-- The blocks that are a shadow's own. -/
def shB (S mb : Nat) (l : List Int) (G : Nat → Nat) (k : Nat) : Prop := k = S ∨ k = mb ∨ ∃ p, priv l p = true ∧ k = G p
/-- A SHADOW OF P PAGES LIES AT BLOCK S; l: its bytes' sets; F: the blocks that are its own. -/
def Sh (w : World) (S P : Nat) (l : List Int) (F : Nat → Prop) : Prop := ∃ mb G D, F = shB S mb l G ∧ ShIs w S mb P l G D

section
variable {w w' : World} {S mb P : Nat} {l : List Int} {G : Nat → Nat} {D : DataW Unit} {F K : Nat → Prop}
theorem ShIs.mapBlk (h : ShIs w S mb P l G D) : ∃ es k, w.heap[mb]? = some (.map es k) := by
  obtain ⟨es, k, hb, _⟩ := h.map
  exact ⟨es, k, hb⟩
theorem ShIs.ne1 (h : ShIs w S mb P l G D) : S ≠ mb := by
  obtain ⟨e1, k1, h1⟩ := h.mapBlk
  rintro rfl
  rw [h.blk] at h1; cases h1
theorem ShIs.ne2 (h : ShIs w S mb P l G D) {p : Nat} (hp : priv l p = true) : G p ≠ S ∧ G p ≠ mb := by
  obtain ⟨e1, k1, h1⟩ := h.mapBlk
  have h2 := h.page p hp
  refine ⟨fun e => ?_, fun e => ?_⟩
  · rw [e, h.blk] at h2; simp at h2
  · rw [e, h1] at h2; cases h2
theorem ShIs.lt (h : ShIs w S mb P l G D) : ∀ k, shB S mb l G k → k < w.heap.size := by
  obtain ⟨e1, k1, h1⟩ := h.mapBlk
  rintro k (rfl | rfl | ⟨p, hp, rfl⟩)
  · exact (Array.getElem?_eq_some_iff.1 h.blk).1
  · exact (Array.getElem?_eq_some_iff.1 h1).1
  · exact (Array.getElem?_eq_some_iff.1 (h.page p hp)).1
theorem Sh.lt (h : Sh w S P l F) : ∀ k, F k → k < w.heap.size := by
  obtain ⟨mb, G, D, rfl, h⟩ := h
  exact h.lt
theorem Sh.mem (h : Sh w S P l F) : F S := by
  obtain ⟨mb, G, D, rfl, h⟩ := h
  exact .inl rfl
theorem Sh.bytes (h : Sh w S P l F) : Bytes P l := by
  obtain ⟨mb, G, D, rfl, h⟩ := h
  exact h.bytes
theorem ShIs.kept' (h : ShIs w S mb P l G D) (hk : ∀ k, shB S mb l G k → w'.heap[k]? = w.heap[k]?) : ShIs w' S mb P l G D := by
  refine ⟨h.bytes, (hk S (.inl rfl)).trans h.blk, ?_, h.pd, fun p hp => (hk _ (.inr (.inr ⟨p, hp, rfl⟩))).trans (h.page p hp), h.inj⟩
  obtain ⟨es, clock, hb, r⟩ := h.map
  exact ⟨es, clock, (hk mb (.inr (.inl rfl))).trans hb, r⟩
theorem Sh.kept' (h : Sh w S P l F) (hk : ∀ k, F k → w'.heap[k]? = w.heap[k]?) : Sh w' S P l F := by
  obtain ⟨mb, G, D, rfl, h⟩ := h
  exact ⟨mb, G, D, rfl, h.kept' hk⟩
/-- What is turned elsewhere leaves a shadow as it is. -/
theorem Sh.kept (h : Sh w S P l F) (ht : Turned K w w') (hd : ∀ k, F k → ¬ K k) : Sh w' S P l F := h.kept' fun k hk => ht.block k (h.lt k hk) (hd k hk)
theorem Sh.below (h : Sh w S P l F) (hb : Below w.heap.size w w') : Sh w' S P l F := h.kept' fun k hk => hb.block k (h.lt k hk)
theorem Sh.alloc (h : Sh w S P l F) (o : Obj) : Sh (w.alloc o) S P l F := h.below ((Below.refl _ _).alloc (Nat.le_refl _) _)
theorem Sh.drewN (h : Sh w S P l F) (n : Nat) : Sh (w.drewN n) S P l F := h.below (below_drewN _ _ n)
theorem ShIs.cells (h : ShIs w S mb P l G D) : w.cell? ⟨S, 32, none⟩ = some (.int .i64 (P : Int)) ∧ w.cell? ⟨S, 33, none⟩ = some (.map (some mb)) ∧ w.frozen? ⟨S, 33, none⟩ = false := by
  have hb := h.blk
  simp [World.cell?, World.frozen?, hb, shCells_pages, shCells_map]
theorem ShIs.cellCnt (h : ShIs w S mb P l G D) {p : Nat} (hp : p < 32) : w.cell? ⟨S, p, none⟩ = some (.int .i64 (cnt l p : Int)) ∧ w.frozen? ⟨S, p, none⟩ = false := by
  have hb := h.blk
  simp [World.cell?, World.frozen?, hb, shCells_cnt _ _ _ hp]
theorem ShIs.cellNought (h : ShIs w S mb P l G D) {k : Nat} (hk : k < 64) : w.cell? ⟨S, 34 + k, none⟩ = some (.int .u32 0) := by
  have hb := h.blk
  simp [World.cell?, hb, shCells_nought _ _ _ hk]
theorem ShIs.cellPage (h : ShIs w S mb P l G D) {p k : Nat} (hp : priv l p = true) (hk : k < 64) : w.cell? ⟨G p, k, none⟩ = some (.int .u32 (at0 l (64 * p + k))) ∧ w.frozen? ⟨G p, k, none⟩ = false := by
  have hb := h.page p hp
  have hP := priv_lt h.bytes.len hp
  simp [World.cell?, World.frozen?, hb, at_pg h.bytes.len hP hk]
/-- What a look-up of a page gives. -/
theorem ShIs.look_yes (h : ShIs w S mb P l G D) {p : Nat} (hp : priv l p = true) :
    (Instr.lookup 65 (.map (some mb)) (.int .i64 (p : Int)) true).run Try.prog w = .ok (.tuple #[.pointer (some ⟨G p, 0, none⟩), .bool true]) w ∧
    (Instr.lookup 65 (.map (some mb)) (.int .i64 (p : Int)) false).run Try.prog w = .ok (.pointer (some ⟨G p, 0, none⟩)) w := by
  have hP := priv_lt h.bytes.len hp
  have h32 := h.bytes.hi
  have hk := key_int (x := (p : Int)) (wf_i64 (by omega) (by omega))
  constructor
  · obtain ⟨v, ps, hr, hv⟩ := h.map.look_ok numLaw Try.underlying65 (zeroPtr w) ptr_nil hk
    rw [h.pd.at_ p hp] at hv
    rw [hr, ptr_inv hv, h.pd.has]
    simp [hp]
  · obtain ⟨v, ps, hr, hv⟩ := h.map.lookup numLaw Try.underlying65 (zeroPtr w) ptr_nil hk
    rw [h.pd.at_ p hp] at hv
    rw [hr, ptr_inv hv]
theorem ShIs.look_no (h : ShIs w S mb P l G D) {k : Int} (hw : (Lit.int .i64 k).wf = true) (hp : ¬ (0 ≤ k ∧ priv l k.toNat = true)) :
    (Instr.lookup 65 (.map (some mb)) (.int .i64 k) true).run Try.prog w = .ok (.tuple #[.pointer none, .bool false]) w ∧
    (Instr.lookup 65 (.map (some mb)) (.int .i64 k) false).run Try.prog w = .ok (.pointer none) w := by
  have hk := key_int hw
  have hh : Maps.has D (.int .i64 k) = false := by rw [h.pd.has]; simpa using hp
  constructor
  · obtain ⟨v, ps, hr, hv⟩ := h.map.look_ok numLaw Try.underlying65 (zeroPtr w) ptr_nil hk
    rw [Maps.atKey_of_not_has hh] at hv
    rw [hr, ptr_nil_inv hv, hh]
  · obtain ⟨v, ps, hr, hv⟩ := h.map.lookup numLaw Try.underlying65 (zeroPtr w) ptr_nil hk
    rw [Maps.atKey_of_not_has hh] at hv
    rw [hr, ptr_nil_inv hv]
end
theorem at_new (P i : Nat) : at0 (List.replicate (64 * P) 0) i = 0 := by unfold at0; by_cases h : i < 64 * P <;> simp [h]
theorem cnt_new (P p : Nat) : cnt (List.replicate (64 * P) 0) p = 0 := by
  unfold cnt
  rw [List.countP_eq_zero]
  intro x hx
  have := List.mem_of_mem_drop (List.mem_of_mem_take (show x ∈ ((List.replicate (64 * P) (0 : Int)).drop (64 * p)).take 64 from hx))
  rw [List.mem_replicate] at this
  simp [this.2]
theorem bytes_new {P : Nat} (h0 : 1 ≤ P) (h1 : P ≤ 32) : Bytes P (List.replicate (64 * P) 0) := ⟨h0, h1, by simp, fun x hx => by rw [List.mem_replicate] at hx; simp [hx.2, S16]⟩
theorem privs_new (P m : Nat) : privs (List.replicate (64 * P) 0) m = [] := by
  unfold privs
  rw [List.filter_eq_nil_iff]
  intro a _
  simp [priv, cnt_new]
theorem sh_new {w : World} {S mb P : Nat} (h0 : 1 ≤ P) (h1 : P ≤ 32) (hb : w.heap[S]? = some (.cells (shCells (fun _ => 0) P (some mb)) 72 (0, 0))) (hm : w.ownsMap Try.prog 3 ptrElem mb 0 (DataW.map [])) :
    Sh w S P (List.replicate (64 * P) 0) (shB S mb (List.replicate (64 * P) 0) (fun _ => 0)) := by
  have hc : cnt (List.replicate (64 * P) 0) = fun _ => 0 := funext (cnt_new P)
  have hp : ∀ p, priv (List.replicate (64 * P) 0) p = false := fun p => by simp [priv, cnt_new]
  refine ⟨mb, fun _ => 0, _, rfl, bytes_new h0 h1, by rw [hc]; exact hb, by rw [privs_new]; exact hm, ⟨fun k => ?_, fun p h => ?_, ?_⟩, fun p h => ?_, fun p q h => ?_⟩
  · simp [hp, Maps.has]
  · rw [hp] at h; cases h
  · rw [privs_new]; rfl
  · rw [hp] at h; cases h
  · rw [hp] at h; cases h
end Go.Proofs.Ytepmndadbikijaa
