/-
  Layer 6: what a world holds where a TLB, or the document's table, lies: its block, whole; ranges of it; what a store makes of it.
-/
import Derived.Test.YtafkjokbidkkhaaRows
import Derived.Test.YtafkjokbidkkhaaMath
import Derived.WalkKit
import Derived.Below
import Derived.Laws.Rows
import Derived.Laws.Tables
import Derived.Laws.NewBlocks
import Derived.Laws.AppendOwn
import Derived.Deep.MidRow
import Derived.Deep.WholeRow
import Derived.Deep.Draws
namespace Go.Proofs.Ytafkjokbidkkhaa
open Go.RowKit

/-! ### worlds that turn in some blocks alone -/
structure Turned (F : Nat → Prop) (w w' : World) : Prop where
  os : w'.os = w.os
  tape : w'.tape = w.tape
  output : w'.output = w.output
  size : w.heap.size ≤ w'.heap.size
  block : ∀ k, k < w.heap.size → ¬ F k → w'.heap[k]? = w.heap[k]?

theorem Turned.refl (F : Nat → Prop) (w : World) : Turned F w w := ⟨rfl, rfl, rfl, Nat.le_refl _, fun _ _ _ => rfl⟩
theorem Turned.trans {F G : Nat → Prop} {a b c : World} (h : Turned F a b) (k : Turned G b c) (hG : ∀ x, G x → F x ∨ a.heap.size ≤ x) : Turned F a c :=
  ⟨k.os.trans h.os, k.tape.trans h.tape, k.output.trans h.output, Nat.le_trans h.size k.size, fun i hi hn =>
    (k.block i (Nat.lt_of_lt_of_le hi h.size) (fun hm => by rcases hG i hm with h' | h'; exact hn h'; omega)).trans (h.block i hi hn)⟩
theorem Turned.mono {F G : Nat → Prop} {a b : World} (h : Turned F a b) (hG : ∀ x, F x → G x) : Turned G a b :=
  ⟨h.os, h.tape, h.output, h.size, fun k hk hn => h.block k hk (fun hm => hn (hG k hm))⟩
theorem Turned.of_below {w w' : World} (h : Below w.heap.size w w') (F : Nat → Prop) : Turned F w w' := ⟨h.os, h.tape, h.output, h.size, fun k hk _ => h.block k hk⟩
theorem Turned.of_grown {w w' : World} {row : Option Nat} (h : w.grownBy w' row) {F : Nat → Prop} (hr : ∀ k, row = some k → F k) : Turned F w w' :=
  ⟨h.os, h.tape, h.output, h.size, fun k hk hn => h.block k hk (fun e => hn (hr k e.symm))⟩
theorem Turned.alloc {F : Nat → Prop} {a w : World} (h : Turned F a w) (o : Obj) : Turned F a (w.alloc o) :=
  h.trans (G := fun _ => False) ⟨rfl, rfl, rfl, by simp, fun k hk _ => Below.heap_alloc _ _ _ hk⟩ (fun x hx => hx.elim)
theorem Turned.drew {F : Nat → Prop} {a w : World} (h : Turned F a w) : Turned F a w.drew := ⟨h.os, h.tape, h.output, h.size, h.block⟩
theorem Turned.setCell {F : Nat → Prop} {a w : World} (h : Turned F a w) {p : Addr} (hp : F p.block ∨ a.heap.size ≤ p.block) (u : Value) : Turned F a (w.setCell p u) :=
  h.trans (G := fun k => k = p.block) ⟨rfl, rfl, rfl, by simp [World.setCell], fun k _ hn => Below.heap_setCell _ _ _ _ hn⟩ (fun x hx => by subst hx; exact hp)
theorem Turned.below {F : Nat → Prop} {w w' : World} (h : Turned F w w') {B : Nat} (hB : B ≤ w.heap.size) (hF : ∀ k, F k → B ≤ k) : Below B w w' :=
  ⟨h.os, h.tape, h.output, h.size, fun k hk => h.block k (by omega) (fun hm => by have := hF k hm; omega)⟩
theorem below_drewN (B : Nat) (w : World) (n : Nat) : Below B w (w.drewN n) := ⟨rfl, rfl, rfl, Nat.le_refl _, fun _ _ => rfl⟩
/-- A block known whole stays where it is not turned. -/
theorem Turned.keep {F : Nat → Prop} {w w' : World} (h : Turned F w w') {k : Nat} {o : Obj} (hk : w.heap[k]? = some o) (hn : ¬ F k) : w'.heap[k]? = some o :=
  (h.block k (Array.getElem?_eq_some_iff.1 hk).1 hn).trans hk
theorem Turned.row {F : Nat → Prop} {w w' : World} (h : Turned F w w') {base : Nat} {e : TypeId} {size n : Nat} {v : Value} {xs : List Value} (ho : w.ownsRow base e size v n xs) (hn : ∀ g, v.ownBlock = some g → ¬ F g) : w'.ownsRow base e size v n xs := by
  refine ⟨ho.1, ?_⟩
  rcases ho.2 with hnil | ⟨g, cap, cur, rfl, hb, hgg, rest⟩
  · exact .inl hnil
  · exact .inr ⟨g, cap, cur, rfl, hb, h.keep hgg (hn g rfl), rest⟩



/-! ### cells -/
def cE (e : Ent) : List Value := [.bool e.th, .int .u32 e.pg, .int .u32 e.fr, .bool e.wr]
def es (t : Tl) : List Value := cE t.s0 ++ (cE t.s1 ++ (cE t.s2 ++ cE t.s3))
/-- The document's table, as cells. -/
def rc (t : Tl) : Array Value := (es t ++ [Value.int .i64 (t.nx : Int)]).toArray
/-- A TLB, as cells. -/
def pc (t : Tl) : Array Value := (Value.bool true :: (es t ++ [Value.int .i64 (t.nx : Int)])).toArray
theorem es_len (t : Tl) : (es t).length = 16 := rfl
theorem rc_size (t : Tl) : (rc t).size = 17 := rfl
theorem pc_size (t : Tl) : (pc t).size = 18 := rfl
theorem es_part (t : Tl) {i : Nat} (hi : i < 4) : ((es t).drop (i * 4)).take 4 = cE (t.g i) := by
  rcases lt4 hi with rfl | rfl | rfl | rfl <;> rfl
theorem one_cE (e : Ent) : ∀ v ∈ cE e, v.oneCell' = true := by intro v hv; simp [cE] at hv; rcases hv with rfl | rfl | rfl | rfl <;> rfl
theorem one_es (t : Tl) : ∀ v ∈ es t, v.oneCell' = true := by
  intro v hv
  simp only [es, List.mem_append] at hv
  rcases hv with h | h | h | h <;> exact one_cE _ v h
theorem one_rc (t : Tl) : (rc t).all (·.oneCell') = true := all_oneCell_toArray fun v hv => by
  rcases List.mem_append.1 hv with h | h
  · exact one_es t v h
  · simp at h; subst h; rfl
theorem one_pc (t : Tl) : (pc t).all (·.oneCell') = true := all_oneCell_toArray fun v hv => by
  rcases List.mem_cons.1 hv with rfl | h
  · rfl
  · rcases List.mem_append.1 h with h | h
    · exact one_es t v h
    · simp at h; subst h; rfl
theorem add_lit (g o i : Nat) : (⟨g, o, none⟩ : Addr).add i = ⟨g, o + i, none⟩ := by unfold Addr.add; split <;> simp_all

/-- A block known whole. -/
def Blk (w : World) (b : Nat) (cs : Array Value) (ty : TypeId) : Prop := w.heap[b]? = some (.cells cs ty (0, 0))
section
variable {w w' : World} {b : Nat} {cs : Array Value} {ty : TypeId}
theorem Blk.lt (h : Blk w b cs ty) : b < w.heap.size := (Array.getElem?_eq_some_iff.1 h).1
theorem Blk.keep (h : Blk w b cs ty) (hk : w'.heap[b]? = w.heap[b]?) : Blk w' b cs ty := hk.trans h
theorem Blk.below (h : Blk w b cs ty) (hb : Below w.heap.size w w') : Blk w' b cs ty := h.keep (hb.block _ h.lt)
theorem Blk.below' {B : Nat} (h : Blk w b cs ty) (hb : Below B w w') (hB : b < B) : Blk w' b cs ty := h.keep (hb.block _ hB)
theorem Blk.turned {F : Nat → Prop} (h : Blk w b cs ty) (ht : Turned F w w') (hn : ¬ F b) : Blk w' b cs ty := ht.keep h hn
theorem Blk.drew (h : Blk w b cs ty) : Blk w.drew b cs ty := h
theorem Blk.alloc (h : Blk w b cs ty) (o : Obj) : Blk (w.alloc o) b cs ty := h.keep (Below.heap_alloc _ _ _ h.lt)
theorem blk_new (w : World) (cs : Array Value) (ty : TypeId) : Blk (w.alloc (.cells cs ty)) w.heap.size cs ty := heap_alloc_new w _
theorem Blk.cell (h : Blk w b cs ty) (j : Nat) : w.cell? ⟨b, j, none⟩ = cs[j]? := cell_of_row w b j cs ty (0, 0) h
theorem Blk.frozen (h : Blk w b cs ty) (j : Nat) : w.frozen? ⟨b, j, none⟩ = false := by unfold Blk at h; simp [World.frozen?, h]
theorem Blk.range (h : Blk w b cs ty) (o : Nat) (l : List Value) (hl : (cs.toList.drop o).take l.length = l) : w.rangeAt b o l := fun j v hj => by
  have hlt := (List.getElem?_eq_some_iff.1 hj).1
  rw [h.cell, ← hj]
  have : l[j]? = ((cs.toList.drop o).take l.length)[j]? := by rw [hl]
  rw [this, List.getElem?_take, if_pos hlt, List.getElem?_drop]; simp
theorem Blk.there (h : Blk w b cs ty) (o n : Nat) (hn : o + n ≤ cs.size) : w.there b o n := fun j hj =>
  ⟨by rw [h.cell, Array.getElem?_eq_getElem (by omega)]; rfl, h.frozen _⟩
/-- A whole block is written anew. -/
theorem Blk.set (h : Blk w b cs ty) (cs' : Array Value) : Blk (w.setRow b cs') b cs' ty := setRow_heap w b cs cs' ty (0, 0) h
theorem Blk.setOther (h : Blk w b cs ty) {g : Nat} (hg : b ≠ g) (cs' : Array Value) : Blk (w.setRow g cs') b cs ty := (setRow_other w g b cs' hg).trans h
theorem Blk.setCell (h : Blk w b cs ty) (j : Nat) (v : Value) : Blk (w.setCell ⟨b, j, none⟩ v) b (cs.setIfInBounds j v) ty := heap_setCell_same w b j _ _ _ h
theorem Blk.setCells : ∀ (vs : List Value) (o : Nat) {w : World} {cs : Array Value}, Blk w b cs ty → o + vs.length ≤ cs.size → Blk (w.setCells b o vs) b (cs.toList.take o ++ (vs ++ cs.toList.drop (o + vs.length))).toArray ty
  | [], o, w, cs, h, _ => by simpa [World.setCells, List.take_append_drop] using h
  | v :: vs, o, w, cs, h, hl => by
    have h1 := Blk.setCells vs (o + 1) (h.setCell o v) (by simp at hl ⊢; omega)
    simp only [World.setCells]
    refine Eq.trans h1 ?_
    congr 3
    simp only [List.length_cons] at hl
    have hlen : o < cs.toList.length := by simp; omega
    have e1 : (cs.setIfInBounds o v).toList = cs.toList.set o v := by simp
    rw [e1, List.take_set, List.drop_set, if_pos (by omega)]
    rw [List.take_succ_eq_append_getElem (by simpa using hlen), List.set_append, if_neg (by simp; omega)]
    simp [show min o cs.size = o by omega, Nat.add_assoc, Nat.add_comm 1]
end
theorem turned_setRow (w : World) (g : Nat) (cs : Array Value) : Turned (fun k => k = g) w (w.setRow g cs) :=
  ⟨rfl, rfl, rfl, by simp, fun k _ hn => setRow_other w g k cs hn⟩
theorem turned_setCells (b : Nat) : ∀ (vs : List Value) (o : Nat) (w : World), Turned (fun k => k = b) w (w.setCells b o vs)
  | [], _, w => Turned.refl _ w
  | v :: vs, o, w => by
    rw [World.setCells]
    exact ((Turned.refl (fun k => k = b) w).setCell (p := ⟨b, o, none⟩) (.inl rfl) v).trans (turned_setCells b vs (o + 1) _) (fun x (hx : x = b) => .inl hx)

/-! ### a TLB, the document's table -/
/-- A TLB lies at block S. -/
def At (w : World) (S : Nat) (t : Tl) : Prop := Blk w S (pc t) 62
/-- The document's table lies at block R. -/
def Rf (w : World) (R : Nat) (t : Tl) : Prop := Blk w R (rc t) 30
section
variable {w w' : World} {S R : Nat} {t : Tl}
theorem At.made (h : At w S t) : w.cell? ⟨S, 0, none⟩ = some (.bool true) := by rw [Blk.cell h]; rfl
theorem At.next (h : At w S t) : w.cell? ⟨S, 17, none⟩ = some (.int .i64 (t.nx : Int)) := by rw [Blk.cell h]; rfl
theorem At.ents (h : At w S t) : w.rangeAt S 1 (es t) := Blk.range h 1 _ rfl
theorem At.ent (h : At w S t) {i : Nat} (hi : i < 4) : w.rangeAt S (1 + i * 4) (cE (t.g i)) := by
  refine Blk.range h _ _ ?_
  rcases lt4 hi with rfl | rfl | rfl | rfl <;> rfl
theorem Rf.ents (h : Rf w R t) : w.rangeAt R 0 (es t) := Blk.range h 0 _ rfl
theorem Rf.ent (h : Rf w R t) {i : Nat} (hi : i < 4) : w.rangeAt R (i * 4) (cE (t.g i)) := by
  refine Blk.range h _ _ ?_
  rcases lt4 hi with rfl | rfl | rfl | rfl <;> rfl
theorem Rf.next (h : Rf w R t) : w.cell? ⟨R, 16, none⟩ = some (.int .i64 (t.nx : Int)) := by rw [Blk.cell h]; rfl
theorem pc_st (t : Tl) {i : Nat} (hi : i < 4) (e : Ent) : ((pc t).toList.take (1 + i * 4) ++ (cE e ++ (pc t).toList.drop (1 + i * 4 + (cE e).length))).toArray = pc (t.st i e) := by
  rcases lt4 hi with rfl | rfl | rfl | rfl <;> rfl
theorem rc_st (t : Tl) {i : Nat} (hi : i < 4) (e : Ent) : ((rc t).toList.take (i * 4) ++ (cE e ++ (rc t).toList.drop (i * 4 + (cE e).length))).toArray = rc (t.st i e) := by
  rcases lt4 hi with rfl | rfl | rfl | rfl <;> rfl
/-- A slot is written. -/
theorem At.st (h : At w S t) {i : Nat} (hi : i < 4) (e : Ent) : At (w.setCells S (1 + i * 4) (cE e)) S (t.st i e) := by
  have := Blk.setCells (cE e) (1 + i * 4) h (by simp [pc_size, cE]; omega)
  rwa [pc_st t hi] at this
theorem Rf.st (h : Rf w R t) {i : Nat} (hi : i < 4) (e : Ent) : Rf (w.setCells R (i * 4) (cE e)) R (t.st i e) := by
  have := Blk.setCells (cE e) (i * 4) h (by simp [rc_size, cE]; omega)
  rwa [rc_st t hi] at this
theorem At.nxt (h : At w S t) (n : Nat) : At (w.setCell ⟨S, 17, none⟩ (.int .i64 (n : Int))) S { t with nx := n } := Blk.setCell h 17 _
theorem Rf.nxt (h : Rf w R t) (n : Nat) : Rf (w.setCell ⟨R, 16, none⟩ (.int .i64 (n : Int))) R { t with nx := n } := Blk.setCell h 16 _
end
theorem infoE : (Try.prog.info? 27).map (·.size) = some 4 := by kernel_rfl
theorem infoEs : (Try.prog.info? 28).map (·.size) = some 16 := by kernel_rfl
theorem infoR : (Try.prog.info? 30).map (·.size) = some 17 := by kernel_rfl
theorem infoT : (Try.prog.info? 62).map (·.size) = some 18 := by kernel_rfl

/-! ### loads and stores of whole blocks, at the walk -/
section
variable {P : Program}
theorem wpList_store_blk {ops : Array Oper} {rest : List Oper} {o : Oper} {a : Act} {w : World} {Q : Exit → Act → World → Prop} (hgd : o.guard = none) (ty : TypeId) (x y : Operand) (ho : o.op = .store ty x y)
    (g : Nat) (cells old : Array Value) (hx : a.eval x = .pointer (some ⟨g, 0, none⟩)) (hy : a.eval y = .agg cells) (t : TypeId) (hg : Blk w g old t)
    (hi : (P.info? ty).map (·.size) = some cells.size) (hs : old.size = cells.size) (h1 : cells.all (·.oneCell') = true)
    (h : wpList P ops Q rest (a.put o.dst undef) (w.setRow g cells)) : wpList P ops Q (o :: rest) a w :=
  wpList_plain hgd fun K hK => by
    unfold Oper.wp execOp
    simp only [ho, hx, hy, Instr.storeAt, Instr.sureAddr, Sem.run_bind, Sem.run_pure, Result.andThen_ok, run_storeVar_row w g t ty old cells hg hi hs h1]
    exact hK _ _ h
end
section
variable {ops : Array Oper} {rest : List Oper} {a : Act} {w : World} {Q : Exit → Act → World → Prop} {R S : Nat} {t : Tl} {d : Option Tmp} {x y : Operand} {ty : TypeId} {pos : String} {af : Array Edge}
/-- The document's table is read whole. -/
theorem wp_load_R (hr : Rf w R t) (hx : a.eval x = .pointer (some ⟨R, 0, none⟩)) (h : wpList Try.prog ops Q rest (a.put d (.agg (rc t))) w) :
    wpList Try.prog ops Q ({ dst := d, op := .load 30 x, type := ty, pos := pos, after := af, guard := none } :: rest) a w :=
  wpList_load_row rfl 30 x rfl R hx 30 (rc t) (0, 0) _ hr Try.underlying30 rfl infoR h
/-- .. and written whole. -/
theorem wp_store_R {t' : Tl} (t : Tl) (hr : Rf w R t') (hx : a.eval x = .pointer (some ⟨R, 0, none⟩)) (hy : a.eval y = .agg (rc t)) (h : wpList Try.prog ops Q rest (a.put d undef) (w.setRow R (rc t))) :
    wpList Try.prog ops Q ({ dst := d, op := .store 30 x y, type := ty, pos := pos, after := af, guard := none } :: rest) a w :=
  wpList_store_blk rfl 30 x y rfl R (rc t) (rc t') hx hy 30 hr infoR rfl (one_rc t) h
/-- An entry is read, out of wherever it lies. -/
theorem wp_load_E {b o : Nat} {e : Ent} (hr : w.rangeAt b o (cE e)) (hx : a.eval x = .pointer (some ⟨b, o, none⟩)) (h : wpList Try.prog ops Q rest (a.put d (.agg #[.bool e.th, .int .u32 e.pg, .int .u32 e.fr, .bool e.wr])) w) :
    wpList Try.prog ops Q ({ dst := d, op := .load 27 x, type := ty, pos := pos, after := af, guard := none } :: rest) a w :=
  wpList_load_mid rfl 27 x rfl b o hx (cE e) _ hr Try.underlying27 rfl infoE h
/-- .. and written. -/
theorem wp_store_E {b o : Nat} (e : Ent) (hr : w.there b o 4) (hx : a.eval x = .pointer (some ⟨b, o, none⟩)) (hy : a.eval y = .agg #[.bool e.th, .int .u32 e.pg, .int .u32 e.fr, .bool e.wr]) (h : wpList Try.prog ops Q rest (a.put d undef) (w.setCells b o (cE e))) :
    wpList Try.prog ops Q ({ dst := d, op := .store 27 x y, type := ty, pos := pos, after := af, guard := none } :: rest) a w :=
  wpList_store_mid rfl 27 x y rfl b o (cE e).toArray hx hy hr infoE (all_oneCell_toArray (one_cE e)) h
end
end Go.Proofs.Ytafkjokbidkkhaa
