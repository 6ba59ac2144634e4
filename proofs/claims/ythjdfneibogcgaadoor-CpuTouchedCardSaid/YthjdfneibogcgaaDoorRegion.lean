/-
  Layer 10 (as in layer 9): whole blocks, of whatever struct, read and written, at the walk and in drawn regions.
-/
import Derived.Test.YthjdfneibogcgaaDoorTab
import Derived.Test.YthjdfneibogcgaaDoorGs
import Derived.Test.YthjdfneibogcgaaDoorSem
import Derived.Lib.Hide
import Derived.WalkSpells
import Derived.WalkLawsBesides
import Derived.Laws.StructEq
import Derived.BigQuiet
import Derived.Deep.RegionHeld
import Derived.Deep.RegionHeld3
import Derived.Laws.ResultCell
namespace Go.Proofs.YthjdfneibogcgaaDoor
open Go.RowKit
set_option linter.unusedVariables false

/-! ### stores of whole blocks, at the walk -/
section
variable {P : Program}
theorem wpList_store_blk {ops : Array Oper} {rest : List Oper} {o : Oper} {a : Act} {w : World} {Q : Exit → Act → World → Prop} (hgd : o.guard = none) (ty : TypeId) (x y : Operand) (ho : o.op = .store ty x y)
    (g : Nat) (cells old : Array Value) (hx : a.eval x = .pointer (some ⟨g, 0, none⟩)) (hy : a.eval y = .agg cells) (t : TypeId) (hg : Blk w g old t)
    (hi : (P.info? ty).map (·.size) = some cells.size) (hs : old.size = cells.size) (h1 : cells.all (·.oneCell') = true)
    (h : wpList P ops Q rest (a.put o.dst undef) (w.setRow g cells)) : wpList P ops Q (o :: rest) a w :=
  wpList_plain hgd fun K hK => by
    unfold Oper.wp execOp
    simp only [ho, hx, hy, Instr.storeAt, Instr.sureAddr, Sem.run_bind, Sem.run_pure, Result.andThen_ok, run_storeVar_row w g t ty old cells hg hi hs h1]
    exact hK _ _ h
end
/-- A struct of n cells. -/
structure RowT (ty : TypeId) (n : Nat) : Prop where
  u : ∃ fs, Tryd.prog.underlying ty = some (.struct fs)
  i : (Tryd.prog.info? ty).map (·.size) = some n
theorem rowS : RowT 25 16 := ⟨⟨_, Tryd.underlying25⟩, by kernel_rfl⟩
theorem rowX : RowT 58 20 := ⟨⟨_, Tryd.underlying58⟩, by kernel_rfl⟩
theorem rowI : RowT 56 4 := ⟨⟨_, Tryd.underlying56⟩, by kernel_rfl⟩
theorem rowW : RowT 42 6 := ⟨⟨_, Tryd.underlying42⟩, by kernel_rfl⟩
theorem rowP : RowT 49 2 := ⟨⟨_, Tryd.underlying49⟩, by kernel_rfl⟩
theorem rowT : RowT 70 3 := ⟨⟨_, Tryd.underlying70⟩, by kernel_rfl⟩
theorem rowD : RowT 30 2 := ⟨⟨_, Tryd.underlying30⟩, by kernel_rfl⟩
/-- A struct lies at block R, as these cells. -/
structure Rf (ty : TypeId) (n : Nat) (w : World) (R : Nat) (c : Array Value) : Prop where
  blk : Blk w R c ty
  size : c.size = n
  one : c.all (·.oneCell') = true
def Ok1 (n : Nat) (c : Array Value) : Prop := c.size = n ∧ c.all (·.oneCell') = true
section
variable {w w' : World} {R : Nat} {c c' : Array Value} {ty : TypeId} {n : Nat}
theorem Rf.ok (h : Rf ty n w R c) : Ok1 n c := ⟨h.size, h.one⟩
theorem Ok1.new (h : Ok1 n c) (ty : TypeId) (w' : World) : Rf ty n (w'.alloc (.cells c ty)) w'.heap.size c := ⟨blk_new _ _ _, h.1, h.2⟩
theorem Rf.lt (h : Rf ty n w R c) : R < w.heap.size := h.blk.lt
theorem Rf.keep (h : Rf ty n w R c) (hk : w'.heap[R]? = w.heap[R]?) : Rf ty n w' R c := ⟨h.blk.keep hk, h.size, h.one⟩
theorem Rf.below (h : Rf ty n w R c) (hb : Below w.heap.size w w') : Rf ty n w' R c := ⟨h.blk.below hb, h.size, h.one⟩
theorem Rf.below' {B : Nat} (h : Rf ty n w R c) (hb : Below B w w') (hB : R < B) : Rf ty n w' R c := ⟨h.blk.below' hb hB, h.size, h.one⟩
theorem Rf.turned {F : Nat → Prop} (h : Rf ty n w R c) (ht : Turned F w w') (hn : ¬ F R) : Rf ty n w' R c := ⟨h.blk.turned ht hn, h.size, h.one⟩
theorem Rf.alloc (h : Rf ty n w R c) (o : Obj) : Rf ty n (w.alloc o) R c := ⟨h.blk.alloc o, h.size, h.one⟩
theorem Rf.drew (h : Rf ty n w R c) : Rf ty n w.drew R c := ⟨h.blk.drew, h.size, h.one⟩
theorem Rf.set (h : Rf ty n w R c) (h' : Ok1 n c') : Rf ty n (w.setRow R c') R c' := ⟨h.blk.set c', h'.1, h'.2⟩
theorem Rf.setOther (h : Rf ty n w R c) {g : Nat} (hg : R ≠ g) (cs' : Array Value) : Rf ty n (w.setRow g cs') R c := ⟨h.blk.setOther hg cs', h.size, h.one⟩
theorem Rf.cell (h : Rf ty n w R c) (j : Nat) : w.cell? ⟨R, j, none⟩ = c[j]? := h.blk.cell j
end
section
variable {ops : Array Oper} {rest : List Oper} {a : Act} {w : World} {Q : Exit → Act → World → Prop} {R : Nat} {c old : Array Value} {d : Option Tmp} {x y : Operand} {ty ty2 : TypeId} {pos : String} {af : Array Edge} {n : Nat}
theorem RowT.inf (ht : RowT ty n) (hs : c.size = n) : (Tryd.prog.info? ty).map (·.size) = some c.size := by rw [hs]; exact ht.i
theorem wp_load_R (ht : RowT ty n) (hr : Rf ty n w R c) (hx : a.eval x = .pointer (some ⟨R, 0, none⟩)) (h : wpList Tryd.prog ops Q rest (a.put d (.agg c)) w) :
    wpList Tryd.prog ops Q ({ dst := d, op := .load ty x, type := ty2, pos := pos, after := af, guard := none } :: rest) a w := by
  obtain ⟨de, hu⟩ := ht.u
  exact wpList_load_row rfl ty x rfl R hx ty c (0, 0) (.struct de) hr.blk hu rfl (ht.inf hr.size) h
theorem wp_store_R (c : Array Value) (ht : RowT ty n) (hr : Rf ty n w R old ∧ Ok1 n c) (hx : a.eval x = .pointer (some ⟨R, 0, none⟩)) (hy : a.eval y = .agg c) (h : wpList Tryd.prog ops Q rest (a.put d undef) (w.setRow R c)) :
    wpList Tryd.prog ops Q ({ dst := d, op := .store ty x y, type := ty2, pos := pos, after := af, guard := none } :: rest) a w :=
  wpList_store_blk rfl ty x y rfl R c old hx hy ty hr.1.blk (ht.inf hr.2.1) (by rw [hr.1.size, hr.2.1]) hr.2.2 h
/-- .. into the block that was made last. -/
theorem wp_store_Rn (c : Array Value) (ht : RowT ty n) (hc : old.size = n ∧ Ok1 n c) (hx : a.eval x = .pointer (some ⟨w.heap.size, 0, none⟩)) (hy : a.eval y = .agg c) (h : wpList Tryd.prog ops Q rest (a.put d undef) (w.alloc (.cells c ty))) :
    wpList Tryd.prog ops Q ({ dst := d, op := .store ty x y, type := ty2, pos := pos, after := af, guard := none } :: rest) a (w.alloc (.cells old ty)) :=
  wpList_store_blk rfl ty x y rfl w.heap.size c old hx hy ty (blk_new w old ty) (ht.inf hc.2.1) (by rw [hc.1, hc.2.1]) hc.2.2 (by rw [World.setRow_alloc_new]; exact h)
/-- .. behind a guard that holds. -/
theorem wp_load_Rg {gi : Nat} {gb : Bool} (hw : Region.wanted { dst := d, op := .load ty x, type := ty2, pos := pos, after := af, guard := some (gi, gb) } (yielded ops a.tmps) = true) (ht : RowT ty n) (hr : Rf ty n w R c) (hx : a.eval x = .pointer (some ⟨R, 0, none⟩))
    (h : wpList Tryd.prog ops Q rest (a.put d (.agg c)) w) : wpList Tryd.prog ops Q ({ dst := d, op := .load ty x, type := ty2, pos := pos, after := af, guard := some (gi, gb) } :: rest) a w := by
  obtain ⟨de, hu⟩ := ht.u
  unfold wpList
  rw [if_pos hw]
  exact .inl (wp_load_row ty x rfl R hx ty c (0, 0) (.struct de) hr.blk hu rfl (ht.inf hr.size) h)
end
theorem run_load_R {ty : TypeId} {n : Nat} (ht : RowT ty n) {W : World} {R : Nat} {c : Array Value} (hr : Rf ty n W R c) : (loadVar ty ⟨R, 0, none⟩).run Tryd.prog W = .ok (.agg c) W := by
  obtain ⟨de, hu⟩ := ht.u
  exact run_loadVar_row W R ty ty c (0, 0) (.struct de) hr.blk hu rfl (ht.inf hr.size)
theorem res_R {fn : Func} {p : Tmp} {ty : TypeId} {n : Nat} (ht : RowT ty n) (h : fn.results = #[.cell p ty]) (tmps : Array Value) {W : World} {R : Nat} {c : Array Value} (hr : Rf ty n W R c) (hp : tmps.getD p undef = .pointer (some ⟨R, 0, none⟩)) :
    (results fn tmps).run Tryd.prog W = .ok (.agg c) W := by
  have hp' : tmps[p]?.getD undef = .pointer (some ⟨R, 0, none⟩) := by simpa using hp
  simp [results, h, hp', asAddr, run_load_R ht hr]
theorem res_R_tmp {fn : Func} {p u : Tmp} {ty : TypeId} {n : Nat} (ht : RowT ty n) (h : fn.results = #[.cell p ty, .tmp u]) (tmps : Array Value) {W : World} {R : Nat} {c : Array Value} (hr : Rf ty n W R c) (hp : tmps.getD p undef = .pointer (some ⟨R, 0, none⟩)) :
    (results fn tmps).run Tryd.prog W = .ok (.tuple #[.agg c, tmps.getD u undef]) W := by
  have hp' : tmps[p]?.getD undef = .pointer (some ⟨R, 0, none⟩) := by simpa using hp
  simp [results, h, hp', asAddr, run_load_R ht hr]
theorem res_R_tmp2 {fn : Func} {p u v : Tmp} {ty : TypeId} {n : Nat} (ht : RowT ty n) (h : fn.results = #[.cell p ty, .tmp u, .tmp v]) (tmps : Array Value) {W : World} {R : Nat} {c : Array Value} (hr : Rf ty n W R c) (hp : tmps.getD p undef = .pointer (some ⟨R, 0, none⟩)) :
    (results fn tmps).run Tryd.prog W = .ok (.tuple #[.agg c, tmps.getD u undef, tmps.getD v undef]) W := by
  have hp' : tmps[p]?.getD undef = .pointer (some ⟨R, 0, none⟩) := by simpa using hp
  simp [results, h, hp', asAddr, run_load_R ht hr]
theorem res_sRs {fn : Func} {p q u : Tmp} {ty : TypeId} {n : Nat} (ht : RowT ty n) (h : fn.results = #[.tmp p, .cell q ty, .tmp u]) (tmps : Array Value) {W : World} {R : Nat} {c : Array Value} (hr : Rf ty n W R c) (hp : tmps.getD q undef = .pointer (some ⟨R, 0, none⟩)) :
    (results fn tmps).run Tryd.prog W = .ok (.tuple #[tmps.getD p undef, .agg c, tmps.getD u undef]) W := by
  have hp' : tmps[q]?.getD undef = .pointer (some ⟨R, 0, none⟩) := by simpa using hp
  simp [results, h, hp', asAddr, run_load_R ht hr]

/-! ### drawn regions -/
theorem take_d {P : Program} {md : Region.Mode} {ops : Array Oper} {Q : Exit → Act → World → Prop} {S : World → Prop} {i : Nat} {oi : Oper} {d : Option Tmp} {v : Value} {fuel : Nat} {listed : Array Bool} {a : Act} {w : World} (hi : ops[i]? = some oi) (hd : oi.dst = d)
    (hs : Region.noSelect ops = true) (hf : Region.free md ops listed i = true) (hr : (Region.ready md ops listed).contains i = true)
    (hQ : ∀ c a w, Q (.panic c) (a.put oi.dst v) w → Q (.panic c) a w) (hy : YieldsIf P ops S oi v a) (hS : S w)
    (h : wpAnyH P md ops Q S fuel (listed.setIfInBounds i true) (a.put d v) w) : wpAnyH P md ops Q S (fuel + 1) listed a w := by
  subst hd
  exact wpAnyH_take hi hs hf hr hQ hy hS h
/-- From here on more holds at each world. -/
theorem anyH_more {P : Program} {md : Region.Mode} {ops : Array Oper} {Q : Exit → Act → World → Prop} {S S' : World → Prop} (hm : ∀ w, S' w → S w) : ∀ (fuel : Nat) (listed : Array Bool) (a : Act) (w : World), wpAnyH P md ops Q S' fuel listed a w → wpAnyH P md ops Q S fuel listed a w
  | 0, _, _, _, h => h
  | fuel + 1, _, _, _, h => ⟨h.1, fun i hi => wpOp_mono (fun a' w' h' => ⟨hm _ h'.1, anyH_more hm fuel _ a' w' h'.2⟩) (h.2 i hi)⟩
section
variable {ops : Array Oper} {S : World → Prop} {op : Oper} {a : Act} {x : Operand} {ty : TypeId} {n : Nat}
theorem y_R {R : Nat} {c : Array Value} (ht : RowT ty n) (hw : Region.wanted op (yielded ops a.tmps) = true) (ho : op.op = .load ty x) (hx : a.eval x = .pointer (some ⟨R, 0, none⟩)) (hS : ∀ W, S W → Rf ty n W R c) : YieldsIf Tryd.prog ops S op (.agg c) a :=
  .inl ⟨hw, fun W hW => by
    unfold execOp
    simp only [ho, hx, Instr.loadAt, Instr.sureAddr, Sem.run_bind, Sem.run_pure, Result.andThen_ok, run_load_R ht (hS W hW)]⟩
end
/-- A whole block is stored, loaded, at the operation. -/
theorem o_store_R {d : Option Tmp} {op : Oper} {a : Act} {w : World} {K : Act → World → Prop} {Q : Exit → Act → World → Prop} {x y : Operand} {ty : TypeId} {n R : Nat} {old : Array Value} (hd : op.dst = d) (c : Array Value) (ht : RowT ty n) (hr : Rf ty n w R old) (hc : Ok1 n c) (ho : op.op = .store ty x y) (hx : a.eval x = .pointer (some ⟨R, 0, none⟩)) (hy : a.eval y = .agg c)
    (h : K (a.put d undef) (w.setRow R c)) : op.wp Tryd.prog a w K Q := by
  subst hd
  unfold Oper.wp execOp
  simp only [ho, hx, hy, Instr.storeAt, Instr.sureAddr, Sem.run_bind, Sem.run_pure, Result.andThen_ok, run_storeVar_row w R ty ty old c hr.blk (ht.inf hc.1) (by rw [hr.size, hc.1]) hc.2]
  exact h
theorem o_load_R {d : Option Tmp} {op : Oper} {a : Act} {w : World} {K : Act → World → Prop} {Q : Exit → Act → World → Prop} {x : Operand} {ty : TypeId} {n R : Nat} {c : Array Value} (hd : op.dst = d) (ht : RowT ty n) (hr : Rf ty n w R c) (ho : op.op = .load ty x) (hx : a.eval x = .pointer (some ⟨R, 0, none⟩))
    (h : K (a.put d (.agg c)) w) : op.wp Tryd.prog a w K Q := by
  subst hd
  obtain ⟨de, hu⟩ := ht.u
  exact wp_load_row ty x ho R hx ty c (0, 0) (.struct de) hr.blk hu rfl (ht.inf hr.size) h
/-- Nothing is kept. -/
def Tr (_ : World) : Prop := True
theorem tr (w : World) : Tr w := trivial
/-- The operation gives v, and makes of the world w1. -/
theorem o_ok {d : Option Tmp} {op : Oper} {a : Act} {w : World} {K : Act → World → Prop} {Q : Exit → Act → World → Prop} (hd : op.dst = d) (v : Value) (w1 : World) (h : (execOp a.eval op).run Tryd.prog w = .ok (.value v) w1) (hK : K (a.put d v) w1) : op.wp Tryd.prog a w K Q := by
  subst hd
  unfold Oper.wp
  rw [h]
  exact hK
/-- .. a store. -/
theorem o_skip {d : Option Tmp} {op : Oper} {a : Act} {w : World} {K : Act → World → Prop} {Q : Exit → Act → World → Prop} (hd : op.dst = d) (w1 : World) (h : (execOp a.eval op).run Tryd.prog w = .ok .skip w1) (hK : K (a.put d undef) w1) : op.wp Tryd.prog a w K Q := by
  subst hd
  unfold Oper.wp
  rw [h]
  exact hK
/-! ### a row in the middle of a block -/
theorem y_M {ops : Array Oper} {S : World → Prop} {op : Oper} {a : Act} {x : Operand} {ty : TypeId} {n R o : Nat} {c : Array Value} (ht : RowT ty n) (hw : Region.wanted op (yielded ops a.tmps) = true) (ho : op.op = .load ty x) (hx : a.eval x = .pointer (some ⟨R, o, none⟩)) (hs : c.size = n) (hS : ∀ W, S W → W.rangeAt R o c.toList) : YieldsIf Tryd.prog ops S op (.agg c) a :=
  .inl ⟨hw, fun W hW => by
    obtain ⟨de, hu⟩ := ht.u
    have := run_loadAt_mid (P := Tryd.prog) W R o ty c.toList _ (hS W hW) hu rfl (by rw [ht.i]; simp [hs])
    unfold execOp
    simp only [ho, hx, Sem.run_bind, this, Result.andThen_ok]
    rfl⟩
theorem wp_load_M {ops : Array Oper} {rest : List Oper} {a : Act} {w : World} {Q : Exit → Act → World → Prop} {R o : Nat} {c : Array Value} {d : Option Tmp} {x : Operand} {ty ty2 : TypeId} {pos : String} {af : Array Edge} {n : Nat} (ht : RowT ty n) (hr : w.rangeAt R o c.toList ∧ c.size = n) (hx : a.eval x = .pointer (some ⟨R, o, none⟩)) (h : wpList Tryd.prog ops Q rest (a.put d (.agg c)) w) :
    wpList Tryd.prog ops Q ({ dst := d, op := .load ty x, type := ty2, pos := pos, after := af, guard := none } :: rest) a w := by
  obtain ⟨de, hu⟩ := ht.u
  have := run_loadAt_mid (P := Tryd.prog) w R o ty c.toList _ hr.1 hu rfl (by rw [ht.i]; simp [hr.2])
  refine wpList_plain rfl fun K hK => ?_
  unfold Oper.wp execOp
  simp only [hx, Sem.run_bind, this, Result.andThen_ok]
  exact hK _ _ h

/-- Whatever is made above leaves it as it is. -/
def Stable (I : World → Prop) : Prop := ∀ W W', I W → Below W.heap.size W W' → I W'
theorem Stable.drew {I : World → Prop} (h : Stable I) {W : World} (hi : I W) : I W.drew := h _ _ hi (Below.refl _ _).drew
theorem Stable.alloc {I : World → Prop} (h : Stable I) {W : World} (hi : I W) (o : Obj) : I (W.alloc o) := h _ _ hi ((Below.refl _ _).alloc (Nat.le_refl _) o)
end Go.Proofs.YthjdfneibogcgaaDoor
