/-
  Layer 7: the document's lines and lines as whole blocks, read and written, at the walk and in drawn regions.
-/
import Derived.Test.YtmnkggnghflcpaaBytes
import Derived.Deep.RegionHeld
import Derived.Deep.RegionHeld3
import Derived.Laws.ResultCell
namespace Go.Proofs.Ytmnkggnghflcpaa
open Go.RowKit
set_option linter.unusedVariables false

/-- The document's lines lie at block R, as these cells. -/
structure Rf (w : World) (R : Nat) (c : Array Value) : Prop where
  blk : Blk w R c 30
  size : c.size = 9
  one : c.all (·.oneCell') = true
theorem NumsIn.one {w : World} {v : Value} {xs : List Int} (h : NumsIn .u8 w v xs) : v.oneCell' = true := by
  obtain ⟨o, c, rfl, _⟩ := h.form
  rfl
theorem Rv.size {w : World} {l : Ls} {c : Array Value} {G : Nat → Prop} (h : Rv w l c G) : c.size = 9 := by
  obtain ⟨pv, tv, rfl, rfl, h⟩ := h
  rfl
theorem Rv.one {w : World} {l : Ls} {c : Array Value} {G : Nat → Prop} (h : Rv w l c G) : c.all (·.oneCell') = true := by
  obtain ⟨pv, tv, rfl, rfl, h⟩ := h
  exact one_rcL l pv tv h.p.one h.t.one
section
variable {w w' : World} {R : Nat} {c c' : Array Value} {l : Ls} {G : Nat → Prop}
theorem Rv.new (h : Rv w l c G) (w' : World) : Rf (w'.alloc (.cells c 30)) w'.heap.size c := ⟨blk_new _ _ _, h.size, h.one⟩
theorem Rf.lt (h : Rf w R c) : R < w.heap.size := h.blk.lt
theorem Rf.keep (h : Rf w R c) (hk : w'.heap[R]? = w.heap[R]?) : Rf w' R c := ⟨h.blk.keep hk, h.size, h.one⟩
theorem Rf.below (h : Rf w R c) (hb : Below w.heap.size w w') : Rf w' R c := ⟨h.blk.below hb, h.size, h.one⟩
theorem Rf.below' {B : Nat} (h : Rf w R c) (hb : Below B w w') (hB : R < B) : Rf w' R c := ⟨h.blk.below' hb hB, h.size, h.one⟩
theorem Rf.turned {F : Nat → Prop} (h : Rf w R c) (ht : Turned F w w') (hn : ¬ F R) : Rf w' R c := ⟨h.blk.turned ht hn, h.size, h.one⟩
theorem Rf.alloc (h : Rf w R c) (o : Obj) : Rf (w.alloc o) R c := ⟨h.blk.alloc o, h.size, h.one⟩
theorem Rf.drew (h : Rf w R c) : Rf w.drew R c := ⟨h.blk.drew, h.size, h.one⟩
theorem Rf.set (h : Rf w R c) (h' : c'.size = 9) (h1 : c'.all (·.oneCell') = true) : Rf (w.setRow R c') R c' := ⟨h.blk.set c', h', h1⟩
theorem Rf.setOther (h : Rf w R c) {g : Nat} (hg : R ≠ g) (cs' : Array Value) : Rf (w.setRow g cs') R c := ⟨h.blk.setOther hg cs', h.size, h.one⟩
end
theorem infoR' {c : Array Value} (h : c.size = 9) : (Try.prog.info? 30).map (·.size) = some c.size := by rw [h]; exact infoR
section
variable {ops : Array Oper} {rest : List Oper} {a : Act} {w : World} {Q : Exit → Act → World → Prop} {R S : Nat} {c old : Array Value} {d : Option Tmp} {x y : Operand} {ty : TypeId} {pos : String} {af : Array Edge}
theorem wp_load_R (hr : Rf w R c) (hx : a.eval x = .pointer (some ⟨R, 0, none⟩)) (h : wpList Try.prog ops Q rest (a.put d (.agg c)) w) :
    wpList Try.prog ops Q ({ dst := d, op := .load 30 x, type := ty, pos := pos, after := af, guard := none } :: rest) a w :=
  wpList_load_row rfl 30 x rfl R hx 30 c (0, 0) _ hr.blk Try.underlying30 rfl (infoR' hr.size) h
theorem wp_store_R (c : Array Value) (hr : Rf w R old ∧ c.size = 9 ∧ c.all (·.oneCell') = true) (hx : a.eval x = .pointer (some ⟨R, 0, none⟩)) (hy : a.eval y = .agg c) (h : wpList Try.prog ops Q rest (a.put d undef) (w.setRow R c)) :
    wpList Try.prog ops Q ({ dst := d, op := .store 30 x y, type := ty, pos := pos, after := af, guard := none } :: rest) a w :=
  wpList_store_blk rfl 30 x y rfl R c old hx hy 30 hr.1.blk (infoR' hr.2.1) (by rw [hr.1.size, hr.2.1]) hr.2.2 h
/-- .. into the block that was made last. -/
theorem wp_store_Rn (c : Array Value) (hc : old.size = 9 ∧ c.size = 9 ∧ c.all (·.oneCell') = true) (hx : a.eval x = .pointer (some ⟨w.heap.size, 0, none⟩)) (hy : a.eval y = .agg c) (h : wpList Try.prog ops Q rest (a.put d undef) (w.alloc (.cells c 30))) :
    wpList Try.prog ops Q ({ dst := d, op := .store 30 x y, type := ty, pos := pos, after := af, guard := none } :: rest) a (w.alloc (.cells old 30)) :=
  wpList_store_blk rfl 30 x y rfl w.heap.size c old hx hy 30 (blk_new w old 30) (infoR' hc.2.1) (by rw [hc.1, hc.2.1]) hc.2.2 (by rw [World.setRow_alloc_new]; exact h)
theorem wp_load_L (hr : Blk w S c 71 ∧ c.size = 10) (hx : a.eval x = .pointer (some ⟨S, 0, none⟩)) (h : wpList Try.prog ops Q rest (a.put d (.agg c)) w) :
    wpList Try.prog ops Q ({ dst := d, op := .load 71 x, type := ty, pos := pos, after := af, guard := none } :: rest) a w :=
  wpList_load_row rfl 71 x rfl S hx 71 c (0, 0) _ hr.1 Try.underlying71 rfl (by rw [hr.2]; exact infoL) h
theorem wp_store_Ln (c : Array Value) (hc : c.size = 10 ∧ c.all (·.oneCell') = true) (hs : old.size = 10) (hx : a.eval x = .pointer (some ⟨w.heap.size, 0, none⟩)) (hy : a.eval y = .agg c) (h : wpList Try.prog ops Q rest (a.put d undef) (w.alloc (.cells c 71))) :
    wpList Try.prog ops Q ({ dst := d, op := .store 71 x y, type := ty, pos := pos, after := af, guard := none } :: rest) a (w.alloc (.cells old 71)) :=
  wpList_store_blk rfl 71 x y rfl w.heap.size c old hx hy 71 (blk_new w old 71) (by rw [hc.1]; exact infoL) (by rw [hs, hc.1]) hc.2 (by rw [World.setRow_alloc_new]; exact h)
/-- .. behind a guard that holds. -/
theorem wp_load_Rg {gi : Nat} {gb : Bool} (hw : Region.wanted { dst := d, op := .load 30 x, type := ty, pos := pos, after := af, guard := some (gi, gb) } (yielded ops a.tmps) = true) (hr : Rf w R c) (hx : a.eval x = .pointer (some ⟨R, 0, none⟩))
    (h : wpList Try.prog ops Q rest (a.put d (.agg c)) w) : wpList Try.prog ops Q ({ dst := d, op := .load 30 x, type := ty, pos := pos, after := af, guard := some (gi, gb) } :: rest) a w := by
  unfold wpList
  rw [if_pos hw]
  exact .inl (wp_load_row 30 x rfl R hx 30 c (0, 0) _ hr.blk Try.underlying30 rfl (infoR' hr.size) h)
end
theorem res_R {fn : Func} {p : Tmp} (h : fn.results = #[.cell p 30]) (tmps : Array Value) {W : World} {R : Nat} {c : Array Value} (hr : Rf W R c) (hp : tmps.getD p undef = .pointer (some ⟨R, 0, none⟩)) :
    (results fn tmps).run Try.prog W = .ok (.agg c) W := results_cell_row h tmps W R 30 c (0, 0) _ hp hr.blk Try.underlying30 rfl (infoR' hr.size)
theorem res_R_tmp {fn : Func} {p u : Tmp} (h : fn.results = #[.cell p 30, .tmp u]) (tmps : Array Value) {W : World} {R : Nat} {c : Array Value} (hr : Rf W R c) (hp : tmps.getD p undef = .pointer (some ⟨R, 0, none⟩)) :
    (results fn tmps).run Try.prog W = .ok (.tuple #[.agg c, tmps.getD u undef]) W := by
  rw [results_cell_tmp h, hp]
  simp only [asAddr, Sem.run_pure, Result.andThen_ok]
  rw [run_loadVar_row W R 30 30 c (0, 0) _ hr.blk Try.underlying30 rfl (infoR' hr.size)]
  rfl
theorem res_R_tmp3 {fn : Func} {p u v x : Tmp} (h : fn.results = #[.cell p 30, .tmp u, .tmp v, .tmp x]) (tmps : Array Value) {W : World} {R : Nat} {c : Array Value} (hr : Rf W R c) (hp : tmps.getD p undef = .pointer (some ⟨R, 0, none⟩)) :
    (results fn tmps).run Try.prog W = .ok (.tuple #[.agg c, tmps.getD u undef, tmps.getD v undef, tmps.getD x undef]) W := by
  have hp' : tmps[p]?.getD undef = .pointer (some ⟨R, 0, none⟩) := by simpa using hp
  have hl := run_loadVar_row (P := Try.prog) W R 30 30 c (0, 0) _ hr.blk Try.underlying30 rfl (infoR' hr.size)
  simp [results, h, hp', asAddr, hl]
theorem res_sRs {fn : Func} {p q u : Tmp} (h : fn.results = #[.tmp p, .cell q 30, .tmp u]) (tmps : Array Value) {W : World} {R : Nat} {c : Array Value} (hr : Rf W R c) (hp : tmps.getD q undef = .pointer (some ⟨R, 0, none⟩)) :
    (results fn tmps).run Try.prog W = .ok (.tuple #[tmps.getD p undef, .agg c, tmps.getD u undef]) W := by
  have hp' : tmps[q]?.getD undef = .pointer (some ⟨R, 0, none⟩) := by simpa using hp
  have hl := run_loadVar_row (P := Try.prog) W R 30 30 c (0, 0) _ hr.blk Try.underlying30 rfl (infoR' hr.size)
  simp [results, h, hp', asAddr, hl]

/-! ### drawn regions -/
theorem take_d {P : Program} {md : Region.Mode} {ops : Array Oper} {Q : Exit → Act → World → Prop} {S : World → Prop} {i : Nat} {oi : Oper} {d : Option Tmp} {v : Value} {fuel : Nat} {listed : Array Bool} {a : Act} {w : World} (hi : ops[i]? = some oi) (hd : oi.dst = d)
    (hs : Region.noSelect ops = true) (hf : Region.free md ops listed i = true) (hr : (Region.ready md ops listed).contains i = true)
    (hQ : ∀ c a w, Q (.panic c) (a.put oi.dst v) w → Q (.panic c) a w) (hy : YieldsIf P ops S oi v a) (hS : S w)
    (h : wpAnyH P md ops Q S fuel (listed.setIfInBounds i true) (a.put d v) w) : wpAnyH P md ops Q S (fuel + 1) listed a w := by
  subst hd
  exact wpAnyH_take hi hs hf hr hQ hy hS h
/-- From here on more holds at each world. -/
theorem anyH_more {P : Program} {md : Region.Mode} {ops : Array Oper} {Q : Exit → Act → World → Prop} {S S' : World → Prop} (hm : ∀ w, S' w → S w) : ∀ (fuel : Nat) (listed : Array Bool) (a : Act) (w : World), wpAnyH P md ops Q S' fuel listed a w → wpAnyH P md ops Q S fuel listed a w
  | 0, _, _, _, h => h
  | fuel + 1, _, _, _, h => ⟨h.1, fun i hi => wpOp_mono (fun a' w' h' => ⟨hm _ h'.1, anyH_more hm fuel _ a' w' h'.2⟩) (h.2 i hi)⟩
section
variable {ops : Array Oper} {S : World → Prop} {op : Oper} {a : Act} {x : Operand}
theorem y_R {R : Nat} {c : Array Value} (hw : Region.wanted op (yielded ops a.tmps) = true) (ho : op.op = .load 30 x) (hx : a.eval x = .pointer (some ⟨R, 0, none⟩)) (hS : ∀ W, S W → Rf W R c) (hc : c.size = 9) : YieldsIf Try.prog ops S op (.agg c) a :=
  yieldsIf_load_mid hw 30 x ho R 0 hx c.toList _ (fun W hW => (hS W hW).blk.range 0 _ (List.take_of_length_le (by simp))) Try.underlying30 rfl (by rw [Array.length_toList, hc]; exact infoR)
theorem y_conv {v : Value} {xs : List Int} (hw : Region.wanted op (yielded ops a.tmps) = true) (ho : op.op = .convert 28 9 x) (hx : a.eval x = v) (hS : ∀ W, S W → NumsIn .u8 W v xs) : YieldsIf Try.prog ops S op (.string (strOfNums xs)) a :=
  .inl ⟨hw, fun W hW => by
    unfold execOp
    simp only [ho, hx, Sem.run_bind, str_conv (hS W hW), Result.andThen_ok]
    rfl⟩
end
/-- A whole block is stored, at the operation. -/
theorem o_store_R {op : Oper} {a : Act} {w : World} {K : Act → World → Prop} {Q : Exit → Act → World → Prop} {x y : Operand} {R : Nat} {old : Array Value} (c : Array Value) (hr : Rf w R old) (hc : c.size = 9 ∧ c.all (·.oneCell') = true) (ho : op.op = .store 30 x y) (hx : a.eval x = .pointer (some ⟨R, 0, none⟩)) (hy : a.eval y = .agg c)
    (h : K (a.put op.dst undef) (w.setRow R c)) : op.wp Try.prog a w K Q := by
  unfold Oper.wp execOp
  simp only [ho, hx, hy, Instr.storeAt, Instr.sureAddr, Sem.run_bind, Sem.run_pure, Result.andThen_ok, run_storeVar_row w R 30 30 old c hr.blk (infoR' hc.1) (by rw [hr.size, hc.1]) hc.2]
  exact h
theorem o_alloc_R {op : Oper} {a : Act} {w : World} {K : Act → World → Prop} {Q : Exit → Act → World → Prop} (ho : op.op = .alloc 30)
    (h : K (a.put op.dst (.pointer (some ⟨w.heap.size, 0, none⟩))) (w.alloc (.cells (rcL L0 (.slice none 0 0) (.slice none 0 0)) 30))) : op.wp Try.prog a w K Q := by
  unfold Oper.wp execOp
  simp only [ho]
  go_simp
  exact h
/-- Whatever is made above leaves it as it is. -/
def Stable (I : World → Prop) : Prop := ∀ W W', I W → Below W.heap.size W W' → I W'
theorem stable_and {I J : World → Prop} (h : Stable I) (k : Stable J) : Stable fun W => I W ∧ J W := fun W W' hi hb => ⟨h _ _ hi.1 hb, k _ _ hi.2 hb⟩
theorem stable_below (w : World) : Stable fun W => Below w.heap.size w W := fun W W' h hb => h.trans (hb.mono h.size)
theorem stable_at (S : Nat) (l : Ls) (F : Nat → Prop) : Stable fun W => At W S l F := fun W W' h hb => h.below hb
theorem stable_rv (l : Ls) (c : Array Value) (G : Nat → Prop) : Stable fun W => Rv W l c G := fun W W' h hb => h.below hb
theorem stable_rf (R : Nat) (c : Array Value) : Stable fun W => Rf W R c := fun W W' h hb => h.below hb
theorem stable_nums (v : Value) (xs : List Int) : Stable fun W => NumsIn .u8 W v xs := fun W W' h hb => h.below hb
theorem Stable.drew {I : World → Prop} (h : Stable I) {W : World} (hi : I W) : I W.drew := h _ _ hi (Below.refl _ _).drew
theorem Stable.alloc {I : World → Prop} (h : Stable I) {W : World} (hi : I W) (o : Obj) : I (W.alloc o) := h _ _ hi ((Below.refl _ _).alloc (Nat.le_refl _) o)
end Go.Proofs.Ytmnkggnghflcpaa
