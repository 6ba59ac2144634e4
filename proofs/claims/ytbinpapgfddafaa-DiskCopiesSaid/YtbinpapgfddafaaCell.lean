/-
  Layer 8: sectors in boxes, read and written whole, at the walk and in drawn regions; two sectors held against each other.
-/
import Derived.Test.YtbinpapgfddafaaTab
import Derived.Deep.RegionHeld
import Derived.Deep.RegionHeld3
import Derived.Laws.ResultCell
import Derived.Deep.MidRow
import Derived.Lib.Hide
namespace Go.Proofs.Ytbinpapgfddafaa
open Go.RowKit
set_option linter.unusedVariables false
set_option linter.unusedSimpArgs false

/-! ### == of sectors -/
theorem part_u8 (l : List Int) (i : Nat) (hi : i < l.length) (w : World) : (part 5 (sc l) i).run Try.prog w = .ok (.int .u8 (at0 l i)) w := by
  have u3 := Try.underlying5
  have hg : (bv l)[i]? = some (.int .u8 (at0 l i)) := by rw [bv_at, at0_lt hi]; rfl
  unfold part sc
  go_simp
theorem eq_u8 (a b : Int) (w : World) : (Op.equalIn 9999 5 (.int .u8 a) (.int .u8 b)).run Try.prog w = .ok (a == b) w := by
  rw [show (9999 : Nat) = 9998 + 1 from rfl, Op.equalIn]
  simp [Sem.run_bind, run_underlying Try.underlying5, Result.andThen_ok]
theorem size_u8 (w : World) : (sizeOf 5).run Try.prog w = .ok 1 w := by kernel_rfl
def eqFrom (l m : List Int) (s : Nat) : Nat → Bool
  | 0 => true
  | n + 1 => (at0 l s == at0 m s) && eqFrom l m (s + 1) n
theorem eq_loop (l m : List Int) (hl : l.length = 64) (hm : m.length = 64) (w : World) : ∀ (n s : Nat), s + n ≤ 64 →
    Sem.run Try.prog (forIn (List.range' s n) ((none, ()) : Option Bool × Unit) fun i __s => do
      let __do_lift ← part 5 (sc l) (i * 1)
      let __do_lift_1 ← part 5 (sc m) (i * 1)
      let __do_lift ← Op.equalIn 9999 5 __do_lift __do_lift_1
      if (!__do_lift) = true then pure (ForInStep.done (some false, ())) else pure (ForInStep.yield (none, ()))) w = .ok (if eqFrom l m s n = true then (none, ()) else (some false, ())) w
  | 0, s, _ => by simp [eqFrom]
  | n + 1, s, h => by
    rw [List.range'_succ, List.forIn_cons]
    simp only [Sem.run_bind, Nat.mul_one, part_u8 l s (by omega) w, part_u8 m s (by omega) w, eq_u8, Result.andThen_ok]
    have ih := eq_loop l m hl hm w n (s + 1) (by omega)
    simp only [Nat.mul_one] at ih
    by_cases e : at0 l s = at0 m s
    · simp only [e, beq_self_eq_true, Bool.not_true, Bool.false_eq_true, if_false, Sem.run_pure, Result.andThen_ok]
      rw [ih]
      simp [eqFrom, e]
    · have e' : (at0 l s == at0 m s) = false := by simpa using e
      simp [eqFrom, e']
theorem eqFrom_at {l m : List Int} : ∀ {n s : Nat}, eqFrom l m s n = true → ∀ i, s ≤ i → i < s + n → at0 l i = at0 m i
  | 0, s, _, i, h1, h2 => by omega
  | n + 1, s, h, i, h1, h2 => by
    simp [eqFrom] at h
    by_cases e : i = s
    · subst e; exact h.1
    · exact eqFrom_at h.2 i (by omega) (by omega)
theorem eqFrom_self (l : List Int) : ∀ n s, eqFrom l l s n = true
  | 0, _ => rfl
  | n + 1, s => by simp [eqFrom, eqFrom_self l n (s + 1)]
theorem eqFrom_iff {l m : List Int} (hl : l.length = 64) (hm : m.length = 64) : eqFrom l m 0 64 = decide (l = m) := by
  rw [Bool.eq_iff_iff, decide_eq_true_eq]
  constructor
  · intro h; exact list_ext0 (by omega) (fun i hi => eqFrom_at h i (by omega) (by omega))
  · rintro rfl; exact eqFrom_self _ _ _
theorem eq_sec (l m : List Int) (hl : l.length = 64) (hm : m.length = 64) (w : World) :
    (Op.equalIn 10000 61 (.agg (sc l)) (.agg (sc m))).run Try.prog w = .ok (decide (l = m)) w := by
  rw [show (10000 : Nat) = 9999 + 1 from rfl, Op.equalIn]
  simp only [Sem.run_bind, run_underlying Try.underlying61, Result.andThen_ok]
  simp only [Std.Legacy.Range.forIn_eq_forIn_range', Std.Legacy.Range.size, Nat.sub_zero, Nat.add_sub_cancel, Nat.div_one, size_u8, Result.andThen_ok]
  rw [eq_loop l m hl hm w 64 0 (by omega), eqFrom_iff hl hm]
  by_cases h : l = m <;> simp [h]
theorem eq_arr (l m : List Int) (hl : l.length = 64) (hm : m.length = 64) (w : World) :
    (Op.equalIn 10000 37 (.agg (sc l)) (.agg (sc m))).run Try.prog w = .ok (decide (l = m)) w := by
  rw [show (10000 : Nat) = 9999 + 1 from rfl, Op.equalIn]
  simp only [Sem.run_bind, run_underlying Try.underlying37, Result.andThen_ok]
  simp only [Std.Legacy.Range.forIn_eq_forIn_range', Std.Legacy.Range.size, Nat.sub_zero, Nat.add_sub_cancel, Nat.div_one, size_u8, Result.andThen_ok]
  rw [eq_loop l m hl hm w 64 0 (by omega), eqFrom_iff hl hm]
  by_cases h : l = m <;> simp [h]
theorem guard_sec (o : BinOp) (x y : Operand) (xs ys : Array Value) (w : World) : (eqGuard o 61 x y (.agg xs) (.agg ys)).run Try.prog w = .ok () w := by
  have : Try.prog.eqGuardType Try.prog.depth 61 = false := by kernel_rfl
  unfold eqGuard
  simp [this]
theorem guard_arr (o : BinOp) (x y : Operand) (xs ys : Array Value) (w : World) : (eqGuard o 37 x y (.agg xs) (.agg ys)).run Try.prog w = .ok () w := by
  have : Try.prog.eqGuardType Try.prog.depth 37 = false := by kernel_rfl
  unfold eqGuard
  simp [this]
theorem eql_sec (l m : List Int) (hl : l.length = 64) (hm : m.length = 64) (w : World) : (binOp .eql 61 (.agg (sc l)) (.agg (sc m))).run Try.prog w = .ok (.bool (decide (l = m))) w := by
  simp [binOp, Op.equal, Op.maxDepth, eq_sec l m hl hm, Sem.run_bind, Result.andThen]
theorem neq_sec (l m : List Int) (hl : l.length = 64) (hm : m.length = 64) (w : World) : (binOp .neq 61 (.agg (sc l)) (.agg (sc m))).run Try.prog w = .ok (.bool (!decide (l = m))) w := by
  simp [binOp, Op.equal, Op.maxDepth, eq_sec l m hl hm, Sem.run_bind, Result.andThen]
theorem eql_arr (l m : List Int) (hl : l.length = 64) (hm : m.length = 64) (w : World) : (binOp .eql 37 (.agg (sc l)) (.agg (sc m))).run Try.prog w = .ok (.bool (decide (l = m))) w := by
  simp [binOp, Op.equal, Op.maxDepth, eq_arr l m hl hm, Sem.run_bind, Result.andThen]
theorem neq_arr (l m : List Int) (hl : l.length = 64) (hm : m.length = 64) (w : World) : (binOp .neq 37 (.agg (sc l)) (.agg (sc m))).run Try.prog w = .ok (.bool (!decide (l = m))) w := by
  simp [binOp, Op.equal, Op.maxDepth, eq_arr l m hl hm, Sem.run_bind, Result.andThen]

/-! ### boxes -/
/-- A block of the type of sectors, of arrays, holds x. -/
structure Bs (w : World) (B : Nat) (x : List Int) : Prop where
  blk : Blk w B (sc x) 61
  len : x.length = 64
structure Ba (w : World) (B : Nat) (x : List Int) : Prop where
  blk : Blk w B (sc x) 37
  len : x.length = 64
section
variable {w w' : World} {B : Nat} {x y : List Int}
theorem Bs.keep (h : Bs w B x) (hk : w'.heap[B]? = w.heap[B]?) : Bs w' B x := ⟨h.blk.keep hk, h.len⟩
theorem Ba.keep (h : Ba w B x) (hk : w'.heap[B]? = w.heap[B]?) : Ba w' B x := ⟨h.blk.keep hk, h.len⟩
theorem Bs.below (h : Bs w B x) (hb : Below w.heap.size w w') : Bs w' B x := ⟨h.blk.below hb, h.len⟩
theorem Ba.below (h : Ba w B x) (hb : Below w.heap.size w w') : Ba w' B x := ⟨h.blk.below hb, h.len⟩
theorem Ba.turned {F : Nat → Prop} (h : Ba w B x) (ht : Turned F w w') (hn : ¬ F B) : Ba w' B x := ⟨h.blk.turned ht hn, h.len⟩
theorem Bs.alloc (h : Bs w B x) (o : Obj) : Bs (w.alloc o) B x := ⟨h.blk.alloc o, h.len⟩
theorem Ba.alloc (h : Ba w B x) (o : Obj) : Ba (w.alloc o) B x := ⟨h.blk.alloc o, h.len⟩
theorem Bs.drew (h : Bs w B x) : Bs w.drew B x := ⟨h.blk.drew, h.len⟩
theorem Ba.drew (h : Ba w B x) : Ba w.drew B x := ⟨h.blk.drew, h.len⟩
theorem bs_new (w : World) (h : x.length = 64) : Bs (w.alloc (.cells (sc x) 61)) w.heap.size x := ⟨blk_new _ _ _, h⟩
theorem ba_new (w : World) (h : x.length = 64) : Ba (w.alloc (.cells (sc x) 37)) w.heap.size x := ⟨blk_new _ _ _, h⟩
theorem Bs.set (h : Bs w B x) (hy : y.length = 64) : Bs (w.setRow B (sc y)) B y := ⟨h.blk.set _, hy⟩
theorem Ba.set (h : Ba w B x) (hy : y.length = 64) : Ba (w.setRow B (sc y)) B y := ⟨h.blk.set _, hy⟩
end
theorem infoS' {x : List Int} (h : x.length = 64) : (Try.prog.info? 61).map (·.size) = some (sc x).size := by rw [sc_size h]; exact infoS
theorem infoA' {x : List Int} (h : x.length = 64) : (Try.prog.info? 37).map (·.size) = some (sc x).size := by rw [sc_size h]; exact infoA
section
variable {ops : Array Oper} {rest : List Oper} {a : Act} {w : World} {Q : Exit → Act → World → Prop} {B : Nat} {l old : List Int} {d : Option Tmp} {x y : Operand} {ty : TypeId} {pos : String} {af : Array Edge}
theorem wp_load_S (hr : Bs w B l) (hx : a.eval x = .pointer (some ⟨B, 0, none⟩)) (h : wpList Try.prog ops Q rest (a.put d (.agg (sc l))) w) :
    wpList Try.prog ops Q ({ dst := d, op := .load 61 x, type := ty, pos := pos, after := af, guard := none } :: rest) a w :=
  wpList_load_row rfl 61 x rfl B hx 61 (sc l) (0, 0) _ hr.blk Try.underlying61 rfl (infoS' hr.len) h
theorem wp_load_A (hr : Ba w B l) (hx : a.eval x = .pointer (some ⟨B, 0, none⟩)) (h : wpList Try.prog ops Q rest (a.put d (.agg (sc l))) w) :
    wpList Try.prog ops Q ({ dst := d, op := .load 37 x, type := ty, pos := pos, after := af, guard := none } :: rest) a w :=
  wpList_load_row rfl 37 x rfl B hx 37 (sc l) (0, 0) _ hr.blk Try.underlying37 rfl (infoA' hr.len) h
/-- .. somewhere in a block. -/
theorem wp_load_Sm {o : Nat} (hr : w.rangeAt B o (bv l) ∧ l.length = 64) (hx : a.eval x = .pointer (some ⟨B, o, none⟩)) (h : wpList Try.prog ops Q rest (a.put d (.agg (sc l))) w) :
    wpList Try.prog ops Q ({ dst := d, op := .load 61 x, type := ty, pos := pos, after := af, guard := none } :: rest) a w :=
  wpList_load_mid rfl 61 x rfl B o hx (sc l).toList _ (by rw [sc_toList]; exact hr.1) Try.underlying61 rfl (by rw [Array.length_toList, sc_size hr.2]; exact infoS) h
theorem wp_load_Am {o : Nat} (hr : w.rangeAt B o (bv l) ∧ l.length = 64) (hx : a.eval x = .pointer (some ⟨B, o, none⟩)) (h : wpList Try.prog ops Q rest (a.put d (.agg (sc l))) w) :
    wpList Try.prog ops Q ({ dst := d, op := .load 37 x, type := ty, pos := pos, after := af, guard := none } :: rest) a w :=
  wpList_load_mid rfl 37 x rfl B o hx (sc l).toList _ (by rw [sc_toList]; exact hr.1) Try.underlying37 rfl (by rw [Array.length_toList, sc_size hr.2]; exact infoA) h
theorem wp_load_Amg {o gi : Nat} {gb : Bool} (hw : Region.wanted { dst := d, op := .load 37 x, type := ty, pos := pos, after := af, guard := some (gi, gb) } (yielded ops a.tmps) = true) (hr : w.rangeAt B o (bv l) ∧ l.length = 64) (hx : a.eval x = .pointer (some ⟨B, o, none⟩))
    (h : wpList Try.prog ops Q rest (a.put d (.agg (sc l))) w) : wpList Try.prog ops Q ({ dst := d, op := .load 37 x, type := ty, pos := pos, after := af, guard := some (gi, gb) } :: rest) a w := by
  unfold wpList
  rw [if_pos hw]
  exact .inl (wp_load_mid 37 x rfl B o hx (sc l).toList _ (by rw [sc_toList]; exact hr.1) Try.underlying37 rfl (by rw [Array.length_toList, sc_size hr.2]; exact infoA) h)
/-- Into a block that is there. -/
theorem wp_store_S (l : List Int) (hr : Bs w B old ∧ l.length = 64) (hx : a.eval x = .pointer (some ⟨B, 0, none⟩)) (hy : a.eval y = .agg (sc l)) (h : wpList Try.prog ops Q rest (a.put d undef) (w.setRow B (sc l))) :
    wpList Try.prog ops Q ({ dst := d, op := .store 61 x y, type := ty, pos := pos, after := af, guard := none } :: rest) a w :=
  wpList_store_blk rfl 61 x y rfl B (sc l) (sc old) hx hy 61 hr.1.blk (infoS' hr.2) (by rw [sc_size hr.1.len, sc_size hr.2]) (sc_one l) h
theorem wp_store_A (l : List Int) (hr : Ba w B old ∧ l.length = 64) (hx : a.eval x = .pointer (some ⟨B, 0, none⟩)) (hy : a.eval y = .agg (sc l)) (h : wpList Try.prog ops Q rest (a.put d undef) (w.setRow B (sc l))) :
    wpList Try.prog ops Q ({ dst := d, op := .store 37 x y, type := ty, pos := pos, after := af, guard := none } :: rest) a w :=
  wpList_store_blk rfl 37 x y rfl B (sc l) (sc old) hx hy 37 hr.1.blk (infoA' hr.2) (by rw [sc_size hr.1.len, sc_size hr.2]) (sc_one l) h
/-- .. into the block that was made last. -/
theorem wp_store_Sn (l : List Int) (hl : old.length = 64 ∧ l.length = 64) (hx : a.eval x = .pointer (some ⟨w.heap.size, 0, none⟩)) (hy : a.eval y = .agg (sc l)) (h : wpList Try.prog ops Q rest (a.put d undef) (w.alloc (.cells (sc l) 61))) :
    wpList Try.prog ops Q ({ dst := d, op := .store 61 x y, type := ty, pos := pos, after := af, guard := none } :: rest) a (w.alloc (.cells (sc old) 61)) :=
  wp_store_S l ⟨bs_new w hl.1, hl.2⟩ hx hy (by rw [World.setRow_alloc_new]; exact h)
theorem wp_store_An (l : List Int) (hl : old.length = 64 ∧ l.length = 64) (hx : a.eval x = .pointer (some ⟨w.heap.size, 0, none⟩)) (hy : a.eval y = .agg (sc l)) (h : wpList Try.prog ops Q rest (a.put d undef) (w.alloc (.cells (sc l) 37))) :
    wpList Try.prog ops Q ({ dst := d, op := .store 37 x y, type := ty, pos := pos, after := af, guard := none } :: rest) a (w.alloc (.cells (sc old) 37)) :=
  wp_store_A l ⟨ba_new w hl.1, hl.2⟩ hx hy (by rw [World.setRow_alloc_new]; exact h)
/-- .. its number spelled otherwise. -/
theorem wp_store_Sn1 (l : List Int) (B : Nat) (hl : old.length = 64 ∧ l.length = 64 ∧ w.heap.size = B) (hx : a.eval x = .pointer (some ⟨B, 0, none⟩)) (hy : a.eval y = .agg (sc l)) (h : wpList Try.prog ops Q rest (a.put d undef) (w.alloc (.cells (sc l) 61))) :
    wpList Try.prog ops Q ({ dst := d, op := .store 61 x y, type := ty, pos := pos, after := af, guard := none } :: rest) a (w.alloc (.cells (sc old) 61)) := by
  obtain ⟨h1, h2, rfl⟩ := hl
  exact wp_store_Sn l ⟨h1, h2⟩ hx hy h
theorem wp_store_An1 (l : List Int) (B : Nat) (hl : old.length = 64 ∧ l.length = 64 ∧ w.heap.size = B) (hx : a.eval x = .pointer (some ⟨B, 0, none⟩)) (hy : a.eval y = .agg (sc l)) (h : wpList Try.prog ops Q rest (a.put d undef) (w.alloc (.cells (sc l) 37))) :
    wpList Try.prog ops Q ({ dst := d, op := .store 37 x y, type := ty, pos := pos, after := af, guard := none } :: rest) a (w.alloc (.cells (sc old) 37)) := by
  obtain ⟨h1, h2, rfl⟩ := hl
  exact wp_store_An l ⟨h1, h2⟩ hx hy h
/-- .. behind a guard that holds. -/
theorem wp_load_Ag {gi : Nat} {gb : Bool} (hw : Region.wanted { dst := d, op := .load 37 x, type := ty, pos := pos, after := af, guard := some (gi, gb) } (yielded ops a.tmps) = true) (hr : Ba w B l) (hx : a.eval x = .pointer (some ⟨B, 0, none⟩))
    (h : wpList Try.prog ops Q rest (a.put d (.agg (sc l))) w) : wpList Try.prog ops Q ({ dst := d, op := .load 37 x, type := ty, pos := pos, after := af, guard := some (gi, gb) } :: rest) a w := by
  unfold wpList
  rw [if_pos hw]
  exact .inl (wp_load_row 37 x rfl B hx 37 (sc l) (0, 0) _ hr.blk Try.underlying37 rfl (infoA' hr.len) h)
end
theorem wp_load_Sg {ops : Array Oper} {rest : List Oper} {a : Act} {w : World} {Q : Exit → Act → World → Prop} {B : Nat} {l : List Int} {d : Option Tmp} {x : Operand} {ty : TypeId} {pos : String} {af : Array Edge} {gi : Nat} {gb : Bool} (hw : Region.wanted { dst := d, op := .load 61 x, type := ty, pos := pos, after := af, guard := some (gi, gb) } (yielded ops a.tmps) = true) (hr : Bs w B l) (hx : a.eval x = .pointer (some ⟨B, 0, none⟩))
    (h : wpList Try.prog ops Q rest (a.put d (.agg (sc l))) w) : wpList Try.prog ops Q ({ dst := d, op := .load 61 x, type := ty, pos := pos, after := af, guard := some (gi, gb) } :: rest) a w := by
  unfold wpList
  rw [if_pos hw]
  exact .inl (wp_load_row 61 x rfl B hx 61 (sc l) (0, 0) _ hr.blk Try.underlying61 rfl (infoS' hr.len) h)
theorem res_S {fn : Func} {p : Tmp} (h : fn.results = #[.cell p 61]) (tmps : Array Value) {W : World} {B : Nat} {l : List Int} (hr : Bs W B l) (hp : tmps.getD p undef = .pointer (some ⟨B, 0, none⟩)) :
    (results fn tmps).run Try.prog W = .ok (.agg (sc l)) W := results_cell_row h tmps W B 61 (sc l) (0, 0) _ hp hr.blk Try.underlying61 rfl (infoS' hr.len)
theorem res_A_tmp {fn : Func} {p u : Tmp} (h : fn.results = #[.cell p 37, .tmp u]) (tmps : Array Value) {W : World} {B : Nat} {l : List Int} (hr : Ba W B l) (hp : tmps.getD p undef = .pointer (some ⟨B, 0, none⟩)) :
    (results fn tmps).run Try.prog W = .ok (.tuple #[.agg (sc l), tmps.getD u undef]) W := by
  rw [results_cell_tmp h, hp]
  simp only [asAddr, Sem.run_pure, Result.andThen_ok]
  rw [run_loadVar_row W B 37 37 (sc l) (0, 0) _ hr.blk Try.underlying37 rfl (infoA' hr.len)]
  rfl

/-! ### drawn regions -/
theorem take_d {P : Program} {md : Region.Mode} {ops : Array Oper} {Q : Exit → Act → World → Prop} {S : World → Prop} {i : Nat} {oi : Oper} {d : Option Tmp} {v : Value} {fuel : Nat} {listed : Array Bool} {a : Act} {w : World} (hi : ops[i]? = some oi) (hd : oi.dst = d)
    (hs : Region.noSelect ops = true) (hf : Region.free md ops listed i = true) (hr : (Region.ready md ops listed).contains i = true)
    (hQ : ∀ c a w, Q (.panic c) (a.put oi.dst v) w → Q (.panic c) a w) (hy : YieldsIf P ops S oi v a) (hS : S w)
    (h : wpAnyH P md ops Q S fuel (listed.setIfInBounds i true) (a.put d v) w) : wpAnyH P md ops Q S (fuel + 1) listed a w := by
  subst hd
  exact wpAnyH_take hi hs hf hr hQ hy hS h
/-- From here on more holds at each world. -/
theorem anyH_more {P : Program} {md : Region.Mode} {ops : Array Oper} {Q : Exit → Act → World → Prop} {S S' : World → Prop} (hm : ∀ w, S' w → S w) : ∀ (fuel : Nat) (listed : Array Bool) (a : Act) (w : World), wpAnyH P md ops Q S' fuel listed a w → wpAnyH P md ops Q S fuel listed a w
  | 0, _, _, _, h => h
  | fuel + 1, _, _, _, h => ⟨h.1, fun i hi => wpOp_mono (fun a' w' h' => ⟨hm _ h'.1, anyH_more hm fuel _ a' w' h'.2⟩) (h.2 i hi)⟩
section
variable {ops : Array Oper} {S : World → Prop} {op : Oper} {a : Act} {x : Operand}
theorem y_S {B : Nat} {l : List Int} (hw : Region.wanted op (yielded ops a.tmps) = true) (ho : op.op = .load 61 x) (hx : a.eval x = .pointer (some ⟨B, 0, none⟩)) (hS : ∀ W, S W → Bs W B l) (hl : l.length = 64) : YieldsIf Try.prog ops S op (.agg (sc l)) a :=
  yieldsIf_load_mid hw 61 x ho B 0 hx (sc l).toList _ (fun W hW => (hS W hW).blk.range 0 _ (List.take_of_length_le (by simp))) Try.underlying61 rfl (by rw [Array.length_toList, sc_size hl]; exact infoS)
theorem y_A {B : Nat} {l : List Int} (hw : Region.wanted op (yielded ops a.tmps) = true) (ho : op.op = .load 37 x) (hx : a.eval x = .pointer (some ⟨B, 0, none⟩)) (hS : ∀ W, S W → Ba W B l) (hl : l.length = 64) : YieldsIf Try.prog ops S op (.agg (sc l)) a :=
  yieldsIf_load_mid hw 37 x ho B 0 hx (sc l).toList _ (fun W hW => (hS W hW).blk.range 0 _ (List.take_of_length_le (by simp))) Try.underlying37 rfl (by rw [Array.length_toList, sc_size hl]; exact infoA)
/-- .. somewhere in a block. -/
theorem y_Am {B o : Nat} {l : List Int} (hw : Region.wanted op (yielded ops a.tmps) = true) (ho : op.op = .load 37 x) (hx : a.eval x = .pointer (some ⟨B, o, none⟩)) (hS : ∀ W, S W → W.rangeAt B o (bv l)) (hl : l.length = 64) : YieldsIf Try.prog ops S op (.agg (sc l)) a :=
  yieldsIf_load_mid hw 37 x ho B o hx (sc l).toList _ (fun W hW => by rw [sc_toList]; exact hS W hW) Try.underlying37 rfl (by rw [Array.length_toList, sc_size hl]; exact infoA)
theorem y_conv {v : Value} {xs : List Int} (hw : Region.wanted op (yielded ops a.tmps) = true) (ho : op.op = .convert 22 9 x) (hx : a.eval x = v) (hS : ∀ W, S W → NumsIn .u8 W v xs) : YieldsIf Try.prog ops S op (.string (strOfNums xs)) a :=
  .inl ⟨hw, fun W hW => by
    unfold execOp
    simp only [ho, hx, Sem.run_bind, str_conv (hS W hW), Result.andThen_ok]
    rfl⟩
end
/-- Whatever is made above leaves it as it is. -/
def Stable (I : World → Prop) : Prop := ∀ W W', I W → Below W.heap.size W W' → I W'
theorem stable_and {I J : World → Prop} (h : Stable I) (k : Stable J) : Stable fun W => I W ∧ J W := fun W W' hi hb => ⟨h _ _ hi.1 hb, k _ _ hi.2 hb⟩
theorem stable_below (w : World) : Stable fun W => Below w.heap.size w W := fun W W' h hb => h.trans (hb.mono h.size)
theorem stable_dk (S P : Nat) (b : List Int) (F : Nat → Prop) : Stable fun W => Dk W S P b F := fun W W' h hb => h.below hb
theorem stable_ba (B : Nat) (x : List Int) : Stable fun W => Ba W B x := fun W W' h hb => h.below hb
theorem stable_blk (B : Nat) (cs : Array Value) (ty : TypeId) : Stable fun W => Blk W B cs ty := fun W W' h hb => h.below hb
theorem stable_nums (k : IntKind) (v : Value) (xs : List Int) : Stable fun W => NumsIn k W v xs := fun W W' h hb => h.below hb
theorem Stable.drew {I : World → Prop} (h : Stable I) {W : World} (hi : I W) : I W.drew := h _ _ hi (Below.refl _ _).drew
theorem Stable.alloc {I : World → Prop} (h : Stable I) {W : World} (hi : I W) (o : Obj) : I (W.alloc o) := h _ _ hi ((Below.refl _ _).alloc (Nat.le_refl _) o)
end Go.Proofs.Ytbinpapgfddafaa
