/-
  Layer 10: the document's Done: what its walk knows, traps. Written by gen_rdone.py.
-/
import Derived.Test.YthjdfneibogcgaaDoorRPlan
import Derived.Test.YthjdfneibogcgaaDoorStep6
namespace Go.Proofs.YthjdfneibogcgaaDoor
open Go.RowKit
set_option maxHeartbeats 16000000
set_option linter.unusedVariables false
set_option linter.unusedSimpArgs false

/-- A state and an instruction lie in their blocks. -/
structure Dl (s : Sta) (i : Ins) (a I : Nat) (W : World) : Prop where
  a : Rf 25 16 W a (sc s)
  i : Rf 56 4 W I (ic i)
/-- .. the result's block, and that of the state behind it. -/
structure Dn (w : World) (s : Sta) (i : Ins) (I O : Nat) (σ : Sta) (W : World) : Prop where
  l : Dl s i w.heap.size I W
  r : Rf 25 16 W (w.heap.size + 1) (sc S0)
  o : Rf 25 16 W O (sc σ)
  b : Below w.heap.size w W
  h : w.heap.size + 1 < I ∧ I < O
section
variable {w W W' : World} {s σ : Sta} {i : Ins} {I O : Nat}
theorem Dl.below {a : Nat} (h : Dl s i a I W) (hb : Below W.heap.size W W') : Dl s i a I W' := ⟨h.a.below hb, h.i.below hb⟩
theorem Dn.after (h : Dn w s i I O σ W) (hb : Below W.heap.size W W') : Dn w s i I O σ W' := ⟨h.l.below hb, h.r.below hb, h.o.below hb, h.b.trans (hb.mono h.b.size), h.h⟩
theorem Dn.drew (h : Dn w s i I O σ W) : Dn w s i I O σ W.drew := h.after (Below.refl _ _).drew
theorem Dn.seto (h : Dn w s i I O σ W) {v : Value} (hv : v.oneCell' = true) (j : Nat) {σ' : Sta} (e : (sc σ).setIfInBounds j v = sc σ') : Dn w s i I O σ' (W.setCell ⟨O, j, none⟩ v) := by
  have hh := h.h
  refine ⟨⟨h.l.a.setCellOther v j (by omega), h.l.i.setCellOther v j (by omega)⟩, h.r.setCellOther v j (by omega), ?_, h.b.setCell (p := ⟨O, j, none⟩) (show w.heap.size ≤ O by omega) v, h.h⟩
  rw [← e]; exact h.o.setCell hv j
theorem Dn.cell (h : Dn w s i I O σ W) (j : Nat) {v : Value} (hv : (sc σ)[j]? = some v) : W.cell? ⟨O, j, none⟩ = some v ∧ W.frozen? ⟨O, j, none⟩ = false := ⟨(h.o.cell j).trans hv, h.o.blk.frozen j⟩
end
/-- A word, a bool is stored into the state behind. -/
theorem wp_store_o {ops : Array Oper} {rest : List Oper} {a : Act} {W w : World} {Q : Exit → Act → World → Prop} {s σ : Sta} {i : Ins} {I O : Nat} {d : Option Tmp} {x y : Operand} {ty2 : TypeId} {pos : String} {af : Array Edge} (hD : Dn w s i I O σ W) (j : Nat) (v : Int) (σ' : Sta) (e : (sc σ).setIfInBounds j (.int .u32 v) = sc σ') (u : Value) (hu : (sc σ)[j]? = some u) (hx : a.eval x = .pointer (some ⟨O, j, none⟩)) (hy : a.eval y = .int .u32 v)
    (h : ∀ W', Dn w s i I O σ' W' → wpList Tryd.prog ops Q rest (a.put d undef) W') : wpList Tryd.prog ops Q ({ dst := d, op := .store 22 x y, type := ty2, pos := pos, after := af, guard := none } :: rest) a W :=
  wpList_plain rfl fun K hK => by
    obtain ⟨hc, hf⟩ := hD.cell j hu
    refine o_store_u32 (d := d) rfl hc hf rfl hx hy ?_
    exact hK _ _ (h _ (hD.seto rfl j e))
theorem wp_store_ob {ops : Array Oper} {rest : List Oper} {a : Act} {W w : World} {Q : Exit → Act → World → Prop} {s σ : Sta} {i : Ins} {I O : Nat} {d : Option Tmp} {x y : Operand} {ty2 : TypeId} {pos : String} {af : Array Edge} (hD : Dn w s i I O σ W) (j : Nat) (v : Bool) (σ' : Sta) (e : (sc σ).setIfInBounds j (.bool v) = sc σ') (u : Value) (hu : (sc σ)[j]? = some u) (hx : a.eval x = .pointer (some ⟨O, j, none⟩)) (hy : a.eval y = .bool v)
    (h : ∀ W', Dn w s i I O σ' W' → wpList Tryd.prog ops Q rest (a.put d undef) W') : wpList Tryd.prog ops Q ({ dst := d, op := .store 4 x y, type := ty2, pos := pos, after := af, guard := none } :: rest) a W :=
  wpList_plain rfl fun K hK => by
    obtain ⟨hc, hf⟩ := hD.cell j hu
    refine o_store_bool (d := d) rfl hc hf rfl hx hy ?_
    exact hK _ _ (h _ (hD.seto rfl j e))
theorem o_store_o {d : Option Tmp} {op : Oper} {a : Act} {W w : World} {K : Act → World → Prop} {Q : Exit → Act → World → Prop} {s σ : Sta} {i : Ins} {I O : Nat} {x y : Operand} (hD : Dn w s i I O σ W) (j : Nat) (v : Int) (σ' : Sta) (e : (sc σ).setIfInBounds j (.int .u32 v) = sc σ') (u : Value) (hu : (sc σ)[j]? = some u) (hd : op.dst = d) (ho : op.op = .store 22 x y) (hx : a.eval x = .pointer (some ⟨O, j, none⟩)) (hy : a.eval y = .int .u32 v)
    (h : ∀ W', Dn w s i I O σ' W' → K (a.put d undef) W') : op.wp Tryd.prog a W K Q := by
  obtain ⟨hc, hf⟩ := hD.cell j hu
  refine o_store_u32 (d := d) hd hc hf ho hx hy ?_
  exact h _ (hD.seto rfl j e)
theorem o_store_ob {d : Option Tmp} {op : Oper} {a : Act} {W w : World} {K : Act → World → Prop} {Q : Exit → Act → World → Prop} {s σ : Sta} {i : Ins} {I O : Nat} {x y : Operand} (hD : Dn w s i I O σ W) (j : Nat) (v : Bool) (σ' : Sta) (e : (sc σ).setIfInBounds j (.bool v) = sc σ') (u : Value) (hu : (sc σ)[j]? = some u) (hd : op.dst = d) (ho : op.op = .store 4 x y) (hx : a.eval x = .pointer (some ⟨O, j, none⟩)) (hy : a.eval y = .bool v)
    (h : ∀ W', Dn w s i I O σ' W' → K (a.put d undef) W') : op.wp Tryd.prog a W K Q := by
  obtain ⟨hc, hf⟩ := hD.cell j hu
  refine o_store_bool (d := d) hd hc hf ho hx hy ?_
  exact h _ (hD.seto rfl j e)
/-- A row is made, at the operation. -/
theorem o_row {ty : TypeId} {d : Option Tmp} {op : Oper} {a : Act} {w : World} {K : Act → World → Prop} {Q : Exit → Act → World → Prop} (hd : op.dst = d) (cs : Array Value) (n : Nat) (h : (execOp a.eval op).run Tryd.prog w = .ok (.value (.slice (some ⟨w.heap.size, 0, none⟩) n n)) (w.alloc (.cells cs ty)))
    (hK : ∀ g W, Blk W g cs ty → Below w.heap.size w W → K (a.put d (.slice (some ⟨g, 0, none⟩) n n)) W) : op.wp Tryd.prog a w K Q := by
  subst hd
  unfold Oper.wp
  rw [h]
  exact hK _ _ (blk_new _ _ _) (bel1 _ _)
theorem wantOf_kind (op a ad m : Int) : (wantOf op a ad m).kind ≠ 1 := by
  unfold wantOf
  split
  · dsimp only; decide
  split
  · dsimp only; decide
  split
  · dsimp only; decide
  split
  · dsimp only; decide
  split
  · dsimp only; decide
  split
  · dsimp only; decide
  split
  · dsimp only; decide
  split <;> (dsimp only; decide)
set_option maxRecDepth 100000 in
theorem RDone_trap (s : Sta) (x told c : Int) (w : World) (HP : Hid (∀ W, Calls Tryd.prog 21 #[.agg (sc s), .int .u32 x] W fun e w' => e = .returned (.agg (wnt ⟨1, c, 0, 0, 0, 0⟩)) ∧ Below W.heap.size W w')) : Calls Tryd.prog 22 #[.agg (sc s), .int .u32 x, .int .u32 told] w fun e w' => e = .returned (.agg (sc (trapS s c))) ∧ Below w.heap.size w w' := by
  obtain ⟨W, HW⟩ : ∃ W, Hid (W = (w.alloc (.cells (sc s) 25)).alloc (.cells #[Value.int .u32 0, Value.int .u32 0, Value.int .u32 0, Value.int .u32 0, Value.int .u32 0, Value.int .u32 0, Value.int .u32 0, Value.int .u32 0, Value.int .u32 0, Value.int .u32 0, Value.int .u32 0, Value.int .u32 0, Value.int .u32 0, Value.bool false, Value.bool false, Value.bool false] 25)) := ⟨_, rfl⟩
  have HBe : Hid (Below w.heap.size w W) := Lib.hid (by rw [HW.out]; exact (bel1 w _).alloc (by simp) _)
  have RA : Hid (Rf 25 16 W w.heap.size (sc s)) := Lib.hid (by rw [HW.out]; exact (rs_new w s).alloc _)
  have RB : Hid (Rf 25 16 W (w.heap.size + 1) (sc S0)) := Lib.hid (by rw [HW.out]; exact rs_newZ _ _ (by simp))
  go_enter Tryd.func22, Tryd.ntmps22
  go_wp2_with (first | (rw [← HW.out]) | ((with_reducible refine wp_load_R rowS RA.out ?_ ?_); (kernel_rfl)))
  refine (HP.out _).mono ?_
  rintro e w1 ⟨rfl, b1⟩
  have RA1 := Lib.hid ((RA.out.below b1).alloc (.cells (wnt ⟨1, c, 0, 0, 0, 0⟩) 42))
  have RB1 := Lib.hid ((RB.out.below b1).alloc (.cells (wnt ⟨1, c, 0, 0, 0, 0⟩) 42))
  have RW1 := Lib.hid ((wnt_ok ⟨1, c, 0, 0, 0, 0⟩).new 42 w1)
  have HB1 := Lib.hid ((HBe.out.trans (b1.mono HBe.out.size)).alloc (HBe.out.trans (b1.mono HBe.out.size)).size (.cells (wnt ⟨1, c, 0, 0, 0, 0⟩) 42))
  have qw := RW1.out.w6
  clear b1 HBe
  go_wp2_with (first | ((with_reducible refine wp_store_Rn (wnt ⟨1, c, 0, 0, 0, 0⟩) rowW ?_ ?_ ?_ ?_); (exact ⟨rfl, wnt_ok _⟩); (kernel_rfl); (kernel_rfl)) | ((with_reducible refine wp_load_R rowS RA1.out ?_ ?_); (kernel_rfl)))
  refine (RTrap_any s c _).mono ?_
  rintro e w2 ⟨rfl, b2⟩
  have RB2 := Lib.hid (RB1.out.below b2)
  have HB2 := Lib.hid (HB1.out.trans (b2.mono HB1.out.size))
  clear b2
  have HF := Lib.hid (RB2.out.set (sc_ok (trapS s c)))
  have HG := Lib.hid (below_setRow HB2.out (by omega) (sc (trapS s c)) (g := w.heap.size + 1))
  go_wp2_with ((with_reducible refine wp_store_R (sc (trapS s c)) rowS ⟨RB2.out, sc_ok _⟩ ?_ ?_ ?_); (kernel_rfl); (kernel_rfl))
  exact bodyPost_ret (res_R rowS (fn := Tryd.f22) rfl _ HF.out (by kernel_rfl)) rfl ⟨rfl, HG.out⟩
end Go.Proofs.YthjdfneibogcgaaDoor
