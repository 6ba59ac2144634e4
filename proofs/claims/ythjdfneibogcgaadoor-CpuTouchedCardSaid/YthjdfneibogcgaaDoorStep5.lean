/-
  Layer 10: Trap (the program's and the document's), get and set of a step: walks. Written by gen_step5.py.
-/
import Derived.Test.YthjdfneibogcgaaDoorStep4
import Derived.Laws.CopyOwn
namespace Go.Proofs.YthjdfneibogcgaaDoor
open Go.RowKit
set_option maxHeartbeats 8000000
set_option linter.unusedVariables false
set_option linter.unusedSimpArgs false

theorem set_one {c : Array Value} {v : Value} (h : c.all (·.oneCell') = true) (hv : v.oneCell' = true) (j : Nat) : (c.setIfInBounds j v).all (·.oneCell') = true := by
  simp only [Array.all_eq_true_iff_forall_mem] at *
  intro x hx
  rcases Array.mem_or_eq_of_mem_setIfInBounds hx with e | e
  · exact h x e
  · subst e; exact hv
theorem Rf.setCell {ty : TypeId} {n : Nat} {w : World} {R : Nat} {c : Array Value} (h : Rf ty n w R c) {v : Value} (hv : v.oneCell' = true) (j : Nat) : Rf ty n (w.setCell ⟨R, j, none⟩ v) R (c.setIfInBounds j v) :=
  ⟨h.blk.setCell j v, by simp [h.size], set_one h.one hv j⟩
theorem Rf.setCellOther {ty : TypeId} {n : Nat} {w : World} {R g : Nat} {c : Array Value} (h : Rf ty n w R c) (v : Value) (j : Nat) (hg : R ≠ g) : Rf ty n (w.setCell ⟨g, j, none⟩ v) R c :=
  ⟨(heap_setCell_other w ⟨g, j, none⟩ R v hg).trans h.blk, h.size, h.one⟩
theorem o_store_u32 {d : Option Tmp} {op : Oper} {a : Act} {w : World} {K : Act → World → Prop} {Q : Exit → Act → World → Prop} {x y : Operand} {b j : Nat} {u : Value} {v : Int} (hd : op.dst = d) (hc : w.cell? ⟨b, j, none⟩ = some u) (hf : w.frozen? ⟨b, j, none⟩ = false) (ho : op.op = .store 22 x y) (hx : a.eval x = .pointer (some ⟨b, j, none⟩)) (hy : a.eval y = .int .u32 v)
    (h : K (a.put d undef) (w.setCell ⟨b, j, none⟩ (.int .u32 v))) : op.wp Tryd.prog a w K Q := by
  subst hd
  unfold Oper.wp execOp
  simp only [ho, hx, hy]
  go_simp
  exact h
theorem o_store_bool {d : Option Tmp} {op : Oper} {a : Act} {w : World} {K : Act → World → Prop} {Q : Exit → Act → World → Prop} {x y : Operand} {b j : Nat} {u : Value} {v : Bool} (hd : op.dst = d) (hc : w.cell? ⟨b, j, none⟩ = some u) (hf : w.frozen? ⟨b, j, none⟩ = false) (ho : op.op = .store 4 x y) (hx : a.eval x = .pointer (some ⟨b, j, none⟩)) (hy : a.eval y = .bool v)
    (h : K (a.put d undef) (w.setCell ⟨b, j, none⟩ (.bool v))) : op.wp Tryd.prog a w K Q := by
  subst hd
  unfold Oper.wp execOp
  simp only [ho, hx, hy]
  go_simp
  exact h
def S0 : Sta := ⟨fun _ => 0, 0, 0, 0, 0, 0, false, false, false⟩
theorem trap_cells (s : Sta) (c : Int) : ((((((sc s).setIfInBounds 9 (.int .u32 s.pc)).setIfInBounds 10 (.int .u32 c)).setIfInBounds 14 (.bool s.su)).setIfInBounds 13 (.bool true)).setIfInBounds 15 (.bool false)).setIfInBounds 8 (.int .u32 s.vec) = sc (trapS s c) := rfl
theorem sc_ok (s : Sta) : Ok1 16 (sc s) := ⟨rfl, sc_one s⟩
theorem rs_newZ (w : World) (n : Nat) (h : w.heap.size = n) : Rf 25 16 (w.alloc (.cells #[Value.int .u32 0, Value.int .u32 0, Value.int .u32 0, Value.int .u32 0, Value.int .u32 0, Value.int .u32 0, Value.int .u32 0, Value.int .u32 0, Value.int .u32 0, Value.int .u32 0, Value.int .u32 0, Value.int .u32 0, Value.int .u32 0, Value.bool false, Value.bool false, Value.bool false] 25)) n (sc S0) := by subst h; exact rs_new w S0
theorem Trap_any (s : Sta) (c : Int) (w : World) : Calls Tryd.prog 14 #[.agg (sc s), .int .u32 c] w fun e w' => e = .returned (.agg (sc (trapS s c))) ∧ Below w.heap.size w w' := by
  obtain ⟨W, HW⟩ : ∃ W, Hid (W = (w.alloc (.cells (sc s) 25)).alloc (.cells #[Value.int .u32 0, Value.int .u32 0, Value.int .u32 0, Value.int .u32 0, Value.int .u32 0, Value.int .u32 0, Value.int .u32 0, Value.int .u32 0, Value.int .u32 0, Value.int .u32 0, Value.int .u32 0, Value.int .u32 0, Value.int .u32 0, Value.bool false, Value.bool false, Value.bool false] 25)) := ⟨_, rfl⟩
  have h0 := (rs_new w s).alloc (.cells #[Value.int .u32 0, Value.int .u32 0, Value.int .u32 0, Value.int .u32 0, Value.int .u32 0, Value.int .u32 0, Value.int .u32 0, Value.int .u32 0, Value.int .u32 0, Value.int .u32 0, Value.int .u32 0, Value.int .u32 0, Value.int .u32 0, Value.bool false, Value.bool false, Value.bool false] 25)
  have h1 := rs_newZ (w.alloc (.cells (sc s) 25)) (w.heap.size + 1) (by simp)
  have b2 := (bel1 w (.cells (sc s) 25)).alloc (by simp) (.cells #[Value.int .u32 0, Value.int .u32 0, Value.int .u32 0, Value.int .u32 0, Value.int .u32 0, Value.int .u32 0, Value.int .u32 0, Value.int .u32 0, Value.int .u32 0, Value.int .u32 0, Value.int .u32 0, Value.int .u32 0, Value.int .u32 0, Value.bool false, Value.bool false, Value.bool false] 25)
  rw [← HW.out] at h0 h1 b2
  have q := h0.s
  have hf := h0.blk.frozen
  have HL : Hid (Rf 25 16 _ _ (sc (trapS s c))) := Lib.hid ((((((h0.setCell (v := .int .u32 s.pc) rfl 9).setCell (v := .int .u32 c) rfl 10).setCell (v := .bool s.su) rfl 14).setCell (v := .bool true) rfl 13).setCell (v := .bool false) rfl 15).setCell (v := .int .u32 s.vec) rfl 8)
  have HM := Lib.hid ((((((h1.setCellOther (.int .u32 s.pc) 9 (g := w.heap.size) (by omega)).setCellOther (.int .u32 c) 10 (g := w.heap.size) (by omega)).setCellOther (.bool s.su) 14 (g := w.heap.size) (by omega)).setCellOther (.bool true) 13 (g := w.heap.size) (by omega)).setCellOther (.bool false) 15 (g := w.heap.size) (by omega)).setCellOther (.int .u32 s.vec) 8 (g := w.heap.size) (by omega))
  have HB := Lib.hid (below_setRow ((((((b2.setCell (p := ⟨w.heap.size, 9, none⟩) (Nat.le_refl _) (.int .u32 s.pc)).setCell (p := ⟨w.heap.size, 10, none⟩) (Nat.le_refl _) (.int .u32 c)).setCell (p := ⟨w.heap.size, 14, none⟩) (Nat.le_refl _) (.bool s.su)).setCell (p := ⟨w.heap.size, 13, none⟩) (Nat.le_refl _) (.bool true)).setCell (p := ⟨w.heap.size, 15, none⟩) (Nat.le_refl _) (.bool false)).setCell (p := ⟨w.heap.size, 8, none⟩) (Nat.le_refl _) (.int .u32 s.vec)) (show w.heap.size ≤ w.heap.size + 1 by omega) (sc (trapS s c)))
  have HR := Lib.hid (HM.out.set (sc_ok (trapS s c)))
  clear h0 h1 b2
  go_enter Tryd.func14, Tryd.ntmps14
  go_wp2_with (first | (rw [← HW.out]) | ((with_reducible apply wp_load_R rowS); (exact HL.out); (rfl)) | ((with_reducible apply wp_store_R (sc (trapS s c)) rowS); (exact ⟨HM.out, sc_ok _⟩); (rfl); (rfl)))
  refine bodyPost_ret (res_R rowS (fn := Tryd.f14) rfl _ HR.out rfl) rfl ⟨rfl, HB.out⟩

set_option maxRecDepth 20000 in
theorem RTrap_any (s : Sta) (c : Int) (w : World) : Calls Tryd.prog 38 #[.agg (sc s), .int .u32 c] w fun e w' => e = .returned (.agg (sc (trapS s c))) ∧ Below w.heap.size w w' := by
  have HA := Lib.hid ((rs_new w s).alloc (.cells #[Value.int .u32 0, Value.int .u32 0, Value.int .u32 0, Value.int .u32 0, Value.int .u32 0, Value.int .u32 0, Value.int .u32 0, Value.int .u32 0, Value.int .u32 0, Value.int .u32 0, Value.int .u32 0, Value.int .u32 0, Value.int .u32 0, Value.bool false, Value.bool false, Value.bool false] 25))
  have HZ := Lib.hid (rs_newZ ((w.alloc (.cells (sc s) 25)).alloc (.cells #[Value.int .u32 0, Value.int .u32 0, Value.int .u32 0, Value.int .u32 0, Value.int .u32 0, Value.int .u32 0, Value.int .u32 0, Value.int .u32 0, Value.int .u32 0, Value.int .u32 0, Value.int .u32 0, Value.int .u32 0, Value.int .u32 0, Value.bool false, Value.bool false, Value.bool false] 25)) (w.heap.size + 1 + 1) (by simp))
  obtain ⟨W, HW⟩ : ∃ W, Hid (W = (((w.alloc (.cells (sc s) 25)).alloc (.cells #[Value.int .u32 0, Value.int .u32 0, Value.int .u32 0, Value.int .u32 0, Value.int .u32 0, Value.int .u32 0, Value.int .u32 0, Value.int .u32 0, Value.int .u32 0, Value.int .u32 0, Value.int .u32 0, Value.int .u32 0, Value.int .u32 0, Value.bool false, Value.bool false, Value.bool false] 25)).alloc (.cells #[Value.int .u32 0, Value.int .u32 0, Value.int .u32 0, Value.int .u32 0, Value.int .u32 0, Value.int .u32 0, Value.int .u32 0, Value.int .u32 0, Value.int .u32 0, Value.int .u32 0, Value.int .u32 0, Value.int .u32 0, Value.int .u32 0, Value.bool false, Value.bool false, Value.bool false] 25)).setRow (w.heap.size + 1 + 1) (sc s)) := ⟨_, rfl⟩
  have h0 := (((rs_new w s).alloc (.cells #[Value.int .u32 0, Value.int .u32 0, Value.int .u32 0, Value.int .u32 0, Value.int .u32 0, Value.int .u32 0, Value.int .u32 0, Value.int .u32 0, Value.int .u32 0, Value.int .u32 0, Value.int .u32 0, Value.int .u32 0, Value.int .u32 0, Value.bool false, Value.bool false, Value.bool false] 25)).alloc (.cells #[Value.int .u32 0, Value.int .u32 0, Value.int .u32 0, Value.int .u32 0, Value.int .u32 0, Value.int .u32 0, Value.int .u32 0, Value.int .u32 0, Value.int .u32 0, Value.int .u32 0, Value.int .u32 0, Value.int .u32 0, Value.int .u32 0, Value.bool false, Value.bool false, Value.bool false] 25)).setOther (g := w.heap.size + 1 + 1) (by omega) (sc s)
  have h1 := ((rs_newZ (w.alloc (.cells (sc s) 25)) (w.heap.size + 1) (by simp)).alloc (.cells #[Value.int .u32 0, Value.int .u32 0, Value.int .u32 0, Value.int .u32 0, Value.int .u32 0, Value.int .u32 0, Value.int .u32 0, Value.int .u32 0, Value.int .u32 0, Value.int .u32 0, Value.int .u32 0, Value.int .u32 0, Value.int .u32 0, Value.bool false, Value.bool false, Value.bool false] 25)).setOther (g := w.heap.size + 1 + 1) (by omega) (sc s)
  have h2 := HZ.out.set (sc_ok s)
  have b2 := below_setRow (((bel1 w (.cells (sc s) 25)).alloc (by simp) (.cells #[Value.int .u32 0, Value.int .u32 0, Value.int .u32 0, Value.int .u32 0, Value.int .u32 0, Value.int .u32 0, Value.int .u32 0, Value.int .u32 0, Value.int .u32 0, Value.int .u32 0, Value.int .u32 0, Value.int .u32 0, Value.int .u32 0, Value.bool false, Value.bool false, Value.bool false] 25)).alloc (by simp; omega) (.cells #[Value.int .u32 0, Value.int .u32 0, Value.int .u32 0, Value.int .u32 0, Value.int .u32 0, Value.int .u32 0, Value.int .u32 0, Value.int .u32 0, Value.int .u32 0, Value.int .u32 0, Value.int .u32 0, Value.int .u32 0, Value.int .u32 0, Value.bool false, Value.bool false, Value.bool false] 25)) (show w.heap.size ≤ w.heap.size + 1 + 1 by omega) (sc s)
  rw [← HW.out] at h0 h1 h2 b2
  have H0 := Lib.hid h0
  have H1 := Lib.hid h1
  have H2 := Lib.hid h2
  have HB := Lib.hid b2
  clear h0 h1 h2 b2
  go_enter Tryd.func38, Tryd.ntmps38
  go_wp2_with (first | ((with_reducible apply wp_load_R rowS); (exact HA.out); (rfl)) | ((with_reducible apply wp_store_R (sc s) rowS); (exact ⟨HZ.out, sc_ok _⟩); (rfl); (rfl)))
  rw [← HW.out]
  have hK0 := H0.out.drew
  refine wp_region_held_drew (S := fun W => Rf 25 16 W w.heap.size (sc s)) (by kernel_rfl) hK0 (fun _ => ?_)
  have hS := hK0
  have h2 := H2.out.drew
  have h1 := H1.out.drew
  have hb := HB.out.drew
  refine take_d (i := 0) (d := some 7) (v := ?_) rfl rfl (by kernel_rfl) (by kernel_rfl) (by kernel_rfl) (fun _ _ _ h => h) (.inl ⟨by rfl, ?_⟩) hS ?_
  rotate_left
  · intro W hW
    go_simp
    try with_reducible rfl
  try simp only [Act.put, List.setIfInBounds_toArray, List.set_cons_zero, List.set_cons_succ]
  refine take_d (i := 1) (d := some 8) (v := ?_) rfl rfl (by kernel_rfl) (by kernel_rfl) (by kernel_rfl) (fun _ _ _ h => h) (.inl ⟨by rfl, ?_⟩) hS ?_
  rotate_left
  · intro W hW
    have q := hW.s
    go_simp
    try with_reducible rfl
  try simp only [Act.put, List.setIfInBounds_toArray, List.set_cons_zero, List.set_cons_succ]
  refine take_d (i := 2) (d := some 9) (v := ?_) rfl rfl (by kernel_rfl) (by kernel_rfl) (by kernel_rfl) (fun _ _ _ h => h) (.inl ⟨by rfl, ?_⟩) hS ?_
  rotate_left
  · intro W hW
    go_simp
    try with_reducible rfl
  try simp only [Act.put, List.setIfInBounds_toArray, List.set_cons_zero, List.set_cons_succ]
  refine take_d (i := 3) (d := some 10) (v := ?_) rfl rfl (by kernel_rfl) (by kernel_rfl) (by kernel_rfl) (fun _ _ _ h => h) (.inl ⟨by rfl, ?_⟩) hS ?_
  rotate_left
  · intro W hW
    go_simp
    try with_reducible rfl
  try simp only [Act.put, List.setIfInBounds_toArray, List.set_cons_zero, List.set_cons_succ]
  refine take_d (i := 4) (d := some 11) (v := ?_) rfl rfl (by kernel_rfl) (by kernel_rfl) (by kernel_rfl) (fun _ _ _ h => h) (.inl ⟨by rfl, ?_⟩) hS ?_
  rotate_left
  · intro W hW
    have q := hW.s
    go_simp
    try with_reducible rfl
  try simp only [Act.put, List.setIfInBounds_toArray, List.set_cons_zero, List.set_cons_succ]
  refine take_d (i := 5) (d := some 12) (v := ?_) rfl rfl (by kernel_rfl) (by kernel_rfl) (by kernel_rfl) (fun _ _ _ h => h) (.inl ⟨by rfl, ?_⟩) hS ?_
  rotate_left
  · intro W hW
    go_simp
    try with_reducible rfl
  try simp only [Act.put, List.setIfInBounds_toArray, List.set_cons_zero, List.set_cons_succ]
  refine take_d (i := 6) (d := some 13) (v := ?_) rfl rfl (by kernel_rfl) (by kernel_rfl) (by kernel_rfl) (fun _ _ _ h => h) (.inl ⟨by rfl, ?_⟩) hS ?_
  rotate_left
  · intro W hW
    have q := hW.s
    go_simp
    try with_reducible rfl
  try simp only [Act.put, List.setIfInBounds_toArray, List.set_cons_zero, List.set_cons_succ]
  refine take_d (i := 7) (d := some 14) (v := ?_) rfl rfl (by kernel_rfl) (by kernel_rfl) (by kernel_rfl) (fun _ _ _ h => h) (.inl ⟨by rfl, ?_⟩) hS ?_
  rotate_left
  · intro W hW
    go_simp
    try with_reducible rfl
  try simp only [Act.put, List.setIfInBounds_toArray, List.set_cons_zero, List.set_cons_succ]
  refine wpAnyH_all (rs := [8]) (by kernel_rfl) (by simp) (fun i hi => ?_)
  simp only [List.mem_cons, List.not_mem_nil, or_false] at hi
  subst hi
  refine .inl ?_
  refine o_store_u32 (d := none) (b := w.heap.size + 1 + 1) (j := 9) rfl (h2.s.2.1) (h2.blk.frozen 9) rfl rfl rfl ?_
  replace h2 : Rf 25 16 _ _ (sc { s with epc := s.pc }) := h2.setCell (v := .int .u32 s.pc) rfl 9
  replace h1 := h1.setCellOther (.int .u32 s.pc) 9 (g := w.heap.size + 1 + 1) (by omega)
  replace hS := hS.setCellOther (.int .u32 s.pc) 9 (g := w.heap.size + 1 + 1) (by omega)
  replace hb := hb.setCell (p := ⟨w.heap.size + 1 + 1, 9, none⟩) (show w.heap.size ≤ w.heap.size + 1 + 1 by omega) (.int .u32 s.pc)
  refine ⟨hS, ?_⟩
  try simp only [Act.put, List.setIfInBounds_toArray, List.set_cons_zero, List.set_cons_succ]
  refine take_d (i := 9) (d := some 15) (v := ?_) rfl rfl (by kernel_rfl) (by kernel_rfl) (by kernel_rfl) (fun _ _ _ h => h) (.inl ⟨by rfl, ?_⟩) hS ?_
  rotate_left
  · intro W hW
    go_simp
    try with_reducible rfl
  try simp only [Act.put, List.setIfInBounds_toArray, List.set_cons_zero, List.set_cons_succ]
  refine wpAnyH_all (rs := [10]) (by kernel_rfl) (by simp) (fun i hi => ?_)
  simp only [List.mem_cons, List.not_mem_nil, or_false] at hi
  subst hi
  refine .inl ?_
  refine o_store_u32 (d := none) (b := w.heap.size + 1 + 1) (j := 10) rfl (h2.s.2.2.1) (h2.blk.frozen 10) rfl rfl rfl ?_
  replace h2 : Rf 25 16 _ _ (sc { s with epc := s.pc, cs := c }) := h2.setCell (v := .int .u32 c) rfl 10
  replace h1 := h1.setCellOther (.int .u32 c) 10 (g := w.heap.size + 1 + 1) (by omega)
  replace hS := hS.setCellOther (.int .u32 c) 10 (g := w.heap.size + 1 + 1) (by omega)
  replace hb := hb.setCell (p := ⟨w.heap.size + 1 + 1, 10, none⟩) (show w.heap.size ≤ w.heap.size + 1 + 1 by omega) (.int .u32 c)
  refine ⟨hS, ?_⟩
  try simp only [Act.put, List.setIfInBounds_toArray, List.set_cons_zero, List.set_cons_succ]
  refine take_d (i := 11) (d := some 16) (v := ?_) rfl rfl (by kernel_rfl) (by kernel_rfl) (by kernel_rfl) (fun _ _ _ h => h) (.inl ⟨by rfl, ?_⟩) hS ?_
  rotate_left
  · intro W hW
    go_simp
    try with_reducible rfl
  try simp only [Act.put, List.setIfInBounds_toArray, List.set_cons_zero, List.set_cons_succ]
  refine wpAnyH_all (rs := [12]) (by kernel_rfl) (by simp) (fun i hi => ?_)
  simp only [List.mem_cons, List.not_mem_nil, or_false] at hi
  subst hi
  refine .inl ?_
  refine o_store_bool (d := none) (b := w.heap.size + 1 + 1) (j := 14) rfl (h2.s.2.2.2.2.2.2.1) (h2.blk.frozen 14) rfl rfl rfl ?_
  replace h2 : Rf 25 16 _ _ (sc { s with epc := s.pc, cs := c, pv := s.su }) := h2.setCell (v := .bool s.su) rfl 14
  replace h1 := h1.setCellOther (.bool s.su) 14 (g := w.heap.size + 1 + 1) (by omega)
  replace hS := hS.setCellOther (.bool s.su) 14 (g := w.heap.size + 1 + 1) (by omega)
  replace hb := hb.setCell (p := ⟨w.heap.size + 1 + 1, 14, none⟩) (show w.heap.size ≤ w.heap.size + 1 + 1 by omega) (.bool s.su)
  refine ⟨hS, ?_⟩
  try simp only [Act.put, List.setIfInBounds_toArray, List.set_cons_zero, List.set_cons_succ]
  refine take_d (i := 13) (d := some 17) (v := ?_) rfl rfl (by kernel_rfl) (by kernel_rfl) (by kernel_rfl) (fun _ _ _ h => h) (.inl ⟨by rfl, ?_⟩) hS ?_
  rotate_left
  · intro W hW
    go_simp
    try with_reducible rfl
  try simp only [Act.put, List.setIfInBounds_toArray, List.set_cons_zero, List.set_cons_succ]
  refine wpAnyH_all (rs := [14]) (by kernel_rfl) (by simp) (fun i hi => ?_)
  simp only [List.mem_cons, List.not_mem_nil, or_false] at hi
  subst hi
  refine .inl ?_
  refine o_store_bool (d := none) (b := w.heap.size + 1 + 1) (j := 13) rfl (h2.s.2.2.2.2.2.1) (h2.blk.frozen 13) rfl rfl rfl ?_
  replace h2 : Rf 25 16 _ _ (sc { s with epc := s.pc, cs := c, pv := s.su, su := true }) := h2.setCell (v := .bool true) rfl 13
  replace h1 := h1.setCellOther (.bool true) 13 (g := w.heap.size + 1 + 1) (by omega)
  replace hS := hS.setCellOther (.bool true) 13 (g := w.heap.size + 1 + 1) (by omega)
  replace hb := hb.setCell (p := ⟨w.heap.size + 1 + 1, 13, none⟩) (show w.heap.size ≤ w.heap.size + 1 + 1 by omega) (.bool true)
  refine ⟨hS, ?_⟩
  try simp only [Act.put, List.setIfInBounds_toArray, List.set_cons_zero, List.set_cons_succ]
  refine take_d (i := 15) (d := some 18) (v := ?_) rfl rfl (by kernel_rfl) (by kernel_rfl) (by kernel_rfl) (fun _ _ _ h => h) (.inl ⟨by rfl, ?_⟩) hS ?_
  rotate_left
  · intro W hW
    go_simp
    try with_reducible rfl
  try simp only [Act.put, List.setIfInBounds_toArray, List.set_cons_zero, List.set_cons_succ]
  refine wpAnyH_all (rs := [16]) (by kernel_rfl) (by simp) (fun i hi => ?_)
  simp only [List.mem_cons, List.not_mem_nil, or_false] at hi
  subst hi
  refine .inl ?_
  refine o_store_bool (d := none) (b := w.heap.size + 1 + 1) (j := 15) rfl (h2.s.2.2.2.2.2.2.2) (h2.blk.frozen 15) rfl rfl rfl ?_
  replace h2 : Rf 25 16 _ _ (sc { s with epc := s.pc, cs := c, pv := s.su, su := true, en := false }) := h2.setCell (v := .bool false) rfl 15
  replace h1 := h1.setCellOther (.bool false) 15 (g := w.heap.size + 1 + 1) (by omega)
  replace hS := hS.setCellOther (.bool false) 15 (g := w.heap.size + 1 + 1) (by omega)
  replace hb := hb.setCell (p := ⟨w.heap.size + 1 + 1, 15, none⟩) (show w.heap.size ≤ w.heap.size + 1 + 1 by omega) (.bool false)
  refine ⟨hS, ?_⟩
  try simp only [Act.put, List.setIfInBounds_toArray, List.set_cons_zero, List.set_cons_succ]
  refine take_d (i := 17) (d := some 19) (v := ?_) rfl rfl (by kernel_rfl) (by kernel_rfl) (by kernel_rfl) (fun _ _ _ h => h) (.inl ⟨by rfl, ?_⟩) hS ?_
  rotate_left
  · intro W hW
    go_simp
    try with_reducible rfl
  try simp only [Act.put, List.setIfInBounds_toArray, List.set_cons_zero, List.set_cons_succ]
  refine wpAnyH_all (rs := [18]) (by kernel_rfl) (by simp) (fun i hi => ?_)
  simp only [List.mem_cons, List.not_mem_nil, or_false] at hi
  subst hi
  refine .inl ?_
  refine o_store_u32 (d := none) (b := w.heap.size + 1 + 1) (j := 8) rfl (h2.s.1) (h2.blk.frozen 8) rfl rfl rfl ?_
  replace h2 : Rf 25 16 _ _ (sc { s with epc := s.pc, cs := c, pv := s.su, su := true, en := false, pc := s.vec }) := h2.setCell (v := .int .u32 s.vec) rfl 8
  replace h1 := h1.setCellOther (.int .u32 s.vec) 8 (g := w.heap.size + 1 + 1) (by omega)
  replace hS := hS.setCellOther (.int .u32 s.vec) 8 (g := w.heap.size + 1 + 1) (by omega)
  replace hb := hb.setCell (p := ⟨w.heap.size + 1 + 1, 8, none⟩) (show w.heap.size ≤ w.heap.size + 1 + 1 by omega) (.int .u32 s.vec)
  refine ⟨hS, ?_⟩
  try simp only [Act.put, List.setIfInBounds_toArray, List.set_cons_zero, List.set_cons_succ]
  refine wpAnyH_done (by kernel_rfl) ?_ _
  have HL : Hid (Rf 25 16 _ _ (sc (trapS s c))) := Lib.hid h2
  have HM := Lib.hid h1
  have HR := Lib.hid (h1.set (sc_ok (trapS s c)))
  have HB2 := Lib.hid (below_setRow hb (show w.heap.size ≤ w.heap.size + 1 by omega) (sc (trapS s c)))
  clear hS hK0 h1 h2 hb
  go_wp2_with (first | ((with_reducible apply wp_load_R rowS); (exact HL.out); (rfl)) | ((with_reducible apply wp_store_R (sc (trapS s c)) rowS); (exact ⟨HM.out, sc_ok _⟩); (rfl); (rfl)))
  exact bodyPost_ret (res_R rowS (fn := Tryd.f38) rfl _ HR.out rfl) rfl ⟨rfl, HB2.out⟩
end Go.Proofs.YthjdfneibogcgaaDoor
