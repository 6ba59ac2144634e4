/-
  Layer 12: where a kind's sets stand: walks. Layer 12: where a kind's sets stand, of each kind: walks. (written by gen_kind.py)
-/
import Derived.Test.YtiohlmccnllklaaGreatDoorH10
import Derived.Test.YtiohlmccnllklaaGreatDoorH11
set_option linter.unusedVariables false
set_option linter.unusedSimpArgs false
namespace Go.Proofs.YtiohlmccnllklaaGreatDoor
open Go.RowKit
set_option maxHeartbeats 4000000
set_option maxRecDepth 100000
set_option linter.unusedVariables false
set_option linter.unusedSimpArgs false

/-! ### whole rows, structs or arrays -/
structure RowV (ty : TypeId) (n : Nat) : Prop where
  u : (∃ fs, Tryz.prog.underlying ty = some (.struct fs)) ∨ (∃ k e, Tryz.prog.underlying ty = some (.array k e))
  i : (Tryz.prog.info? ty).map (·.size) = some n
theorem rvFns : RowV 165 18 := ⟨.inr ⟨_, _, Tryz.underlying165⟩, by kernel_rfl⟩
theorem rvCs : RowV 84 18 := ⟨.inr ⟨_, _, Tryz.underlying84⟩, by kernel_rfl⟩
theorem rvPlaces : RowV 89 164 := ⟨.inl ⟨_, Tryz.underlying89⟩, by kernel_rfl⟩
theorem rvSm : RowV 87 144 := ⟨.inr ⟨_, _, Tryz.underlying87⟩, by kernel_rfl⟩
section
variable {ops : Array Oper} {rest : List Oper} {a : Act} {w : World} {Q : Exit → Act → World → Prop} {R : Nat} {c old : Array Value} {d : Option Tmp} {x y : Operand} {ty ty2 : TypeId} {pos : String} {af : Array Edge} {n : Nat}
theorem RowV.inf (ht : RowV ty n) (hs : c.size = n) : (Tryz.prog.info? ty).map (·.size) = some c.size := by rw [hs]; exact ht.i
theorem run_load_V (ht : RowV ty n) {W : World} (hr : Rf ty n W R c) : (loadVar ty ⟨R, 0, none⟩).run Tryz.prog W = .ok (.agg c) W := by
  rcases ht.u with ⟨fs, hu⟩ | ⟨k, e, hu⟩
  · exact run_loadVar_row W R ty ty c (0, 0) _ hr.blk hu rfl (ht.inf hr.size)
  · exact run_loadVar_row W R ty ty c (0, 0) _ hr.blk hu rfl (ht.inf hr.size)
theorem wp_load_V (ht : RowV ty n) (hr : Rf ty n w R c) (hx : a.eval x = .pointer (some ⟨R, 0, none⟩)) (h : wpList Tryz.prog ops Q rest (a.put d (.agg c)) w) :
    wpList Tryz.prog ops Q ({ dst := d, op := .load ty x, type := ty2, pos := pos, after := af, guard := none } :: rest) a w := by
  rcases ht.u with ⟨fs, hu⟩ | ⟨k, e, hu⟩
  · exact wpList_load_row rfl ty x rfl R hx ty c (0, 0) _ hr.blk hu rfl (ht.inf hr.size) h
  · exact wpList_load_row rfl ty x rfl R hx ty c (0, 0) _ hr.blk hu rfl (ht.inf hr.size) h
/-- .. into the block that was made last. -/
theorem wp_store_Vn (c : Array Value) (ht : RowV ty n) (hc : old.size = n ∧ Ok1 n c) (hx : a.eval x = .pointer (some ⟨w.heap.size, 0, none⟩)) (hy : a.eval y = .agg c) (h : wpList Tryz.prog ops Q rest (a.put d undef) (w.alloc (.cells c ty))) :
    wpList Tryz.prog ops Q ({ dst := d, op := .store ty x y, type := ty2, pos := pos, after := af, guard := none } :: rest) a (w.alloc (.cells old ty)) :=
  wpList_store_blk rfl ty x y rfl w.heap.size c old hx hy ty (blk_new w old ty) (ht.inf hc.2.1) (by rw [hc.1, hc.2.1]) hc.2.2 (by rw [World.setRow_alloc_new]; exact h)
theorem res_V {fn : Func} {p : Tmp} (ht : RowV ty n) (h : fn.results = #[.cell p ty]) (tmps : Array Value) {W : World} (hr : Rf ty n W R c) (hp : tmps.getD p undef = .pointer (some ⟨R, 0, none⟩)) :
    (results fn tmps).run Tryz.prog W = .ok (.agg c) W := by
  have hp' : tmps[p]?.getD undef = .pointer (some ⟨R, 0, none⟩) := by simpa using hp
  simp [results, h, hp', asAddr, run_load_V ht hr]
theorem wp_load_VM {o : Nat} (ht : RowV ty n) (hr : w.rangeAt R o c.toList ∧ c.size = n) (hx : a.eval x = .pointer (some ⟨R, o, none⟩)) (h : wpList Tryz.prog ops Q rest (a.put d (.agg c)) w) :
    wpList Tryz.prog ops Q ({ dst := d, op := .load ty x, type := ty2, pos := pos, after := af, guard := none } :: rest) a w := by
  have : (Instr.loadAt ty (.pointer (some ⟨R, o, none⟩))).run Tryz.prog w = .ok (.agg c.toList.toArray) w := by
    rcases ht.u with ⟨fs, hu⟩ | ⟨k, e, hu⟩
    · exact run_loadAt_mid (P := Tryz.prog) w R o ty c.toList _ hr.1 hu rfl (by rw [ht.i]; simp [hr.2])
    · exact run_loadAt_mid (P := Tryz.prog) w R o ty c.toList _ hr.1 hu rfl (by rw [ht.i]; simp [hr.2])
  refine wpList_plain rfl fun K hK => ?_
  unfold Oper.wp execOp
  simp only [hx, Sem.run_bind, this, Result.andThen_ok]
  exact hK _ _ h
end

/-! ### the table of function values -/
def stF : Array Value := #[.nilFunc, .func (.func 92) #[] #[], .func (.func 93) #[] #[], .func (.func 94) #[] #[], .func (.func 95) #[] #[], .func (.func 96) #[] #[], .func (.func 97) #[] #[], .func (.func 98) #[] #[], .func (.func 99) #[] #[], .func (.func 100) #[] #[], .func (.func 101) #[] #[], .func (.func 102) #[] #[], .func (.func 103) #[] #[], .func (.func 104) #[] #[], .func (.func 105) #[] #[], .func (.func 106) #[] #[], .func (.func 107) #[] #[], .func (.func 108) #[] #[]]
theorem stF_ok : Ok1 18 stF := ⟨rfl, by simp [stF, Value.oneCell']⟩
theorem standing_any (w : World) : Calls Tryz.prog 72 #[] w fun e w' => e = .returned (.agg stF) ∧ Below w.heap.size w w' := by
  have HO := Lib.hid stF_ok
  have HE : Hid (stF = _) := rfl
  go_enter Tryz.func72, Tryz.ntmps72
  go_wp2_with ((with_reducible refine wp_store_Vn stF rvFns ⟨?_, HO.out⟩ ?_ ?_ ?_); (rfl); (rfl); (rfl))
  exact bodyPost_ret (res_V rvFns rfl _ (HO.out.new _ w) rfl) rfl ⟨rfl, bel1 w _⟩
/-! ### what each of them gives -/
theorem build_shd (w : World) (M : Nat) : (Instr.build 189 #[(0, .pointer (some ⟨M, 0, none⟩))]).run Tryz.prog w = .ok (.agg #[.pointer (some ⟨M, 0, none⟩)]) w := by kernel_rfl
end Go.Proofs.YtiohlmccnllklaaGreatDoor
namespace Go.Proofs.YtiohlmccnllklaaGreatDoor
open Go.RowKit
set_option maxHeartbeats 4000000
set_option maxRecDepth 100000
set_option linter.unusedVariables false
set_option linter.unusedSimpArgs false

def mst (k : Nat) : Nat := if k = 1 then 8 else if k = 11 then 4 else if k = 17 then 2 else 1
/-- What stands for a kind. -/
def ofV (P M D : Nat) (C : Nat → Nat) (k : Nat) : Value :=
  if k = 10 then .iface 189 (.agg #[.pointer (some ⟨M, 0, none⟩)]) else if k = 12 then .iface 189 (.agg #[.pointer (some ⟨D, 0, none⟩)]) else
    if T.cntK k = true then .iface 83 (.map (some (C k))) else .iface 187 (.slice (some ⟨P, 2 + 8 * k, none⟩) (mst k) 8)
/-- What of reads. -/
structure OfIs (w : World) (P M D : Nat) (C : Nat → Nat) : Prop where
  m : w.cell? ⟨P, 0, none⟩ = some (.pointer (some ⟨M, 0, none⟩))
  d : w.cell? ⟨P, 1, none⟩ = some (.pointer (some ⟨D, 0, none⟩))
  c : ∀ k : Nat, k < 18 → w.cell? ⟨P, 146 + k, none⟩ = some (cmV C k)
theorem OfIs.below {w w' : World} {P M D : Nat} {C : Nat → Nat} (h : OfIs w P M D C) (hb : Below w.heap.size w w') : OfIs w' P M D C := ⟨cell_below h.m hb, cell_below h.d hb, fun k hk => cell_below (h.c k hk) hb⟩
theorem ofis {w : World} {P M D : Nat} {s : Nat → Int} {C : Nat → Nat} (h : Blk w P (plCells M D s C) 89) : OfIs w P M D C := ⟨(h.cell 0).trans (plCells_0 _ _ _ _), (h.cell 1).trans (plCells_1 _ _ _ _), fun k hk => (h.cell (146 + k)).trans (plCells_map _ _ _ _ hk)⟩

theorem st1_any (P : Nat) (w : World) : Calls Tryz.prog 92 #[.pointer (some ⟨P, 0, none⟩)] w fun e w' => e = .returned (.iface 187 (.slice (some ⟨P, 10, none⟩) 8 8)) ∧ w = w' := by
  go_enter Tryz.func92, Tryz.ntmps92
  go_wp2
  go_ret
  exact ⟨rfl, rfl⟩
theorem st2_any (P : Nat) (w : World) : Calls Tryz.prog 93 #[.pointer (some ⟨P, 0, none⟩)] w fun e w' => e = .returned (.iface 187 (.slice (some ⟨P, 18, none⟩) 1 8)) ∧ w = w' := by
  go_enter Tryz.func93, Tryz.ntmps93
  go_wp2
  go_ret
  exact ⟨rfl, rfl⟩
theorem st3_any (P : Nat) (w : World) : Calls Tryz.prog 94 #[.pointer (some ⟨P, 0, none⟩)] w fun e w' => e = .returned (.iface 187 (.slice (some ⟨P, 26, none⟩) 1 8)) ∧ w = w' := by
  go_enter Tryz.func94, Tryz.ntmps94
  go_wp2
  go_ret
  exact ⟨rfl, rfl⟩
theorem st4_any (P : Nat) (w : World) : Calls Tryz.prog 95 #[.pointer (some ⟨P, 0, none⟩)] w fun e w' => e = .returned (.iface 187 (.slice (some ⟨P, 34, none⟩) 1 8)) ∧ w = w' := by
  go_enter Tryz.func95, Tryz.ntmps95
  go_wp2
  go_ret
  exact ⟨rfl, rfl⟩
theorem st5_any (P : Nat) (w : World) : Calls Tryz.prog 96 #[.pointer (some ⟨P, 0, none⟩)] w fun e w' => e = .returned (.iface 187 (.slice (some ⟨P, 42, none⟩) 1 8)) ∧ w = w' := by
  go_enter Tryz.func96, Tryz.ntmps96
  go_wp2
  go_ret
  exact ⟨rfl, rfl⟩
theorem st6_any (P : Nat) (w : World) : Calls Tryz.prog 97 #[.pointer (some ⟨P, 0, none⟩)] w fun e w' => e = .returned (.iface 187 (.slice (some ⟨P, 50, none⟩) 1 8)) ∧ w = w' := by
  go_enter Tryz.func97, Tryz.ntmps97
  go_wp2
  go_ret
  exact ⟨rfl, rfl⟩
theorem st7_any (P : Nat) (w : World) : Calls Tryz.prog 98 #[.pointer (some ⟨P, 0, none⟩)] w fun e w' => e = .returned (.iface 187 (.slice (some ⟨P, 58, none⟩) 1 8)) ∧ w = w' := by
  go_enter Tryz.func98, Tryz.ntmps98
  go_wp2
  go_ret
  exact ⟨rfl, rfl⟩
theorem st8_any (P : Nat) (w : World) : Calls Tryz.prog 99 #[.pointer (some ⟨P, 0, none⟩)] w fun e w' => e = .returned (.iface 187 (.slice (some ⟨P, 66, none⟩) 1 8)) ∧ w = w' := by
  go_enter Tryz.func99, Tryz.ntmps99
  go_wp2
  go_ret
  exact ⟨rfl, rfl⟩
theorem st9_any (P : Nat) (w : World) : Calls Tryz.prog 100 #[.pointer (some ⟨P, 0, none⟩)] w fun e w' => e = .returned (.iface 187 (.slice (some ⟨P, 74, none⟩) 1 8)) ∧ w = w' := by
  go_enter Tryz.func100, Tryz.ntmps100
  go_wp2
  go_ret
  exact ⟨rfl, rfl⟩
theorem st10_any (P M : Nat) (w : World) (h : w.cell? ⟨P, 0, none⟩ = some (.pointer (some ⟨M, 0, none⟩))) : Calls Tryz.prog 101 #[.pointer (some ⟨P, 0, none⟩)] w fun e w' => e = .returned (.iface 189 (.agg #[.pointer (some ⟨M, 0, none⟩)])) ∧ w = w' := by
  go_enter Tryz.func101, Tryz.ntmps101
  go_wp2
  go_ret
  exact ⟨rfl, rfl⟩
theorem st11_any (P : Nat) (w : World) : Calls Tryz.prog 102 #[.pointer (some ⟨P, 0, none⟩)] w fun e w' => e = .returned (.iface 187 (.slice (some ⟨P, 90, none⟩) 4 8)) ∧ w = w' := by
  go_enter Tryz.func102, Tryz.ntmps102
  go_wp2
  go_ret
  exact ⟨rfl, rfl⟩
theorem st12_any (P M : Nat) (w : World) (h : w.cell? ⟨P, 1, none⟩ = some (.pointer (some ⟨M, 0, none⟩))) : Calls Tryz.prog 103 #[.pointer (some ⟨P, 0, none⟩)] w fun e w' => e = .returned (.iface 189 (.agg #[.pointer (some ⟨M, 0, none⟩)])) ∧ w = w' := by
  go_enter Tryz.func103, Tryz.ntmps103
  go_wp2
  go_ret
  exact ⟨rfl, rfl⟩
theorem st13_any (P b : Nat) (w : World) (h : w.cell? ⟨P, 159, none⟩ = some (.map (some b))) : Calls Tryz.prog 104 #[.pointer (some ⟨P, 0, none⟩)] w fun e w' => e = .returned (.iface 83 (.map (some b))) ∧ w = w' := by
  go_enter Tryz.func104, Tryz.ntmps104
  go_wp2
  go_ret
  exact ⟨rfl, rfl⟩
theorem st14_any (P b : Nat) (w : World) (h : w.cell? ⟨P, 160, none⟩ = some (.map (some b))) : Calls Tryz.prog 105 #[.pointer (some ⟨P, 0, none⟩)] w fun e w' => e = .returned (.iface 83 (.map (some b))) ∧ w = w' := by
  go_enter Tryz.func105, Tryz.ntmps105
  go_wp2
  go_ret
  exact ⟨rfl, rfl⟩
theorem st15_any (P b : Nat) (w : World) (h : w.cell? ⟨P, 161, none⟩ = some (.map (some b))) : Calls Tryz.prog 106 #[.pointer (some ⟨P, 0, none⟩)] w fun e w' => e = .returned (.iface 83 (.map (some b))) ∧ w = w' := by
  go_enter Tryz.func106, Tryz.ntmps106
  go_wp2
  go_ret
  exact ⟨rfl, rfl⟩
theorem st16_any (P b : Nat) (w : World) (h : w.cell? ⟨P, 162, none⟩ = some (.map (some b))) : Calls Tryz.prog 107 #[.pointer (some ⟨P, 0, none⟩)] w fun e w' => e = .returned (.iface 83 (.map (some b))) ∧ w = w' := by
  go_enter Tryz.func107, Tryz.ntmps107
  go_wp2
  go_ret
  exact ⟨rfl, rfl⟩
theorem st17_any (P : Nat) (w : World) : Calls Tryz.prog 108 #[.pointer (some ⟨P, 0, none⟩)] w fun e w' => e = .returned (.iface 187 (.slice (some ⟨P, 138, none⟩) 2 8)) ∧ w = w' := by
  go_enter Tryz.func108, Tryz.ntmps108
  go_wp2
  go_ret
  exact ⟨rfl, rfl⟩
theorem idx_st (w : World) : (Instr.index 165 (.agg stF) (.int .i64 1)).run Tryz.prog w = .ok (.func (.func 92) #[] #[]) w ∧ (Instr.index 165 (.agg stF) (.int .i64 2)).run Tryz.prog w = .ok (.func (.func 93) #[] #[]) w ∧ (Instr.index 165 (.agg stF) (.int .i64 3)).run Tryz.prog w = .ok (.func (.func 94) #[] #[]) w ∧ (Instr.index 165 (.agg stF) (.int .i64 4)).run Tryz.prog w = .ok (.func (.func 95) #[] #[]) w ∧ (Instr.index 165 (.agg stF) (.int .i64 5)).run Tryz.prog w = .ok (.func (.func 96) #[] #[]) w ∧ (Instr.index 165 (.agg stF) (.int .i64 6)).run Tryz.prog w = .ok (.func (.func 97) #[] #[]) w ∧ (Instr.index 165 (.agg stF) (.int .i64 7)).run Tryz.prog w = .ok (.func (.func 98) #[] #[]) w ∧ (Instr.index 165 (.agg stF) (.int .i64 8)).run Tryz.prog w = .ok (.func (.func 99) #[] #[]) w ∧ (Instr.index 165 (.agg stF) (.int .i64 9)).run Tryz.prog w = .ok (.func (.func 100) #[] #[]) w ∧ (Instr.index 165 (.agg stF) (.int .i64 10)).run Tryz.prog w = .ok (.func (.func 101) #[] #[]) w ∧ (Instr.index 165 (.agg stF) (.int .i64 11)).run Tryz.prog w = .ok (.func (.func 102) #[] #[]) w ∧ (Instr.index 165 (.agg stF) (.int .i64 12)).run Tryz.prog w = .ok (.func (.func 103) #[] #[]) w ∧ (Instr.index 165 (.agg stF) (.int .i64 13)).run Tryz.prog w = .ok (.func (.func 104) #[] #[]) w ∧ (Instr.index 165 (.agg stF) (.int .i64 14)).run Tryz.prog w = .ok (.func (.func 105) #[] #[]) w ∧ (Instr.index 165 (.agg stF) (.int .i64 15)).run Tryz.prog w = .ok (.func (.func 106) #[] #[]) w ∧ (Instr.index 165 (.agg stF) (.int .i64 16)).run Tryz.prog w = .ok (.func (.func 107) #[] #[]) w ∧ (Instr.index 165 (.agg stF) (.int .i64 17)).run Tryz.prog w = .ok (.func (.func 108) #[] #[]) w := by
  refine ⟨?_, ?_, ?_, ?_, ?_, ?_, ?_, ?_, ?_, ?_, ?_, ?_, ?_, ?_, ?_, ?_, ?_⟩ <;> kernel_rfl
theorem of1 {w : World} {P M D : Nat} {C : Nat → Nat} (h : OfIs w P M D C) : Calls Tryz.prog 53 #[.pointer (some ⟨P, 0, none⟩), .int .i64 1] w fun e w' => e = .returned (ofV P M D C 1) ∧ Below w.heap.size w w' := by
  have hi := fun W => (idx_st W).1
  clear h
  go_enter Tryz.func53, Tryz.ntmps53
  go_wp2_with fail
  refine (standing_any _).mono ?_
  rintro e w1 ⟨rfl, hb⟩
  go_wp2_with fail
  refine (st1_any P _).mono ?_
  rintro e w2 ⟨rfl, rfl⟩
  go_wp2
  go_ret
  exact ⟨rfl, hb⟩
theorem of2 {w : World} {P M D : Nat} {C : Nat → Nat} (h : OfIs w P M D C) : Calls Tryz.prog 53 #[.pointer (some ⟨P, 0, none⟩), .int .i64 2] w fun e w' => e = .returned (ofV P M D C 2) ∧ Below w.heap.size w w' := by
  have hi := fun W => (idx_st W).2.1
  clear h
  go_enter Tryz.func53, Tryz.ntmps53
  go_wp2_with fail
  refine (standing_any _).mono ?_
  rintro e w1 ⟨rfl, hb⟩
  go_wp2_with fail
  refine (st2_any P _).mono ?_
  rintro e w2 ⟨rfl, rfl⟩
  go_wp2
  go_ret
  exact ⟨rfl, hb⟩
theorem of3 {w : World} {P M D : Nat} {C : Nat → Nat} (h : OfIs w P M D C) : Calls Tryz.prog 53 #[.pointer (some ⟨P, 0, none⟩), .int .i64 3] w fun e w' => e = .returned (ofV P M D C 3) ∧ Below w.heap.size w w' := by
  have hi := fun W => (idx_st W).2.2.1
  clear h
  go_enter Tryz.func53, Tryz.ntmps53
  go_wp2_with fail
  refine (standing_any _).mono ?_
  rintro e w1 ⟨rfl, hb⟩
  go_wp2_with fail
  refine (st3_any P _).mono ?_
  rintro e w2 ⟨rfl, rfl⟩
  go_wp2
  go_ret
  exact ⟨rfl, hb⟩
theorem of4 {w : World} {P M D : Nat} {C : Nat → Nat} (h : OfIs w P M D C) : Calls Tryz.prog 53 #[.pointer (some ⟨P, 0, none⟩), .int .i64 4] w fun e w' => e = .returned (ofV P M D C 4) ∧ Below w.heap.size w w' := by
  have hi := fun W => (idx_st W).2.2.2.1
  clear h
  go_enter Tryz.func53, Tryz.ntmps53
  go_wp2_with fail
  refine (standing_any _).mono ?_
  rintro e w1 ⟨rfl, hb⟩
  go_wp2_with fail
  refine (st4_any P _).mono ?_
  rintro e w2 ⟨rfl, rfl⟩
  go_wp2
  go_ret
  exact ⟨rfl, hb⟩
theorem of5 {w : World} {P M D : Nat} {C : Nat → Nat} (h : OfIs w P M D C) : Calls Tryz.prog 53 #[.pointer (some ⟨P, 0, none⟩), .int .i64 5] w fun e w' => e = .returned (ofV P M D C 5) ∧ Below w.heap.size w w' := by
  have hi := fun W => (idx_st W).2.2.2.2.1
  clear h
  go_enter Tryz.func53, Tryz.ntmps53
  go_wp2_with fail
  refine (standing_any _).mono ?_
  rintro e w1 ⟨rfl, hb⟩
  go_wp2_with fail
  refine (st5_any P _).mono ?_
  rintro e w2 ⟨rfl, rfl⟩
  go_wp2
  go_ret
  exact ⟨rfl, hb⟩
theorem of6 {w : World} {P M D : Nat} {C : Nat → Nat} (h : OfIs w P M D C) : Calls Tryz.prog 53 #[.pointer (some ⟨P, 0, none⟩), .int .i64 6] w fun e w' => e = .returned (ofV P M D C 6) ∧ Below w.heap.size w w' := by
  have hi := fun W => (idx_st W).2.2.2.2.2.1
  clear h
  go_enter Tryz.func53, Tryz.ntmps53
  go_wp2_with fail
  refine (standing_any _).mono ?_
  rintro e w1 ⟨rfl, hb⟩
  go_wp2_with fail
  refine (st6_any P _).mono ?_
  rintro e w2 ⟨rfl, rfl⟩
  go_wp2
  go_ret
  exact ⟨rfl, hb⟩
theorem of7 {w : World} {P M D : Nat} {C : Nat → Nat} (h : OfIs w P M D C) : Calls Tryz.prog 53 #[.pointer (some ⟨P, 0, none⟩), .int .i64 7] w fun e w' => e = .returned (ofV P M D C 7) ∧ Below w.heap.size w w' := by
  have hi := fun W => (idx_st W).2.2.2.2.2.2.1
  clear h
  go_enter Tryz.func53, Tryz.ntmps53
  go_wp2_with fail
  refine (standing_any _).mono ?_
  rintro e w1 ⟨rfl, hb⟩
  go_wp2_with fail
  refine (st7_any P _).mono ?_
  rintro e w2 ⟨rfl, rfl⟩
  go_wp2
  go_ret
  exact ⟨rfl, hb⟩
theorem of8 {w : World} {P M D : Nat} {C : Nat → Nat} (h : OfIs w P M D C) : Calls Tryz.prog 53 #[.pointer (some ⟨P, 0, none⟩), .int .i64 8] w fun e w' => e = .returned (ofV P M D C 8) ∧ Below w.heap.size w w' := by
  have hi := fun W => (idx_st W).2.2.2.2.2.2.2.1
  clear h
  go_enter Tryz.func53, Tryz.ntmps53
  go_wp2_with fail
  refine (standing_any _).mono ?_
  rintro e w1 ⟨rfl, hb⟩
  go_wp2_with fail
  refine (st8_any P _).mono ?_
  rintro e w2 ⟨rfl, rfl⟩
  go_wp2
  go_ret
  exact ⟨rfl, hb⟩
theorem of9 {w : World} {P M D : Nat} {C : Nat → Nat} (h : OfIs w P M D C) : Calls Tryz.prog 53 #[.pointer (some ⟨P, 0, none⟩), .int .i64 9] w fun e w' => e = .returned (ofV P M D C 9) ∧ Below w.heap.size w w' := by
  have hi := fun W => (idx_st W).2.2.2.2.2.2.2.2.1
  clear h
  go_enter Tryz.func53, Tryz.ntmps53
  go_wp2_with fail
  refine (standing_any _).mono ?_
  rintro e w1 ⟨rfl, hb⟩
  go_wp2_with fail
  refine (st9_any P _).mono ?_
  rintro e w2 ⟨rfl, rfl⟩
  go_wp2
  go_ret
  exact ⟨rfl, hb⟩
theorem of10 {w : World} {P M D : Nat} {C : Nat → Nat} (h : OfIs w P M D C) : Calls Tryz.prog 53 #[.pointer (some ⟨P, 0, none⟩), .int .i64 10] w fun e w' => e = .returned (ofV P M D C 10) ∧ Below w.heap.size w w' := by
  have hi := fun W => (idx_st W).2.2.2.2.2.2.2.2.2.1
  have c : ∀ W, Below w.heap.size w W → W.cell? ⟨P, 0, none⟩ = some (.pointer (some ⟨M, 0, none⟩)) := fun W hb => cell_below (h.m) hb
  clear h
  go_enter Tryz.func53, Tryz.ntmps53
  go_wp2_with fail
  refine (standing_any _).mono ?_
  rintro e w1 ⟨rfl, hb⟩
  go_wp2_with fail
  refine (st10_any P M _ (c _ hb)).mono ?_
  rintro e w2 ⟨rfl, rfl⟩
  go_wp2
  go_ret
  exact ⟨rfl, hb⟩
theorem of11 {w : World} {P M D : Nat} {C : Nat → Nat} (h : OfIs w P M D C) : Calls Tryz.prog 53 #[.pointer (some ⟨P, 0, none⟩), .int .i64 11] w fun e w' => e = .returned (ofV P M D C 11) ∧ Below w.heap.size w w' := by
  have hi := fun W => (idx_st W).2.2.2.2.2.2.2.2.2.2.1
  clear h
  go_enter Tryz.func53, Tryz.ntmps53
  go_wp2_with fail
  refine (standing_any _).mono ?_
  rintro e w1 ⟨rfl, hb⟩
  go_wp2_with fail
  refine (st11_any P _).mono ?_
  rintro e w2 ⟨rfl, rfl⟩
  go_wp2
  go_ret
  exact ⟨rfl, hb⟩
theorem of12 {w : World} {P M D : Nat} {C : Nat → Nat} (h : OfIs w P M D C) : Calls Tryz.prog 53 #[.pointer (some ⟨P, 0, none⟩), .int .i64 12] w fun e w' => e = .returned (ofV P M D C 12) ∧ Below w.heap.size w w' := by
  have hi := fun W => (idx_st W).2.2.2.2.2.2.2.2.2.2.2.1
  have c : ∀ W, Below w.heap.size w W → W.cell? ⟨P, 1, none⟩ = some (.pointer (some ⟨D, 0, none⟩)) := fun W hb => cell_below (h.d) hb
  clear h
  go_enter Tryz.func53, Tryz.ntmps53
  go_wp2_with fail
  refine (standing_any _).mono ?_
  rintro e w1 ⟨rfl, hb⟩
  go_wp2_with fail
  refine (st12_any P D _ (c _ hb)).mono ?_
  rintro e w2 ⟨rfl, rfl⟩
  go_wp2
  go_ret
  exact ⟨rfl, hb⟩
theorem of13 {w : World} {P M D : Nat} {C : Nat → Nat} (h : OfIs w P M D C) : Calls Tryz.prog 53 #[.pointer (some ⟨P, 0, none⟩), .int .i64 13] w fun e w' => e = .returned (ofV P M D C 13) ∧ Below w.heap.size w w' := by
  have hi := fun W => (idx_st W).2.2.2.2.2.2.2.2.2.2.2.2.1
  have c : ∀ W, Below w.heap.size w W → W.cell? ⟨P, 159, none⟩ = some (.map (some (C 13))) := fun W hb => cell_below (h.c 13 (by omega)) hb
  clear h
  go_enter Tryz.func53, Tryz.ntmps53
  go_wp2_with fail
  refine (standing_any _).mono ?_
  rintro e w1 ⟨rfl, hb⟩
  go_wp2_with fail
  refine (st13_any P (C 13) _ (c _ hb)).mono ?_
  rintro e w2 ⟨rfl, rfl⟩
  go_wp2
  go_ret
  exact ⟨rfl, hb⟩
theorem of14 {w : World} {P M D : Nat} {C : Nat → Nat} (h : OfIs w P M D C) : Calls Tryz.prog 53 #[.pointer (some ⟨P, 0, none⟩), .int .i64 14] w fun e w' => e = .returned (ofV P M D C 14) ∧ Below w.heap.size w w' := by
  have hi := fun W => (idx_st W).2.2.2.2.2.2.2.2.2.2.2.2.2.1
  have c : ∀ W, Below w.heap.size w W → W.cell? ⟨P, 160, none⟩ = some (.map (some (C 14))) := fun W hb => cell_below (h.c 14 (by omega)) hb
  clear h
  go_enter Tryz.func53, Tryz.ntmps53
  go_wp2_with fail
  refine (standing_any _).mono ?_
  rintro e w1 ⟨rfl, hb⟩
  go_wp2_with fail
  refine (st14_any P (C 14) _ (c _ hb)).mono ?_
  rintro e w2 ⟨rfl, rfl⟩
  go_wp2
  go_ret
  exact ⟨rfl, hb⟩
theorem of15 {w : World} {P M D : Nat} {C : Nat → Nat} (h : OfIs w P M D C) : Calls Tryz.prog 53 #[.pointer (some ⟨P, 0, none⟩), .int .i64 15] w fun e w' => e = .returned (ofV P M D C 15) ∧ Below w.heap.size w w' := by
  have hi := fun W => (idx_st W).2.2.2.2.2.2.2.2.2.2.2.2.2.2.1
  have c : ∀ W, Below w.heap.size w W → W.cell? ⟨P, 161, none⟩ = some (.map (some (C 15))) := fun W hb => cell_below (h.c 15 (by omega)) hb
  clear h
  go_enter Tryz.func53, Tryz.ntmps53
  go_wp2_with fail
  refine (standing_any _).mono ?_
  rintro e w1 ⟨rfl, hb⟩
  go_wp2_with fail
  refine (st15_any P (C 15) _ (c _ hb)).mono ?_
  rintro e w2 ⟨rfl, rfl⟩
  go_wp2
  go_ret
  exact ⟨rfl, hb⟩
theorem of16 {w : World} {P M D : Nat} {C : Nat → Nat} (h : OfIs w P M D C) : Calls Tryz.prog 53 #[.pointer (some ⟨P, 0, none⟩), .int .i64 16] w fun e w' => e = .returned (ofV P M D C 16) ∧ Below w.heap.size w w' := by
  have hi := fun W => (idx_st W).2.2.2.2.2.2.2.2.2.2.2.2.2.2.2.1
  have c : ∀ W, Below w.heap.size w W → W.cell? ⟨P, 162, none⟩ = some (.map (some (C 16))) := fun W hb => cell_below (h.c 16 (by omega)) hb
  clear h
  go_enter Tryz.func53, Tryz.ntmps53
  go_wp2_with fail
  refine (standing_any _).mono ?_
  rintro e w1 ⟨rfl, hb⟩
  go_wp2_with fail
  refine (st16_any P (C 16) _ (c _ hb)).mono ?_
  rintro e w2 ⟨rfl, rfl⟩
  go_wp2
  go_ret
  exact ⟨rfl, hb⟩
theorem of17 {w : World} {P M D : Nat} {C : Nat → Nat} (h : OfIs w P M D C) : Calls Tryz.prog 53 #[.pointer (some ⟨P, 0, none⟩), .int .i64 17] w fun e w' => e = .returned (ofV P M D C 17) ∧ Below w.heap.size w w' := by
  have hi := fun W => (idx_st W).2.2.2.2.2.2.2.2.2.2.2.2.2.2.2.2
  clear h
  go_enter Tryz.func53, Tryz.ntmps53
  go_wp2_with fail
  refine (standing_any _).mono ?_
  rintro e w1 ⟨rfl, hb⟩
  go_wp2_with fail
  refine (st17_any P _).mono ?_
  rintro e w2 ⟨rfl, rfl⟩
  go_wp2
  go_ret
  exact ⟨rfl, hb⟩
theorem of_any {w : World} {P M D : Nat} {C : Nat → Nat} (h : OfIs w P M D C) (k : Nat) (h1 : 1 ≤ k) (h2 : k ≤ 17) : Calls Tryz.prog 53 #[.pointer (some ⟨P, 0, none⟩), .int .i64 (k : Int)] w fun e w' => e = .returned (ofV P M D C k) ∧ Below w.heap.size w w' := by
  rcases (show k = 1 ∨ k = 2 ∨ k = 3 ∨ k = 4 ∨ k = 5 ∨ k = 6 ∨ k = 7 ∨ k = 8 ∨ k = 9 ∨ k = 10 ∨ k = 11 ∨ k = 12 ∨ k = 13 ∨ k = 14 ∨ k = 15 ∨ k = 16 ∨ k = 17 by omega) with rfl | rfl | rfl | rfl | rfl | rfl | rfl | rfl | rfl | rfl | rfl | rfl | rfl | rfl | rfl | rfl | rfl
  · exact of1 h
  · exact of2 h
  · exact of3 h
  · exact of4 h
  · exact of5 h
  · exact of6 h
  · exact of7 h
  · exact of8 h
  · exact of9 h
  · exact of10 h
  · exact of11 h
  · exact of12 h
  · exact of13 h
  · exact of14 h
  · exact of15 h
  · exact of16 h
  · exact of17 h
end Go.Proofs.YtiohlmccnllklaaGreatDoor
