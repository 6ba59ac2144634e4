/-
  Layer 10: CpuTraps: a walk. Written by gen_tq.py.
-/
import Derived.Test.YthjdfneibogcgaaDoorKnown
import Derived.Test.YthjdfneibogcgaaDoorEq
import Derived.Test.YthjdfneibogcgaaDoorTq
namespace Go.Proofs.YthjdfneibogcgaaDoor
open Go.RowKit
set_option maxHeartbeats 16000000
set_option linter.unusedVariables false
set_option linter.unusedSimpArgs false

/-- Behind a trap and a back. -/
def bakS (s : Sta) (c : Int) : Sta := { s with epc := s.pc, cs := c, pv := s.su, en := true }
theorem dec_back : decV 419430400 = ⟨25, 0, 0, 0⟩ := by decide +kernel
theorem done_back (s : Sta) (c : Int) : doneS (trapS s c) (decV 419430400) 0 = bakS s c := by
  rw [dec_back]
  simp [doneS, causeS, causeOf, trapS, behindS, toS, takenS, bakS]
theorem trapS_ok {s : Sta} (hs : s.Ok) {c : Int} (hc : W32 c) : (trapS s c).Ok := ⟨hs.r, hs.vec, hs.pc, hc, hs.vec, hs.tab⟩
theorem Rf.rs {w : World} {R : Nat} {s : Sta} (h : Rf 25 16 w R (sc s)) : w.cell? ⟨R, 0, none⟩ = some (.int .u32 (s.r 0)) ∧ w.cell? ⟨R, 1, none⟩ = some (.int .u32 (s.r 1)) ∧ w.cell? ⟨R, 2, none⟩ = some (.int .u32 (s.r 2)) ∧ w.cell? ⟨R, 3, none⟩ = some (.int .u32 (s.r 3)) ∧ w.cell? ⟨R, 4, none⟩ = some (.int .u32 (s.r 4)) ∧ w.cell? ⟨R, 5, none⟩ = some (.int .u32 (s.r 5)) ∧ w.cell? ⟨R, 6, none⟩ = some (.int .u32 (s.r 6)) ∧ w.cell? ⟨R, 7, none⟩ = some (.int .u32 (s.r 7)) := ⟨h.cell 0, h.cell 1, h.cell 2, h.cell 3, h.cell 4, h.cell 5, h.cell 6, h.cell 7⟩
theorem eqg_regs (o : BinOp) (x y : Operand) (xs ys : Array Value) (w : World) : (eqGuard o 23 x y (.agg xs) (.agg ys)).run Tryd.prog w = .ok () w := by
  have : Tryd.prog.eqGuardType Tryd.prog.depth 23 = false := by kernel_rfl
  unfold eqGuard
  simp [this]
set_option maxRecDepth 100000 in
theorem CpuTraps_walk (s : Sta) (hs : s.Ok) (c : Int) (hc : W32 c) (w : World) (h : Env w) : Calls Tryd.prog 7 #[.agg (sc s), .int .u32 c] w fun e w' => e = .returned (.bool true) ∧ Below w.heap.size w w' := by
  have HD := Lib.hid (fun W (hW : Env W) => Done_any (trapS s c) (trapS_ok hs hc) 419430400 0 ⟨by decide, by decide⟩ ⟨by decide, by decide⟩ W hW)
  rw [done_back] at HD
  have HE := Lib.hid h
  have HP := Lib.hid (Pb.new w (sc_ok s) (ty := 25) (by decide) (by decide))
  have hn := neq_regs s.r
  have hg := eqg_regs
  simp only [rgc] at hn
  clear h
  go_enter Tryd.func7, Tryd.ntmps7
  go_wp2_with ((with_reducible refine wp_load_R rowS HP.out.b.h0 ?_ ?_); (kernel_rfl))
  refine (Trap_any s c _).mono ?_
  rintro e w1 ⟨rfl, b1⟩
  obtain ⟨W1, HW1⟩ : ∃ W1, Hid (W1 = w1.alloc (.cells (sc (trapS s c)) 25)) := ⟨_, rfl⟩
  replace HP := (HP.out.after b1).box (bel1 w1 (.cells (sc (trapS s c)) 25)) ((sc_ok (trapS s c)).new 25 w1) (by decide) (by decide)
  rw [← HW1.out] at HP
  replace HP := Lib.hid HP
  have q0 := HP.out.b.h0.s
  have q1 := HP.out.b.h1.s
  have r0 := HP.out.b.h0.rs
  have r1 := HP.out.b.h1.rs
  have e1 : (trapS s c).r = s.r := rfl
  have e2 : (trapS s c).epc = s.pc := rfl
  have e3 : (trapS s c).cs = c := rfl
  have e4 : (trapS s c).pc = s.vec := rfl
  have e5 : (trapS s c).vec = s.vec := rfl
  have e6 : (trapS s c).tab = s.tab := rfl
  have e7 : (trapS s c).su = true := rfl
  have e8 : (trapS s c).pv = s.su := rfl
  have e9 : (trapS s c).en = false := rfl
  rw [e1] at r0
  rw [e2, e3, e4, e5, e6, e7, e8, e9] at q0
  clear b1 e1 e2 e3 e4 e5 e6 e7 e8 e9
  go_wp2_with (first | ((with_reducible refine wp_store_Rn (sc (trapS s c)) rowS ?_ ?_ ?_ ?_); (exact ⟨rfl, sc_ok _⟩); (kernel_rfl); (kernel_rfl); (rw [← HW1.out])) | ((with_reducible refine wp_load_R rowS HP.out.b.h0 ?_ ?_); (kernel_rfl)))
  refine (HD.out _ (HE.out.below HP.out.k)).mono ?_
  rintro e w2 ⟨rfl, b2⟩
  obtain ⟨W2, HW2⟩ : ∃ W2, Hid (W2 = w2.alloc (.cells (sc (bakS s c)) 25)) := ⟨_, rfl⟩
  replace HP := (HP.out.after b2).box (bel1 w2 (.cells (sc (bakS s c)) 25)) ((sc_ok (bakS s c)).new 25 w2) (by decide) (by decide)
  rw [← HW2.out] at HP
  replace HP := Lib.hid HP
  clear b2 q0 q1 r0 r1 hn
  go_wp2_with (first | ((with_reducible refine wp_store_Rn (sc (bakS s c)) rowS ?_ ?_ ?_ ?_); (exact ⟨rfl, sc_ok _⟩); (kernel_rfl); (kernel_rfl); (rw [← HW2.out])))
  have hK0 := HP.out.drew
  have hE := HE.out.below hK0.k
  have hq := eql_regs s.r
  simp only [rgc] at hq
  clear HP HD HW1 HW2
  refine wp_region_held_drew (S := fun W => Bks W [(w2.heap.size, 25, 16, sc (bakS s c)), (w1.heap.size, 25, 16, sc (trapS s c)), (w.heap.size, 25, 16, sc s)]) (by kernel_rfl) hK0.b (fun _ => ?_)
  have hS := hK0
  refine take_d (i := 0) (d := some 67) (v := ?_) rfl rfl (by kernel_rfl) (by kernel_rfl) (by kernel_rfl) (fun _ _ _ h => h) (.inl ⟨by rfl, ?_⟩) hS.b ?_
  rotate_left
  · intro W hW
    go_simp
    try with_reducible rfl
  try simp only [Act.put, List.setIfInBounds_toArray, List.set_cons_zero, List.set_cons_succ]
  refine take_d (i := 1) (d := some 68) (v := ?_) rfl rfl (by kernel_rfl) (by kernel_rfl) (by kernel_rfl) (fun _ _ _ h => h) (.inl ⟨by rfl, ?_⟩) hS.b ?_
  rotate_left
  · intro W hW
    have q0 := hW.h0.s; have q1 := hW.h1.s; have q2 := hW.h2.s; simp only [bakS, trapS] at q0 q1 q2
    go_simp
    try with_reducible rfl
  try simp only [Act.put, List.setIfInBounds_toArray, List.set_cons_zero, List.set_cons_succ]
  refine take_d (i := 2) (d := some 69) (v := ?_) rfl rfl (by kernel_rfl) (by kernel_rfl) (by kernel_rfl) (fun _ _ _ h => h) (.inl ⟨by rfl, ?_⟩) hS.b ?_
  rotate_left
  · intro W hW
    go_simp
    try with_reducible rfl
  try simp only [Act.put, List.setIfInBounds_toArray, List.set_cons_zero, List.set_cons_succ]
  refine take_d (i := 3) (d := some 70) (v := ?_) rfl rfl (by kernel_rfl) (by kernel_rfl) (by kernel_rfl) (fun _ _ _ h => h) (.inl ⟨by rfl, ?_⟩) hS.b ?_
  rotate_left
  · intro W hW
    have q0 := hW.h0.s; have q1 := hW.h1.s; have q2 := hW.h2.s; simp only [bakS, trapS] at q0 q1 q2
    go_simp
    try with_reducible rfl
  try simp only [Act.put, List.setIfInBounds_toArray, List.set_cons_zero, List.set_cons_succ]
  refine take_d (i := 4) (d := some 71) (v := ?_) rfl rfl (by kernel_rfl) (by kernel_rfl) (by kernel_rfl) (fun _ _ _ h => h) (.inl ⟨by rfl, ?_⟩) hS.b ?_
  rotate_left
  · intro W hW
    go_simp
    try with_reducible rfl
  try simp only [Act.put, List.setIfInBounds_toArray, List.set_cons_zero, List.set_cons_succ]
  refine take_d (i := 5) (d := some 72) (v := ?_) rfl rfl (by kernel_rfl) (by kernel_rfl) (by kernel_rfl) (fun _ _ _ h => h) (.inl ⟨by rfl, ?_⟩) hS.b ?_
  rotate_left
  · intro W hW
    go_simp
    try with_reducible rfl
  try simp only [Act.put, List.setIfInBounds_toArray, List.set_cons_zero, List.set_cons_succ]
  refine take_d (i := 6) (d := some 73) (v := ?_) rfl rfl (by kernel_rfl) (by kernel_rfl) (by kernel_rfl) (fun _ _ _ h => h) (.inl ⟨by rfl, ?_⟩) hS.b ?_
  rotate_left
  · intro W hW
    go_simp
    try with_reducible rfl
  try simp only [Act.put, List.setIfInBounds_toArray, List.set_cons_zero, List.set_cons_succ]
  refine take_d (i := 7) (d := some 74) (v := ?_) rfl rfl (by kernel_rfl) (by kernel_rfl) (by kernel_rfl) (fun _ _ _ h => h) (.inl ⟨by rfl, ?_⟩) hS.b ?_
  rotate_left
  · intro W hW
    have q0 := hW.h0.s; have q1 := hW.h1.s; have q2 := hW.h2.s; simp only [bakS, trapS] at q0 q1 q2
    go_simp
    try with_reducible rfl
  try simp only [Act.put, List.setIfInBounds_toArray, List.set_cons_zero, List.set_cons_succ]
  refine take_d (i := 8) (d := some 75) (v := ?_) rfl rfl (by kernel_rfl) (by kernel_rfl) (by kernel_rfl) (fun _ _ _ h => h) (.inl ⟨by rfl, ?_⟩) hS.b ?_
  rotate_left
  · intro W hW
    go_simp
    try with_reducible rfl
  try simp only [Act.put, List.setIfInBounds_toArray, List.set_cons_zero, List.set_cons_succ]
  refine take_d (i := 9) (d := some 76) (v := ?_) rfl rfl (by kernel_rfl) (by kernel_rfl) (by kernel_rfl) (fun _ _ _ h => h) (.inl ⟨by rfl, ?_⟩) hS.b ?_
  rotate_left
  · intro W hW
    have q0 := hW.h0.s; have q1 := hW.h1.s; have q2 := hW.h2.s; simp only [bakS, trapS] at q0 q1 q2
    go_simp
    try with_reducible rfl
  try simp only [Act.put, List.setIfInBounds_toArray, List.set_cons_zero, List.set_cons_succ]
  refine take_d (i := 10) (d := some 77) (v := ?_) rfl rfl (by kernel_rfl) (by kernel_rfl) (by kernel_rfl) (fun _ _ _ h => h) (.inl ⟨by rfl, ?_⟩) hS.b ?_
  rotate_left
  · intro W hW
    go_simp
    try with_reducible rfl
  try simp only [Act.put, List.setIfInBounds_toArray, List.set_cons_zero, List.set_cons_succ]
  refine take_d (i := 11) (d := some 78) (v := ?_) rfl rfl (by kernel_rfl) (by kernel_rfl) (by kernel_rfl) (fun _ _ _ h => h) (.inl ⟨by rfl, ?_⟩) hS.b ?_
  rotate_left
  · intro W hW
    go_simp
    try with_reducible rfl
  try simp only [Act.put, List.setIfInBounds_toArray, List.set_cons_zero, List.set_cons_succ]
  refine take_d (i := 12) (d := some 79) (v := ?_) rfl rfl (by kernel_rfl) (by kernel_rfl) (by kernel_rfl) (fun _ _ _ h => h) (.inl ⟨by rfl, ?_⟩) hS.b ?_
  rotate_left
  · intro W hW
    go_simp
    try with_reducible rfl
  try simp only [Act.put, List.setIfInBounds_toArray, List.set_cons_zero, List.set_cons_succ]
  refine take_d (i := 13) (d := some 80) (v := ?_) rfl rfl (by kernel_rfl) (by kernel_rfl) (by kernel_rfl) (fun _ _ _ h => h) (.inl ⟨by rfl, ?_⟩) hS.b ?_
  rotate_left
  · intro W hW
    go_simp
    try with_reducible rfl
  try simp only [Act.put, List.setIfInBounds_toArray, List.set_cons_zero, List.set_cons_succ]
  refine take_d (i := 14) (d := some 81) (v := ?_) rfl rfl (by kernel_rfl) (by kernel_rfl) (by kernel_rfl) (fun _ _ _ h => h) (.inl ⟨by rfl, ?_⟩) hS.b ?_
  rotate_left
  · intro W hW
    have q0 := hW.h0.s; have q1 := hW.h1.s; have q2 := hW.h2.s; simp only [bakS, trapS] at q0 q1 q2
    go_simp
    try with_reducible rfl
  try simp only [Act.put, List.setIfInBounds_toArray, List.set_cons_zero, List.set_cons_succ]
  refine take_d (i := 15) (d := some 82) (v := ?_) rfl rfl (by kernel_rfl) (by kernel_rfl) (by kernel_rfl) (fun _ _ _ h => h) (.inl ⟨by rfl, ?_⟩) hS.b ?_
  rotate_left
  · intro W hW
    go_simp
    try with_reducible rfl
  try simp only [Act.put, List.setIfInBounds_toArray, List.set_cons_zero, List.set_cons_succ]
  refine take_d (i := 16) (d := some 83) (v := ?_) rfl rfl (by kernel_rfl) (by kernel_rfl) (by kernel_rfl) (fun _ _ _ h => h) (.inl ⟨by rfl, ?_⟩) hS.b ?_
  rotate_left
  · intro W hW
    go_simp
    try with_reducible rfl
  try simp only [Act.put, List.setIfInBounds_toArray, List.set_cons_zero, List.set_cons_succ]
  refine take_d (i := 17) (d := some 84) (v := ?_) rfl rfl (by kernel_rfl) (by kernel_rfl) (by kernel_rfl) (fun _ _ _ h => h) (.inl ⟨by rfl, ?_⟩) hS.b ?_
  rotate_left
  · intro W hW
    go_simp
    try with_reducible rfl
  try simp only [Act.put, List.setIfInBounds_toArray, List.set_cons_zero, List.set_cons_succ]
  refine take_d (i := 18) (d := some 85) (v := ?_) rfl rfl (by kernel_rfl) (by kernel_rfl) (by kernel_rfl) (fun _ _ _ h => h) (.inl ⟨by rfl, ?_⟩) hS.b ?_
  rotate_left
  · intro W hW
    have r0 := hW.h0.rs; have r1 := hW.h1.rs; have r2 := hW.h2.rs; simp only [bakS, trapS] at r0 r1 r2
    go_simp
    try with_reducible rfl
  try simp only [Act.put, List.setIfInBounds_toArray, List.set_cons_zero, List.set_cons_succ]
  refine take_d (i := 19) (d := some 86) (v := ?_) rfl rfl (by kernel_rfl) (by kernel_rfl) (by kernel_rfl) (fun _ _ _ h => h) (.inl ⟨by rfl, ?_⟩) hS.b ?_
  rotate_left
  · intro W hW
    go_simp
    try with_reducible rfl
  try simp only [Act.put, List.setIfInBounds_toArray, List.set_cons_zero, List.set_cons_succ]
  refine take_d (i := 20) (d := some 87) (v := ?_) rfl rfl (by kernel_rfl) (by kernel_rfl) (by kernel_rfl) (fun _ _ _ h => h) (.inl ⟨by rfl, ?_⟩) hS.b ?_
  rotate_left
  · intro W hW
    have r0 := hW.h0.rs; have r1 := hW.h1.rs; have r2 := hW.h2.rs; simp only [bakS, trapS] at r0 r1 r2
    go_simp
    try with_reducible rfl
  try simp only [Act.put, List.setIfInBounds_toArray, List.set_cons_zero, List.set_cons_succ]
  refine take_d (i := 21) (d := some 88) (v := ?_) rfl rfl (by kernel_rfl) (by kernel_rfl) (by kernel_rfl) (fun _ _ _ h => h) (.inl ⟨by rfl, ?_⟩) hS.b ?_
  rotate_left
  · intro W hW
    go_simp
    try with_reducible rfl
  try simp only [Act.put, List.setIfInBounds_toArray, List.set_cons_zero, List.set_cons_succ]
  refine take_d (i := 22) (d := some 89) (v := ?_) rfl rfl (by kernel_rfl) (by kernel_rfl) (by kernel_rfl) (fun _ _ _ h => h) (.inl ⟨by rfl, ?_⟩) hS.b ?_
  rotate_left
  · intro W hW
    go_simp
    try with_reducible rfl
  try simp only [Act.put, List.setIfInBounds_toArray, List.set_cons_zero, List.set_cons_succ]
  refine take_d (i := 23) (d := some 90) (v := ?_) rfl rfl (by kernel_rfl) (by kernel_rfl) (by kernel_rfl) (fun _ _ _ h => h) (.inl ⟨by rfl, ?_⟩) hS.b ?_
  rotate_left
  · intro W hW
    go_simp
    try with_reducible rfl
  try simp only [Act.put, List.setIfInBounds_toArray, List.set_cons_zero, List.set_cons_succ]
  refine take_d (i := 24) (d := some 91) (v := .agg (sc (trapS s c))) rfl rfl (by kernel_rfl) (by kernel_rfl) (by kernel_rfl) (fun _ _ _ h => h) (y_R rowS (by kernel_rfl) rfl rfl (fun W hW => hW.h1)) hS.b ?_
  try simp only [Act.put, List.setIfInBounds_toArray, List.set_cons_zero, List.set_cons_succ]
  refine take_d (i := 26) (d := some 93) (v := .agg (sc (trapS s c))) rfl rfl (by kernel_rfl) (by kernel_rfl) (by kernel_rfl) (fun _ _ _ h => h) (y_R rowS (by kernel_rfl) rfl rfl (fun W hW => hW.h1)) hS.b ?_
  try simp only [Act.put, List.setIfInBounds_toArray, List.set_cons_zero, List.set_cons_succ]
  refine wpAnyH_all (rs := [25]) (by kernel_rfl) (by simp) (fun i hi => ?_)
  simp only [List.mem_cons, List.not_mem_nil, or_false] at hi
  subst hi
  refine .inl ?_
  go_simp
  refine (Status_any (trapS s c) _).mono ?_
  rintro e wc ⟨rfl, hb⟩
  replace hE := hE.below hb
  replace hS := hS.after hb
  clear hb
  refine ⟨hS.b, ?_⟩
  try simp only [Act.put, List.setIfInBounds_toArray, List.set_cons_zero, List.set_cons_succ]
  refine wpAnyH_all (rs := [27]) (by kernel_rfl) (by simp) (fun i hi => ?_)
  simp only [List.mem_cons, List.not_mem_nil, or_false] at hi
  subst hi
  refine .inl ?_
  go_simp
  refine (RStatus_any (trapS s c) _).mono ?_
  rintro e wc ⟨rfl, hb⟩
  replace hE := hE.below hb
  replace hS := hS.after hb
  clear hb
  refine ⟨hS.b, ?_⟩
  try simp only [Act.put, List.setIfInBounds_toArray, List.set_cons_zero, List.set_cons_succ]
  refine take_d (i := 28) (d := some 95) (v := ?_) rfl rfl (by kernel_rfl) (by kernel_rfl) (by kernel_rfl) (fun _ _ _ h => h) (.inl ⟨by rfl, ?_⟩) hS.b ?_
  rotate_left
  · intro W hW
    go_simp
    try with_reducible rfl
  try simp only [Act.put, List.setIfInBounds_toArray, List.set_cons_zero, List.set_cons_succ]
  refine take_d (i := 29) (d := some 96) (v := ?_) rfl rfl (by kernel_rfl) (by kernel_rfl) (by kernel_rfl) (fun _ _ _ h => h) (.inl ⟨by rfl, ?_⟩) hS.b ?_
  rotate_left
  · intro W hW
    go_simp
    try with_reducible rfl
  try simp only [Act.put, List.setIfInBounds_toArray, List.set_cons_zero, List.set_cons_succ]
  refine take_d (i := 30) (d := some 97) (v := ?_) rfl rfl (by kernel_rfl) (by kernel_rfl) (by kernel_rfl) (fun _ _ _ h => h) (.inl ⟨by rfl, ?_⟩) hS.b ?_
  rotate_left
  · intro W hW
    go_simp
    try with_reducible rfl
  try simp only [Act.put, List.setIfInBounds_toArray, List.set_cons_zero, List.set_cons_succ]
  refine take_d (i := 31) (d := some 98) (v := .agg (sc (s))) rfl rfl (by kernel_rfl) (by kernel_rfl) (by kernel_rfl) (fun _ _ _ h => h) (y_R rowS (by kernel_rfl) rfl rfl (fun W hW => hW.h2)) hS.b ?_
  try simp only [Act.put, List.setIfInBounds_toArray, List.set_cons_zero, List.set_cons_succ]
  refine take_d (i := 33) (d := some 100) (v := .agg (sc (s))) rfl rfl (by kernel_rfl) (by kernel_rfl) (by kernel_rfl) (fun _ _ _ h => h) (y_R rowS (by kernel_rfl) rfl rfl (fun W hW => hW.h2)) hS.b ?_
  try simp only [Act.put, List.setIfInBounds_toArray, List.set_cons_zero, List.set_cons_succ]
  refine wpAnyH_all (rs := [32]) (by kernel_rfl) (by simp) (fun i hi => ?_)
  simp only [List.mem_cons, List.not_mem_nil, or_false] at hi
  subst hi
  refine .inl ?_
  go_simp
  refine (Status_any s _).mono ?_
  rintro e wc ⟨rfl, hb⟩
  replace hE := hE.below hb
  replace hS := hS.after hb
  clear hb
  refine ⟨hS.b, ?_⟩
  try simp only [Act.put, List.setIfInBounds_toArray, List.set_cons_zero, List.set_cons_succ]
  refine wpAnyH_all (rs := [34]) (by kernel_rfl) (by simp) (fun i hi => ?_)
  simp only [List.mem_cons, List.not_mem_nil, or_false] at hi
  subst hi
  refine .inl ?_
  go_simp
  refine (RStatus_any s _).mono ?_
  rintro e wc ⟨rfl, hb⟩
  replace hE := hE.below hb
  replace hS := hS.after hb
  clear hb
  refine ⟨hS.b, ?_⟩
  try simp only [Act.put, List.setIfInBounds_toArray, List.set_cons_zero, List.set_cons_succ]
  refine take_d (i := 35) (d := some 102) (v := ?_) rfl rfl (by kernel_rfl) (by kernel_rfl) (by kernel_rfl) (fun _ _ _ h => h) (.inl ⟨by rfl, ?_⟩) hS.b ?_
  rotate_left
  · intro W hW
    go_simp
    try with_reducible rfl
  try simp only [Act.put, List.setIfInBounds_toArray, List.set_cons_zero, List.set_cons_succ]
  refine take_d (i := 36) (d := some 103) (v := ?_) rfl rfl (by kernel_rfl) (by kernel_rfl) (by kernel_rfl) (fun _ _ _ h => h) (.inl ⟨by rfl, ?_⟩) hS.b ?_
  rotate_left
  · intro W hW
    go_simp
    try with_reducible rfl
  try simp only [Act.put, List.setIfInBounds_toArray, List.set_cons_zero, List.set_cons_succ]
  refine take_d (i := 37) (d := some 104) (v := ?_) rfl rfl (by kernel_rfl) (by kernel_rfl) (by kernel_rfl) (fun _ _ _ h => h) (.inl ⟨by rfl, ?_⟩) hS.b ?_
  rotate_left
  · intro W hW
    go_simp
    try with_reducible rfl
  try simp only [Act.put, List.setIfInBounds_toArray, List.set_cons_zero, List.set_cons_succ]
  refine wpAnyH_all (rs := [38]) (by kernel_rfl) (by simp) (fun i hi => ?_)
  simp only [List.mem_cons, List.not_mem_nil, or_false] at hi
  subst hi
  refine .inl ?_
  go_simp
  refine (known_any _ hE).mono ?_
  rintro e wc ⟨rfl, hb⟩
  replace hE := hE.below hb
  replace hS := hS.after hb
  clear hb
  refine ⟨hS.b, ?_⟩
  try simp only [Act.put, List.setIfInBounds_toArray, List.set_cons_zero, List.set_cons_succ]
  refine take_d (i := 39) (d := some 106) (v := ?_) rfl rfl (by kernel_rfl) (by kernel_rfl) (by kernel_rfl) (fun _ _ _ h => h) (.inl ⟨by rfl, ?_⟩) hS.b ?_
  rotate_left
  · intro W hW
    go_simp
    try with_reducible rfl
  try simp only [Act.put, List.setIfInBounds_toArray, List.set_cons_zero, List.set_cons_succ]
  refine take_d (i := 40) (d := some 4) (v := ?_) rfl rfl (by kernel_rfl) (by kernel_rfl) (by kernel_rfl) (fun _ _ _ h => h) (.inl ⟨by rfl, ?_⟩) hS.b ?_
  rotate_left
  · intro W hW
    go_simp
    try with_reducible rfl
  try simp only [Act.put, List.setIfInBounds_toArray, List.set_cons_zero, List.set_cons_succ]
  refine wpAnyH_done (by kernel_rfl) ?_ _
  have HF := Lib.hid hS.k
  clear hS hK0
  go_wp2
  go_ret
  exact ⟨rfl, HF.out⟩
end Go.Proofs.YthjdfneibogcgaaDoor
