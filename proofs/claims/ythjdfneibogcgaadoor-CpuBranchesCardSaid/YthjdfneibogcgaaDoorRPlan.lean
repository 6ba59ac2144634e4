/-
  Layer 10: the document's Plan: a walk. Written by gen_rplan.py.
-/
import Derived.Test.YthjdfneibogcgaaDoorRef
import Derived.Test.YthjdfneibogcgaaDoorIsaRef
import Derived.Test.YthjdfneibogcgaaDoorAt
namespace Go.Proofs.YthjdfneibogcgaaDoor
open Go.RowKit
set_option maxHeartbeats 16000000
set_option linter.unusedVariables false
set_option linter.unusedSimpArgs false

set_option maxRecDepth 100000 in
theorem RPlan_none (s : Sta) (x : Int) (w : World) (HD : Hid (∀ W, Calls Tryd.prog 35 #[.int .u32 x] W fun e w' => e = .returned (.tuple #[.agg (ic zeroI), .bool false]) ∧ Below W.heap.size W w')) : Calls Tryd.prog 21 #[.agg (sc s), .int .u32 x] w fun e w' => e = .returned (.agg (wnt ⟨1, 1, 0, 0, 0, 0⟩)) ∧ Below w.heap.size w w' := by
  obtain ⟨W, HW⟩ : ∃ W, Hid (W = (w.alloc (.cells (sc s) 25)).alloc (.cells #[Value.int .i64 0, Value.int .u32 0, Value.int .u32 0, Value.int .i64 0, Value.int .i64 0, Value.int .u32 0] 42)) := ⟨_, rfl⟩
  have HBe : Hid (Below w.heap.size w W) := Lib.hid (by rw [HW.out]; exact (bel1 w _).alloc (by simp) _)
  have RB : Hid (Rf 42 6 W (w.heap.size + 1) (wnt W0)) := Lib.hid (by rw [HW.out]; have := (wnt_ok W0).new 42 (w.alloc (.cells (sc s) 25)); rw [World.size_alloc] at this; exact this)
  go_enter Tryd.func21, Tryd.ntmps21
  go_wp2_with (rw [← HW.out])
  refine (HD.out _).mono ?_
  rintro e w1 ⟨rfl, b1⟩
  have RB1 := Lib.hid ((RB.out.below b1).alloc (.cells (ic zeroI) 56))
  have HB1 := Lib.hid ((HBe.out.trans (b1.mono HBe.out.size)).alloc (HBe.out.trans (b1.mono HBe.out.size)).size (.cells (ic zeroI) 56))
  clear b1 HBe
  have HF := Lib.hid (RB1.out.set (wnt_ok ⟨1, 1, 0, 0, 0, 0⟩))
  have HG := Lib.hid (below_setRow HB1.out (by omega) (wnt ⟨1, 1, 0, 0, 0, 0⟩) (g := w.heap.size + 1))
  go_wp2_with (first | ((with_reducible apply wp_store_Rn (ic zeroI) rowI); (exact ⟨rfl, ins_ok _⟩); (rfl); (rfl)) | ((with_reducible apply wp_store_R (wnt ⟨1, 1, 0, 0, 0, 0⟩) rowW); (exact ⟨RB1.out, wnt_ok _⟩); (rfl); (rfl)))
  exact bodyPost_ret (res_R rowW (fn := Tryd.f21) rfl _ HF.out rfl) rfl ⟨rfl, HG.out⟩
theorem Rf.i {w : World} {R : Nat} {op a b m : Int} (h : Rf 56 4 w R (ic ⟨op, a, b, m⟩)) : w.cell? ⟨R, 0, none⟩ = some (.int .i64 op) ∧ w.cell? ⟨R, 1, none⟩ = some (.int .i64 a) ∧ w.cell? ⟨R, 2, none⟩ = some (.int .i64 b) ∧ w.cell? ⟨R, 3, none⟩ = some (.int .i64 m) := ⟨h.cell 0, h.cell 1, h.cell 2, h.cell 3⟩
theorem Rf.w6 {w : World} {R : Nat} {x : Wnt} (h : Rf 42 6 w R (wnt x)) : w.cell? ⟨R, 0, none⟩ = some (.int .i64 x.kind) ∧ w.cell? ⟨R, 1, none⟩ = some (.int .u32 x.cause) ∧ w.cell? ⟨R, 2, none⟩ = some (.int .u32 x.ad) ∧ w.cell? ⟨R, 3, none⟩ = some (.int .i64 x.wd) ∧ w.cell? ⟨R, 4, none⟩ = some (.int .i64 x.port) ∧ w.cell? ⟨R, 5, none⟩ = some (.int .u32 x.val) := ⟨h.cell 0, h.cell 1, h.cell 2, h.cell 3, h.cell 4, h.cell 5⟩
set_option maxRecDepth 100000 in
theorem RPlan_some (s : Sta) (hs : s.Ok) (x op : Int) (A B : Nat) (m ad : Int) (hA : A < 8) (hB : B < 8) (hm0 : -32768 ≤ m) (hm1 : m ≤ 32767) (had0 : 0 ≤ ad) (had1 : ad < 4294967296) (hop : op = 1 ∨ op = 2 ∨ op = 3 ∨ op = 4 ∨ op = 5 ∨ op = 6 ∨ op = 7 ∨ op = 8 ∨ op = 9 ∨ op = 10 ∨ op = 11 ∨ op = 12 ∨ op = 13 ∨ op = 14 ∨ op = 15 ∨ op = 16 ∨ op = 17 ∨ op = 18 ∨ op = 19 ∨ op = 20 ∨ op = 21 ∨ op = 22 ∨ op = 23 ∨ op = 24 ∨ op = 25 ∨ op = 26 ∨ op = 27 ∨ op = 28)
    (h21 : op = 21 → ad = s.r B) (w : World) (P : Wnt) (hP : Hid (P = planS s ⟨op, A, B, m⟩)) (hade : Hid (addr s ⟨op, A, B, m⟩ = ad))
    (HA2 : Hid (∀ W, Calls Tryd.prog 36 #[.int .u32 (s.r B), .int .u32 (immW m)] W fun e w' => e = .returned (.int .u32 ad) ∧ W = w'))
    (HD : Hid (∀ W, Calls Tryd.prog 35 #[.int .u32 x] W fun e w' => e = .returned (.tuple #[.agg (ic ⟨op, A, B, m⟩), .bool true]) ∧ Below W.heap.size W w')) : Calls Tryd.prog 21 #[.agg (sc s), .int .u32 x] w fun e w' => e = .returned (.agg (wnt P)) ∧ Below w.heap.size w w' := by
  have HIM := Lib.hid (fun W => RImm_any op A B m hm0 hm1 W)
  obtain ⟨W, HW⟩ : ∃ W, Hid (W = (w.alloc (.cells (sc s) 25)).alloc (.cells #[Value.int .i64 0, Value.int .u32 0, Value.int .u32 0, Value.int .i64 0, Value.int .i64 0, Value.int .u32 0] 42)) := ⟨_, rfl⟩
  have HBe : Hid (Below w.heap.size w W) := Lib.hid (by rw [HW.out]; exact (bel1 w _).alloc (by simp) _)
  have RA : Hid (Rf 25 16 W w.heap.size (sc s)) := Lib.hid (by rw [HW.out]; exact (rs_new w s).alloc _)
  have RB : Hid (Rf 42 6 W (w.heap.size + 1) (wnt W0)) := Lib.hid (by rw [HW.out]; have := (wnt_ok W0).new 42 (w.alloc (.cells (sc s) 25)); rw [World.size_alloc] at this; exact this)
  have HS21 := Lib.hid h21
  clear h21
  go_enter Tryd.func21, Tryd.ntmps21
  go_wp2_with (rw [← HW.out])
  refine (HD.out _).mono ?_
  rintro e w1 ⟨rfl, b1⟩
  obtain ⟨W1, HW1⟩ : ∃ W1, Hid (W1 = w1.alloc (.cells (ic ⟨op, A, B, m⟩) 56)) := ⟨_, rfl⟩
  have RA1 : Hid (Rf 25 16 W1 w.heap.size (sc s)) := Lib.hid (by rw [HW1.out]; exact (RA.out.below b1).alloc (.cells (ic ⟨op, A, B, m⟩) 56))
  have RB1 : Hid (Rf 42 6 W1 (w.heap.size + 1) (wnt W0)) := Lib.hid (by rw [HW1.out]; exact (RB.out.below b1).alloc (.cells (ic ⟨op, A, B, m⟩) 56))
  have RI1 : Hid (Rf 56 4 W1 w1.heap.size (ic ⟨op, A, B, m⟩)) := Lib.hid (by rw [HW1.out]; exact (ins_ok ⟨op, A, B, m⟩).new 56 w1)
  have HB1 : Hid (Below w.heap.size w W1) := Lib.hid (by rw [HW1.out]; exact (HBe.out.trans (b1.mono HBe.out.size)).alloc (HBe.out.trans (b1.mono HBe.out.size)).size (.cells (ic ⟨op, A, B, m⟩) 56))
  clear b1 HBe
  have qi := RI1.out.i
  have qa := RA1.out.sr hA
  have qb := RA1.out.sr hB
  have hA' : (A : Int) < 8 := by omega
  have hB' : (B : Int) < 8 := by omega
  go_wp2_with (first | ((with_reducible apply wp_store_Rn (ic ⟨op, A, B, m⟩) rowI); (exact ⟨rfl, ins_ok _⟩); (rfl); (rfl); (rw [← HW1.out])))
  go_region
  have RA2 := Lib.hid RA1.out.drew
  have RB2 := Lib.hid RB1.out.drew
  have RI2 := Lib.hid RI1.out.drew
  have HB2 := Lib.hid HB1.out.drew
  clear RA1 RB1 RI1 HB1 qa qb qi
  go_wp2_with ((with_reducible apply wp_load_R rowI); (exact RI2.out); (rfl))
  refine (HIM.out _).mono ?_
  rintro e w3 ⟨rfl, b3⟩
  have RA3 := Lib.hid (RA2.out.below b3)
  have RB3 := Lib.hid (RB2.out.below b3)
  have RI3 := Lib.hid (RI2.out.below b3)
  have HB3 := Lib.hid (HB2.out.trans (b3.mono HB2.out.size))
  clear b3 RA2 RB2 RI2 HB2
  go_wp2_with fail
  refine (HA2.out _).mono ?_
  rintro e w4 ⟨rfl, rfl⟩
  have qi := RI3.out.i
  have qs := RA3.out.s.2.2.2.2.2.1
  obtain ⟨su, hsu⟩ : ∃ su, su = s.su := ⟨_, rfl⟩
  rw [← hsu] at qs
  have HSU := Lib.hid hsu
  have qw := RB3.out.w6
  have hfz := RB3.out.blk.frozen
  clear HIM HA2 HD HW HW1 hA' hB' hsu
  rcases hop with rfl | rfl | rfl | rfl | rfl | rfl | rfl | rfl | rfl | rfl | rfl | rfl | rfl | rfl | rfl | rfl | rfl | rfl | rfl | rfl | rfl | rfl | rfl | rfl | rfl | rfl | rfl | rfl
  · cases su with
    | false =>
      have HF : Hid (Rf 42 6 _ (w.heap.size + 1) (wnt ⟨1, 2, 0, 0, 0, 0⟩)) := Lib.hid ((((((RB3.out.setCell (v := .int .i64 (1)) rfl 0).setCell (v := .int .u32 (2)) rfl 1).setCell (v := .int .u32 (0)) rfl 2).setCell (v := .int .i64 (0)) rfl 3).setCell (v := .int .i64 (0)) rfl 4).setCell (v := .int .u32 (0)) rfl 5)
      have HG := Lib.hid ((((((HB3.out.setCell (p := ⟨w.heap.size + 1, 0, none⟩) (show w.heap.size ≤ w.heap.size + 1 by omega) (.int .i64 (1))).setCell (p := ⟨w.heap.size + 1, 1, none⟩) (show w.heap.size ≤ w.heap.size + 1 by omega) (.int .u32 (2))).setCell (p := ⟨w.heap.size + 1, 2, none⟩) (show w.heap.size ≤ w.heap.size + 1 by omega) (.int .u32 (0))).setCell (p := ⟨w.heap.size + 1, 3, none⟩) (show w.heap.size ≤ w.heap.size + 1 by omega) (.int .i64 (0))).setCell (p := ⟨w.heap.size + 1, 4, none⟩) (show w.heap.size ≤ w.heap.size + 1 by omega) (.int .i64 (0))).setCell (p := ⟨w.heap.size + 1, 5, none⟩) (show w.heap.size ≤ w.heap.size + 1 by omega) (.int .u32 (0)))
      go_wp2
      exact bodyPost_ret (res_R rowW (fn := Tryd.f21) rfl _ HF.out (by kernel_rfl)) rfl ⟨by rw [hP.out]; simp [planS, causeS, causeOf, wantOf, ← HSU.out, hade.out], HG.out⟩
    | true =>
      have HF : Hid (Rf 42 6 _ (w.heap.size + 1) (wnt ⟨6, 0, 0, 0, 0, 0⟩)) := Lib.hid ((((((RB3.out.setCell (v := .int .i64 (6)) rfl 0).setCell (v := .int .u32 (0)) rfl 1).setCell (v := .int .u32 (0)) rfl 2).setCell (v := .int .i64 (0)) rfl 3).setCell (v := .int .i64 (0)) rfl 4).setCell (v := .int .u32 (0)) rfl 5)
      have HG := Lib.hid ((((((HB3.out.setCell (p := ⟨w.heap.size + 1, 0, none⟩) (show w.heap.size ≤ w.heap.size + 1 by omega) (.int .i64 (6))).setCell (p := ⟨w.heap.size + 1, 1, none⟩) (show w.heap.size ≤ w.heap.size + 1 by omega) (.int .u32 (0))).setCell (p := ⟨w.heap.size + 1, 2, none⟩) (show w.heap.size ≤ w.heap.size + 1 by omega) (.int .u32 (0))).setCell (p := ⟨w.heap.size + 1, 3, none⟩) (show w.heap.size ≤ w.heap.size + 1 by omega) (.int .i64 (0))).setCell (p := ⟨w.heap.size + 1, 4, none⟩) (show w.heap.size ≤ w.heap.size + 1 by omega) (.int .i64 (0))).setCell (p := ⟨w.heap.size + 1, 5, none⟩) (show w.heap.size ≤ w.heap.size + 1 by omega) (.int .u32 (0)))
      go_wp2
      exact bodyPost_ret (res_R rowW (fn := Tryd.f21) rfl _ HF.out (by kernel_rfl)) rfl ⟨by rw [hP.out]; simp [planS, causeS, causeOf, wantOf, ← HSU.out, hade.out], HG.out⟩
  · have HF : Hid (Rf 42 6 _ (w.heap.size + 1) (wnt ⟨0, 0, 0, 0, 0, 0⟩)) := Lib.hid ((((((RB3.out.setCell (v := .int .i64 (0)) rfl 0).setCell (v := .int .u32 (0)) rfl 1).setCell (v := .int .u32 (0)) rfl 2).setCell (v := .int .i64 (0)) rfl 3).setCell (v := .int .i64 (0)) rfl 4).setCell (v := .int .u32 (0)) rfl 5)
    have HG := Lib.hid ((((((HB3.out.setCell (p := ⟨w.heap.size + 1, 0, none⟩) (show w.heap.size ≤ w.heap.size + 1 by omega) (.int .i64 (0))).setCell (p := ⟨w.heap.size + 1, 1, none⟩) (show w.heap.size ≤ w.heap.size + 1 by omega) (.int .u32 (0))).setCell (p := ⟨w.heap.size + 1, 2, none⟩) (show w.heap.size ≤ w.heap.size + 1 by omega) (.int .u32 (0))).setCell (p := ⟨w.heap.size + 1, 3, none⟩) (show w.heap.size ≤ w.heap.size + 1 by omega) (.int .i64 (0))).setCell (p := ⟨w.heap.size + 1, 4, none⟩) (show w.heap.size ≤ w.heap.size + 1 by omega) (.int .i64 (0))).setCell (p := ⟨w.heap.size + 1, 5, none⟩) (show w.heap.size ≤ w.heap.size + 1 by omega) (.int .u32 (0)))
    go_wp2
    exact bodyPost_ret (res_R rowW (fn := Tryd.f21) rfl _ HF.out (by kernel_rfl)) rfl ⟨by rw [hP.out]; simp [planS, causeS, causeOf, wantOf, ← HSU.out, hade.out], HG.out⟩
  · have HF : Hid (Rf 42 6 _ (w.heap.size + 1) (wnt ⟨0, 0, 0, 0, 0, 0⟩)) := Lib.hid ((((((RB3.out.setCell (v := .int .i64 (0)) rfl 0).setCell (v := .int .u32 (0)) rfl 1).setCell (v := .int .u32 (0)) rfl 2).setCell (v := .int .i64 (0)) rfl 3).setCell (v := .int .i64 (0)) rfl 4).setCell (v := .int .u32 (0)) rfl 5)
    have HG := Lib.hid ((((((HB3.out.setCell (p := ⟨w.heap.size + 1, 0, none⟩) (show w.heap.size ≤ w.heap.size + 1 by omega) (.int .i64 (0))).setCell (p := ⟨w.heap.size + 1, 1, none⟩) (show w.heap.size ≤ w.heap.size + 1 by omega) (.int .u32 (0))).setCell (p := ⟨w.heap.size + 1, 2, none⟩) (show w.heap.size ≤ w.heap.size + 1 by omega) (.int .u32 (0))).setCell (p := ⟨w.heap.size + 1, 3, none⟩) (show w.heap.size ≤ w.heap.size + 1 by omega) (.int .i64 (0))).setCell (p := ⟨w.heap.size + 1, 4, none⟩) (show w.heap.size ≤ w.heap.size + 1 by omega) (.int .i64 (0))).setCell (p := ⟨w.heap.size + 1, 5, none⟩) (show w.heap.size ≤ w.heap.size + 1 by omega) (.int .u32 (0)))
    go_wp2
    exact bodyPost_ret (res_R rowW (fn := Tryd.f21) rfl _ HF.out (by kernel_rfl)) rfl ⟨by rw [hP.out]; simp [planS, causeS, causeOf, wantOf, ← HSU.out, hade.out], HG.out⟩
  · have HF : Hid (Rf 42 6 _ (w.heap.size + 1) (wnt ⟨0, 0, 0, 0, 0, 0⟩)) := Lib.hid ((((((RB3.out.setCell (v := .int .i64 (0)) rfl 0).setCell (v := .int .u32 (0)) rfl 1).setCell (v := .int .u32 (0)) rfl 2).setCell (v := .int .i64 (0)) rfl 3).setCell (v := .int .i64 (0)) rfl 4).setCell (v := .int .u32 (0)) rfl 5)
    have HG := Lib.hid ((((((HB3.out.setCell (p := ⟨w.heap.size + 1, 0, none⟩) (show w.heap.size ≤ w.heap.size + 1 by omega) (.int .i64 (0))).setCell (p := ⟨w.heap.size + 1, 1, none⟩) (show w.heap.size ≤ w.heap.size + 1 by omega) (.int .u32 (0))).setCell (p := ⟨w.heap.size + 1, 2, none⟩) (show w.heap.size ≤ w.heap.size + 1 by omega) (.int .u32 (0))).setCell (p := ⟨w.heap.size + 1, 3, none⟩) (show w.heap.size ≤ w.heap.size + 1 by omega) (.int .i64 (0))).setCell (p := ⟨w.heap.size + 1, 4, none⟩) (show w.heap.size ≤ w.heap.size + 1 by omega) (.int .i64 (0))).setCell (p := ⟨w.heap.size + 1, 5, none⟩) (show w.heap.size ≤ w.heap.size + 1 by omega) (.int .u32 (0)))
    go_wp2
    exact bodyPost_ret (res_R rowW (fn := Tryd.f21) rfl _ HF.out (by kernel_rfl)) rfl ⟨by rw [hP.out]; simp [planS, causeS, causeOf, wantOf, ← HSU.out, hade.out], HG.out⟩
  · have HF : Hid (Rf 42 6 _ (w.heap.size + 1) (wnt ⟨0, 0, 0, 0, 0, 0⟩)) := Lib.hid ((((((RB3.out.setCell (v := .int .i64 (0)) rfl 0).setCell (v := .int .u32 (0)) rfl 1).setCell (v := .int .u32 (0)) rfl 2).setCell (v := .int .i64 (0)) rfl 3).setCell (v := .int .i64 (0)) rfl 4).setCell (v := .int .u32 (0)) rfl 5)
    have HG := Lib.hid ((((((HB3.out.setCell (p := ⟨w.heap.size + 1, 0, none⟩) (show w.heap.size ≤ w.heap.size + 1 by omega) (.int .i64 (0))).setCell (p := ⟨w.heap.size + 1, 1, none⟩) (show w.heap.size ≤ w.heap.size + 1 by omega) (.int .u32 (0))).setCell (p := ⟨w.heap.size + 1, 2, none⟩) (show w.heap.size ≤ w.heap.size + 1 by omega) (.int .u32 (0))).setCell (p := ⟨w.heap.size + 1, 3, none⟩) (show w.heap.size ≤ w.heap.size + 1 by omega) (.int .i64 (0))).setCell (p := ⟨w.heap.size + 1, 4, none⟩) (show w.heap.size ≤ w.heap.size + 1 by omega) (.int .i64 (0))).setCell (p := ⟨w.heap.size + 1, 5, none⟩) (show w.heap.size ≤ w.heap.size + 1 by omega) (.int .u32 (0)))
    go_wp2
    exact bodyPost_ret (res_R rowW (fn := Tryd.f21) rfl _ HF.out (by kernel_rfl)) rfl ⟨by rw [hP.out]; simp [planS, causeS, causeOf, wantOf, ← HSU.out, hade.out], HG.out⟩
  · have HF : Hid (Rf 42 6 _ (w.heap.size + 1) (wnt ⟨0, 0, 0, 0, 0, 0⟩)) := Lib.hid ((((((RB3.out.setCell (v := .int .i64 (0)) rfl 0).setCell (v := .int .u32 (0)) rfl 1).setCell (v := .int .u32 (0)) rfl 2).setCell (v := .int .i64 (0)) rfl 3).setCell (v := .int .i64 (0)) rfl 4).setCell (v := .int .u32 (0)) rfl 5)
    have HG := Lib.hid ((((((HB3.out.setCell (p := ⟨w.heap.size + 1, 0, none⟩) (show w.heap.size ≤ w.heap.size + 1 by omega) (.int .i64 (0))).setCell (p := ⟨w.heap.size + 1, 1, none⟩) (show w.heap.size ≤ w.heap.size + 1 by omega) (.int .u32 (0))).setCell (p := ⟨w.heap.size + 1, 2, none⟩) (show w.heap.size ≤ w.heap.size + 1 by omega) (.int .u32 (0))).setCell (p := ⟨w.heap.size + 1, 3, none⟩) (show w.heap.size ≤ w.heap.size + 1 by omega) (.int .i64 (0))).setCell (p := ⟨w.heap.size + 1, 4, none⟩) (show w.heap.size ≤ w.heap.size + 1 by omega) (.int .i64 (0))).setCell (p := ⟨w.heap.size + 1, 5, none⟩) (show w.heap.size ≤ w.heap.size + 1 by omega) (.int .u32 (0)))
    go_wp2
    exact bodyPost_ret (res_R rowW (fn := Tryd.f21) rfl _ HF.out (by kernel_rfl)) rfl ⟨by rw [hP.out]; simp [planS, causeS, causeOf, wantOf, ← HSU.out, hade.out], HG.out⟩
  · have HF : Hid (Rf 42 6 _ (w.heap.size + 1) (wnt ⟨0, 0, 0, 0, 0, 0⟩)) := Lib.hid ((((((RB3.out.setCell (v := .int .i64 (0)) rfl 0).setCell (v := .int .u32 (0)) rfl 1).setCell (v := .int .u32 (0)) rfl 2).setCell (v := .int .i64 (0)) rfl 3).setCell (v := .int .i64 (0)) rfl 4).setCell (v := .int .u32 (0)) rfl 5)
    have HG := Lib.hid ((((((HB3.out.setCell (p := ⟨w.heap.size + 1, 0, none⟩) (show w.heap.size ≤ w.heap.size + 1 by omega) (.int .i64 (0))).setCell (p := ⟨w.heap.size + 1, 1, none⟩) (show w.heap.size ≤ w.heap.size + 1 by omega) (.int .u32 (0))).setCell (p := ⟨w.heap.size + 1, 2, none⟩) (show w.heap.size ≤ w.heap.size + 1 by omega) (.int .u32 (0))).setCell (p := ⟨w.heap.size + 1, 3, none⟩) (show w.heap.size ≤ w.heap.size + 1 by omega) (.int .i64 (0))).setCell (p := ⟨w.heap.size + 1, 4, none⟩) (show w.heap.size ≤ w.heap.size + 1 by omega) (.int .i64 (0))).setCell (p := ⟨w.heap.size + 1, 5, none⟩) (show w.heap.size ≤ w.heap.size + 1 by omega) (.int .u32 (0)))
    go_wp2
    exact bodyPost_ret (res_R rowW (fn := Tryd.f21) rfl _ HF.out (by kernel_rfl)) rfl ⟨by rw [hP.out]; simp [planS, causeS, causeOf, wantOf, ← HSU.out, hade.out], HG.out⟩
  · have HF : Hid (Rf 42 6 _ (w.heap.size + 1) (wnt ⟨0, 0, 0, 0, 0, 0⟩)) := Lib.hid ((((((RB3.out.setCell (v := .int .i64 (0)) rfl 0).setCell (v := .int .u32 (0)) rfl 1).setCell (v := .int .u32 (0)) rfl 2).setCell (v := .int .i64 (0)) rfl 3).setCell (v := .int .i64 (0)) rfl 4).setCell (v := .int .u32 (0)) rfl 5)
    have HG := Lib.hid ((((((HB3.out.setCell (p := ⟨w.heap.size + 1, 0, none⟩) (show w.heap.size ≤ w.heap.size + 1 by omega) (.int .i64 (0))).setCell (p := ⟨w.heap.size + 1, 1, none⟩) (show w.heap.size ≤ w.heap.size + 1 by omega) (.int .u32 (0))).setCell (p := ⟨w.heap.size + 1, 2, none⟩) (show w.heap.size ≤ w.heap.size + 1 by omega) (.int .u32 (0))).setCell (p := ⟨w.heap.size + 1, 3, none⟩) (show w.heap.size ≤ w.heap.size + 1 by omega) (.int .i64 (0))).setCell (p := ⟨w.heap.size + 1, 4, none⟩) (show w.heap.size ≤ w.heap.size + 1 by omega) (.int .i64 (0))).setCell (p := ⟨w.heap.size + 1, 5, none⟩) (show w.heap.size ≤ w.heap.size + 1 by omega) (.int .u32 (0)))
    go_wp2
    exact bodyPost_ret (res_R rowW (fn := Tryd.f21) rfl _ HF.out (by kernel_rfl)) rfl ⟨by rw [hP.out]; simp [planS, causeS, causeOf, wantOf, ← HSU.out, hade.out], HG.out⟩
  · have HF : Hid (Rf 42 6 _ (w.heap.size + 1) (wnt ⟨0, 0, 0, 0, 0, 0⟩)) := Lib.hid ((((((RB3.out.setCell (v := .int .i64 (0)) rfl 0).setCell (v := .int .u32 (0)) rfl 1).setCell (v := .int .u32 (0)) rfl 2).setCell (v := .int .i64 (0)) rfl 3).setCell (v := .int .i64 (0)) rfl 4).setCell (v := .int .u32 (0)) rfl 5)
    have HG := Lib.hid ((((((HB3.out.setCell (p := ⟨w.heap.size + 1, 0, none⟩) (show w.heap.size ≤ w.heap.size + 1 by omega) (.int .i64 (0))).setCell (p := ⟨w.heap.size + 1, 1, none⟩) (show w.heap.size ≤ w.heap.size + 1 by omega) (.int .u32 (0))).setCell (p := ⟨w.heap.size + 1, 2, none⟩) (show w.heap.size ≤ w.heap.size + 1 by omega) (.int .u32 (0))).setCell (p := ⟨w.heap.size + 1, 3, none⟩) (show w.heap.size ≤ w.heap.size + 1 by omega) (.int .i64 (0))).setCell (p := ⟨w.heap.size + 1, 4, none⟩) (show w.heap.size ≤ w.heap.size + 1 by omega) (.int .i64 (0))).setCell (p := ⟨w.heap.size + 1, 5, none⟩) (show w.heap.size ≤ w.heap.size + 1 by omega) (.int .u32 (0)))
    go_wp2
    exact bodyPost_ret (res_R rowW (fn := Tryd.f21) rfl _ HF.out (by kernel_rfl)) rfl ⟨by rw [hP.out]; simp [planS, causeS, causeOf, wantOf, ← HSU.out, hade.out], HG.out⟩
  · have HF : Hid (Rf 42 6 _ (w.heap.size + 1) (wnt ⟨0, 0, 0, 0, 0, 0⟩)) := Lib.hid ((((((RB3.out.setCell (v := .int .i64 (0)) rfl 0).setCell (v := .int .u32 (0)) rfl 1).setCell (v := .int .u32 (0)) rfl 2).setCell (v := .int .i64 (0)) rfl 3).setCell (v := .int .i64 (0)) rfl 4).setCell (v := .int .u32 (0)) rfl 5)
    have HG := Lib.hid ((((((HB3.out.setCell (p := ⟨w.heap.size + 1, 0, none⟩) (show w.heap.size ≤ w.heap.size + 1 by omega) (.int .i64 (0))).setCell (p := ⟨w.heap.size + 1, 1, none⟩) (show w.heap.size ≤ w.heap.size + 1 by omega) (.int .u32 (0))).setCell (p := ⟨w.heap.size + 1, 2, none⟩) (show w.heap.size ≤ w.heap.size + 1 by omega) (.int .u32 (0))).setCell (p := ⟨w.heap.size + 1, 3, none⟩) (show w.heap.size ≤ w.heap.size + 1 by omega) (.int .i64 (0))).setCell (p := ⟨w.heap.size + 1, 4, none⟩) (show w.heap.size ≤ w.heap.size + 1 by omega) (.int .i64 (0))).setCell (p := ⟨w.heap.size + 1, 5, none⟩) (show w.heap.size ≤ w.heap.size + 1 by omega) (.int .u32 (0)))
    go_wp2
    exact bodyPost_ret (res_R rowW (fn := Tryd.f21) rfl _ HF.out (by kernel_rfl)) rfl ⟨by rw [hP.out]; simp [planS, causeS, causeOf, wantOf, ← HSU.out, hade.out], HG.out⟩
  · have HF : Hid (Rf 42 6 _ (w.heap.size + 1) (wnt ⟨0, 0, 0, 0, 0, 0⟩)) := Lib.hid ((((((RB3.out.setCell (v := .int .i64 (0)) rfl 0).setCell (v := .int .u32 (0)) rfl 1).setCell (v := .int .u32 (0)) rfl 2).setCell (v := .int .i64 (0)) rfl 3).setCell (v := .int .i64 (0)) rfl 4).setCell (v := .int .u32 (0)) rfl 5)
    have HG := Lib.hid ((((((HB3.out.setCell (p := ⟨w.heap.size + 1, 0, none⟩) (show w.heap.size ≤ w.heap.size + 1 by omega) (.int .i64 (0))).setCell (p := ⟨w.heap.size + 1, 1, none⟩) (show w.heap.size ≤ w.heap.size + 1 by omega) (.int .u32 (0))).setCell (p := ⟨w.heap.size + 1, 2, none⟩) (show w.heap.size ≤ w.heap.size + 1 by omega) (.int .u32 (0))).setCell (p := ⟨w.heap.size + 1, 3, none⟩) (show w.heap.size ≤ w.heap.size + 1 by omega) (.int .i64 (0))).setCell (p := ⟨w.heap.size + 1, 4, none⟩) (show w.heap.size ≤ w.heap.size + 1 by omega) (.int .i64 (0))).setCell (p := ⟨w.heap.size + 1, 5, none⟩) (show w.heap.size ≤ w.heap.size + 1 by omega) (.int .u32 (0)))
    go_wp2
    exact bodyPost_ret (res_R rowW (fn := Tryd.f21) rfl _ HF.out (by kernel_rfl)) rfl ⟨by rw [hP.out]; simp [planS, causeS, causeOf, wantOf, ← HSU.out, hade.out], HG.out⟩
  · have HF : Hid (Rf 42 6 _ (w.heap.size + 1) (wnt ⟨0, 0, 0, 0, 0, 0⟩)) := Lib.hid ((((((RB3.out.setCell (v := .int .i64 (0)) rfl 0).setCell (v := .int .u32 (0)) rfl 1).setCell (v := .int .u32 (0)) rfl 2).setCell (v := .int .i64 (0)) rfl 3).setCell (v := .int .i64 (0)) rfl 4).setCell (v := .int .u32 (0)) rfl 5)
    have HG := Lib.hid ((((((HB3.out.setCell (p := ⟨w.heap.size + 1, 0, none⟩) (show w.heap.size ≤ w.heap.size + 1 by omega) (.int .i64 (0))).setCell (p := ⟨w.heap.size + 1, 1, none⟩) (show w.heap.size ≤ w.heap.size + 1 by omega) (.int .u32 (0))).setCell (p := ⟨w.heap.size + 1, 2, none⟩) (show w.heap.size ≤ w.heap.size + 1 by omega) (.int .u32 (0))).setCell (p := ⟨w.heap.size + 1, 3, none⟩) (show w.heap.size ≤ w.heap.size + 1 by omega) (.int .i64 (0))).setCell (p := ⟨w.heap.size + 1, 4, none⟩) (show w.heap.size ≤ w.heap.size + 1 by omega) (.int .i64 (0))).setCell (p := ⟨w.heap.size + 1, 5, none⟩) (show w.heap.size ≤ w.heap.size + 1 by omega) (.int .u32 (0)))
    go_wp2
    exact bodyPost_ret (res_R rowW (fn := Tryd.f21) rfl _ HF.out (by kernel_rfl)) rfl ⟨by rw [hP.out]; simp [planS, causeS, causeOf, wantOf, ← HSU.out, hade.out], HG.out⟩
  · by_cases c1 : ad % 4 = 0
    · have HF : Hid (Rf 42 6 _ (w.heap.size + 1) (wnt ⟨2, 0, ad, 4, 0, 0⟩)) := Lib.hid ((((((RB3.out.setCell (v := .int .i64 (2)) rfl 0).setCell (v := .int .u32 (0)) rfl 1).setCell (v := .int .u32 (ad)) rfl 2).setCell (v := .int .i64 (4)) rfl 3).setCell (v := .int .i64 (0)) rfl 4).setCell (v := .int .u32 (0)) rfl 5)
      have HG := Lib.hid ((((((HB3.out.setCell (p := ⟨w.heap.size + 1, 0, none⟩) (show w.heap.size ≤ w.heap.size + 1 by omega) (.int .i64 (2))).setCell (p := ⟨w.heap.size + 1, 1, none⟩) (show w.heap.size ≤ w.heap.size + 1 by omega) (.int .u32 (0))).setCell (p := ⟨w.heap.size + 1, 2, none⟩) (show w.heap.size ≤ w.heap.size + 1 by omega) (.int .u32 (ad))).setCell (p := ⟨w.heap.size + 1, 3, none⟩) (show w.heap.size ≤ w.heap.size + 1 by omega) (.int .i64 (4))).setCell (p := ⟨w.heap.size + 1, 4, none⟩) (show w.heap.size ≤ w.heap.size + 1 by omega) (.int .i64 (0))).setCell (p := ⟨w.heap.size + 1, 5, none⟩) (show w.heap.size ≤ w.heap.size + 1 by omega) (.int .u32 (0)))
      go_wp2
      exact bodyPost_ret (res_R rowW (fn := Tryd.f21) rfl _ HF.out (by kernel_rfl)) rfl ⟨by rw [hP.out]; simp [planS, causeS, causeOf, wantOf, ← HSU.out, hade.out, c1], HG.out⟩
    · have HF : Hid (Rf 42 6 _ (w.heap.size + 1) (wnt ⟨1, 6, 0, 0, 0, 0⟩)) := Lib.hid ((((((RB3.out.setCell (v := .int .i64 (1)) rfl 0).setCell (v := .int .u32 (6)) rfl 1).setCell (v := .int .u32 (0)) rfl 2).setCell (v := .int .i64 (0)) rfl 3).setCell (v := .int .i64 (0)) rfl 4).setCell (v := .int .u32 (0)) rfl 5)
      have HG := Lib.hid ((((((HB3.out.setCell (p := ⟨w.heap.size + 1, 0, none⟩) (show w.heap.size ≤ w.heap.size + 1 by omega) (.int .i64 (1))).setCell (p := ⟨w.heap.size + 1, 1, none⟩) (show w.heap.size ≤ w.heap.size + 1 by omega) (.int .u32 (6))).setCell (p := ⟨w.heap.size + 1, 2, none⟩) (show w.heap.size ≤ w.heap.size + 1 by omega) (.int .u32 (0))).setCell (p := ⟨w.heap.size + 1, 3, none⟩) (show w.heap.size ≤ w.heap.size + 1 by omega) (.int .i64 (0))).setCell (p := ⟨w.heap.size + 1, 4, none⟩) (show w.heap.size ≤ w.heap.size + 1 by omega) (.int .i64 (0))).setCell (p := ⟨w.heap.size + 1, 5, none⟩) (show w.heap.size ≤ w.heap.size + 1 by omega) (.int .u32 (0)))
      go_wp2
      exact bodyPost_ret (res_R rowW (fn := Tryd.f21) rfl _ HF.out (by kernel_rfl)) rfl ⟨by rw [hP.out]; simp [planS, causeS, causeOf, wantOf, ← HSU.out, hade.out, c1], HG.out⟩
  · by_cases c1 : ad % 4 = 0
    · have HF : Hid (Rf 42 6 _ (w.heap.size + 1) (wnt ⟨3, 0, ad, 4, 0, s.r A⟩)) := Lib.hid ((((((RB3.out.setCell (v := .int .i64 (3)) rfl 0).setCell (v := .int .u32 (0)) rfl 1).setCell (v := .int .u32 (ad)) rfl 2).setCell (v := .int .i64 (4)) rfl 3).setCell (v := .int .i64 (0)) rfl 4).setCell (v := .int .u32 (s.r A)) rfl 5)
      have HG := Lib.hid ((((((HB3.out.setCell (p := ⟨w.heap.size + 1, 0, none⟩) (show w.heap.size ≤ w.heap.size + 1 by omega) (.int .i64 (3))).setCell (p := ⟨w.heap.size + 1, 1, none⟩) (show w.heap.size ≤ w.heap.size + 1 by omega) (.int .u32 (0))).setCell (p := ⟨w.heap.size + 1, 2, none⟩) (show w.heap.size ≤ w.heap.size + 1 by omega) (.int .u32 (ad))).setCell (p := ⟨w.heap.size + 1, 3, none⟩) (show w.heap.size ≤ w.heap.size + 1 by omega) (.int .i64 (4))).setCell (p := ⟨w.heap.size + 1, 4, none⟩) (show w.heap.size ≤ w.heap.size + 1 by omega) (.int .i64 (0))).setCell (p := ⟨w.heap.size + 1, 5, none⟩) (show w.heap.size ≤ w.heap.size + 1 by omega) (.int .u32 (s.r A)))
      go_wp2
      exact bodyPost_ret (res_R rowW (fn := Tryd.f21) rfl _ HF.out (by kernel_rfl)) rfl ⟨by rw [hP.out]; simp [planS, causeS, causeOf, wantOf, ← HSU.out, hade.out, c1], HG.out⟩
    · have HF : Hid (Rf 42 6 _ (w.heap.size + 1) (wnt ⟨1, 6, 0, 0, 0, 0⟩)) := Lib.hid ((((((RB3.out.setCell (v := .int .i64 (1)) rfl 0).setCell (v := .int .u32 (6)) rfl 1).setCell (v := .int .u32 (0)) rfl 2).setCell (v := .int .i64 (0)) rfl 3).setCell (v := .int .i64 (0)) rfl 4).setCell (v := .int .u32 (0)) rfl 5)
      have HG := Lib.hid ((((((HB3.out.setCell (p := ⟨w.heap.size + 1, 0, none⟩) (show w.heap.size ≤ w.heap.size + 1 by omega) (.int .i64 (1))).setCell (p := ⟨w.heap.size + 1, 1, none⟩) (show w.heap.size ≤ w.heap.size + 1 by omega) (.int .u32 (6))).setCell (p := ⟨w.heap.size + 1, 2, none⟩) (show w.heap.size ≤ w.heap.size + 1 by omega) (.int .u32 (0))).setCell (p := ⟨w.heap.size + 1, 3, none⟩) (show w.heap.size ≤ w.heap.size + 1 by omega) (.int .i64 (0))).setCell (p := ⟨w.heap.size + 1, 4, none⟩) (show w.heap.size ≤ w.heap.size + 1 by omega) (.int .i64 (0))).setCell (p := ⟨w.heap.size + 1, 5, none⟩) (show w.heap.size ≤ w.heap.size + 1 by omega) (.int .u32 (0)))
      go_wp2
      exact bodyPost_ret (res_R rowW (fn := Tryd.f21) rfl _ HF.out (by kernel_rfl)) rfl ⟨by rw [hP.out]; simp [planS, causeS, causeOf, wantOf, ← HSU.out, hade.out, c1], HG.out⟩
  · have HF : Hid (Rf 42 6 _ (w.heap.size + 1) (wnt ⟨2, 0, ad, 1, 0, 0⟩)) := Lib.hid ((((((RB3.out.setCell (v := .int .i64 (2)) rfl 0).setCell (v := .int .u32 (0)) rfl 1).setCell (v := .int .u32 (ad)) rfl 2).setCell (v := .int .i64 (1)) rfl 3).setCell (v := .int .i64 (0)) rfl 4).setCell (v := .int .u32 (0)) rfl 5)
    have HG := Lib.hid ((((((HB3.out.setCell (p := ⟨w.heap.size + 1, 0, none⟩) (show w.heap.size ≤ w.heap.size + 1 by omega) (.int .i64 (2))).setCell (p := ⟨w.heap.size + 1, 1, none⟩) (show w.heap.size ≤ w.heap.size + 1 by omega) (.int .u32 (0))).setCell (p := ⟨w.heap.size + 1, 2, none⟩) (show w.heap.size ≤ w.heap.size + 1 by omega) (.int .u32 (ad))).setCell (p := ⟨w.heap.size + 1, 3, none⟩) (show w.heap.size ≤ w.heap.size + 1 by omega) (.int .i64 (1))).setCell (p := ⟨w.heap.size + 1, 4, none⟩) (show w.heap.size ≤ w.heap.size + 1 by omega) (.int .i64 (0))).setCell (p := ⟨w.heap.size + 1, 5, none⟩) (show w.heap.size ≤ w.heap.size + 1 by omega) (.int .u32 (0)))
    go_wp2
    exact bodyPost_ret (res_R rowW (fn := Tryd.f21) rfl _ HF.out (by kernel_rfl)) rfl ⟨by rw [hP.out]; simp [planS, causeS, causeOf, wantOf, ← HSU.out, hade.out], HG.out⟩
  · have hr0 := (hs.r A).1
    have hr1 := (hs.r A).2
    have HF : Hid (Rf 42 6 _ (w.heap.size + 1) (wnt ⟨3, 0, ad, 1, 0, s.r A % 256⟩)) := Lib.hid ((((((RB3.out.setCell (v := .int .i64 (3)) rfl 0).setCell (v := .int .u32 (0)) rfl 1).setCell (v := .int .u32 (ad)) rfl 2).setCell (v := .int .i64 (1)) rfl 3).setCell (v := .int .i64 (0)) rfl 4).setCell (v := .int .u32 (s.r A % 256)) rfl 5)
    have HG := Lib.hid ((((((HB3.out.setCell (p := ⟨w.heap.size + 1, 0, none⟩) (show w.heap.size ≤ w.heap.size + 1 by omega) (.int .i64 (3))).setCell (p := ⟨w.heap.size + 1, 1, none⟩) (show w.heap.size ≤ w.heap.size + 1 by omega) (.int .u32 (0))).setCell (p := ⟨w.heap.size + 1, 2, none⟩) (show w.heap.size ≤ w.heap.size + 1 by omega) (.int .u32 (ad))).setCell (p := ⟨w.heap.size + 1, 3, none⟩) (show w.heap.size ≤ w.heap.size + 1 by omega) (.int .i64 (1))).setCell (p := ⟨w.heap.size + 1, 4, none⟩) (show w.heap.size ≤ w.heap.size + 1 by omega) (.int .i64 (0))).setCell (p := ⟨w.heap.size + 1, 5, none⟩) (show w.heap.size ≤ w.heap.size + 1 by omega) (.int .u32 (s.r A % 256)))
    go_wp2
    exact bodyPost_ret (res_R rowW (fn := Tryd.f21) rfl _ HF.out (by kernel_rfl)) rfl ⟨by rw [hP.out]; simp [planS, causeS, causeOf, wantOf, ← HSU.out, hade.out], HG.out⟩
  · have HF : Hid (Rf 42 6 _ (w.heap.size + 1) (wnt ⟨0, 0, 0, 0, 0, 0⟩)) := Lib.hid ((((((RB3.out.setCell (v := .int .i64 (0)) rfl 0).setCell (v := .int .u32 (0)) rfl 1).setCell (v := .int .u32 (0)) rfl 2).setCell (v := .int .i64 (0)) rfl 3).setCell (v := .int .i64 (0)) rfl 4).setCell (v := .int .u32 (0)) rfl 5)
    have HG := Lib.hid ((((((HB3.out.setCell (p := ⟨w.heap.size + 1, 0, none⟩) (show w.heap.size ≤ w.heap.size + 1 by omega) (.int .i64 (0))).setCell (p := ⟨w.heap.size + 1, 1, none⟩) (show w.heap.size ≤ w.heap.size + 1 by omega) (.int .u32 (0))).setCell (p := ⟨w.heap.size + 1, 2, none⟩) (show w.heap.size ≤ w.heap.size + 1 by omega) (.int .u32 (0))).setCell (p := ⟨w.heap.size + 1, 3, none⟩) (show w.heap.size ≤ w.heap.size + 1 by omega) (.int .i64 (0))).setCell (p := ⟨w.heap.size + 1, 4, none⟩) (show w.heap.size ≤ w.heap.size + 1 by omega) (.int .i64 (0))).setCell (p := ⟨w.heap.size + 1, 5, none⟩) (show w.heap.size ≤ w.heap.size + 1 by omega) (.int .u32 (0)))
    go_wp2
    exact bodyPost_ret (res_R rowW (fn := Tryd.f21) rfl _ HF.out (by kernel_rfl)) rfl ⟨by rw [hP.out]; simp [planS, causeS, causeOf, wantOf, ← HSU.out, hade.out], HG.out⟩
  · have HF : Hid (Rf 42 6 _ (w.heap.size + 1) (wnt ⟨0, 0, 0, 0, 0, 0⟩)) := Lib.hid ((((((RB3.out.setCell (v := .int .i64 (0)) rfl 0).setCell (v := .int .u32 (0)) rfl 1).setCell (v := .int .u32 (0)) rfl 2).setCell (v := .int .i64 (0)) rfl 3).setCell (v := .int .i64 (0)) rfl 4).setCell (v := .int .u32 (0)) rfl 5)
    have HG := Lib.hid ((((((HB3.out.setCell (p := ⟨w.heap.size + 1, 0, none⟩) (show w.heap.size ≤ w.heap.size + 1 by omega) (.int .i64 (0))).setCell (p := ⟨w.heap.size + 1, 1, none⟩) (show w.heap.size ≤ w.heap.size + 1 by omega) (.int .u32 (0))).setCell (p := ⟨w.heap.size + 1, 2, none⟩) (show w.heap.size ≤ w.heap.size + 1 by omega) (.int .u32 (0))).setCell (p := ⟨w.heap.size + 1, 3, none⟩) (show w.heap.size ≤ w.heap.size + 1 by omega) (.int .i64 (0))).setCell (p := ⟨w.heap.size + 1, 4, none⟩) (show w.heap.size ≤ w.heap.size + 1 by omega) (.int .i64 (0))).setCell (p := ⟨w.heap.size + 1, 5, none⟩) (show w.heap.size ≤ w.heap.size + 1 by omega) (.int .u32 (0)))
    go_wp2
    exact bodyPost_ret (res_R rowW (fn := Tryd.f21) rfl _ HF.out (by kernel_rfl)) rfl ⟨by rw [hP.out]; simp [planS, causeS, causeOf, wantOf, ← HSU.out, hade.out], HG.out⟩
  · have HF : Hid (Rf 42 6 _ (w.heap.size + 1) (wnt ⟨0, 0, 0, 0, 0, 0⟩)) := Lib.hid ((((((RB3.out.setCell (v := .int .i64 (0)) rfl 0).setCell (v := .int .u32 (0)) rfl 1).setCell (v := .int .u32 (0)) rfl 2).setCell (v := .int .i64 (0)) rfl 3).setCell (v := .int .i64 (0)) rfl 4).setCell (v := .int .u32 (0)) rfl 5)
    have HG := Lib.hid ((((((HB3.out.setCell (p := ⟨w.heap.size + 1, 0, none⟩) (show w.heap.size ≤ w.heap.size + 1 by omega) (.int .i64 (0))).setCell (p := ⟨w.heap.size + 1, 1, none⟩) (show w.heap.size ≤ w.heap.size + 1 by omega) (.int .u32 (0))).setCell (p := ⟨w.heap.size + 1, 2, none⟩) (show w.heap.size ≤ w.heap.size + 1 by omega) (.int .u32 (0))).setCell (p := ⟨w.heap.size + 1, 3, none⟩) (show w.heap.size ≤ w.heap.size + 1 by omega) (.int .i64 (0))).setCell (p := ⟨w.heap.size + 1, 4, none⟩) (show w.heap.size ≤ w.heap.size + 1 by omega) (.int .i64 (0))).setCell (p := ⟨w.heap.size + 1, 5, none⟩) (show w.heap.size ≤ w.heap.size + 1 by omega) (.int .u32 (0)))
    go_wp2
    exact bodyPost_ret (res_R rowW (fn := Tryd.f21) rfl _ HF.out (by kernel_rfl)) rfl ⟨by rw [hP.out]; simp [planS, causeS, causeOf, wantOf, ← HSU.out, hade.out], HG.out⟩
  · have HF : Hid (Rf 42 6 _ (w.heap.size + 1) (wnt ⟨0, 0, 0, 0, 0, 0⟩)) := Lib.hid ((((((RB3.out.setCell (v := .int .i64 (0)) rfl 0).setCell (v := .int .u32 (0)) rfl 1).setCell (v := .int .u32 (0)) rfl 2).setCell (v := .int .i64 (0)) rfl 3).setCell (v := .int .i64 (0)) rfl 4).setCell (v := .int .u32 (0)) rfl 5)
    have HG := Lib.hid ((((((HB3.out.setCell (p := ⟨w.heap.size + 1, 0, none⟩) (show w.heap.size ≤ w.heap.size + 1 by omega) (.int .i64 (0))).setCell (p := ⟨w.heap.size + 1, 1, none⟩) (show w.heap.size ≤ w.heap.size + 1 by omega) (.int .u32 (0))).setCell (p := ⟨w.heap.size + 1, 2, none⟩) (show w.heap.size ≤ w.heap.size + 1 by omega) (.int .u32 (0))).setCell (p := ⟨w.heap.size + 1, 3, none⟩) (show w.heap.size ≤ w.heap.size + 1 by omega) (.int .i64 (0))).setCell (p := ⟨w.heap.size + 1, 4, none⟩) (show w.heap.size ≤ w.heap.size + 1 by omega) (.int .i64 (0))).setCell (p := ⟨w.heap.size + 1, 5, none⟩) (show w.heap.size ≤ w.heap.size + 1 by omega) (.int .u32 (0)))
    go_wp2
    exact bodyPost_ret (res_R rowW (fn := Tryd.f21) rfl _ HF.out (by kernel_rfl)) rfl ⟨by rw [hP.out]; simp [planS, causeS, causeOf, wantOf, ← HSU.out, hade.out], HG.out⟩
  · have e21 := HS21.out rfl
    obtain ⟨bv, hbv⟩ : ∃ bv, Hid (bv = s.r B) := ⟨_, rfl⟩
    rw [← hbv.out] at e21 ⊢
    subst e21
    by_cases c1 : ad % 4 = 0
    · have HF : Hid (Rf 42 6 _ (w.heap.size + 1) (wnt ⟨0, 0, 0, 0, 0, 0⟩)) := Lib.hid ((((((RB3.out.setCell (v := .int .i64 (0)) rfl 0).setCell (v := .int .u32 (0)) rfl 1).setCell (v := .int .u32 (0)) rfl 2).setCell (v := .int .i64 (0)) rfl 3).setCell (v := .int .i64 (0)) rfl 4).setCell (v := .int .u32 (0)) rfl 5)
      have HG := Lib.hid ((((((HB3.out.setCell (p := ⟨w.heap.size + 1, 0, none⟩) (show w.heap.size ≤ w.heap.size + 1 by omega) (.int .i64 (0))).setCell (p := ⟨w.heap.size + 1, 1, none⟩) (show w.heap.size ≤ w.heap.size + 1 by omega) (.int .u32 (0))).setCell (p := ⟨w.heap.size + 1, 2, none⟩) (show w.heap.size ≤ w.heap.size + 1 by omega) (.int .u32 (0))).setCell (p := ⟨w.heap.size + 1, 3, none⟩) (show w.heap.size ≤ w.heap.size + 1 by omega) (.int .i64 (0))).setCell (p := ⟨w.heap.size + 1, 4, none⟩) (show w.heap.size ≤ w.heap.size + 1 by omega) (.int .i64 (0))).setCell (p := ⟨w.heap.size + 1, 5, none⟩) (show w.heap.size ≤ w.heap.size + 1 by omega) (.int .u32 (0)))
      go_wp2
      exact bodyPost_ret (res_R rowW (fn := Tryd.f21) rfl _ HF.out (by kernel_rfl)) rfl ⟨by rw [hP.out]; simp [planS, causeS, causeOf, wantOf, ← HSU.out, hade.out, c1], HG.out⟩
    · have HF : Hid (Rf 42 6 _ (w.heap.size + 1) (wnt ⟨1, 6, 0, 0, 0, 0⟩)) := Lib.hid ((((((RB3.out.setCell (v := .int .i64 (1)) rfl 0).setCell (v := .int .u32 (6)) rfl 1).setCell (v := .int .u32 (0)) rfl 2).setCell (v := .int .i64 (0)) rfl 3).setCell (v := .int .i64 (0)) rfl 4).setCell (v := .int .u32 (0)) rfl 5)
      have HG := Lib.hid ((((((HB3.out.setCell (p := ⟨w.heap.size + 1, 0, none⟩) (show w.heap.size ≤ w.heap.size + 1 by omega) (.int .i64 (1))).setCell (p := ⟨w.heap.size + 1, 1, none⟩) (show w.heap.size ≤ w.heap.size + 1 by omega) (.int .u32 (6))).setCell (p := ⟨w.heap.size + 1, 2, none⟩) (show w.heap.size ≤ w.heap.size + 1 by omega) (.int .u32 (0))).setCell (p := ⟨w.heap.size + 1, 3, none⟩) (show w.heap.size ≤ w.heap.size + 1 by omega) (.int .i64 (0))).setCell (p := ⟨w.heap.size + 1, 4, none⟩) (show w.heap.size ≤ w.heap.size + 1 by omega) (.int .i64 (0))).setCell (p := ⟨w.heap.size + 1, 5, none⟩) (show w.heap.size ≤ w.heap.size + 1 by omega) (.int .u32 (0)))
      go_wp2
      exact bodyPost_ret (res_R rowW (fn := Tryd.f21) rfl _ HF.out (by kernel_rfl)) rfl ⟨by rw [hP.out]; simp [planS, causeS, causeOf, wantOf, ← HSU.out, hade.out, c1], HG.out⟩
  · cases su with
    | false =>
      have HF : Hid (Rf 42 6 _ (w.heap.size + 1) (wnt ⟨1, 2, 0, 0, 0, 0⟩)) := Lib.hid ((((((RB3.out.setCell (v := .int .i64 (1)) rfl 0).setCell (v := .int .u32 (2)) rfl 1).setCell (v := .int .u32 (0)) rfl 2).setCell (v := .int .i64 (0)) rfl 3).setCell (v := .int .i64 (0)) rfl 4).setCell (v := .int .u32 (0)) rfl 5)
      have HG := Lib.hid ((((((HB3.out.setCell (p := ⟨w.heap.size + 1, 0, none⟩) (show w.heap.size ≤ w.heap.size + 1 by omega) (.int .i64 (1))).setCell (p := ⟨w.heap.size + 1, 1, none⟩) (show w.heap.size ≤ w.heap.size + 1 by omega) (.int .u32 (2))).setCell (p := ⟨w.heap.size + 1, 2, none⟩) (show w.heap.size ≤ w.heap.size + 1 by omega) (.int .u32 (0))).setCell (p := ⟨w.heap.size + 1, 3, none⟩) (show w.heap.size ≤ w.heap.size + 1 by omega) (.int .i64 (0))).setCell (p := ⟨w.heap.size + 1, 4, none⟩) (show w.heap.size ≤ w.heap.size + 1 by omega) (.int .i64 (0))).setCell (p := ⟨w.heap.size + 1, 5, none⟩) (show w.heap.size ≤ w.heap.size + 1 by omega) (.int .u32 (0)))
      go_wp2
      exact bodyPost_ret (res_R rowW (fn := Tryd.f21) rfl _ HF.out (by kernel_rfl)) rfl ⟨by rw [hP.out]; simp [planS, causeS, causeOf, wantOf, ← HSU.out, hade.out], HG.out⟩
    | true =>
      have HF : Hid (Rf 42 6 _ (w.heap.size + 1) (wnt ⟨4, 0, 0, 0, m, 0⟩)) := Lib.hid ((((((RB3.out.setCell (v := .int .i64 (4)) rfl 0).setCell (v := .int .u32 (0)) rfl 1).setCell (v := .int .u32 (0)) rfl 2).setCell (v := .int .i64 (0)) rfl 3).setCell (v := .int .i64 (m)) rfl 4).setCell (v := .int .u32 (0)) rfl 5)
      have HG := Lib.hid ((((((HB3.out.setCell (p := ⟨w.heap.size + 1, 0, none⟩) (show w.heap.size ≤ w.heap.size + 1 by omega) (.int .i64 (4))).setCell (p := ⟨w.heap.size + 1, 1, none⟩) (show w.heap.size ≤ w.heap.size + 1 by omega) (.int .u32 (0))).setCell (p := ⟨w.heap.size + 1, 2, none⟩) (show w.heap.size ≤ w.heap.size + 1 by omega) (.int .u32 (0))).setCell (p := ⟨w.heap.size + 1, 3, none⟩) (show w.heap.size ≤ w.heap.size + 1 by omega) (.int .i64 (0))).setCell (p := ⟨w.heap.size + 1, 4, none⟩) (show w.heap.size ≤ w.heap.size + 1 by omega) (.int .i64 (m))).setCell (p := ⟨w.heap.size + 1, 5, none⟩) (show w.heap.size ≤ w.heap.size + 1 by omega) (.int .u32 (0)))
      go_wp2
      exact bodyPost_ret (res_R rowW (fn := Tryd.f21) rfl _ HF.out (by kernel_rfl)) rfl ⟨by rw [hP.out]; simp [planS, causeS, causeOf, wantOf, ← HSU.out, hade.out], HG.out⟩
  · cases su with
    | false =>
      have HF : Hid (Rf 42 6 _ (w.heap.size + 1) (wnt ⟨1, 2, 0, 0, 0, 0⟩)) := Lib.hid ((((((RB3.out.setCell (v := .int .i64 (1)) rfl 0).setCell (v := .int .u32 (2)) rfl 1).setCell (v := .int .u32 (0)) rfl 2).setCell (v := .int .i64 (0)) rfl 3).setCell (v := .int .i64 (0)) rfl 4).setCell (v := .int .u32 (0)) rfl 5)
      have HG := Lib.hid ((((((HB3.out.setCell (p := ⟨w.heap.size + 1, 0, none⟩) (show w.heap.size ≤ w.heap.size + 1 by omega) (.int .i64 (1))).setCell (p := ⟨w.heap.size + 1, 1, none⟩) (show w.heap.size ≤ w.heap.size + 1 by omega) (.int .u32 (2))).setCell (p := ⟨w.heap.size + 1, 2, none⟩) (show w.heap.size ≤ w.heap.size + 1 by omega) (.int .u32 (0))).setCell (p := ⟨w.heap.size + 1, 3, none⟩) (show w.heap.size ≤ w.heap.size + 1 by omega) (.int .i64 (0))).setCell (p := ⟨w.heap.size + 1, 4, none⟩) (show w.heap.size ≤ w.heap.size + 1 by omega) (.int .i64 (0))).setCell (p := ⟨w.heap.size + 1, 5, none⟩) (show w.heap.size ≤ w.heap.size + 1 by omega) (.int .u32 (0)))
      go_wp2
      exact bodyPost_ret (res_R rowW (fn := Tryd.f21) rfl _ HF.out (by kernel_rfl)) rfl ⟨by rw [hP.out]; simp [planS, causeS, causeOf, wantOf, ← HSU.out, hade.out], HG.out⟩
    | true =>
      have HF : Hid (Rf 42 6 _ (w.heap.size + 1) (wnt ⟨5, 0, 0, 0, m, s.r A⟩)) := Lib.hid ((((((RB3.out.setCell (v := .int .i64 (5)) rfl 0).setCell (v := .int .u32 (0)) rfl 1).setCell (v := .int .u32 (0)) rfl 2).setCell (v := .int .i64 (0)) rfl 3).setCell (v := .int .i64 (m)) rfl 4).setCell (v := .int .u32 (s.r A)) rfl 5)
      have HG := Lib.hid ((((((HB3.out.setCell (p := ⟨w.heap.size + 1, 0, none⟩) (show w.heap.size ≤ w.heap.size + 1 by omega) (.int .i64 (5))).setCell (p := ⟨w.heap.size + 1, 1, none⟩) (show w.heap.size ≤ w.heap.size + 1 by omega) (.int .u32 (0))).setCell (p := ⟨w.heap.size + 1, 2, none⟩) (show w.heap.size ≤ w.heap.size + 1 by omega) (.int .u32 (0))).setCell (p := ⟨w.heap.size + 1, 3, none⟩) (show w.heap.size ≤ w.heap.size + 1 by omega) (.int .i64 (0))).setCell (p := ⟨w.heap.size + 1, 4, none⟩) (show w.heap.size ≤ w.heap.size + 1 by omega) (.int .i64 (m))).setCell (p := ⟨w.heap.size + 1, 5, none⟩) (show w.heap.size ≤ w.heap.size + 1 by omega) (.int .u32 (s.r A)))
      go_wp2
      exact bodyPost_ret (res_R rowW (fn := Tryd.f21) rfl _ HF.out (by kernel_rfl)) rfl ⟨by rw [hP.out]; simp [planS, causeS, causeOf, wantOf, ← HSU.out, hade.out], HG.out⟩
  · have HF : Hid (Rf 42 6 _ (w.heap.size + 1) (wnt ⟨1, 8, 0, 0, 0, 0⟩)) := Lib.hid ((((((RB3.out.setCell (v := .int .i64 (1)) rfl 0).setCell (v := .int .u32 (8)) rfl 1).setCell (v := .int .u32 (0)) rfl 2).setCell (v := .int .i64 (0)) rfl 3).setCell (v := .int .i64 (0)) rfl 4).setCell (v := .int .u32 (0)) rfl 5)
    have HG := Lib.hid ((((((HB3.out.setCell (p := ⟨w.heap.size + 1, 0, none⟩) (show w.heap.size ≤ w.heap.size + 1 by omega) (.int .i64 (1))).setCell (p := ⟨w.heap.size + 1, 1, none⟩) (show w.heap.size ≤ w.heap.size + 1 by omega) (.int .u32 (8))).setCell (p := ⟨w.heap.size + 1, 2, none⟩) (show w.heap.size ≤ w.heap.size + 1 by omega) (.int .u32 (0))).setCell (p := ⟨w.heap.size + 1, 3, none⟩) (show w.heap.size ≤ w.heap.size + 1 by omega) (.int .i64 (0))).setCell (p := ⟨w.heap.size + 1, 4, none⟩) (show w.heap.size ≤ w.heap.size + 1 by omega) (.int .i64 (0))).setCell (p := ⟨w.heap.size + 1, 5, none⟩) (show w.heap.size ≤ w.heap.size + 1 by omega) (.int .u32 (0)))
    go_wp2
    exact bodyPost_ret (res_R rowW (fn := Tryd.f21) rfl _ HF.out (by kernel_rfl)) rfl ⟨by rw [hP.out]; simp [planS, causeS, causeOf, wantOf, ← HSU.out, hade.out], HG.out⟩
  · cases su with
    | false =>
      have HF : Hid (Rf 42 6 _ (w.heap.size + 1) (wnt ⟨1, 2, 0, 0, 0, 0⟩)) := Lib.hid ((((((RB3.out.setCell (v := .int .i64 (1)) rfl 0).setCell (v := .int .u32 (2)) rfl 1).setCell (v := .int .u32 (0)) rfl 2).setCell (v := .int .i64 (0)) rfl 3).setCell (v := .int .i64 (0)) rfl 4).setCell (v := .int .u32 (0)) rfl 5)
      have HG := Lib.hid ((((((HB3.out.setCell (p := ⟨w.heap.size + 1, 0, none⟩) (show w.heap.size ≤ w.heap.size + 1 by omega) (.int .i64 (1))).setCell (p := ⟨w.heap.size + 1, 1, none⟩) (show w.heap.size ≤ w.heap.size + 1 by omega) (.int .u32 (2))).setCell (p := ⟨w.heap.size + 1, 2, none⟩) (show w.heap.size ≤ w.heap.size + 1 by omega) (.int .u32 (0))).setCell (p := ⟨w.heap.size + 1, 3, none⟩) (show w.heap.size ≤ w.heap.size + 1 by omega) (.int .i64 (0))).setCell (p := ⟨w.heap.size + 1, 4, none⟩) (show w.heap.size ≤ w.heap.size + 1 by omega) (.int .i64 (0))).setCell (p := ⟨w.heap.size + 1, 5, none⟩) (show w.heap.size ≤ w.heap.size + 1 by omega) (.int .u32 (0)))
      go_wp2
      exact bodyPost_ret (res_R rowW (fn := Tryd.f21) rfl _ HF.out (by kernel_rfl)) rfl ⟨by rw [hP.out]; simp [planS, causeS, causeOf, wantOf, ← HSU.out, hade.out], HG.out⟩
    | true =>
      have HF : Hid (Rf 42 6 _ (w.heap.size + 1) (wnt ⟨0, 0, 0, 0, 0, 0⟩)) := Lib.hid ((((((RB3.out.setCell (v := .int .i64 (0)) rfl 0).setCell (v := .int .u32 (0)) rfl 1).setCell (v := .int .u32 (0)) rfl 2).setCell (v := .int .i64 (0)) rfl 3).setCell (v := .int .i64 (0)) rfl 4).setCell (v := .int .u32 (0)) rfl 5)
      have HG := Lib.hid ((((((HB3.out.setCell (p := ⟨w.heap.size + 1, 0, none⟩) (show w.heap.size ≤ w.heap.size + 1 by omega) (.int .i64 (0))).setCell (p := ⟨w.heap.size + 1, 1, none⟩) (show w.heap.size ≤ w.heap.size + 1 by omega) (.int .u32 (0))).setCell (p := ⟨w.heap.size + 1, 2, none⟩) (show w.heap.size ≤ w.heap.size + 1 by omega) (.int .u32 (0))).setCell (p := ⟨w.heap.size + 1, 3, none⟩) (show w.heap.size ≤ w.heap.size + 1 by omega) (.int .i64 (0))).setCell (p := ⟨w.heap.size + 1, 4, none⟩) (show w.heap.size ≤ w.heap.size + 1 by omega) (.int .i64 (0))).setCell (p := ⟨w.heap.size + 1, 5, none⟩) (show w.heap.size ≤ w.heap.size + 1 by omega) (.int .u32 (0)))
      go_wp2
      exact bodyPost_ret (res_R rowW (fn := Tryd.f21) rfl _ HF.out (by kernel_rfl)) rfl ⟨by rw [hP.out]; simp [planS, causeS, causeOf, wantOf, ← HSU.out, hade.out], HG.out⟩
  · cases su with
    | false =>
      have HF : Hid (Rf 42 6 _ (w.heap.size + 1) (wnt ⟨1, 2, 0, 0, 0, 0⟩)) := Lib.hid ((((((RB3.out.setCell (v := .int .i64 (1)) rfl 0).setCell (v := .int .u32 (2)) rfl 1).setCell (v := .int .u32 (0)) rfl 2).setCell (v := .int .i64 (0)) rfl 3).setCell (v := .int .i64 (0)) rfl 4).setCell (v := .int .u32 (0)) rfl 5)
      have HG := Lib.hid ((((((HB3.out.setCell (p := ⟨w.heap.size + 1, 0, none⟩) (show w.heap.size ≤ w.heap.size + 1 by omega) (.int .i64 (1))).setCell (p := ⟨w.heap.size + 1, 1, none⟩) (show w.heap.size ≤ w.heap.size + 1 by omega) (.int .u32 (2))).setCell (p := ⟨w.heap.size + 1, 2, none⟩) (show w.heap.size ≤ w.heap.size + 1 by omega) (.int .u32 (0))).setCell (p := ⟨w.heap.size + 1, 3, none⟩) (show w.heap.size ≤ w.heap.size + 1 by omega) (.int .i64 (0))).setCell (p := ⟨w.heap.size + 1, 4, none⟩) (show w.heap.size ≤ w.heap.size + 1 by omega) (.int .i64 (0))).setCell (p := ⟨w.heap.size + 1, 5, none⟩) (show w.heap.size ≤ w.heap.size + 1 by omega) (.int .u32 (0)))
      go_wp2
      exact bodyPost_ret (res_R rowW (fn := Tryd.f21) rfl _ HF.out (by kernel_rfl)) rfl ⟨by rw [hP.out]; simp [planS, causeS, causeOf, wantOf, ← HSU.out, hade.out], HG.out⟩
    | true =>
      by_cases c1 : m < 0
      · have HF : Hid (Rf 42 6 _ (w.heap.size + 1) (wnt ⟨1, 1, 0, 0, 0, 0⟩)) := Lib.hid ((((((RB3.out.setCell (v := .int .i64 (1)) rfl 0).setCell (v := .int .u32 (1)) rfl 1).setCell (v := .int .u32 (0)) rfl 2).setCell (v := .int .i64 (0)) rfl 3).setCell (v := .int .i64 (0)) rfl 4).setCell (v := .int .u32 (0)) rfl 5)
        have HG := Lib.hid ((((((HB3.out.setCell (p := ⟨w.heap.size + 1, 0, none⟩) (show w.heap.size ≤ w.heap.size + 1 by omega) (.int .i64 (1))).setCell (p := ⟨w.heap.size + 1, 1, none⟩) (show w.heap.size ≤ w.heap.size + 1 by omega) (.int .u32 (1))).setCell (p := ⟨w.heap.size + 1, 2, none⟩) (show w.heap.size ≤ w.heap.size + 1 by omega) (.int .u32 (0))).setCell (p := ⟨w.heap.size + 1, 3, none⟩) (show w.heap.size ≤ w.heap.size + 1 by omega) (.int .i64 (0))).setCell (p := ⟨w.heap.size + 1, 4, none⟩) (show w.heap.size ≤ w.heap.size + 1 by omega) (.int .i64 (0))).setCell (p := ⟨w.heap.size + 1, 5, none⟩) (show w.heap.size ≤ w.heap.size + 1 by omega) (.int .u32 (0)))
        go_wp2
        exact bodyPost_ret (res_R rowW (fn := Tryd.f21) rfl _ HF.out (by kernel_rfl)) rfl ⟨by rw [hP.out]; simp [planS, causeS, causeOf, wantOf, ← HSU.out, hade.out, c1], HG.out⟩
      · by_cases c2 : 6 ≤ m
        · have HF : Hid (Rf 42 6 _ (w.heap.size + 1) (wnt ⟨1, 1, 0, 0, 0, 0⟩)) := Lib.hid ((((((RB3.out.setCell (v := .int .i64 (1)) rfl 0).setCell (v := .int .u32 (1)) rfl 1).setCell (v := .int .u32 (0)) rfl 2).setCell (v := .int .i64 (0)) rfl 3).setCell (v := .int .i64 (0)) rfl 4).setCell (v := .int .u32 (0)) rfl 5)
          have HG := Lib.hid ((((((HB3.out.setCell (p := ⟨w.heap.size + 1, 0, none⟩) (show w.heap.size ≤ w.heap.size + 1 by omega) (.int .i64 (1))).setCell (p := ⟨w.heap.size + 1, 1, none⟩) (show w.heap.size ≤ w.heap.size + 1 by omega) (.int .u32 (1))).setCell (p := ⟨w.heap.size + 1, 2, none⟩) (show w.heap.size ≤ w.heap.size + 1 by omega) (.int .u32 (0))).setCell (p := ⟨w.heap.size + 1, 3, none⟩) (show w.heap.size ≤ w.heap.size + 1 by omega) (.int .i64 (0))).setCell (p := ⟨w.heap.size + 1, 4, none⟩) (show w.heap.size ≤ w.heap.size + 1 by omega) (.int .i64 (0))).setCell (p := ⟨w.heap.size + 1, 5, none⟩) (show w.heap.size ≤ w.heap.size + 1 by omega) (.int .u32 (0)))
          go_wp2
          exact bodyPost_ret (res_R rowW (fn := Tryd.f21) rfl _ HF.out (by kernel_rfl)) rfl ⟨by rw [hP.out]; simp [planS, causeS, causeOf, wantOf, ← HSU.out, hade.out, c1, c2], HG.out⟩
        · have HF : Hid (Rf 42 6 _ (w.heap.size + 1) (wnt ⟨0, 0, 0, 0, 0, 0⟩)) := Lib.hid ((((((RB3.out.setCell (v := .int .i64 (0)) rfl 0).setCell (v := .int .u32 (0)) rfl 1).setCell (v := .int .u32 (0)) rfl 2).setCell (v := .int .i64 (0)) rfl 3).setCell (v := .int .i64 (0)) rfl 4).setCell (v := .int .u32 (0)) rfl 5)
          have HG := Lib.hid ((((((HB3.out.setCell (p := ⟨w.heap.size + 1, 0, none⟩) (show w.heap.size ≤ w.heap.size + 1 by omega) (.int .i64 (0))).setCell (p := ⟨w.heap.size + 1, 1, none⟩) (show w.heap.size ≤ w.heap.size + 1 by omega) (.int .u32 (0))).setCell (p := ⟨w.heap.size + 1, 2, none⟩) (show w.heap.size ≤ w.heap.size + 1 by omega) (.int .u32 (0))).setCell (p := ⟨w.heap.size + 1, 3, none⟩) (show w.heap.size ≤ w.heap.size + 1 by omega) (.int .i64 (0))).setCell (p := ⟨w.heap.size + 1, 4, none⟩) (show w.heap.size ≤ w.heap.size + 1 by omega) (.int .i64 (0))).setCell (p := ⟨w.heap.size + 1, 5, none⟩) (show w.heap.size ≤ w.heap.size + 1 by omega) (.int .u32 (0)))
          go_wp2
          exact bodyPost_ret (res_R rowW (fn := Tryd.f21) rfl _ HF.out (by kernel_rfl)) rfl ⟨by rw [hP.out]; simp [planS, causeS, causeOf, wantOf, ← HSU.out, hade.out, c1, c2], HG.out⟩
  · cases su with
    | false =>
      have HF : Hid (Rf 42 6 _ (w.heap.size + 1) (wnt ⟨1, 2, 0, 0, 0, 0⟩)) := Lib.hid ((((((RB3.out.setCell (v := .int .i64 (1)) rfl 0).setCell (v := .int .u32 (2)) rfl 1).setCell (v := .int .u32 (0)) rfl 2).setCell (v := .int .i64 (0)) rfl 3).setCell (v := .int .i64 (0)) rfl 4).setCell (v := .int .u32 (0)) rfl 5)
      have HG := Lib.hid ((((((HB3.out.setCell (p := ⟨w.heap.size + 1, 0, none⟩) (show w.heap.size ≤ w.heap.size + 1 by omega) (.int .i64 (1))).setCell (p := ⟨w.heap.size + 1, 1, none⟩) (show w.heap.size ≤ w.heap.size + 1 by omega) (.int .u32 (2))).setCell (p := ⟨w.heap.size + 1, 2, none⟩) (show w.heap.size ≤ w.heap.size + 1 by omega) (.int .u32 (0))).setCell (p := ⟨w.heap.size + 1, 3, none⟩) (show w.heap.size ≤ w.heap.size + 1 by omega) (.int .i64 (0))).setCell (p := ⟨w.heap.size + 1, 4, none⟩) (show w.heap.size ≤ w.heap.size + 1 by omega) (.int .i64 (0))).setCell (p := ⟨w.heap.size + 1, 5, none⟩) (show w.heap.size ≤ w.heap.size + 1 by omega) (.int .u32 (0)))
      go_wp2
      exact bodyPost_ret (res_R rowW (fn := Tryd.f21) rfl _ HF.out (by kernel_rfl)) rfl ⟨by rw [hP.out]; simp [planS, causeS, causeOf, wantOf, ← HSU.out, hade.out], HG.out⟩
    | true =>
      by_cases c1 : m < 0
      · have HF : Hid (Rf 42 6 _ (w.heap.size + 1) (wnt ⟨1, 1, 0, 0, 0, 0⟩)) := Lib.hid ((((((RB3.out.setCell (v := .int .i64 (1)) rfl 0).setCell (v := .int .u32 (1)) rfl 1).setCell (v := .int .u32 (0)) rfl 2).setCell (v := .int .i64 (0)) rfl 3).setCell (v := .int .i64 (0)) rfl 4).setCell (v := .int .u32 (0)) rfl 5)
        have HG := Lib.hid ((((((HB3.out.setCell (p := ⟨w.heap.size + 1, 0, none⟩) (show w.heap.size ≤ w.heap.size + 1 by omega) (.int .i64 (1))).setCell (p := ⟨w.heap.size + 1, 1, none⟩) (show w.heap.size ≤ w.heap.size + 1 by omega) (.int .u32 (1))).setCell (p := ⟨w.heap.size + 1, 2, none⟩) (show w.heap.size ≤ w.heap.size + 1 by omega) (.int .u32 (0))).setCell (p := ⟨w.heap.size + 1, 3, none⟩) (show w.heap.size ≤ w.heap.size + 1 by omega) (.int .i64 (0))).setCell (p := ⟨w.heap.size + 1, 4, none⟩) (show w.heap.size ≤ w.heap.size + 1 by omega) (.int .i64 (0))).setCell (p := ⟨w.heap.size + 1, 5, none⟩) (show w.heap.size ≤ w.heap.size + 1 by omega) (.int .u32 (0)))
        go_wp2
        exact bodyPost_ret (res_R rowW (fn := Tryd.f21) rfl _ HF.out (by kernel_rfl)) rfl ⟨by rw [hP.out]; simp [planS, causeS, causeOf, wantOf, ← HSU.out, hade.out, c1], HG.out⟩
      · by_cases c2 : 6 ≤ m
        · have HF : Hid (Rf 42 6 _ (w.heap.size + 1) (wnt ⟨1, 1, 0, 0, 0, 0⟩)) := Lib.hid ((((((RB3.out.setCell (v := .int .i64 (1)) rfl 0).setCell (v := .int .u32 (1)) rfl 1).setCell (v := .int .u32 (0)) rfl 2).setCell (v := .int .i64 (0)) rfl 3).setCell (v := .int .i64 (0)) rfl 4).setCell (v := .int .u32 (0)) rfl 5)
          have HG := Lib.hid ((((((HB3.out.setCell (p := ⟨w.heap.size + 1, 0, none⟩) (show w.heap.size ≤ w.heap.size + 1 by omega) (.int .i64 (1))).setCell (p := ⟨w.heap.size + 1, 1, none⟩) (show w.heap.size ≤ w.heap.size + 1 by omega) (.int .u32 (1))).setCell (p := ⟨w.heap.size + 1, 2, none⟩) (show w.heap.size ≤ w.heap.size + 1 by omega) (.int .u32 (0))).setCell (p := ⟨w.heap.size + 1, 3, none⟩) (show w.heap.size ≤ w.heap.size + 1 by omega) (.int .i64 (0))).setCell (p := ⟨w.heap.size + 1, 4, none⟩) (show w.heap.size ≤ w.heap.size + 1 by omega) (.int .i64 (0))).setCell (p := ⟨w.heap.size + 1, 5, none⟩) (show w.heap.size ≤ w.heap.size + 1 by omega) (.int .u32 (0)))
          go_wp2
          exact bodyPost_ret (res_R rowW (fn := Tryd.f21) rfl _ HF.out (by kernel_rfl)) rfl ⟨by rw [hP.out]; simp [planS, causeS, causeOf, wantOf, ← HSU.out, hade.out, c1, c2], HG.out⟩
        · have HF : Hid (Rf 42 6 _ (w.heap.size + 1) (wnt ⟨0, 0, 0, 0, 0, 0⟩)) := Lib.hid ((((((RB3.out.setCell (v := .int .i64 (0)) rfl 0).setCell (v := .int .u32 (0)) rfl 1).setCell (v := .int .u32 (0)) rfl 2).setCell (v := .int .i64 (0)) rfl 3).setCell (v := .int .i64 (0)) rfl 4).setCell (v := .int .u32 (0)) rfl 5)
          have HG := Lib.hid ((((((HB3.out.setCell (p := ⟨w.heap.size + 1, 0, none⟩) (show w.heap.size ≤ w.heap.size + 1 by omega) (.int .i64 (0))).setCell (p := ⟨w.heap.size + 1, 1, none⟩) (show w.heap.size ≤ w.heap.size + 1 by omega) (.int .u32 (0))).setCell (p := ⟨w.heap.size + 1, 2, none⟩) (show w.heap.size ≤ w.heap.size + 1 by omega) (.int .u32 (0))).setCell (p := ⟨w.heap.size + 1, 3, none⟩) (show w.heap.size ≤ w.heap.size + 1 by omega) (.int .i64 (0))).setCell (p := ⟨w.heap.size + 1, 4, none⟩) (show w.heap.size ≤ w.heap.size + 1 by omega) (.int .i64 (0))).setCell (p := ⟨w.heap.size + 1, 5, none⟩) (show w.heap.size ≤ w.heap.size + 1 by omega) (.int .u32 (0)))
          go_wp2
          exact bodyPost_ret (res_R rowW (fn := Tryd.f21) rfl _ HF.out (by kernel_rfl)) rfl ⟨by rw [hP.out]; simp [planS, causeS, causeOf, wantOf, ← HSU.out, hade.out, c1, c2], HG.out⟩
  · cases su with
    | false =>
      have HF : Hid (Rf 42 6 _ (w.heap.size + 1) (wnt ⟨1, 2, 0, 0, 0, 0⟩)) := Lib.hid ((((((RB3.out.setCell (v := .int .i64 (1)) rfl 0).setCell (v := .int .u32 (2)) rfl 1).setCell (v := .int .u32 (0)) rfl 2).setCell (v := .int .i64 (0)) rfl 3).setCell (v := .int .i64 (0)) rfl 4).setCell (v := .int .u32 (0)) rfl 5)
      have HG := Lib.hid ((((((HB3.out.setCell (p := ⟨w.heap.size + 1, 0, none⟩) (show w.heap.size ≤ w.heap.size + 1 by omega) (.int .i64 (1))).setCell (p := ⟨w.heap.size + 1, 1, none⟩) (show w.heap.size ≤ w.heap.size + 1 by omega) (.int .u32 (2))).setCell (p := ⟨w.heap.size + 1, 2, none⟩) (show w.heap.size ≤ w.heap.size + 1 by omega) (.int .u32 (0))).setCell (p := ⟨w.heap.size + 1, 3, none⟩) (show w.heap.size ≤ w.heap.size + 1 by omega) (.int .i64 (0))).setCell (p := ⟨w.heap.size + 1, 4, none⟩) (show w.heap.size ≤ w.heap.size + 1 by omega) (.int .i64 (0))).setCell (p := ⟨w.heap.size + 1, 5, none⟩) (show w.heap.size ≤ w.heap.size + 1 by omega) (.int .u32 (0)))
      go_wp2
      exact bodyPost_ret (res_R rowW (fn := Tryd.f21) rfl _ HF.out (by kernel_rfl)) rfl ⟨by rw [hP.out]; simp [planS, causeS, causeOf, wantOf, ← HSU.out, hade.out], HG.out⟩
    | true =>
      have HF : Hid (Rf 42 6 _ (w.heap.size + 1) (wnt ⟨7, 0, 0, 0, 0, 0⟩)) := Lib.hid ((((((RB3.out.setCell (v := .int .i64 (7)) rfl 0).setCell (v := .int .u32 (0)) rfl 1).setCell (v := .int .u32 (0)) rfl 2).setCell (v := .int .i64 (0)) rfl 3).setCell (v := .int .i64 (0)) rfl 4).setCell (v := .int .u32 (0)) rfl 5)
      have HG := Lib.hid ((((((HB3.out.setCell (p := ⟨w.heap.size + 1, 0, none⟩) (show w.heap.size ≤ w.heap.size + 1 by omega) (.int .i64 (7))).setCell (p := ⟨w.heap.size + 1, 1, none⟩) (show w.heap.size ≤ w.heap.size + 1 by omega) (.int .u32 (0))).setCell (p := ⟨w.heap.size + 1, 2, none⟩) (show w.heap.size ≤ w.heap.size + 1 by omega) (.int .u32 (0))).setCell (p := ⟨w.heap.size + 1, 3, none⟩) (show w.heap.size ≤ w.heap.size + 1 by omega) (.int .i64 (0))).setCell (p := ⟨w.heap.size + 1, 4, none⟩) (show w.heap.size ≤ w.heap.size + 1 by omega) (.int .i64 (0))).setCell (p := ⟨w.heap.size + 1, 5, none⟩) (show w.heap.size ≤ w.heap.size + 1 by omega) (.int .u32 (0)))
      go_wp2
      exact bodyPost_ret (res_R rowW (fn := Tryd.f21) rfl _ HF.out (by kernel_rfl)) rfl ⟨by rw [hP.out]; simp [planS, causeS, causeOf, wantOf, ← HSU.out, hade.out], HG.out⟩
theorem RPlan_any (s : Sta) (hs : s.Ok) (x : Int) (hx : W32 x) (w : World) : Calls Tryd.prog 21 #[.agg (sc s), .int .u32 x] w fun e w' => e = .returned (.agg (wnt (planS s (decV x)))) ∧ Below w.heap.size w w' := by
  have hD := fun W => RDecode_any x hx W
  by_cases hm : May (dec x)
  · have e1 : decB x = true := decide_eq_true hm
    have e2 : decV x = dec x := if_pos hm
    rw [e1, e2] at hD
    rw [e2]
    have hb := hm.bounds
    have hj : (dec x).op = 21 → (dec x).imm = 0 := fun h => by
      have := @Ins.Is.jalr (dec x).a (dec x).b (dec x).imm (by rw [← h]; exact .inr hm)
      exact this
    generalize dec x = i at *
    obtain ⟨op, a, b, m⟩ := i
    dsimp only at hb hj
    obtain ⟨⟨o0, o1⟩, ⟨a0, a1⟩, ⟨b0, b1⟩, m0, m1⟩ := hb
    obtain ⟨A, rfl⟩ := Int.eq_ofNat_of_zero_le a0
    obtain ⟨B, rfl⟩ := Int.eq_ofNat_of_zero_le b0
    have ha := addr_w32 s ⟨op, A, B, m⟩
    refine RPlan_some s hs x op A B m (addr s ⟨op, A, B, m⟩) (by omega) (by omega) m0 m1 ha.1 ha.2 (by omega) ?_ w _ rfl rfl ?_ (Lib.hid hD)
    · intro h
      rw [hj h]
      have := (hs.r B).1
      have := (hs.r B).2
      unfold addr immW
      dsimp only
      rw [Int.toNat_natCast]
      omega
    · exact Lib.hid fun W => RAdd_any _ _ (hs.r B) (immW_w32 m) W
  · have e1 : decB x = false := decide_eq_false hm
    have e2 : decV x = zeroI := if_neg hm
    rw [e1, e2] at hD
    rw [e2]
    have := RPlan_none s x w (Lib.hid hD)
    exact this
end Go.Proofs.YthjdfneibogcgaaDoor
