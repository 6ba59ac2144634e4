/-
  Layer 10: set and get of a step: walks. Written by gen_step6.py.
-/
import Derived.Test.YthjdfneibogcgaaDoorStep5
import Derived.Test.YthjdfneibogcgaaDoorBits
namespace Go.Proofs.YthjdfneibogcgaaDoor
open Go.RowKit
set_option maxHeartbeats 8000000
set_option linter.unusedVariables false
set_option linter.unusedSimpArgs false

theorem nand2 (m : Nat) : m &&& 2 = (m / 2 % 2) * 2 := by
  apply Nat.eq_of_testBit_eq
  intro j
  rw [Nat.testBit_and]
  match j with
  | 0 => simp [Nat.testBit_zero]
  | 1 => simp [Nat.testBit_succ]
  | j + 2 => simp [Nat.testBit_succ]
theorem nand4 (m : Nat) : m &&& 4 = (m / 4 % 2) * 4 := by
  apply Nat.eq_of_testBit_eq
  intro j
  rw [Nat.testBit_and]
  match j with
  | 0 => simp [Nat.testBit_zero]; omega
  | 1 => simp [Nat.testBit_succ]; omega
  | 2 => simp [Nat.testBit_succ, Nat.div_div_eq_div_mul]
  | j + 3 => simp [Nat.testBit_succ, Nat.div_div_eq_div_mul]
theorem and2 (a : Int) (ha : W32 a) : bits .and .u32 a 2 = (a / 2 % 2) * 2 := by
  obtain ⟨m, rfl⟩ := Int.eq_ofNat_of_zero_le ha.1
  have h := ha.2
  have := (bits_nat .u32 32 (by decide) wraps_u32 m 2 (by omega) (by omega)).1
  rw [nand2] at this
  exact this
theorem and4 (a : Int) (ha : W32 a) : bits .and .u32 a 4 = (a / 4 % 2) * 4 := by
  obtain ⟨m, rfl⟩ := Int.eq_ofNat_of_zero_le ha.1
  have h := ha.2
  have := (bits_nat .u32 32 (by decide) wraps_u32 m 4 (by omega) (by omega)).1
  rw [nand4] at this
  exact this

/-- The step's block, a state's, a second state's. -/
structure S3 (w : World) (s : Sta) (i : Ins) (c1 c2 : Array Value) (W : World) : Prop where
  r : Rf 58 20 W w.heap.size (xc s i)
  t : Rf 25 16 W (w.heap.size + 1) c1
  u : Rf 25 16 W (w.heap.size + 1 + 1) c2
  b : Below w.heap.size w W
theorem S3.after {w W W' : World} {s : Sta} {i : Ins} {c1 c2 : Array Value} (h : S3 w s i c1 c2 W) (hb : Below W.heap.size W W') : S3 w s i c1 c2 W' := ⟨h.r.below hb, h.t.below hb, h.u.below hb, h.b.trans (hb.mono h.b.size)⟩
theorem S3.setu {w W : World} {s : Sta} {i : Ins} {c1 c2 : Array Value} (h : S3 w s i c1 c2 W) {v : Value} (hv : v.oneCell' = true) (j : Nat) : S3 w s i c1 (c2.setIfInBounds j v) (W.setCell ⟨w.heap.size + 1 + 1, j, none⟩ v) :=
  ⟨h.r.setCellOther v j (by omega), h.t.setCellOther v j (by omega), h.u.setCell hv j, h.b.setCell (p := ⟨w.heap.size + 1 + 1, j, none⟩) (show w.heap.size ≤ w.heap.size + 1 + 1 by omega) v⟩
theorem S3.sett {w W : World} {s : Sta} {i : Ins} {c1 c2 c : Array Value} (h : S3 w s i c1 c2 W) (hc : Ok1 16 c) : S3 w s i c c2 (W.setRow (w.heap.size + 1) c) :=
  ⟨h.r.setOther (by omega) c, h.t.set hc, h.u.setOther (by omega) c, below_setRow h.b (by omega) c⟩
theorem S3.new (w : World) (s : Sta) (i : Ins) : S3 w s i (sc S0) (sc s) ((((w.alloc (.cells (xc s i) 58)).alloc (.cells #[Value.int .u32 0, Value.int .u32 0, Value.int .u32 0, Value.int .u32 0, Value.int .u32 0, Value.int .u32 0, Value.int .u32 0, Value.int .u32 0, Value.int .u32 0, Value.int .u32 0, Value.int .u32 0, Value.int .u32 0, Value.int .u32 0, Value.bool false, Value.bool false, Value.bool false] 25)).alloc (.cells #[Value.int .u32 0, Value.int .u32 0, Value.int .u32 0, Value.int .u32 0, Value.int .u32 0, Value.int .u32 0, Value.int .u32 0, Value.int .u32 0, Value.int .u32 0, Value.int .u32 0, Value.int .u32 0, Value.int .u32 0, Value.int .u32 0, Value.bool false, Value.bool false, Value.bool false] 25)).setRow (w.heap.size + 1 + 1) (sc s)) :=
  ⟨(((rx_new w s i).alloc _).alloc _).setOther (by omega) _, ((rs_newZ (w.alloc (.cells (xc s i) 58)) (w.heap.size + 1) (by simp)).alloc _).setOther (by omega) _,
   (rs_newZ ((w.alloc (.cells (xc s i) 58)).alloc (.cells #[Value.int .u32 0, Value.int .u32 0, Value.int .u32 0, Value.int .u32 0, Value.int .u32 0, Value.int .u32 0, Value.int .u32 0, Value.int .u32 0, Value.int .u32 0, Value.int .u32 0, Value.int .u32 0, Value.int .u32 0, Value.int .u32 0, Value.bool false, Value.bool false, Value.bool false] 25)) (w.heap.size + 1 + 1) (by simp)).set (sc_ok s),
   below_setRow (((bel1 w (.cells (xc s i) 58)).alloc (by simp) (.cells #[Value.int .u32 0, Value.int .u32 0, Value.int .u32 0, Value.int .u32 0, Value.int .u32 0, Value.int .u32 0, Value.int .u32 0, Value.int .u32 0, Value.int .u32 0, Value.int .u32 0, Value.int .u32 0, Value.int .u32 0, Value.int .u32 0, Value.bool false, Value.bool false, Value.bool false] 25)).alloc (by simp; omega) (.cells #[Value.int .u32 0, Value.int .u32 0, Value.int .u32 0, Value.int .u32 0, Value.int .u32 0, Value.int .u32 0, Value.int .u32 0, Value.int .u32 0, Value.int .u32 0, Value.int .u32 0, Value.int .u32 0, Value.int .u32 0, Value.int .u32 0, Value.bool false, Value.bool false, Value.bool false] 25)) (by omega) _⟩
theorem Rf.x0 {w : World} {R : Nat} {s : Sta} {i : Ins} (h : Rf 58 20 w R (xc s i)) : w.rangeAt R 0 (sc s).toList ∧ (sc s).size = 16 := ⟨h.blk.range 0 _ rfl, rfl⟩
theorem Rf.x16 {w : World} {R : Nat} {s : Sta} {i : Ins} (h : Rf 58 20 w R (xc s i)) : w.rangeAt R 16 (ic i).toList ∧ (ic i).size = 4 := ⟨h.blk.range 16 _ rfl, rfl⟩

theorem set_0 (s : Sta) (A B : Nat) (hA : A < 8) (w : World) : Calls Tryd.prog 50 #[.agg (xc s ⟨27, A, B, 0⟩)] w fun e w' => e = .returned (.agg (sc { s with epc := s.r A })) ∧ Below w.heap.size w w' := by
  have HA := Lib.hid ((rx_new w s ⟨27, A, B, 0⟩).alloc (.cells #[Value.int .u32 0, Value.int .u32 0, Value.int .u32 0, Value.int .u32 0, Value.int .u32 0, Value.int .u32 0, Value.int .u32 0, Value.int .u32 0, Value.int .u32 0, Value.int .u32 0, Value.int .u32 0, Value.int .u32 0, Value.int .u32 0, Value.bool false, Value.bool false, Value.bool false] 25)).x0
  have HZ := Lib.hid (rs_newZ ((w.alloc (.cells (xc s ⟨27, A, B, 0⟩) 58)).alloc (.cells #[Value.int .u32 0, Value.int .u32 0, Value.int .u32 0, Value.int .u32 0, Value.int .u32 0, Value.int .u32 0, Value.int .u32 0, Value.int .u32 0, Value.int .u32 0, Value.int .u32 0, Value.int .u32 0, Value.int .u32 0, Value.int .u32 0, Value.bool false, Value.bool false, Value.bool false] 25)) (w.heap.size + 1 + 1) (by simp))
  obtain ⟨W, HW⟩ : ∃ W, Hid (W = (((w.alloc (.cells (xc s ⟨27, A, B, 0⟩) 58)).alloc (.cells #[Value.int .u32 0, Value.int .u32 0, Value.int .u32 0, Value.int .u32 0, Value.int .u32 0, Value.int .u32 0, Value.int .u32 0, Value.int .u32 0, Value.int .u32 0, Value.int .u32 0, Value.int .u32 0, Value.int .u32 0, Value.int .u32 0, Value.bool false, Value.bool false, Value.bool false] 25)).alloc (.cells #[Value.int .u32 0, Value.int .u32 0, Value.int .u32 0, Value.int .u32 0, Value.int .u32 0, Value.int .u32 0, Value.int .u32 0, Value.int .u32 0, Value.int .u32 0, Value.int .u32 0, Value.int .u32 0, Value.int .u32 0, Value.int .u32 0, Value.bool false, Value.bool false, Value.bool false] 25)).setRow (w.heap.size + 1 + 1) (sc s)) := ⟨_, rfl⟩
  have hS := S3.new w s ⟨27, A, B, 0⟩
  rw [← HW.out] at hS
  have q := hS.r.x
  have HS := Lib.hid hS
  clear hS
  go_enter Tryd.func50, Tryd.ntmps50
  go_wp2_with (first | (rw [← HW.out]) | ((with_reducible apply wp_load_M rowS); (exact HA.out); (rfl)) | ((with_reducible apply wp_store_R (sc s) rowS); (exact ⟨HZ.out, sc_ok _⟩); (rfl); (rfl)) | ((with_reducible apply wp_load_R rowX); (exact HS.out.r); (rfl)))
  refine (sa_any s 27 A B 0 hA _).mono ?_
  rintro e w1 ⟨rfl, b1⟩
  have hT := HS.out.after b1
  have hf := hT.u.blk.frozen
  have hc := hT.u.cell 9
  have HT := Lib.hid (hT.setu (v := .int .u32 (s.r A)) rfl 9)
  rw [show (sc s).setIfInBounds 9 (.int .u32 (s.r A)) = sc { s with epc := s.r A } from rfl] at HT
  have hc' := hc.trans (show (sc s)[9]? = some (.int .u32 s.epc) from rfl)
  clear b1 hT q hc
  have HF := Lib.hid (HT.out.sett (sc_ok ({ s with epc := s.r A })))
  go_wp2_with (first | ((with_reducible apply wp_load_R rowS); (exact HT.out.u); (rfl)) | ((with_reducible apply wp_store_R (sc ({ s with epc := s.r A })) rowS); (exact ⟨HT.out.t, sc_ok _⟩); (rfl); (rfl)))
  exact bodyPost_ret (res_R rowS (fn := Tryd.f50) rfl _ HF.out.t rfl) rfl ⟨rfl, HF.out.b⟩
theorem set_1 (s : Sta) (A B : Nat) (hA : A < 8) (w : World) : Calls Tryd.prog 50 #[.agg (xc s ⟨27, A, B, 1⟩)] w fun e w' => e = .returned (.agg (sc { s with cs := s.r A })) ∧ Below w.heap.size w w' := by
  have HA := Lib.hid ((rx_new w s ⟨27, A, B, 1⟩).alloc (.cells #[Value.int .u32 0, Value.int .u32 0, Value.int .u32 0, Value.int .u32 0, Value.int .u32 0, Value.int .u32 0, Value.int .u32 0, Value.int .u32 0, Value.int .u32 0, Value.int .u32 0, Value.int .u32 0, Value.int .u32 0, Value.int .u32 0, Value.bool false, Value.bool false, Value.bool false] 25)).x0
  have HZ := Lib.hid (rs_newZ ((w.alloc (.cells (xc s ⟨27, A, B, 1⟩) 58)).alloc (.cells #[Value.int .u32 0, Value.int .u32 0, Value.int .u32 0, Value.int .u32 0, Value.int .u32 0, Value.int .u32 0, Value.int .u32 0, Value.int .u32 0, Value.int .u32 0, Value.int .u32 0, Value.int .u32 0, Value.int .u32 0, Value.int .u32 0, Value.bool false, Value.bool false, Value.bool false] 25)) (w.heap.size + 1 + 1) (by simp))
  obtain ⟨W, HW⟩ : ∃ W, Hid (W = (((w.alloc (.cells (xc s ⟨27, A, B, 1⟩) 58)).alloc (.cells #[Value.int .u32 0, Value.int .u32 0, Value.int .u32 0, Value.int .u32 0, Value.int .u32 0, Value.int .u32 0, Value.int .u32 0, Value.int .u32 0, Value.int .u32 0, Value.int .u32 0, Value.int .u32 0, Value.int .u32 0, Value.int .u32 0, Value.bool false, Value.bool false, Value.bool false] 25)).alloc (.cells #[Value.int .u32 0, Value.int .u32 0, Value.int .u32 0, Value.int .u32 0, Value.int .u32 0, Value.int .u32 0, Value.int .u32 0, Value.int .u32 0, Value.int .u32 0, Value.int .u32 0, Value.int .u32 0, Value.int .u32 0, Value.int .u32 0, Value.bool false, Value.bool false, Value.bool false] 25)).setRow (w.heap.size + 1 + 1) (sc s)) := ⟨_, rfl⟩
  have hS := S3.new w s ⟨27, A, B, 1⟩
  rw [← HW.out] at hS
  have q := hS.r.x
  have HS := Lib.hid hS
  clear hS
  go_enter Tryd.func50, Tryd.ntmps50
  go_wp2_with (first | (rw [← HW.out]) | ((with_reducible apply wp_load_M rowS); (exact HA.out); (rfl)) | ((with_reducible apply wp_store_R (sc s) rowS); (exact ⟨HZ.out, sc_ok _⟩); (rfl); (rfl)) | ((with_reducible apply wp_load_R rowX); (exact HS.out.r); (rfl)))
  refine (sa_any s 27 A B 1 hA _).mono ?_
  rintro e w1 ⟨rfl, b1⟩
  have hT := HS.out.after b1
  have hf := hT.u.blk.frozen
  have hc := hT.u.cell 10
  have HT := Lib.hid (hT.setu (v := .int .u32 (s.r A)) rfl 10)
  rw [show (sc s).setIfInBounds 10 (.int .u32 (s.r A)) = sc { s with cs := s.r A } from rfl] at HT
  have hc' := hc.trans (show (sc s)[10]? = some (.int .u32 s.cs) from rfl)
  clear b1 hT q hc
  have HF := Lib.hid (HT.out.sett (sc_ok ({ s with cs := s.r A })))
  go_wp2_with (first | ((with_reducible apply wp_load_R rowS); (exact HT.out.u); (rfl)) | ((with_reducible apply wp_store_R (sc ({ s with cs := s.r A })) rowS); (exact ⟨HT.out.t, sc_ok _⟩); (rfl); (rfl)))
  exact bodyPost_ret (res_R rowS (fn := Tryd.f50) rfl _ HF.out.t rfl) rfl ⟨rfl, HF.out.b⟩
theorem set_2 (s : Sta) (A B : Nat) (hA : A < 8) (w : World) : Calls Tryd.prog 50 #[.agg (xc s ⟨27, A, B, 2⟩)] w fun e w' => e = .returned (.agg (sc { s with vec := s.r A })) ∧ Below w.heap.size w w' := by
  have HA := Lib.hid ((rx_new w s ⟨27, A, B, 2⟩).alloc (.cells #[Value.int .u32 0, Value.int .u32 0, Value.int .u32 0, Value.int .u32 0, Value.int .u32 0, Value.int .u32 0, Value.int .u32 0, Value.int .u32 0, Value.int .u32 0, Value.int .u32 0, Value.int .u32 0, Value.int .u32 0, Value.int .u32 0, Value.bool false, Value.bool false, Value.bool false] 25)).x0
  have HZ := Lib.hid (rs_newZ ((w.alloc (.cells (xc s ⟨27, A, B, 2⟩) 58)).alloc (.cells #[Value.int .u32 0, Value.int .u32 0, Value.int .u32 0, Value.int .u32 0, Value.int .u32 0, Value.int .u32 0, Value.int .u32 0, Value.int .u32 0, Value.int .u32 0, Value.int .u32 0, Value.int .u32 0, Value.int .u32 0, Value.int .u32 0, Value.bool false, Value.bool false, Value.bool false] 25)) (w.heap.size + 1 + 1) (by simp))
  obtain ⟨W, HW⟩ : ∃ W, Hid (W = (((w.alloc (.cells (xc s ⟨27, A, B, 2⟩) 58)).alloc (.cells #[Value.int .u32 0, Value.int .u32 0, Value.int .u32 0, Value.int .u32 0, Value.int .u32 0, Value.int .u32 0, Value.int .u32 0, Value.int .u32 0, Value.int .u32 0, Value.int .u32 0, Value.int .u32 0, Value.int .u32 0, Value.int .u32 0, Value.bool false, Value.bool false, Value.bool false] 25)).alloc (.cells #[Value.int .u32 0, Value.int .u32 0, Value.int .u32 0, Value.int .u32 0, Value.int .u32 0, Value.int .u32 0, Value.int .u32 0, Value.int .u32 0, Value.int .u32 0, Value.int .u32 0, Value.int .u32 0, Value.int .u32 0, Value.int .u32 0, Value.bool false, Value.bool false, Value.bool false] 25)).setRow (w.heap.size + 1 + 1) (sc s)) := ⟨_, rfl⟩
  have hS := S3.new w s ⟨27, A, B, 2⟩
  rw [← HW.out] at hS
  have q := hS.r.x
  have HS := Lib.hid hS
  clear hS
  go_enter Tryd.func50, Tryd.ntmps50
  go_wp2_with (first | (rw [← HW.out]) | ((with_reducible apply wp_load_M rowS); (exact HA.out); (rfl)) | ((with_reducible apply wp_store_R (sc s) rowS); (exact ⟨HZ.out, sc_ok _⟩); (rfl); (rfl)) | ((with_reducible apply wp_load_R rowX); (exact HS.out.r); (rfl)))
  refine (sa_any s 27 A B 2 hA _).mono ?_
  rintro e w1 ⟨rfl, b1⟩
  have hT := HS.out.after b1
  have hf := hT.u.blk.frozen
  have hc := hT.u.cell 11
  have HT := Lib.hid (hT.setu (v := .int .u32 (s.r A)) rfl 11)
  rw [show (sc s).setIfInBounds 11 (.int .u32 (s.r A)) = sc { s with vec := s.r A } from rfl] at HT
  have hc' := hc.trans (show (sc s)[11]? = some (.int .u32 s.vec) from rfl)
  clear b1 hT q hc
  have HF := Lib.hid (HT.out.sett (sc_ok ({ s with vec := s.r A })))
  go_wp2_with (first | ((with_reducible apply wp_load_R rowS); (exact HT.out.u); (rfl)) | ((with_reducible apply wp_store_R (sc ({ s with vec := s.r A })) rowS); (exact ⟨HT.out.t, sc_ok _⟩); (rfl); (rfl)))
  exact bodyPost_ret (res_R rowS (fn := Tryd.f50) rfl _ HF.out.t rfl) rfl ⟨rfl, HF.out.b⟩
theorem set_3 (s : Sta) (A B : Nat) (hA : A < 8) (w : World) : Calls Tryd.prog 50 #[.agg (xc s ⟨27, A, B, 3⟩)] w fun e w' => e = .returned (.agg (sc { s with tab := s.r A })) ∧ Below w.heap.size w w' := by
  have HA := Lib.hid ((rx_new w s ⟨27, A, B, 3⟩).alloc (.cells #[Value.int .u32 0, Value.int .u32 0, Value.int .u32 0, Value.int .u32 0, Value.int .u32 0, Value.int .u32 0, Value.int .u32 0, Value.int .u32 0, Value.int .u32 0, Value.int .u32 0, Value.int .u32 0, Value.int .u32 0, Value.int .u32 0, Value.bool false, Value.bool false, Value.bool false] 25)).x0
  have HZ := Lib.hid (rs_newZ ((w.alloc (.cells (xc s ⟨27, A, B, 3⟩) 58)).alloc (.cells #[Value.int .u32 0, Value.int .u32 0, Value.int .u32 0, Value.int .u32 0, Value.int .u32 0, Value.int .u32 0, Value.int .u32 0, Value.int .u32 0, Value.int .u32 0, Value.int .u32 0, Value.int .u32 0, Value.int .u32 0, Value.int .u32 0, Value.bool false, Value.bool false, Value.bool false] 25)) (w.heap.size + 1 + 1) (by simp))
  obtain ⟨W, HW⟩ : ∃ W, Hid (W = (((w.alloc (.cells (xc s ⟨27, A, B, 3⟩) 58)).alloc (.cells #[Value.int .u32 0, Value.int .u32 0, Value.int .u32 0, Value.int .u32 0, Value.int .u32 0, Value.int .u32 0, Value.int .u32 0, Value.int .u32 0, Value.int .u32 0, Value.int .u32 0, Value.int .u32 0, Value.int .u32 0, Value.int .u32 0, Value.bool false, Value.bool false, Value.bool false] 25)).alloc (.cells #[Value.int .u32 0, Value.int .u32 0, Value.int .u32 0, Value.int .u32 0, Value.int .u32 0, Value.int .u32 0, Value.int .u32 0, Value.int .u32 0, Value.int .u32 0, Value.int .u32 0, Value.int .u32 0, Value.int .u32 0, Value.int .u32 0, Value.bool false, Value.bool false, Value.bool false] 25)).setRow (w.heap.size + 1 + 1) (sc s)) := ⟨_, rfl⟩
  have hS := S3.new w s ⟨27, A, B, 3⟩
  rw [← HW.out] at hS
  have q := hS.r.x
  have HS := Lib.hid hS
  clear hS
  go_enter Tryd.func50, Tryd.ntmps50
  go_wp2_with (first | (rw [← HW.out]) | ((with_reducible apply wp_load_M rowS); (exact HA.out); (rfl)) | ((with_reducible apply wp_store_R (sc s) rowS); (exact ⟨HZ.out, sc_ok _⟩); (rfl); (rfl)) | ((with_reducible apply wp_load_R rowX); (exact HS.out.r); (rfl)))
  refine (sa_any s 27 A B 3 hA _).mono ?_
  rintro e w1 ⟨rfl, b1⟩
  have hT := HS.out.after b1
  have hf := hT.u.blk.frozen
  have hc := hT.u.cell 12
  have HT := Lib.hid (hT.setu (v := .int .u32 (s.r A)) rfl 12)
  rw [show (sc s).setIfInBounds 12 (.int .u32 (s.r A)) = sc { s with tab := s.r A } from rfl] at HT
  have hc' := hc.trans (show (sc s)[12]? = some (.int .u32 s.tab) from rfl)
  clear b1 hT q hc
  have HF := Lib.hid (HT.out.sett (sc_ok ({ s with tab := s.r A })))
  go_wp2_with (first | ((with_reducible apply wp_load_R rowS); (exact HT.out.u); (rfl)) | ((with_reducible apply wp_store_R (sc ({ s with tab := s.r A })) rowS); (exact ⟨HT.out.t, sc_ok _⟩); (rfl); (rfl)))
  exact bodyPost_ret (res_R rowS (fn := Tryd.f50) rfl _ HF.out.t rfl) rfl ⟨rfl, HF.out.b⟩
theorem set_4b (s : Sta) (A B : Nat) (hA : A < 8) (w : World) : Calls Tryd.prog 50 #[.agg (xc s ⟨27, A, B, 4⟩)] w fun e w' => e = .returned (.agg (sc { s with pv := (bits .and .u32 (s.r A) 2 != 0), en := (bits .and .u32 (s.r A) 4 != 0) })) ∧ Below w.heap.size w w' := by
  have HA := Lib.hid ((rx_new w s ⟨27, A, B, 4⟩).alloc (.cells #[Value.int .u32 0, Value.int .u32 0, Value.int .u32 0, Value.int .u32 0, Value.int .u32 0, Value.int .u32 0, Value.int .u32 0, Value.int .u32 0, Value.int .u32 0, Value.int .u32 0, Value.int .u32 0, Value.int .u32 0, Value.int .u32 0, Value.bool false, Value.bool false, Value.bool false] 25)).x0
  have HZ := Lib.hid (rs_newZ ((w.alloc (.cells (xc s ⟨27, A, B, 4⟩) 58)).alloc (.cells #[Value.int .u32 0, Value.int .u32 0, Value.int .u32 0, Value.int .u32 0, Value.int .u32 0, Value.int .u32 0, Value.int .u32 0, Value.int .u32 0, Value.int .u32 0, Value.int .u32 0, Value.int .u32 0, Value.int .u32 0, Value.int .u32 0, Value.bool false, Value.bool false, Value.bool false] 25)) (w.heap.size + 1 + 1) (by simp))
  obtain ⟨W, HW⟩ : ∃ W, Hid (W = (((w.alloc (.cells (xc s ⟨27, A, B, 4⟩) 58)).alloc (.cells #[Value.int .u32 0, Value.int .u32 0, Value.int .u32 0, Value.int .u32 0, Value.int .u32 0, Value.int .u32 0, Value.int .u32 0, Value.int .u32 0, Value.int .u32 0, Value.int .u32 0, Value.int .u32 0, Value.int .u32 0, Value.int .u32 0, Value.bool false, Value.bool false, Value.bool false] 25)).alloc (.cells #[Value.int .u32 0, Value.int .u32 0, Value.int .u32 0, Value.int .u32 0, Value.int .u32 0, Value.int .u32 0, Value.int .u32 0, Value.int .u32 0, Value.int .u32 0, Value.int .u32 0, Value.int .u32 0, Value.int .u32 0, Value.int .u32 0, Value.bool false, Value.bool false, Value.bool false] 25)).setRow (w.heap.size + 1 + 1) (sc s)) := ⟨_, rfl⟩
  have hS := S3.new w s ⟨27, A, B, 4⟩
  rw [← HW.out] at hS
  have q := hS.r.x
  have HS := Lib.hid hS
  clear hS
  go_enter Tryd.func50, Tryd.ntmps50
  go_wp2_with (first | (rw [← HW.out]) | ((with_reducible apply wp_load_M rowS); (exact HA.out); (rfl)) | ((with_reducible apply wp_store_R (sc s) rowS); (exact ⟨HZ.out, sc_ok _⟩); (rfl); (rfl)) | ((with_reducible apply wp_load_R rowX); (exact HS.out.r); (rfl)))
  refine (sa_any s 27 A B 4 hA _).mono ?_
  rintro e w1 ⟨rfl, b1⟩
  have hT := HS.out.after b1
  have hf := hT.u.blk.frozen
  have hc := (hT.u.cell 14).trans (show (sc s)[14]? = some (.bool s.pv) from rfl)
  have HT1 := Lib.hid (hT.setu (v := .bool (bits .and .u32 (s.r A) 2 != 0)) rfl 14)
  clear b1 hT q
  go_wp2_with ((with_reducible apply wp_load_R rowX); (exact HT1.out.r); (rfl))
  refine (sa_any s 27 A B 4 hA _).mono ?_
  rintro e w2 ⟨rfl, b2⟩
  clear hf hc
  have hT := HT1.out.after b2
  have hf := hT.u.blk.frozen
  have hc := (hT.u.cell 15).trans (show ((sc s).setIfInBounds 14 (.bool (bits .and .u32 (s.r A) 2 != 0)))[15]? = some (.bool s.en) from rfl)
  have HT := Lib.hid (hT.setu (v := .bool (bits .and .u32 (s.r A) 4 != 0)) rfl 15)
  rw [show ((sc s).setIfInBounds 14 (.bool (bits .and .u32 (s.r A) 2 != 0))).setIfInBounds 15 (.bool (bits .and .u32 (s.r A) 4 != 0)) = sc { s with pv := (bits .and .u32 (s.r A) 2 != 0), en := (bits .and .u32 (s.r A) 4 != 0) } from rfl] at HT
  clear b2 hT
  have HF := Lib.hid (HT.out.sett (sc_ok ({ s with pv := (bits .and .u32 (s.r A) 2 != 0), en := (bits .and .u32 (s.r A) 4 != 0) })))
  go_wp2_with (first | ((with_reducible apply wp_load_R rowS); (exact HT.out.u); (rfl)) | ((with_reducible apply wp_store_R (sc ({ s with pv := (bits .and .u32 (s.r A) 2 != 0), en := (bits .and .u32 (s.r A) 4 != 0) })) rowS); (exact ⟨HT.out.t, sc_ok _⟩); (rfl); (rfl)))
  exact bodyPost_ret (res_R rowS (fn := Tryd.f50) rfl _ HF.out.t rfl) rfl ⟨rfl, HF.out.b⟩
theorem bit2 (a : Int) (ha : W32 a) : (bits .and .u32 a 2 != 0) = decide (a / 2 % 2 = 1) := by
  rw [and2 _ ha]
  by_cases h : a / 2 % 2 = 1
  · simp [h]
  · have : a / 2 % 2 = 0 := by omega
    simp [this]
theorem bit4 (a : Int) (ha : W32 a) : (bits .and .u32 a 4 != 0) = decide (a / 4 % 2 = 1) := by
  rw [and4 _ ha]
  by_cases h : a / 4 % 2 = 1
  · simp [h]
  · have : a / 4 % 2 = 0 := by omega
    simp [this]
theorem set_4 (s : Sta) (hs : s.Ok) (A B : Nat) (hA : A < 8) (w : World) : Calls Tryd.prog 50 #[.agg (xc s ⟨27, A, B, 4⟩)] w fun e w' => e = .returned (.agg (sc { s with pv := decide (s.r A / 2 % 2 = 1), en := decide (s.r A / 4 % 2 = 1) })) ∧ Below w.heap.size w w' := by
  have h := set_4b s A B hA w
  rw [bit2 _ (hs.r A), bit4 _ (hs.r A)] at h
  exact h
theorem set_other (s : Sta) (m : Int) (h0 : m ≠ 0) (h1 : m ≠ 1) (h2 : m ≠ 2) (h3 : m ≠ 3) (h4 : m ≠ 4) (A B : Nat) (hA : A < 8) (w : World) : Calls Tryd.prog 50 #[.agg (xc s ⟨27, A, B, m⟩)] w fun e w' => e = .returned (.agg (sc s)) ∧ Below w.heap.size w w' := by
  have HA := Lib.hid ((rx_new w s ⟨27, A, B, m⟩).alloc (.cells #[Value.int .u32 0, Value.int .u32 0, Value.int .u32 0, Value.int .u32 0, Value.int .u32 0, Value.int .u32 0, Value.int .u32 0, Value.int .u32 0, Value.int .u32 0, Value.int .u32 0, Value.int .u32 0, Value.int .u32 0, Value.int .u32 0, Value.bool false, Value.bool false, Value.bool false] 25)).x0
  have HZ := Lib.hid (rs_newZ ((w.alloc (.cells (xc s ⟨27, A, B, m⟩) 58)).alloc (.cells #[Value.int .u32 0, Value.int .u32 0, Value.int .u32 0, Value.int .u32 0, Value.int .u32 0, Value.int .u32 0, Value.int .u32 0, Value.int .u32 0, Value.int .u32 0, Value.int .u32 0, Value.int .u32 0, Value.int .u32 0, Value.int .u32 0, Value.bool false, Value.bool false, Value.bool false] 25)) (w.heap.size + 1 + 1) (by simp))
  obtain ⟨W, HW⟩ : ∃ W, Hid (W = (((w.alloc (.cells (xc s ⟨27, A, B, m⟩) 58)).alloc (.cells #[Value.int .u32 0, Value.int .u32 0, Value.int .u32 0, Value.int .u32 0, Value.int .u32 0, Value.int .u32 0, Value.int .u32 0, Value.int .u32 0, Value.int .u32 0, Value.int .u32 0, Value.int .u32 0, Value.int .u32 0, Value.int .u32 0, Value.bool false, Value.bool false, Value.bool false] 25)).alloc (.cells #[Value.int .u32 0, Value.int .u32 0, Value.int .u32 0, Value.int .u32 0, Value.int .u32 0, Value.int .u32 0, Value.int .u32 0, Value.int .u32 0, Value.int .u32 0, Value.int .u32 0, Value.int .u32 0, Value.int .u32 0, Value.int .u32 0, Value.bool false, Value.bool false, Value.bool false] 25)).setRow (w.heap.size + 1 + 1) (sc s)) := ⟨_, rfl⟩
  have hS := S3.new w s ⟨27, A, B, m⟩
  rw [← HW.out] at hS
  have q := hS.r.x
  have HS := Lib.hid hS
  clear hS
  go_enter Tryd.func50, Tryd.ntmps50
  have HF := Lib.hid (HS.out.sett (sc_ok s))
  go_wp2_with (first | (rw [← HW.out]) | ((with_reducible apply wp_load_M rowS); (exact HA.out); (rfl)) | ((with_reducible apply wp_store_R (sc s) rowS); (exact ⟨HZ.out, sc_ok _⟩); (rfl); (rfl)) | ((with_reducible apply wp_load_R rowS); (exact HS.out.u); (rfl)) | ((with_reducible apply wp_store_R (sc s) rowS); (exact ⟨HS.out.t, sc_ok _⟩); (rfl); (rfl)))
  exact bodyPost_ret (res_R rowS (fn := Tryd.f50) rfl _ HF.out.t rfl) rfl ⟨rfl, HF.out.b⟩
theorem set_any (s : Sta) (hs : s.Ok) (A B : Nat) (m : Int) (hA : A < 8) (w : World) : Calls Tryd.prog 50 #[.agg (xc s ⟨27, A, B, m⟩)] w fun e w' => e = .returned (.agg (sc (setS s m (s.r A)))) ∧ Below w.heap.size w w' := by
  unfold setS
  split
  · rename_i h; subst h; exact set_0 s A B hA w
  split
  · rename_i h; subst h; exact set_1 s A B hA w
  split
  · rename_i h; subst h; exact set_2 s A B hA w
  split
  · rename_i h; subst h; exact set_3 s A B hA w
  split
  · rename_i h; subst h; exact set_4 s hs A B hA w
  · exact set_other s m (by assumption) (by assumption) (by assumption) (by assumption) (by assumption) A B hA w
end Go.Proofs.YthjdfneibogcgaaDoor
