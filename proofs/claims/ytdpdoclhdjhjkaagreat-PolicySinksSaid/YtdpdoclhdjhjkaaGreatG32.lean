/-
  Layer 13: Of: a walk. Written by gen_of.py.
-/
import Derived.Test.YtdpdoclhdjhjkaaGreatG30
set_option linter.unusedVariables false
set_option linter.unusedSimpArgs false
namespace Go.Proofs.YtdpdoclhdjhjkaaGreat
open Go.RowKit
set_option maxHeartbeats 4000000
set_option maxRecDepth 100000
set_option linter.unusedVariables false
set_option linter.unusedSimpArgs false

def l5 (r : Ru) (o : Nat) : List Int := [r o, r (o + 1), r (o + 2), r (o + 3), r (o + 4)]
def setB (x : Int) : Bool := decide (x < 65536)
/-- May rules be? -/
def mayR (r : Ru) : Bool := decide (r 0 = 0) && decide (r 5 = 0) && (l5 r 0).all setB && (l5 r 5).all setB && decide (r 10 < 65536)
theorem l5_w32 {r : Ru} (h : RuW r) {o : Nat} (ho : o ≤ 5) : ∀ x ∈ l5 r o, W32 x := by
  intro x hx
  simp only [l5, List.mem_cons, List.not_mem_nil, or_false] at hx
  rcases hx with rfl | rfl | rfl | rfl | rfl
  · exact h o (by omega)
  · exact h (o + 1) (by omega)
  · exact h (o + 2) (by omega)
  · exact h (o + 3) (by omega)
  · exact h (o + 4) (by omega)
theorem us_5 {w : World} {B : Nat} {r : Ru} (h : Blk w B (ruC r) 67) : Us w (.slice (some ⟨B, 0, none⟩) 5 5) (l5 r 0) ∧ Us w (.slice (some ⟨B, 5, none⟩) 5 5) (l5 r 5) := by
  constructor
  · refine ⟨rfl, _, _, rfl, Nat.le_refl _, by simp [maxLen, l5], fun _ => ⟨B, 0, rfl, h.range 0 _ rfl⟩⟩
  · refine ⟨rfl, _, _, rfl, Nat.le_refl _, by simp [maxLen, l5], fun _ => ⟨B, 5, rfl, h.range 5 _ rfl⟩⟩
theorem ru_range {w : World} {B : Nat} {r : Ru} (h : Blk w B (ruC r) 67) : w.rangeAt B 0 (r5 r 0).toList ∧ w.rangeAt B 5 (r5 r 5).toList ∧ w.cell? ⟨B, 10, none⟩ = some (.int .u32 (r 10)) :=
  ⟨h.range 0 _ rfl, h.range 5 _ rfl, h.cell 10⟩
def OfP (w : World) (r : Ru) (e : Ending) (w' : World) : Prop := (mayR r = true → ∃ S, e = .returned (.tuple #[.pointer (some ⟨S, 0, none⟩), .int .i64 0]) ∧ Po w' S r ∧ w.heap.size ≤ S) ∧ (mayR r = false → e = .returned (.tuple #[.pointer none, .int .i64 2])) ∧ Below w.heap.size w w'
theorem OfP.no {w w' : World} {r : Ru} (h : mayR r = false) (hb : Below w.heap.size w w') : OfP w r (.returned (.tuple #[.pointer none, .int .i64 2])) w' := ⟨fun e => absurd (h.symm.trans e) (by decide), fun _ => rfl, hb⟩
theorem Of_z0 (r : Ru) (hr : RuW r) (w : World) (z0 : ¬ r 0 = 0) : Calls Tryz.prog 25 #[.agg (ruC r)] w fun e w' => OfP w r e w' := by
  have HN : Hid (mayR r = false) := Lib.hid (by unfold mayR; rw [decide_eq_false z0]; simp)
  have hbk := blk_new w (ruC r) 67
  have HB := Lib.hid (bel1 w (.cells (ruC r) 67))
  have HK := Lib.hid hbk
  have c0 : (w.alloc (.cells (ruC r) 67)).cell? ⟨w.heap.size, 0, none⟩ = some (.int .u32 (r 0)) := hbk.cell 0
  have c5 : (w.alloc (.cells (ruC r) 67)).cell? ⟨w.heap.size, 5, none⟩ = some (.int .u32 (r 5)) := hbk.cell 5
  have c10 : (w.alloc (.cells (ruC r) 67)).cell? ⟨w.heap.size, 10, none⟩ = some (.int .u32 (r 10)) := hbk.cell 10
  have HA1 := Lib.hid (are_any (us_5 hbk).1 (l5_w32 hr (by omega)))
  have HA2 := Lib.hid (are_any (us_5 hbk).2 (l5_w32 hr (by omega)))
  have hA3 := are_any (us_one (w.alloc (.cells (ruC r) 67)) (r 10)) (by simpa using hr 10 (by omega))
  rw [World.size_alloc] at hA3
  have HA3 := Lib.hid hA3
  have e1 : (l5 r 0).all (fun x => decide (x < 65536)) = (l5 r 0).all setB := rfl
  have e2 : (l5 r 5).all (fun x => decide (x < 65536)) = (l5 r 5).all setB := rfl
  have e3 : [r 10].all (fun x => decide (x < 65536)) = decide (r 10 < 65536) := by simp
  rw [e1] at HA1
  rw [e2] at HA2
  rw [e3] at HA3
  clear e1 e2 e3 hbk hA3 hr
  go_enter Tryz.func25, Tryz.ntmps25
  go_wp2
  refine L2.wp_scope_fwd 0 rfl ?_
  go_wp2
  go_step3
  refine ⟨rfl, ?_⟩
  go_wp2
  rw [Exit.noGoto_ret]
  go_ret2
  exact OfP.no HN.out HB.out
theorem Of_z5 (r : Ru) (hr : RuW r) (w : World) (z0 : r 0 = 0) (z5 : ¬ r 5 = 0) : Calls Tryz.prog 25 #[.agg (ruC r)] w fun e w' => OfP w r e w' := by
  have HN : Hid (mayR r = false) := Lib.hid (by unfold mayR; rw [decide_eq_false z5]; simp)
  have hbk := blk_new w (ruC r) 67
  have HB := Lib.hid (bel1 w (.cells (ruC r) 67))
  have HK := Lib.hid hbk
  have c0 : (w.alloc (.cells (ruC r) 67)).cell? ⟨w.heap.size, 0, none⟩ = some (.int .u32 (r 0)) := hbk.cell 0
  have c5 : (w.alloc (.cells (ruC r) 67)).cell? ⟨w.heap.size, 5, none⟩ = some (.int .u32 (r 5)) := hbk.cell 5
  have c10 : (w.alloc (.cells (ruC r) 67)).cell? ⟨w.heap.size, 10, none⟩ = some (.int .u32 (r 10)) := hbk.cell 10
  have HA1 := Lib.hid (are_any (us_5 hbk).1 (l5_w32 hr (by omega)))
  have HA2 := Lib.hid (are_any (us_5 hbk).2 (l5_w32 hr (by omega)))
  have hA3 := are_any (us_one (w.alloc (.cells (ruC r) 67)) (r 10)) (by simpa using hr 10 (by omega))
  rw [World.size_alloc] at hA3
  have HA3 := Lib.hid hA3
  have e1 : (l5 r 0).all (fun x => decide (x < 65536)) = (l5 r 0).all setB := rfl
  have e2 : (l5 r 5).all (fun x => decide (x < 65536)) = (l5 r 5).all setB := rfl
  have e3 : [r 10].all (fun x => decide (x < 65536)) = decide (r 10 < 65536) := by simp
  rw [e1] at HA1
  rw [e2] at HA2
  rw [e3] at HA3
  clear e1 e2 e3 hbk hA3 hr
  go_enter Tryz.func25, Tryz.ntmps25
  go_wp2
  refine L2.wp_scope_fwd 0 rfl ?_
  go_wp2
  go_step3
  refine ⟨rfl, ?_⟩
  go_wp2
  rw [Exit.noGoto_ret]
  go_ret2
  exact OfP.no HN.out HB.out
theorem Of_b1 (r : Ru) (hr : RuW r) (w : World) (z0 : r 0 = 0) (z5 : r 5 = 0) (b1 : (l5 r 0).all setB = false) : Calls Tryz.prog 25 #[.agg (ruC r)] w fun e w' => OfP w r e w' := by
  have HN : Hid (mayR r = false) := Lib.hid (by unfold mayR; rw [b1]; simp)
  have hbk := blk_new w (ruC r) 67
  have HB := Lib.hid (bel1 w (.cells (ruC r) 67))
  have HK := Lib.hid hbk
  have c0 : (w.alloc (.cells (ruC r) 67)).cell? ⟨w.heap.size, 0, none⟩ = some (.int .u32 (r 0)) := hbk.cell 0
  have c5 : (w.alloc (.cells (ruC r) 67)).cell? ⟨w.heap.size, 5, none⟩ = some (.int .u32 (r 5)) := hbk.cell 5
  have c10 : (w.alloc (.cells (ruC r) 67)).cell? ⟨w.heap.size, 10, none⟩ = some (.int .u32 (r 10)) := hbk.cell 10
  have HA1 := Lib.hid (are_any (us_5 hbk).1 (l5_w32 hr (by omega)))
  have HA2 := Lib.hid (are_any (us_5 hbk).2 (l5_w32 hr (by omega)))
  have hA3 := are_any (us_one (w.alloc (.cells (ruC r) 67)) (r 10)) (by simpa using hr 10 (by omega))
  rw [World.size_alloc] at hA3
  have HA3 := Lib.hid hA3
  have e1 : (l5 r 0).all (fun x => decide (x < 65536)) = (l5 r 0).all setB := rfl
  have e2 : (l5 r 5).all (fun x => decide (x < 65536)) = (l5 r 5).all setB := rfl
  have e3 : [r 10].all (fun x => decide (x < 65536)) = decide (r 10 < 65536) := by simp
  rw [e1] at HA1
  rw [e2] at HA2
  rw [e3] at HA3
  clear e1 e2 e3 hbk hA3 hr
  rw [b1] at HA1
  clear b1
  go_enter Tryz.func25, Tryz.ntmps25
  go_wp2
  refine L2.wp_scope_fwd 0 rfl ?_
  go_wp2_with fail
  refine HA1.out.mono ?_
  rintro e w1 ⟨rfl, rfl⟩
  go_wp2
  go_step3
  refine ⟨rfl, ?_⟩
  go_wp2
  rw [Exit.noGoto_ret]
  go_ret2
  exact OfP.no HN.out HB.out
theorem Of_b2 (r : Ru) (hr : RuW r) (w : World) (z0 : r 0 = 0) (z5 : r 5 = 0) (b1 : (l5 r 0).all setB = true) (b2 : (l5 r 5).all setB = false) : Calls Tryz.prog 25 #[.agg (ruC r)] w fun e w' => OfP w r e w' := by
  have HN : Hid (mayR r = false) := Lib.hid (by unfold mayR; rw [b2]; simp)
  have hbk := blk_new w (ruC r) 67
  have HB := Lib.hid (bel1 w (.cells (ruC r) 67))
  have HK := Lib.hid hbk
  have c0 : (w.alloc (.cells (ruC r) 67)).cell? ⟨w.heap.size, 0, none⟩ = some (.int .u32 (r 0)) := hbk.cell 0
  have c5 : (w.alloc (.cells (ruC r) 67)).cell? ⟨w.heap.size, 5, none⟩ = some (.int .u32 (r 5)) := hbk.cell 5
  have c10 : (w.alloc (.cells (ruC r) 67)).cell? ⟨w.heap.size, 10, none⟩ = some (.int .u32 (r 10)) := hbk.cell 10
  have HA1 := Lib.hid (are_any (us_5 hbk).1 (l5_w32 hr (by omega)))
  have HA2 := Lib.hid (are_any (us_5 hbk).2 (l5_w32 hr (by omega)))
  have hA3 := are_any (us_one (w.alloc (.cells (ruC r) 67)) (r 10)) (by simpa using hr 10 (by omega))
  rw [World.size_alloc] at hA3
  have HA3 := Lib.hid hA3
  have e1 : (l5 r 0).all (fun x => decide (x < 65536)) = (l5 r 0).all setB := rfl
  have e2 : (l5 r 5).all (fun x => decide (x < 65536)) = (l5 r 5).all setB := rfl
  have e3 : [r 10].all (fun x => decide (x < 65536)) = decide (r 10 < 65536) := by simp
  rw [e1] at HA1
  rw [e2] at HA2
  rw [e3] at HA3
  clear e1 e2 e3 hbk hA3 hr
  rw [b1] at HA1
  rw [b2] at HA2
  clear b1 b2
  go_enter Tryz.func25, Tryz.ntmps25
  go_wp2
  refine L2.wp_scope_fwd 0 rfl ?_
  go_wp2_with fail
  refine HA1.out.mono ?_
  rintro e w1 ⟨rfl, rfl⟩
  go_wp2_with fail
  refine HA2.out.mono ?_
  rintro e w1 ⟨rfl, rfl⟩
  go_wp2
  go_step3
  refine ⟨rfl, ?_⟩
  go_wp2
  rw [Exit.noGoto_ret]
  go_ret2
  exact OfP.no HN.out HB.out
theorem Of_b3 (r : Ru) (hr : RuW r) (w : World) (z0 : r 0 = 0) (z5 : r 5 = 0) (b1 : (l5 r 0).all setB = true) (b2 : (l5 r 5).all setB = true) (b3 : decide (r 10 < 65536) = false) : Calls Tryz.prog 25 #[.agg (ruC r)] w fun e w' => OfP w r e w' := by
  have HN : Hid (mayR r = false) := Lib.hid (by unfold mayR; rw [b3]; simp)
  have hbk := blk_new w (ruC r) 67
  have HB := Lib.hid (bel1 w (.cells (ruC r) 67))
  have HK := Lib.hid hbk
  have c0 : (w.alloc (.cells (ruC r) 67)).cell? ⟨w.heap.size, 0, none⟩ = some (.int .u32 (r 0)) := hbk.cell 0
  have c5 : (w.alloc (.cells (ruC r) 67)).cell? ⟨w.heap.size, 5, none⟩ = some (.int .u32 (r 5)) := hbk.cell 5
  have c10 : (w.alloc (.cells (ruC r) 67)).cell? ⟨w.heap.size, 10, none⟩ = some (.int .u32 (r 10)) := hbk.cell 10
  have HA1 := Lib.hid (are_any (us_5 hbk).1 (l5_w32 hr (by omega)))
  have HA2 := Lib.hid (are_any (us_5 hbk).2 (l5_w32 hr (by omega)))
  have hA3 := are_any (us_one (w.alloc (.cells (ruC r) 67)) (r 10)) (by simpa using hr 10 (by omega))
  rw [World.size_alloc] at hA3
  have HA3 := Lib.hid hA3
  have e1 : (l5 r 0).all (fun x => decide (x < 65536)) = (l5 r 0).all setB := rfl
  have e2 : (l5 r 5).all (fun x => decide (x < 65536)) = (l5 r 5).all setB := rfl
  have e3 : [r 10].all (fun x => decide (x < 65536)) = decide (r 10 < 65536) := by simp
  rw [e1] at HA1
  rw [e2] at HA2
  rw [e3] at HA3
  clear e1 e2 e3 hbk hA3 hr
  rw [b1] at HA1
  rw [b2] at HA2
  rw [b3] at HA3
  clear b1 b2 b3
  go_enter Tryz.func25, Tryz.ntmps25
  go_wp2
  refine L2.wp_scope_fwd 0 rfl ?_
  go_wp2_with fail
  refine HA1.out.mono ?_
  rintro e w1 ⟨rfl, rfl⟩
  go_wp2_with fail
  refine HA2.out.mono ?_
  rintro e w1 ⟨rfl, rfl⟩
  go_wp2_with fail
  refine HA3.out.mono ?_
  rintro e w1 ⟨rfl, rfl⟩
  go_wp2
  go_step3
  refine ⟨rfl, ?_⟩
  go_wp2
  rw [Exit.noGoto_ret]
  go_ret2
  exact OfP.no HN.out (HB.out.alloc (by simp) _)
theorem Of_ok (r : Ru) (hr : RuW r) (w : World) (z0 : r 0 = 0) (z5 : r 5 = 0) (b1 : (l5 r 0).all setB = true) (b2 : (l5 r 5).all setB = true) (b3 : decide (r 10 < 65536) = true) : Calls Tryz.prog 25 #[.agg (ruC r)] w fun e w' => OfP w r e w' := by
  have HN : Hid (mayR r = true) := Lib.hid (by unfold mayR; rw [b1, b2, b3, z0, z5]; rfl)
  have hbk := blk_new w (ruC r) 67
  have HB := Lib.hid (bel1 w (.cells (ruC r) 67))
  have HK := Lib.hid hbk
  have c0 : (w.alloc (.cells (ruC r) 67)).cell? ⟨w.heap.size, 0, none⟩ = some (.int .u32 (r 0)) := hbk.cell 0
  have c5 : (w.alloc (.cells (ruC r) 67)).cell? ⟨w.heap.size, 5, none⟩ = some (.int .u32 (r 5)) := hbk.cell 5
  have c10 : (w.alloc (.cells (ruC r) 67)).cell? ⟨w.heap.size, 10, none⟩ = some (.int .u32 (r 10)) := hbk.cell 10
  have HA1 := Lib.hid (are_any (us_5 hbk).1 (l5_w32 hr (by omega)))
  have HA2 := Lib.hid (are_any (us_5 hbk).2 (l5_w32 hr (by omega)))
  have hA3 := are_any (us_one (w.alloc (.cells (ruC r) 67)) (r 10)) (by simpa using hr 10 (by omega))
  rw [World.size_alloc] at hA3
  have HA3 := Lib.hid hA3
  have e1 : (l5 r 0).all (fun x => decide (x < 65536)) = (l5 r 0).all setB := rfl
  have e2 : (l5 r 5).all (fun x => decide (x < 65536)) = (l5 r 5).all setB := rfl
  have e3 : [r 10].all (fun x => decide (x < 65536)) = decide (r 10 < 65536) := by simp
  rw [e1] at HA1
  rw [e2] at HA2
  rw [e3] at HA3
  clear e1 e2 e3 hbk hA3 hr
  rw [b1] at HA1
  rw [b2] at HA2
  rw [b3] at HA3
  clear b1 b2 b3
  have hb1 : ∀ W, (Instr.build 140 #[(0, .agg #[.int .u32 (r 0), .int .u32 (r 1), .int .u32 (r 2), .int .u32 (r 3), .int .u32 (r 4)]), (1, .agg #[.int .u32 (r 5), .int .u32 (r 6), .int .u32 (r 7), .int .u32 (r 8), .int .u32 (r 9)]), (2, .int .u32 (r 10))]).run Tryz.prog W = .ok (.agg (ruC r)) W := fun W => by kernel_rfl
  have hb2 : ∀ W, (Instr.build 142 #[(0, .bool true), (1, .agg (ruC r))]).run Tryz.prog W = .ok (.agg (poC true r)) W := fun W => by kernel_rfl
  go_enter Tryz.func25, Tryz.ntmps25
  go_wp2
  refine L2.wp_scope_fwd 0 rfl ?_
  go_wp2_with fail
  refine HA1.out.mono ?_
  rintro e w1 ⟨rfl, rfl⟩
  go_wp2_with fail
  refine HA2.out.mono ?_
  rintro e w1 ⟨rfl, rfl⟩
  go_wp2_with fail
  refine HA3.out.mono ?_
  rintro e w1 ⟨rfl, rfl⟩
  have hk2 := HK.out.alloc (.cells #[.int .u32 (r 10)] 31)
  have k0 : ((w.alloc (.cells (ruC r) 67)).alloc (.cells #[.int .u32 (r 10)] 31)).cell? ⟨w.heap.size, 0, none⟩ = some (.int .u32 (r 0)) := hk2.cell 0
  have k1 : ((w.alloc (.cells (ruC r) 67)).alloc (.cells #[.int .u32 (r 10)] 31)).cell? ⟨w.heap.size, 1, none⟩ = some (.int .u32 (r 1)) := hk2.cell 1
  have k2 : ((w.alloc (.cells (ruC r) 67)).alloc (.cells #[.int .u32 (r 10)] 31)).cell? ⟨w.heap.size, 2, none⟩ = some (.int .u32 (r 2)) := hk2.cell 2
  have k3 : ((w.alloc (.cells (ruC r) 67)).alloc (.cells #[.int .u32 (r 10)] 31)).cell? ⟨w.heap.size, 3, none⟩ = some (.int .u32 (r 3)) := hk2.cell 3
  have k4 : ((w.alloc (.cells (ruC r) 67)).alloc (.cells #[.int .u32 (r 10)] 31)).cell? ⟨w.heap.size, 4, none⟩ = some (.int .u32 (r 4)) := hk2.cell 4
  have k5 : ((w.alloc (.cells (ruC r) 67)).alloc (.cells #[.int .u32 (r 10)] 31)).cell? ⟨w.heap.size, 5, none⟩ = some (.int .u32 (r 5)) := hk2.cell 5
  have k6 : ((w.alloc (.cells (ruC r) 67)).alloc (.cells #[.int .u32 (r 10)] 31)).cell? ⟨w.heap.size, 6, none⟩ = some (.int .u32 (r 6)) := hk2.cell 6
  have k7 : ((w.alloc (.cells (ruC r) 67)).alloc (.cells #[.int .u32 (r 10)] 31)).cell? ⟨w.heap.size, 7, none⟩ = some (.int .u32 (r 7)) := hk2.cell 7
  have k8 : ((w.alloc (.cells (ruC r) 67)).alloc (.cells #[.int .u32 (r 10)] 31)).cell? ⟨w.heap.size, 8, none⟩ = some (.int .u32 (r 8)) := hk2.cell 8
  have k9 : ((w.alloc (.cells (ruC r) 67)).alloc (.cells #[.int .u32 (r 10)] 31)).cell? ⟨w.heap.size, 9, none⟩ = some (.int .u32 (r 9)) := hk2.cell 9
  have k10 : ((w.alloc (.cells (ruC r) 67)).alloc (.cells #[.int .u32 (r 10)] 31)).cell? ⟨w.heap.size, 10, none⟩ = some (.int .u32 (r 10)) := hk2.cell 10
  have hz : ((w.alloc (.cells (ruC r) 67)).alloc (.cells #[.int .u32 (r 10)] 31)).heap.size = w.heap.size + 2 := by simp
  have HBe := Lib.hid (HB.out.alloc (by simp) (.cells #[.int .u32 (r 10)] 31))
  clear hk2 c0 c5 c10 z0 z5 HA1 HA2 HA3 HK HB
  generalize (w.alloc (.cells (ruC r) 67)).alloc (.cells #[.int .u32 (r 10)] 31) = w2 at *
  have HBf := Lib.hid (And.intro (HBe.out.alloc HBe.out.size (.cells (poC true r) 142)) (blk_new w2 (poC true r) 142))
  have HZ := Lib.hid hz
  clear hz
  go_wp2
  rw [L2.Fwd_ret]
  go_ret2
  exact ⟨fun _ => ⟨_, rfl, HBf.out.2, by have := HZ.out; omega⟩, fun e => absurd (HN.out.symm.trans e) (by decide), HBf.out.1⟩
theorem Of_any (r : Ru) (hr : RuW r) (w : World) : Calls Tryz.prog 25 #[.agg (ruC r)] w fun e w' => OfP w r e w' := by
  by_cases z0 : r 0 = 0
  · by_cases z5 : r 5 = 0
    · cases b1 : (l5 r 0).all setB with
      | false => exact Of_b1 r hr w z0 z5 b1
      | true =>
        cases b2 : (l5 r 5).all setB with
        | false => exact Of_b2 r hr w z0 z5 b1 b2
        | true =>
          cases b3 : decide (r 10 < 65536) with
          | false => exact Of_b3 r hr w z0 z5 b1 b2 b3
          | true => exact Of_ok r hr w z0 z5 b1 b2 b3
    · exact Of_z5 r hr w z0 z5
  · exact Of_z0 r hr w z0
end Go.Proofs.YtdpdoclhdjhjkaaGreat
