/-
  Layer 10: what the small methods of a step of package cpu give: walks.
-/
import Derived.Test.YthjdfneibogcgaaDoorRegion
import Derived.Test.YthjdfneibogcgaaDoorWLeaf
namespace Go.Proofs.YthjdfneibogcgaaDoor
open Go.RowKit
set_option maxHeartbeats 4000000
set_option linter.unusedVariables false
set_option linter.unusedSimpArgs false

theorem Rf.x {w : World} {R : Nat} {s : Sta} {op a b m : Int} (h : Rf 58 20 w R (xc s ⟨op, a, b, m⟩)) : w.cell? ⟨R, 8, none⟩ = some (.int .u32 s.pc) ∧ w.cell? ⟨R, 9, none⟩ = some (.int .u32 s.epc) ∧ w.cell? ⟨R, 10, none⟩ = some (.int .u32 s.cs) ∧
    w.cell? ⟨R, 11, none⟩ = some (.int .u32 s.vec) ∧ w.cell? ⟨R, 12, none⟩ = some (.int .u32 s.tab) ∧ w.cell? ⟨R, 13, none⟩ = some (.bool s.su) ∧ w.cell? ⟨R, 14, none⟩ = some (.bool s.pv) ∧ w.cell? ⟨R, 15, none⟩ = some (.bool s.en) ∧
    w.cell? ⟨R, 16, none⟩ = some (.int .i64 op) ∧ w.cell? ⟨R, 17, none⟩ = some (.int .i64 a) ∧ w.cell? ⟨R, 18, none⟩ = some (.int .i64 b) ∧ w.cell? ⟨R, 19, none⟩ = some (.int .i64 m) :=
  ⟨h.cell 8, h.cell 9, h.cell 10, h.cell 11, h.cell 12, h.cell 13, h.cell 14, h.cell 15, h.cell 16, h.cell 17, h.cell 18, h.cell 19⟩
theorem Rf.xr {w : World} {R : Nat} {s : Sta} {i : Ins} (h : Rf 58 20 w R (xc s i)) {k : Nat} (hk : k < 8) : w.cell? ⟨R, k, none⟩ = some (.int .u32 (s.r k)) := (h.cell k).trans (xc_reg s i hk)
theorem rx_new (w : World) (s : Sta) (i : Ins) : Rf 58 20 (w.alloc (.cells (xc s i) 58)) w.heap.size (xc s i) := ⟨blk_new _ _ _, rfl, xc_one s i⟩
theorem bel1 (w : World) (o : Obj) : Below w.heap.size w (w.alloc o) := (Below.refl _ _).alloc (Nat.le_refl _) _

theorem sa_any (s : Sta) (op : Int) (A B : Nat) (m : Int) (hA : A < 8) (w : World) : Calls Tryd.prog 53 #[.agg (xc s ⟨op, A, B, m⟩)] w fun e w' => e = .returned (.int .u32 (s.r A)) ∧ Below w.heap.size w w' := by
  have q := (rx_new w s ⟨op, A, B, m⟩).x
  have q1 := (rx_new w s ⟨op, A, B, m⟩).xr hA
  go_enter Tryd.func53, Tryd.ntmps53
  go_wp2
  go_ret
  exact ⟨rfl, bel1 _ _⟩
theorem sb_any (s : Sta) (op : Int) (A B : Nat) (m : Int) (hB : B < 8) (w : World) : Calls Tryd.prog 66 #[.agg (xc s ⟨op, A, B, m⟩)] w fun e w' => e = .returned (.int .u32 (s.r B)) ∧ Below w.heap.size w w' := by
  have q := (rx_new w s ⟨op, A, B, m⟩).x
  have q1 := (rx_new w s ⟨op, A, B, m⟩).xr hB
  go_enter Tryd.func66, Tryd.ntmps66
  go_wp2
  go_ret
  exact ⟨rfl, bel1 _ _⟩
theorem imm_any (s : Sta) (op : Int) (A B : Nat) (m : Int) (w : World) : Calls Tryd.prog 67 #[.agg (xc s ⟨op, A, B, m⟩)] w fun e w' => e = .returned (.int .u32 (immW m)) ∧ Below w.heap.size w w' := by
  have q := (rx_new w s ⟨op, A, B, m⟩).x
  go_enter Tryd.func67, Tryd.ntmps67
  go_wp2
  go_ret
  exact ⟨by simp [immW], bel1 _ _⟩
theorem next_any (s : Sta) (i : Ins) (w : World) : Calls Tryd.prog 72 #[.agg (xc s i)] w fun e w' => e = .returned (.int .u32 ((s.pc + 4) % 4294967296)) ∧ Below w.heap.size w w' := by
  obtain ⟨op, A, B, m⟩ := i
  have q := (rx_new w s ⟨op, A, B, m⟩).x
  go_enter Tryd.func72, Tryd.ntmps72
  go_wp2_with (go_at_call 65; refine (Add_any _ _ _).mono ?_; rintro e w' ⟨rfl, rfl⟩)
  go_ret
  exact ⟨rfl, bel1 _ _⟩
theorem lowest_any (a : Int) (ha : W32 a) (w : World) : Calls Tryd.prog 54 #[.int .u32 a] w fun e w' => e = .returned (.int .u32 (a % 256)) ∧ Below w.heap.size w w' := by
  have hq : byt a 0 = a % 256 := byt0 a
  have hr := byt_range a 0
  rw [hq] at hr
  have HC := Lib.hid (Byte_any a 0 ha ⟨by omega, by omega⟩ w)
  rw [show ((0 : Int) % 4).toNat = 0 from rfl, hq] at HC
  obtain ⟨hr0, hr1⟩ := hr
  clear hq
  go_enter Tryd.func54, Tryd.ntmps54
  go_wp2_with fail
  refine HC.out.mono ?_
  rintro e w1 ⟨rfl, b1⟩
  have HB := Lib.hid b1
  clear b1
  go_wp2
  go_ret
  exact ⟨by simp, HB.out⟩
end Go.Proofs.YthjdfneibogcgaaDoor
