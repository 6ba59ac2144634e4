/-
  Layer 10: the laws' known answers: a walk.
-/
import Derived.Test.YthjdfneibogcgaaDoorDone
import Derived.Test.YthjdfneibogcgaaDoorTrap
namespace Go.Proofs.YthjdfneibogcgaaDoor
open Go.RowKit
set_option maxHeartbeats 16000000
set_option linter.unusedVariables false
set_option linter.unusedSimpArgs false

def S1 : Sta := ⟨fun _ => 0, 0, 0, 0, 0, 0, true, false, false⟩
def K1 : Sta := ⟨fun k => if k = 1 then 5 else 0, 4, 0, 0, 0, 0, true, false, false⟩
theorem S1_ok : S1.Ok := ⟨fun _ => by unfold S1 W32; dsimp only; omega, ⟨by decide, by decide⟩, ⟨by decide, by decide⟩, ⟨by decide, by decide⟩, ⟨by decide, by decide⟩, ⟨by decide, by decide⟩⟩
theorem K1_ok : K1.Ok := ⟨fun k => by unfold K1 W32; dsimp only; split <;> omega, ⟨by decide, by decide⟩, ⟨by decide, by decide⟩, ⟨by decide, by decide⟩, ⟨by decide, by decide⟩, ⟨by decide, by decide⟩⟩
theorem known_s : sc (doneS S1 (decV 51380229) 0) = sc K1 := by kernel_rfl
theorem known_p : wnt (planS K1 (decV 0)) = #[.int .i64 1, .int .u32 1, .int .u32 0, .int .i64 0, .int .i64 0, .int .u32 0] := by kernel_rfl
set_option maxRecDepth 20000 in
theorem known_any (w : World) (h : Env w) : Calls Tryd.prog 11 #[] w fun e w' => e = .returned (.bool true) ∧ Below w.heap.size w w' := by
  have hd := Done_any S1 S1_ok 51380229 0 ⟨by decide, by decide⟩ ⟨by decide, by decide⟩ w h
  rw [known_s] at hd
  have HD := Lib.hid hd
  have HP := Lib.hid (fun W (hW : Env W) => Plan_any K1 K1_ok 0 ⟨by decide, by decide⟩ W hW)
  rw [known_p] at HP
  have HE := Lib.hid h
  clear hd h
  go_enter Tryd.func11, Tryd.ntmps11
  go_wp2_with fail
  refine HD.out.mono ?_
  rintro e w1 ⟨rfl, b1⟩
  obtain ⟨W1, HW1⟩ : ∃ W1, Hid (W1 = w1.alloc (.cells (sc K1) 25)) := ⟨_, rfl⟩
  have HB : Hid (Below w.heap.size w W1) := Lib.hid (by rw [HW1.out]; exact b1.alloc b1.size _)
  have RK : Hid (Rf 25 16 W1 w1.heap.size (sc K1)) := Lib.hid (by rw [HW1.out]; exact (sc_ok K1).new 25 w1)
  have HE1 := Lib.hid (HE.out.below HB.out)
  have q1 : W1.cell? ⟨w1.heap.size, 1, none⟩ = some (.int .u32 5) := (RK.out.cell 1).trans rfl
  have q2 : W1.cell? ⟨w1.heap.size, 8, none⟩ = some (.int .u32 4) := (RK.out.cell 8).trans rfl
  clear b1 HE HD
  go_wp2_with (first | ((with_reducible refine wp_store_Rn (sc K1) rowS ?_ ?_ ?_ ?_); (exact ⟨rfl, sc_ok _⟩); (rfl); (rfl); (rw [← HW1.out])) | ((with_reducible refine wp_load_Rg ?_ rowS RK.out ?_ ?_); (kernel_rfl); (rfl)))
  refine (HP.out _ HE1.out).mono ?_
  rintro e w2 ⟨rfl, b2⟩
  have HB2 := Lib.hid (HB.out.trans (b2.mono HB.out.size))
  clear b2 HB q1 q2 RK HE1 HP
  have hfld : ∀ w : World, (Instr.field 42 (.agg #[.int .i64 1, .int .u32 1, .int .u32 0, .int .i64 0, .int .i64 0, .int .u32 0]) 0).run Tryd.prog w = .ok (.int .i64 1) w := fun w => by kernel_rfl
  go_wp2_with fail
  refine (Trapped_any _).mono ?_
  rintro e w3 ⟨⟨v, rfl, hv⟩, b3⟩
  have HB3 := Lib.hid (HB2.out.trans (b3.mono HB2.out.size))
  obtain ⟨ao, c, rfl, _, _⟩ := hv.shape
  clear b3 hv HB2 hfld
  go_wp2
  go_ret
  exact ⟨rfl, HB3.out⟩
end Go.Proofs.YthjdfneibogcgaaDoor
