/-
  Layer 8: works of the statements: a disk's known answers: walk.
-/
import Derived.Test.YtbinpapgfddafaaRef
namespace Go.Proofs.Ytbinpapgfddafaa
open Go.RowKit
set_option maxHeartbeats 1000000
set_option linter.unusedVariables false
set_option linter.unusedSimpArgs false

def wx : List Int := [1, 2] ++ List.replicate 62 0
theorem wx_len : wx.length = 64 := rfl
theorem wx_byt : Byt wx := by
  intro x hx
  simp [wx] at hx
  omega
set_option maxRecDepth 100000 in
theorem works_any (w : World) : Calls Try.prog 9 #[] w fun e w' => e = .returned (.bool true) ∧ Below w.heap.size w w' := by
  have hz := zero_arr
  have r1 : wrR (nw 3) 2 = 0 := by decide
  have r2 : rdE (wrE (nw 3) 2 wx) 2 = wx := by decide
  have r3 : wrR (wrE (nw 3) 2 wx) 2 = 0 := by decide
  have r4 : wrR (wrE (nw 3) 2 wx) 3 = 4 := by decide
  have r5 : (rdE (wrE (nw 3) 2 wx) 3).length = 64 := by decide
  go_enter Try.func9, Try.ntmps9
  go_wp2_with fail
  refine (New_any w (P := 3) (by omega) (by omega)).mono ?_
  rintro e w1 ⟨S, rfl, F, hd, hF, hb1⟩
  have HW := Lib.hid (Write_any hd 2 wx_len wx_byt)
  have HB1 := Lib.hid hb1
  have HF := Lib.hid hF
  clear hd hF hb1
  go_wp2_with fail
  have hwx : ((sc nou).setIfInBounds 0 (.int .u8 1)).setIfInBounds 1 (.int .u8 2) = sc wx := by rw [sc_set, sc_set]; rfl
  rw [hwx]
  rw [r1] at HW
  refine HW.out.mono ?_
  rintro e w2 ⟨rfl, hd2, ht2⟩
  have HR1 := Lib.hid (Read_any hd2 2)
  have HD2 := Lib.hid hd2
  have HB2 := Lib.hid (HB1.out.trans (ht2.below HB1.out.size HF.out))
  rw [r2, r3] at HR1
  clear hd2 ht2 HW HF
  go_wp2_with fail
  refine HR1.out.mono ?_
  rintro e w3 ⟨rfl, hb3⟩
  have HB3 := Lib.hid (HB2.out.trans (hb3.mono HB2.out.size))
  have HD3 := Lib.hid ((HD2.out.below hb3).alloc (.cells (sc wx) 37))
  have HX := Lib.hid (ba_new w3 wx_len)
  have HR2 := Lib.hid (Read_any HD3.out 3)
  rw [r4] at HR2
  generalize rdE (wrE (nw 3) 2 wx) 3 = x5 at HR2 r5
  clear hb3 HD2
  go_wp2_with (first | ((with_reducible apply wp_store_An wx); (exact ⟨nou_len, wx_len⟩); (rfl); (rfl)))
  refine HR2.out.mono ?_
  rintro e w4 ⟨rfl, hb4⟩
  have HB4 := Lib.hid ((HB3.out.alloc HB3.out.size (.cells (sc wx) 37)).trans (hb4.mono (by have := HB3.out.size; simp; omega)))
  have HX4 := Lib.hid ((HX.out.below hb4).alloc (.cells (sc x5) 37))
  have HS := Lib.hid (Sectors_any ((HD3.out.below hb4).alloc (.cells (sc x5) 37)))
  have hq : ∀ W, (binOp .eql 37 (.agg (sc wx)) (.agg (sc wx))).run Try.prog W = .ok (.bool true) W := fun W => by rw [eql_arr _ _ wx_len wx_len, decide_eq_true rfl]
  have hgd := guard_arr .eql
  clear hb4 HX HD3
  go_wp2_with (first | ((with_reducible apply wp_store_An x5); (exact ⟨nou_len, r5⟩); (rfl); (rfl)) | (go_at_call 12; refine (num_any _ _).mono ?_; rintro e w' ⟨rfl, rfl⟩) | ((with_reducible apply wp_load_Ag); (kernel_rfl); (exact HX4.out); (rfl)) | (go_at_call 24; refine (HS.out).mono ?_; rintro e w' ⟨rfl, rfl⟩))
  go_ret
  exact ⟨rfl, HB4.out.alloc HB4.out.size _⟩
end Go.Proofs.Ytbinpapgfddafaa
