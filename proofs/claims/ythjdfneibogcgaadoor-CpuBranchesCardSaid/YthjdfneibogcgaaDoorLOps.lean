/-
  Layer 10: CpuOps, CpuPorts, CpuSums, CpuBranches: walks. Written by gen_tq.py.
-/
import Derived.Test.YthjdfneibogcgaaDoorOne
namespace Go.Proofs.YthjdfneibogcgaaDoor
open Go.RowKit
set_option maxHeartbeats 16000000
set_option linter.unusedVariables false
set_option linter.unusedSimpArgs false

theorem bw (o : BinOp) (a b : Int) : W32 (bits o .u32 a b) := ⟨bits_lo_u32 o a b, by have := bits_hi_u32 o a b; omega⟩
theorem md_w32 (x : Int) : W32 (x % 4294967296) := ⟨by omega, by omega⟩
theorem u8_of {a : Int} (h : (Lit.int .u8 a).wf = true) : 0 ≤ a ∧ a < 256 := by
  simp [Lit.wf, IntKind.min, IntKind.max, IntKind.signed, IntKind.bits] at h
  omega
theorem u16_of {a : Int} (h : (Lit.int .u16 a).wf = true) : 0 ≤ a ∧ a < 65536 := by
  simp [Lit.wf, IntKind.min, IntKind.max, IntKind.signed, IntKind.bits] at h
  omega
set_option maxRecDepth 100000 in
theorem CpuOps_walk (s : Sta) (hs : s.Ok) (r : Int) (hr : (Lit.int .u8 r).wf = true) (m : Int) (hm : (Lit.int .u16 m).wf = true) (w : World) (h : Env w ∧ Nam w) : Calls Tryd.prog 5 #[.agg (sc s), .int .u8 r, .int .u16 m] w fun e w' => e = .returned (.bool true) ∧ Below w.heap.size w w' := by
  have HE := Lib.hid (fun W (hb : Below w.heap.size w W) => (show Env W ∧ Nam W from ⟨h.1.below hb, h.2.below hb⟩))
  have HO := Lib.hid (fun W (x : Td) (hx : x.Ok) (hb : Below w.heap.size w W) => one_any s hs x hx W ⟨h.1.below hb, h.2.below hb⟩)
  clear h
  have HB := Lib.hid (bel1 w (.cells (sc s) 25))
  have RS := Lib.hid (rs_new w s)
  obtain ⟨hr0, hr1⟩ := u8_of hr
  obtain ⟨hm0, hm1⟩ := u16_of hm
  clear hr hm
  go_enter Tryd.func5, Tryd.ntmps5
  go_wp2
  go_loopw [7] (fun i wr => ∃ k : Nat, k ≤ 30 ∧ i = .int .u32 (k : Int) ∧ Hid (Below w.heap.size w wr) ∧ Hid (Rf 25 16 wr w.heap.size (sc s))) (fun i _ => 31 - (intOf i).toNat)
  case atStart => exact ⟨0, by omega, rfl, HB.out, RS.out⟩
  case round =>
    obtain ⟨k, hk, rfl, HBl, HR⟩ := hrel
    by_cases hlt : k < 30
    · have hi : (k : Int) < 30 := by omega
      go_wp2_with (first | ((with_reducible refine wp_load_R rowS HR.out ?_ ?_); (kernel_rfl)) | ((with_reducible refine wp_load_Rg ?_ rowS HR.out ?_ ?_); (kernel_rfl); (rfl)))
      refine (HO.out _ ⟨_, _⟩ ⟨by (try dsimp only); first | exact bw _ _ _ | exact md_w32 _ | exact ⟨by omega, by omega⟩, by (try dsimp only); first | exact ⟨by omega, by omega⟩⟩ HBl.out).mono ?_
      rintro e w1 ⟨rfl, b1⟩
      have HB1 := Lib.hid (HBl.out.trans (b1.mono HBl.out.size))
      have HR1 := Lib.hid (HR.out.below b1)
      clear b1
      go_wp2_with (first | ((with_reducible refine wp_load_R rowS HR1.out ?_ ?_); (kernel_rfl)) | ((with_reducible refine wp_load_Rg ?_ rowS HR1.out ?_ ?_); (kernel_rfl); (rfl)))
      refine (HO.out _ ⟨_, _⟩ ⟨by (try dsimp only); first | exact bw _ _ _ | exact md_w32 _ | exact ⟨by omega, by omega⟩, by (try dsimp only); first | exact ⟨by omega, by omega⟩⟩ HB1.out).mono ?_
      rintro e w2 ⟨rfl, b2⟩
      have HB2 := Lib.hid (HB1.out.trans (b2.mono HB1.out.size))
      have HR2 := Lib.hid (HR1.out.below b2)
      clear b2
      go_wp2_with (first | ((with_reducible refine wp_load_R rowS HR2.out ?_ ?_); (kernel_rfl)) | ((with_reducible refine wp_load_Rg ?_ rowS HR2.out ?_ ?_); (kernel_rfl); (rfl)))
      refine (HO.out _ ⟨_, _⟩ ⟨by (try dsimp only); first | exact bw _ _ _ | exact md_w32 _ | exact ⟨by omega, by omega⟩, by (try dsimp only); first | exact ⟨by omega, by omega⟩⟩ HB2.out).mono ?_
      rintro e w3 ⟨rfl, b3⟩
      have HB3 := Lib.hid (HB2.out.trans (b3.mono HB2.out.size))
      have HR3 := Lib.hid (HR2.out.below b3)
      clear b3
      go_wp2_with (first | ((with_reducible refine wp_load_R rowS HR3.out ?_ ?_); (kernel_rfl)) | ((with_reducible refine wp_load_Rg ?_ rowS HR3.out ?_ ?_); (kernel_rfl); (rfl)))
      refine (HO.out _ ⟨_, _⟩ ⟨by (try dsimp only); first | exact bw _ _ _ | exact md_w32 _ | exact ⟨by omega, by omega⟩, by (try dsimp only); first | exact ⟨by omega, by omega⟩⟩ HB3.out).mono ?_
      rintro e w4 ⟨rfl, b4⟩
      have HB4 := Lib.hid (HB3.out.trans (b4.mono HB3.out.size))
      have HR4 := Lib.hid (HR3.out.below b4)
      clear b4
      go_wp2
      refine ⟨⟨k + 1, by omega, by go_num, HB4, HR4⟩, ?_⟩
      simp [intOf]; omega
    · obtain rfl : k = 30 := by omega
      go_wp2_with fail
      refine (known_any _ (HE.out _ HBl.out).1).mono ?_
      rintro e w1 ⟨rfl, b1⟩
      have HB1 := Lib.hid (HBl.out.trans (b1.mono HBl.out.size))
      clear b1
      go_wp2
      go_ret
      exact ⟨rfl, HB1.out⟩
set_option maxRecDepth 100000 in
theorem CpuPorts_walk (s : Sta) (hs : s.Ok) (r : Int) (hr : (Lit.int .u8 r).wf = true) (w : World) (h : Env w ∧ Nam w) : Calls Tryd.prog 6 #[.agg (sc s), .int .u8 r] w fun e w' => e = .returned (.bool true) ∧ Below w.heap.size w w' := by
  have HE := Lib.hid (fun W (hb : Below w.heap.size w W) => (show Env W ∧ Nam W from ⟨h.1.below hb, h.2.below hb⟩))
  have HO := Lib.hid (fun W (x : Td) (hx : x.Ok) (hb : Below w.heap.size w W) => one_any s hs x hx W ⟨h.1.below hb, h.2.below hb⟩)
  clear h
  have HB := Lib.hid (bel1 w (.cells (sc s) 25))
  have RS := Lib.hid (rs_new w s)
  obtain ⟨hr0, hr1⟩ := u8_of hr
  clear hr
  go_enter Tryd.func6, Tryd.ntmps6
  go_wp2
  go_loopw [5] (fun i wr => ∃ k : Nat, k ≤ 28 ∧ 22 ≤ k ∧ i = .int .u32 (k : Int) ∧ Hid (Below w.heap.size w wr) ∧ Hid (Rf 25 16 wr w.heap.size (sc s))) (fun i _ => 31 - (intOf i).toNat)
  case atStart => exact ⟨22, by omega, by omega, rfl, HB.out, RS.out⟩
  case round =>
    obtain ⟨k, hk, hk0, rfl, HBl, HR⟩ := hrel
    by_cases hlt : k < 28
    · have hi : (k : Int) < 28 := by omega
      go_wp2
      go_loopw [6] (fun j wr => ∃ n : Nat, n ≤ 15 ∧ j = .int .i64 (n : Int) ∧ Hid (Below w.heap.size w wr) ∧ Hid (Rf 25 16 wr w.heap.size (sc s))) (fun j _ => 16 - (intOf j).toNat)
      case atStart => exact ⟨0, by omega, rfl, HBl, HR⟩
      case round =>
        obtain ⟨n, hn, rfl, HBl, HR⟩ := hrel
        by_cases hlt2 : n < 15
        · have hj : (n : Int) < 15 := by omega
          go_wp2_with (first | ((with_reducible refine wp_load_R rowS HR.out ?_ ?_); (kernel_rfl)) | ((with_reducible refine wp_load_Rg ?_ rowS HR.out ?_ ?_); (kernel_rfl); (rfl)))
          refine (HO.out _ ⟨_, _⟩ ⟨by (try dsimp only); first | exact bw _ _ _ | exact md_w32 _ | exact ⟨by omega, by omega⟩, by (try dsimp only); first | exact ⟨by omega, by omega⟩⟩ HBl.out).mono ?_
          rintro e w1 ⟨rfl, b1⟩
          have HB1 := Lib.hid (HBl.out.trans (b1.mono HBl.out.size))
          have HR1 := Lib.hid (HR.out.below b1)
          clear b1
          go_wp2
          refine ⟨⟨n + 1, by omega, by go_num, HB1, HR1⟩, ?_⟩
          simp [intOf]; omega
        · obtain rfl : n = 15 := by omega
          go_wp2
          refine ⟨⟨k + 1, by omega, by omega, by go_num, HBl, HR⟩, ?_⟩
          simp [intOf]; omega
    · obtain rfl : k = 28 := by omega
      go_wp2_with fail
      refine (known_any _ (HE.out _ HBl.out).1).mono ?_
      rintro e w1 ⟨rfl, b1⟩
      have HB1 := Lib.hid (HBl.out.trans (b1.mono HBl.out.size))
      clear b1
      go_wp2
      go_ret
      exact ⟨rfl, HB1.out⟩
end Go.Proofs.YthjdfneibogcgaaDoor
