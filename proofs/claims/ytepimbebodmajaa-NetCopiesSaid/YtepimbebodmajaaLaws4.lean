/-
  Layer 9: the walk of NetFull. Written by gen_laws4.py.
-/
import Derived.Test.YtepimbebodmajaaLaws3
namespace Go.Proofs.Ytepimbebodmajaa
open Go.RowKit
set_option maxHeartbeats 16000000
set_option linter.unusedVariables false
set_option linter.unusedSimpArgs false

/-- i packets p, of which j are taken. -/
def fuN (p : List Int) (i j : Nat) : Nt := ⟨List.replicate i p, j, []⟩
theorem tot_rep (p : List Int) : ∀ i, tot (List.replicate i p) = i * p.length
  | 0 => by simp [tot]
  | i + 1 => by
    have h := tot_rep p i
    rw [List.replicate_succ', tot_snoc, h, Nat.succ_mul]
theorem fuN_wt (p : List Int) (i j : Nat) : (fuN p i j).wt.length = i - j := by simp [fuN, Nt.wt]
theorem fuN_sz (p : List Int) (i j : Nat) : (fuN p i j).sz = i := by simp [fuN, Nt.sz]
theorem fuN_may {p : List Int} (hp : p.length ≤ 64) (i j : Nat) : (fuN p i j).mayP p ↔ i - j < 256 := by
  unfold Nt.mayP; rw [fuN_wt]; omega
theorem fuN_push {p : List Int} (hp : p.length ≤ 64) {i j : Nat} (h : i - j < 256) : (fuN p i j).pushed p = fuN p (i + 1) j ∧ (fuN p i j).pushN p = i * p.length ∧ (fuN p i j).pushE p = 0 := by
  have hm := (fuN_may hp i j).2 h
  refine ⟨?_, ?_, ?_⟩
  · unfold Nt.pushed; rw [if_pos hm]; simp [fuN, List.replicate_succ']
  · unfold Nt.pushN; rw [if_pos hm]; exact tot_rep p i
  · unfold Nt.pushE; rw [if_pos hm]
theorem fuN_full {p : List Int} (hp : p.length ≤ 64) {i j : Nat} (h : ¬ i - j < 256) : (fuN p i j).pushed p = fuN p i j ∧ (fuN p i j).pushN p = 0 ∧ (fuN p i j).pushE p = 3 := by
  have hm : ¬ (fuN p i j).mayP p := fun e => h ((fuN_may hp i j).1 e)
  refine ⟨?_, ?_, ?_⟩
  · unfold Nt.pushed; rw [if_neg hm]
  · unfold Nt.pushN; rw [if_neg hm]
  · unfold Nt.pushE; rw [if_neg hm]
theorem fuN_took {p : List Int} {i j : Nat} (h : j < i) : (fuN p i j).took = fuN p i (j + 1) ∧ (fuN p i j).takeY = true := by
  have hl : (fuN p i j).tk < (fuN p i j).cm.length := by simpa [fuN] using h
  exact ⟨by unfold Nt.took; rw [if_pos hl]; rfl, by unfold Nt.takeY; simpa using hl⟩
theorem fuN_ok {p : List Int} (hp : p.length ≤ 64) (hb : Byt p) {i j : Nat} (h : j ≤ i) (h2 : i - j ≤ 256) : (fuN p i j).Ok := by
  have hw := fuN_wt p i j
  exact ⟨by simpa [fuN] using h, by omega, fun x hx => by obtain rfl : x = p := by simp [fuN] at hx; exact hx.2
                                                          exact hp, fun x hx => by simp [fuN] at hx⟩
set_option maxRecDepth 100000 in
theorem NetFull_walk (pv : Value) (p : List Int) (t : Int) (w : World) (hp : NumsIn .u8 w pv p) : Calls Try.prog 5 #[pv, .int .i64 t] w fun e w' => e = .returned (.bool true) ∧ Below w.heap.size w w' := by
  have HP := Lib.hid hp
  obtain ⟨po, pc, rfl, -, hpm, -⟩ := hp.form
  have HB := Lib.hid hp.byt
  unfold maxLen at hpm
  clear hp
  by_cases hpl : (64 : Int) < p.length
  · go_enter Try.func5, Try.ntmps5
    go_wp2_with (go_at_call 10; refine (works_any _).mono ?_; rintro e w' ⟨rfl, hb⟩)
    go_ret
    exact ⟨rfl, hb⟩
  · have h64 : p.length ≤ 64 := by omega
    have H0 : Hid (Ow w w.heap.size (fuN p 0 0) (w.alloc (.cells (ncL N0 (.slice none 0 0) (.slice none 0 0)) 61))) := Ow.new w
    go_enter Try.func5, Try.ntmps5
    go_wp2_with fail
    refine (New_any _).mono ?_
    rintro e w1 ⟨rfl, rfl⟩
    go_wp2_with fail
    show Code.wp Try.prog _ _ _ (w.alloc (.cells (ncL N0 (.slice none 0 0) (.slice none 0 0)) 61))
    generalize w.alloc (.cells (ncL N0 (.slice none 0 0) (.slice none 0 0)) 61) = W0 at H0 ⊢
    go_loopw [6] (fun q wr => ∃ k : Nat, k ≤ 256 ∧ q = .int .i64 (k : Int) ∧ Hid (Ow w w.heap.size (fuN p k 0) wr)) (fun q _ => 257 - (intOf q).toNat)
    case atStart => exact ⟨0, by omega, rfl, H0.out⟩
    case round =>
      clear H0
      obtain ⟨k, hk, rfl, HK⟩ := hrel
      by_cases hlt : k < 256
      · have hi : (k : Int) < 256 := by omega
        go_wp2_with fail
        refine (HK.out.push (fuN_ok h64 HB.out (by omega) (by omega)) (by rw [fuN_sz]; omega) _ p (HP.out.below HK.out.below)).mono ?_
        rintro e w2 ⟨rfl, h2⟩
        rw [(fuN_push h64 (show k - 0 < 256 by omega)).2.1, (fuN_push h64 (show k - 0 < 256 by omega)).2.2]
        rw [(fuN_push h64 (show k - 0 < 256 by omega)).1] at h2
        have H2 := Lib.hid h2
        have hml : k * p.length ≤ 256 * 64 := Nat.mul_le_mul hk h64
        have hwr : IntKind.i64.wrap ((k : Int) * (p.length : Int)) = ((k * p.length : Nat) : Int) := by
          rw [IntKind.wrap_i64, ← Int.natCast_mul]
          omega
        clear h2 HK
        go_wp2_with (go_at_call 16; refine (num_any _ _).mono ?_; rintro e w' ⟨rfl, rfl⟩)
        go_roundw
        case rel => exact ⟨k + 1, by omega, by go_num, H2.out⟩
        case measure => simp [intOf]; omega
      · obtain rfl : k = 256 := by omega
        go_wp2_with fail
        refine (HK.out.push (fuN_ok h64 HB.out (by omega) (by omega)) (by rw [fuN_sz]; omega) _ p (HP.out.below HK.out.below)).mono ?_
        rintro e w2 ⟨rfl, h2⟩
        rw [(fuN_full h64 (show ¬ 256 - 0 < 256 by omega)).2.1, (fuN_full h64 (show ¬ 256 - 0 < 256 by omega)).2.2]
        rw [(fuN_full h64 (show ¬ 256 - 0 < 256 by omega)).1] at h2
        have H2 := Lib.hid h2
        clear h2 HK
        by_cases hta : t ≤ 0
        · have hf2 : t < 256 := by omega
          have hf3 : t ≤ 0 := by omega
          go_wp2_with fail
          go_loopw [11] (fun q wr => ∃ j : Nat, j ≤ 0 ∧ q = .int .i64 (j : Int) ∧ Hid (Ow w w.heap.size (fuN p 256 j) wr)) (fun q _ => 257 - (intOf q).toNat)
          case atStart => exact ⟨0, by omega, rfl, H2.out⟩
          case round =>
            clear H2
            obtain ⟨j, hj, rfl, HJ⟩ := hrel
            by_cases hjt : j < 0
            · omega
            · obtain rfl : j = 0 := by omega
              go_wp2_with fail
              refine (HJ.out.push (fuN_ok h64 HB.out (by omega) (by omega)) (by rw [fuN_sz]; omega) _ p (HP.out.below HJ.out.below)).mono ?_
              rintro e w3 ⟨rfl, h3⟩
              have hq := fuN_full h64 (show ¬ 256 - 0 < 256 by omega)
              rw [hq.2.1, hq.2.2]
              rw [hq.1] at h3
              have H3 := Lib.hid h3
              clear h3 HJ hq
              go_wp2_with (go_at_call 16; refine (num_any _ _).mono ?_; rintro e w' ⟨rfl, rfl⟩)
              refine H3.out.waits.mono ?_
              rintro e w4 ⟨rfl, rfl⟩
              rw [show (((fuN p 256 0).wt.length : Nat) : Int) = 256 from by rw [fuN_wt]; omega]
              go_wp2_with fail
              refine (works_any _).mono ?_
              rintro e w5 ⟨rfl, hb⟩
              have H5 := Lib.hid (H3.out.below.trans (hb.mono H3.out.below.size))
              clear hb H3
              go_wp2
              go_ret
              exact ⟨rfl, H5.out⟩
        · skip
          by_cases htc : t < 256
          · obtain ⟨T, rfl⟩ : ∃ T : Nat, t = (T : Int) := ⟨t.toNat, by omega⟩
            have hf2 : (T : Int) < 256 := htc
            have hf3 : (0 : Int) < (T : Int) := by omega
            go_wp2_with fail
            go_loopw [11] (fun q wr => ∃ j : Nat, j ≤ T ∧ q = .int .i64 (j : Int) ∧ Hid (Ow w w.heap.size (fuN p 256 j) wr)) (fun q _ => 257 - (intOf q).toNat)
            case atStart => exact ⟨0, by omega, rfl, H2.out⟩
            case round =>
              clear H2
              obtain ⟨j, hj, rfl, HJ⟩ := hrel
              by_cases hjt : j < T
              · have hi : (j : Int) < (T : Int) := by omega
                go_wp2_with fail
                refine (HJ.out.take (fuN_ok h64 HB.out (by omega) (by omega))).mono ?_
                rintro e w3 ⟨rfl, h3⟩
                rw [(fuN_took (show j < 256 by omega)).2]
                rw [(fuN_took (show j < 256 by omega)).1] at h3
                have H3 := Lib.hid h3
                clear h3 HJ
                go_wp2
                go_roundw
                case rel => exact ⟨j + 1, by omega, by go_num, H3.out⟩
                case measure => simp [intOf]; omega
              · have hnj : ¬ (j : Int) < (T : Int) := by omega
                obtain rfl : j = T := by omega
                go_wp2_with fail
                refine (HJ.out.push (fuN_ok h64 HB.out (by omega) (by omega)) (by rw [fuN_sz]; omega) _ p (HP.out.below HJ.out.below)).mono ?_
                rintro e w3 ⟨rfl, h3⟩
                have hq := fuN_push h64 (show 256 - j < 256 by omega)
                rw [hq.2.1, hq.2.2]
                rw [hq.1] at h3
                have H3 := Lib.hid h3
                clear h3 HJ hq
                have hml : 256 * p.length ≤ 256 * 64 := Nat.mul_le_mul (Nat.le_refl _) h64
                have hwr : IntKind.i64.wrap (256 * (p.length : Int)) = ((256 * p.length : Nat) : Int) := by rw [IntKind.wrap_i64]; omega
                have hwt : IntKind.i64.wrap (257 - (j : Int)) = 257 - (j : Int) := by rw [IntKind.wrap_i64]; omega
                go_wp2_with (go_at_call 16; refine (num_any _ _).mono ?_; rintro e w' ⟨rfl, rfl⟩)
                refine H3.out.waits.mono ?_
                rintro e w4 ⟨rfl, rfl⟩
                rw [show (((fuN p 257 j).wt.length : Nat) : Int) = 257 - (j : Int) from by rw [fuN_wt]; omega]
                go_wp2_with fail
                refine (works_any _).mono ?_
                rintro e w5 ⟨rfl, hb⟩
                have H5 := Lib.hid (H3.out.below.trans (hb.mono H3.out.below.size))
                clear hb H3
                go_wp2
                go_ret
                exact ⟨rfl, H5.out⟩
          · have hf2 : (256 : Int) ≤ t := by omega
            go_wp2_with fail
            go_loopw [11] (fun q wr => ∃ j : Nat, j ≤ 256 ∧ q = .int .i64 (j : Int) ∧ Hid (Ow w w.heap.size (fuN p 256 j) wr)) (fun q _ => 257 - (intOf q).toNat)
            case atStart => exact ⟨0, by omega, rfl, H2.out⟩
            case round =>
              clear H2
              obtain ⟨j, hj, rfl, HJ⟩ := hrel
              by_cases hjt : j < 256
              · have hi : (j : Int) < 256 := by omega
                go_wp2_with fail
                refine (HJ.out.take (fuN_ok h64 HB.out (by omega) (by omega))).mono ?_
                rintro e w3 ⟨rfl, h3⟩
                rw [(fuN_took (show j < 256 by omega)).2]
                rw [(fuN_took (show j < 256 by omega)).1] at h3
                have H3 := Lib.hid h3
                clear h3 HJ
                go_wp2
                go_roundw
                case rel => exact ⟨j + 1, by omega, by go_num, H3.out⟩
                case measure => simp [intOf]; omega
              · obtain rfl : j = 256 := by omega
                go_wp2_with fail
                refine (HJ.out.push (fuN_ok h64 HB.out (by omega) (by omega)) (by rw [fuN_sz]; omega) _ p (HP.out.below HJ.out.below)).mono ?_
                rintro e w3 ⟨rfl, h3⟩
                have hq := fuN_push h64 (show 256 - 256 < 256 by omega)
                rw [hq.2.1, hq.2.2]
                rw [hq.1] at h3
                have H3 := Lib.hid h3
                clear h3 HJ hq
                have hml : 256 * p.length ≤ 256 * 64 := Nat.mul_le_mul (Nat.le_refl _) h64
                have hwr : IntKind.i64.wrap (256 * (p.length : Int)) = ((256 * p.length : Nat) : Int) := by rw [IntKind.wrap_i64]; omega
                have hwt : IntKind.i64.wrap (257 - 256) = 257 - 256 := by rw [IntKind.wrap_i64]; omega
                go_wp2_with (go_at_call 16; refine (num_any _ _).mono ?_; rintro e w' ⟨rfl, rfl⟩)
                refine H3.out.waits.mono ?_
                rintro e w4 ⟨rfl, rfl⟩
                rw [show (((fuN p 257 256).wt.length : Nat) : Int) = 257 - 256 from by rw [fuN_wt]; omega]
                go_wp2_with fail
                refine (works_any _).mono ?_
                rintro e w5 ⟨rfl, hb⟩
                have H5 := Lib.hid (H3.out.below.trans (hb.mono H3.out.below.size))
                clear hb H3
                go_wp2
                go_ret
                exact ⟨rfl, H5.out⟩
end Go.Proofs.Ytepimbebodmajaa
