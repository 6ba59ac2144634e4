/-
  Layer 2: the law's own functions: same, does.
-/
import Derived.Test.YtafnclkkncokpaaDoorKnown
import Derived.Test.YtafnclkkncokpaaDoorRef2
import Derived.Test.YtafnclkkncokpaaDoorArgs
namespace Go.Proofs.YtafnclkkncokpaaDoor
open Go.RowKit
set_option maxHeartbeats 1000000

theorem below_cell {w w' : World} {B : Nat} (h : Below B w w') {a : Addr} {v : Value} (ha : w.cell? a = some v) (hB : a.block < B) : w'.cell? a = some v := by
  rw [← ha]
  unfold World.cell?
  rw [h.block a.block hB]
theorem below_cell' {w w' : World} (h : Below w.heap.size w w') {a : Addr} {v : Value} (ha : w.cell? a = some v) : w'.cell? a = some v :=
  below_cell h ha (World.block_lt_of_cell? _ _ ha)
/-- Far from block B: a table that is turned into another one stays far. -/
theorem TabTo.far {w w1 w2 : World} {T : Nat} {most : Int} {ss' : List Int} {m' B : Nat} {F : List Nat} (h : TabTo w1 w2 T most ss' m' F) (hB : B ≤ w1.heap.size) (hF : ∀ k ∈ F, B ≤ k) (hb : Below B w w1) :
    ∃ F', Tab w2 T most ss' m' F' ∧ (∀ k ∈ F', B ≤ k) ∧ Below B w w2 := by
  obtain ⟨F', h1, h2, h3⟩ := h
  refine ⟨F', h1, fun k hk => ?_, hb.trans (h2.below hB hF)⟩
  rcases h3 k hk with h | h
  · exact hF k h
  · omega

set_option maxRecDepth 100000 in
theorem same_any (T : Nat) (most : Int) (ss : List Int) (m : Nat) (F : List Nat) (mo : Int) (g c : Nat) (w : World) (h : Tab w T most ss m F) (hr : RT w g c ss) :
    Calls Tryd.prog 12 #[.pointer (some ⟨T, 0, none⟩), rtab mo g ss.length c] w fun e w' => e = .returned (.bool true) ∧ Below w.heap.size w w' := by
  have B0 : Below w.heap.size w (w.alloc (.cells #[.int .i64 mo, .slice (some ⟨g, 0, none⟩) ss.length c] 30)) := (Below.refl _ _).alloc (Nat.le_refl _) _
  have h1 := h.alloc (.cells #[.int .i64 mo, .slice (some ⟨g, 0, none⟩) ss.length c] 30)
  have r1 := hr.below B0
  obtain ⟨p0, p1⟩ := box_rtab w (.int .i64 mo) (.slice (some ⟨g, 0, none⟩) ss.length c) 30
  have hl : ss.length ≤ 65536 := by have := h.sets.len; have := h.sets.most; omega
  unfold rtab
  generalize hw0 : w.alloc (.cells #[.int .i64 mo, .slice (some ⟨g, 0, none⟩) ss.length c] 30) = w0 at B0 h1 r1 p0 p1
  have HA := Lib.hid (All_any T most ss m F w0 h1)
  have HT := Lib.hid h1
  have HR := Lib.hid r1
  clear h hr h1 r1
  go_enter Tryd.func12, Tryd.ntmps12
  go_wp2_with fail
  refine HA.out.mono ?_
  rintro e w1 ⟨g', c', rfl, hrow, hb1⟩
  have q1 := below_cell' hb1 p1
  have hT1 := Lib.hid (HT.out.below hb1)
  have k1 : Hid (∀ k, k < ss.length → w1.cell? ⟨g', k, none⟩ = some (.int .u32 (ss[k]?.getD 0))) := fun k hk => row_at rfl hrow hk
  have k2 : Hid (∀ k, k < ss.length → w1.cell? ⟨g, k, none⟩ = some (.int .u32 (ss[k]?.getD 0))) := fun k hk => (HR.out.below hb1).at_ hk
  have hcap := row_cap hrow
  have hcap2 := row_cap HR.out
  have hB1 := Lib.hid (B0.trans (hb1.mono B0.size))
  clear hrow HA hw0 hb1
  go_wp2_with (go_at_call 27; refine (Len_any _ _ _ _ _ _ hT1.out).mono ?_; rintro e w2 ⟨rfl, rfl⟩)
  go_loopw [6] (fun i wr => ∃ k : Nat, k ≤ ss.length ∧ i = .int .i64 k ∧ ∃ q, wr = w1.drewN q) (fun i _ => ss.length - (intOf i).toNat)
  case atStart => exact ⟨0, by omega, rfl, 0, rfl⟩
  case round =>
    obtain ⟨k, hk, rfl, q, rfl⟩ := hrel
    have q1' : (w1.drewN q).cell? ⟨w.heap.size, 1, none⟩ = some (.slice (some ⟨g, 0, none⟩) ss.length c) := q1
    by_cases hlt : k < ss.length
    · have m1 : (w1.drewN q).cell? ⟨g', k, none⟩ = some (.int .u32 (ss[k]?.getD 0)) := k1.out k hlt
      have m2 : (w1.drewN q).cell? ⟨g, k, none⟩ = some (.int .u32 (ss[k]?.getD 0)) := k2.out k hlt
      generalize ss[k]?.getD 0 = x at m1 m2
      have t1 : (x != x) = false := by simp
      generalize hw1 : w1.drewN q = w1' at m1 m2 q1' ⊢
      have HW := Lib.hid hw1
      clear hw1
      go_wp2
      go_quiet (fail)
      go_wp2
      go_roundw
      case rel => exact ⟨k + 1, by omega, by go_num, q + nq, by rw [← HW.out, World.drewN_drewN]⟩
      case measure => simp [intOf]; omega
    · go_wp2
      go_ret
      exact ⟨rfl, hB1.out.trans (below_drewN _ _ _)⟩
end Go.Proofs.YtafnclkkncokpaaDoor
