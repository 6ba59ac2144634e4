/-
  Layer 1: a word's bytes, both ways: the document's answers, and Word of the program: walks.
-/
import Derived.Test.YtoibdcnglpinoaaRows
import Derived.Test.YtoibdcnglpinoaaMath
import Derived.Test.YtoibdcnglpinoaaLeaf
import Derived.WalkKit
import Derived.WalkSpells
import Derived.WalkLawsBesides
import Derived.Lib.Hide
namespace Go.Proofs.Ytoibdcnglpinoaa
open Go.RowKit
set_option maxHeartbeats 400000

theorem RBytes_any (a : Int) (ha : W32 a) (w : World) :
    Calls Try.prog 30 #[.int .u32 a] w fun e w' => e = .returned (.agg #[.int .u8 (byt a 0), .int .u8 (byt a 1), .int .u8 (byt a 2), .int .u8 (byt a 3)]) ∧ Below w.heap.size w w' := by
  have h0 := Lib.hid (byt0 a)
  have h1 := Lib.hid (byt1 a)
  have h2 := Lib.hid (byt2 a)
  have h3 := Lib.hid (byt3 a)
  obtain ⟨ha0, ha1⟩ := ha
  go_enter Try.func30, Try.ntmps30
  go_wp2
  refine wp_loop_rounds 5 ?_
  iterate 5
    rw [rounds_succ]
    go_wp2
  refine bodyPost_ret (v := .agg #[.int .u8 (a % 256), .int .u8 (a / 256 % 256), .int .u8 (a / 256 / 256 % 256), .int .u8 (a / 256 / 256 / 256 % 256)]) (by simp [results, Try.results30, go_sem]) rfl ⟨?_, ?_⟩
  · rw [h0.out, h1.out, h2.out, h3.out]
  · exact ((Below.refl _ _).alloc (Nat.le_refl _) _).alloc (by simp) _

theorem RWord_any (b0 b1 b2 b3 : Int) (h0 : 0 ≤ b0 ∧ b0 < 256) (h1 : 0 ≤ b1 ∧ b1 < 256) (h2 : 0 ≤ b2 ∧ b2 < 256) (h3 : 0 ≤ b3 ∧ b3 < 256) (w : World) :
    Calls Try.prog 32 #[.agg #[.int .u8 b0, .int .u8 b1, .int .u8 b2, .int .u8 b3]] w fun e w' => e = .returned (.int .u32 (wrd b0 b1 b2 b3)) ∧ Below w.heap.size w w' := by
  obtain ⟨h00, h01⟩ := h0
  obtain ⟨h10, h11⟩ := h1
  obtain ⟨h20, h21⟩ := h2
  obtain ⟨h30, h31⟩ := h3
  go_enter Try.func32, Try.ntmps32
  go_wp2
  refine wp_loop_rounds 5 ?_
  iterate 5
    rw [rounds_succ]
    go_wp2
  go_ret
  refine ⟨?_, (Below.refl _ _).alloc (Nat.le_refl _) _⟩
  simp [wrd]
  omega

theorem Word_any (b0 b1 b2 b3 : Int) (h0 : 0 ≤ b0 ∧ b0 < 256) (h1 : 0 ≤ b1 ∧ b1 < 256) (h2 : 0 ≤ b2 ∧ b2 < 256) (h3 : 0 ≤ b3 ∧ b3 < 256) (w : World) :
    Calls Try.prog 31 #[.agg #[.int .u8 b0, .int .u8 b1, .int .u8 b2, .int .u8 b3]] w fun e w' => e = .returned (.int .u32 (wrd b0 b1 b2 b3)) ∧ Below w.heap.size w w' := by
  have hor := Lib.hid (or_bytes b0 b1 b2 b3 h0 h1 h2 h3)
  obtain ⟨h00, h01⟩ := h0
  obtain ⟨h10, h11⟩ := h1
  obtain ⟨h20, h21⟩ := h2
  obtain ⟨h30, h31⟩ := h3
  have i0 : ∀ w, (Instr.index 27 (.agg #[.int .u8 b0, .int .u8 b1, .int .u8 b2, .int .u8 b3]) (.int .i64 0)).run Try.prog w = .ok (.int .u8 b0) w := fun _ => by kernel_rfl
  have i1 : ∀ w, (Instr.index 27 (.agg #[.int .u8 b0, .int .u8 b1, .int .u8 b2, .int .u8 b3]) (.int .i64 1)).run Try.prog w = .ok (.int .u8 b1) w := fun _ => by kernel_rfl
  have i2 : ∀ w, (Instr.index 27 (.agg #[.int .u8 b0, .int .u8 b1, .int .u8 b2, .int .u8 b3]) (.int .i64 2)).run Try.prog w = .ok (.int .u8 b2) w := fun _ => by kernel_rfl
  have i3 : ∀ w, (Instr.index 27 (.agg #[.int .u8 b0, .int .u8 b1, .int .u8 b2, .int .u8 b3]) (.int .i64 3)).run Try.prog w = .ok (.int .u8 b3) w := fun _ => by kernel_rfl
  go_enter Try.func31, Try.ntmps31
  go_wp2
  refine wp_loop_rounds 5 ?_
  rw [rounds_succ]
  go_wp2_with fail
  refine (Shl_any b0 0 ⟨by omega, by omega⟩ _).mono ?_
  rintro e w1 ⟨rfl, hb1⟩
  go_wp2_with fail
  rw [rounds_succ]
  go_wp2_with fail
  refine (Shl_any b1 8 ⟨by omega, by omega⟩ _).mono ?_
  rintro e w2 ⟨rfl, hb2⟩
  go_wp2_with fail
  rw [rounds_succ]
  go_wp2_with fail
  refine (Shl_any b2 16 ⟨by omega, by omega⟩ _).mono ?_
  rintro e w3 ⟨rfl, hb3⟩
  go_wp2_with fail
  rw [rounds_succ]
  go_wp2_with fail
  refine (Shl_any b3 24 ⟨by omega, by omega⟩ _).mono ?_
  rintro e w4 ⟨rfl, hb4⟩
  go_wp2_with fail
  rw [rounds_succ]
  go_wp2_with fail
  go_ret
  have h := hor.out
  refine ⟨?_, ?_⟩
  · simpa using h
  · have s1 := hb1.size; have s2 := hb2.size; have s3 := hb3.size
    simp at s1
    exact ((Below.refl _ _).alloc (Nat.le_refl _) _).trans (((hb1.mono (by simp)).trans (hb2.mono (by omega))).trans ((hb3.mono (by omega)).trans (hb4.mono (by omega))))

theorem byt_at (n : Int) (h0 : 0 ≤ n) (h4 : n < 4) : n = 0 ∨ n = 1 ∨ n = 2 ∨ n = 3 := by omega
theorem RByte_any (a n : Int) (ha : W32 a) (hn : W32 n) (w : World) :
    Calls Try.prog 34 #[.int .u32 a, .int .u32 n] w fun e w' => e = .returned (.int .u8 (byt a (n % 4).toNat)) ∧ Below w.heap.size w w' := by
  obtain ⟨hn0, hn1⟩ := hn
  obtain ⟨m, hm, hm0, hm4⟩ : ∃ m, n % 4 = m ∧ 0 ≤ m ∧ m < 4 := ⟨_, rfl, by omega, by omega⟩
  rcases byt_at m hm0 hm4 with rfl | rfl | rfl | rfl
  all_goals
    have i0 : ∀ w, (Instr.index 27 (.agg #[.int .u8 (byt a 0), .int .u8 (byt a 1), .int .u8 (byt a 2), .int .u8 (byt a 3)]) (.int .i64 0)).run Try.prog w = .ok (.int .u8 (byt a 0)) w := fun _ => by kernel_rfl
    have i1 : ∀ w, (Instr.index 27 (.agg #[.int .u8 (byt a 0), .int .u8 (byt a 1), .int .u8 (byt a 2), .int .u8 (byt a 3)]) (.int .i64 1)).run Try.prog w = .ok (.int .u8 (byt a 1)) w := fun _ => by kernel_rfl
    have i2 : ∀ w, (Instr.index 27 (.agg #[.int .u8 (byt a 0), .int .u8 (byt a 1), .int .u8 (byt a 2), .int .u8 (byt a 3)]) (.int .i64 2)).run Try.prog w = .ok (.int .u8 (byt a 2)) w := fun _ => by kernel_rfl
    have i3 : ∀ w, (Instr.index 27 (.agg #[.int .u8 (byt a 0), .int .u8 (byt a 1), .int .u8 (byt a 2), .int .u8 (byt a 3)]) (.int .i64 3)).run Try.prog w = .ok (.int .u8 (byt a 3)) w := fun _ => by kernel_rfl
    go_enter Try.func34, Try.ntmps34
    go_wp2_with fail
    refine (RBytes_any a ha _).mono ?_
    rintro e w1 ⟨rfl, hb1⟩
    go_wp2_with fail
    go_ret
    exact ⟨by simp [hm], hb1⟩
end Go.Proofs.Ytoibdcnglpinoaa
