/-
  Layer 3: works of the statements: a byte's set makes a page private, and gives it back: walk.
-/
import Derived.Test.YtepmndadbikijaaFill
namespace Go.Proofs.Ytepmndadbikijaa
open Go.RowKit
set_option maxHeartbeats 1000000

theorem PutPost.below {w w' : World} {S P : Nat} {l : List Int} {F : Nat → Prop} (h : PutPost w S P l F w') {B : Nat} (hB : B ≤ w.heap.size) (hF : ∀ k, F k → B ≤ k) : Below B w w' := by
  obtain ⟨_, _, t, _⟩ := h
  exact t.below hB hF
def k0 : List Int := List.replicate (64 * 2) 0
def k1 : List Int := fillR 2 k0 70 1 5
def k2 : List Int := fillR 2 k1 70 1 0
theorem k_facts : refR 2 70 1 5 = 0 ∧ refR 2 70 1 0 = 0 ∧ unionV 2 k1 70 1 = 5 ∧ unionE 2 70 1 = 0 ∧ unionV 2 k1 60 20 = 5 ∧ unionE 2 60 20 = 0 ∧ (privs k1 2).length = 1 ∧ (privs k2 2).length = 0 := by decide +kernel
/-- A shadow somewhere above B, in a world that has kept what lay below. -/
def At (w : World) (S P : Nat) (l : List Int) (W : World) : Prop := ∃ F, Sh W S P l F ∧ (∀ k, F k → w.heap.size ≤ k) ∧ Below w.heap.size w W
theorem At.put {w W W' : World} {S P : Nat} {l l' : List Int} (h : At w S P l W) (hp : ∀ F, Sh W S P l F → PutPost W S P l' F W') : At w S P l' W' := by
  obtain ⟨F, h1, h2, h3⟩ := h
  obtain ⟨F', p1, p2, p3⟩ := hp F h1
  refine ⟨F', p1, fun k hk => ?_, h3.trans (p2.below h3.size h2)⟩
  rcases p3 k hk with h4 | h4
  · exact h2 k h4
  · have := h3.size; omega
theorem At.below {w W W' : World} {S P : Nat} {l : List Int} (h : At w S P l W) (hb : Below W.heap.size W W') : At w S P l W' := by
  obtain ⟨F, h1, h2, h3⟩ := h
  exact ⟨F, h1.below hb, h2, h3.trans (hb.mono h3.size)⟩
theorem At.set {w W : World} {S P : Nat} {l : List Int} (h : At w S P l W) (a x : Int) (hx : W32 x) :
    Calls Try.prog 16 #[.pointer (some ⟨S, 0, none⟩), .int .i64 a, .int .u32 x] W fun e W' => e = .returned (.int .i64 (refR P a 1 x)) ∧ At w S P (fillR P l a 1 x) W' := by
  obtain ⟨F, h1, h2, h3⟩ := h
  refine (Set_any h1 a x hx).mono fun e W' ⟨he, hp⟩ => ⟨he, ?_⟩
  obtain ⟨F', p1, p2, p3⟩ := hp
  refine ⟨F', p1, fun k hk => ?_, h3.trans (p2.below h3.size h2)⟩
  rcases p3 k hk with h4 | h4
  · exact h2 k h4
  · have := h3.size; omega
theorem At.fill {w W : World} {S P : Nat} {l : List Int} (h : At w S P l W) (a n x : Int) (hx : W32 x) :
    Calls Try.prog 17 #[.pointer (some ⟨S, 0, none⟩), .int .i64 a, .int .i64 n, .int .u32 x] W fun e W' => e = .returned (.int .i64 (refR P a n x)) ∧ At w S P (fillR P l a n x) W' := by
  obtain ⟨F, h1, h2, h3⟩ := h
  refine (Fill_any h1 a n x hx).mono fun e W' ⟨he, hp⟩ => ⟨he, ?_⟩
  obtain ⟨F', p1, p2, p3⟩ := hp
  refine ⟨F', p1, fun k hk => ?_, h3.trans (p2.below h3.size h2)⟩
  rcases p3 k hk with h4 | h4
  · exact h2 k h4
  · have := h3.size; omega
theorem At.get {w W : World} {S P : Nat} {l : List Int} (h : At w S P l W) (a : Int) :
    Calls Try.prog 12 #[.pointer (some ⟨S, 0, none⟩), .int .i64 a] W fun e W' => e = .returned (.tuple #[.int .u32 (unionV P l a 1), .int .i64 (unionE P a 1)]) ∧ At w S P l W' := by
  obtain ⟨F, h1, h2, h3⟩ := h
  exact (Get_any h1 a).mono fun e W' ⟨he, hb⟩ => ⟨he, At.below ⟨F, h1, h2, h3⟩ hb⟩
theorem At.union {w W : World} {S P : Nat} {l : List Int} (h : At w S P l W) (a n : Int) :
    Calls Try.prog 13 #[.pointer (some ⟨S, 0, none⟩), .int .i64 a, .int .i64 n] W fun e W' => e = .returned (.tuple #[.int .u32 (unionV P l a n), .int .i64 (unionE P a n)]) ∧ At w S P l W' := by
  obtain ⟨F, h1, h2, h3⟩ := h
  exact (Union_any h1 a n).mono fun e W' ⟨he, hb⟩ => ⟨he, At.below ⟨F, h1, h2, h3⟩ hb⟩
theorem At.pages {w W : World} {S P : Nat} {l : List Int} (h : At w S P l W) :
    Calls Try.prog 19 #[.pointer (some ⟨S, 0, none⟩)] W fun e W' => e = .returned (.int .i64 ((privs l P).length : Int)) ∧ W = W' := by
  obtain ⟨F, h1, h2, h3⟩ := h
  exact Pages_any h1
theorem At.new (P : Nat) (h0 : 1 ≤ P) (h1 : P ≤ 32) (w W : World) (hb : Below w.heap.size w W) : Calls Try.prog 11 #[.int .i64 (P : Int)] W fun e W' =>
    ∃ S, e = .returned (.tuple #[.pointer (some ⟨S, 0, none⟩), .int .i64 0]) ∧ At w S P (List.replicate (64 * P) 0) W' := by
  refine (New_any P h0 h1 W).mono fun e W' ⟨F, he, hs, hf, hb'⟩ => ⟨_, he, F, hs, fun k hk => ?_, hb.trans (hb'.mono hb.size)⟩
  have := hf k hk
  have := hb.size
  omega
theorem works_any (w : World) : Calls Try.prog 23 #[] w fun e w' => e = .returned (.bool true) ∧ Below w.heap.size w w' := by
  obtain ⟨f1, f2, f3, f4, f5, f6, f7, f8⟩ := k_facts
  have H0 : Hid (Calls Try.prog 11 #[.int .i64 2] w fun e W' => ∃ S, e = .returned (.tuple #[.pointer (some ⟨S, 0, none⟩), .int .i64 0]) ∧ At w S 2 k0 W') := At.new 2 (by omega) (by omega) w w (Below.refl _ _)
  have H1 : Hid (∀ W S, At w S 2 k0 W → Calls Try.prog 16 #[.pointer (some ⟨S, 0, none⟩), .int .i64 70, .int .u32 5] W fun e W' => e = .returned (.int .i64 0) ∧ At w S 2 k1 W') := fun W S h => by rw [← f1]; exact h.set 70 5 (by simp [W32])
  have H2 : Hid (∀ W S, At w S 2 k1 W → Calls Try.prog 12 #[.pointer (some ⟨S, 0, none⟩), .int .i64 70] W fun e W' => e = .returned (.tuple #[.int .u32 5, .int .i64 0]) ∧ At w S 2 k1 W') := fun W S h => by have := h.get 70; rwa [f3, f4] at this
  have H3 : Hid (∀ W S, At w S 2 k1 W → Calls Try.prog 19 #[.pointer (some ⟨S, 0, none⟩)] W fun e W' => e = .returned (.int .i64 1) ∧ W = W') := fun W S h => by have := h.pages; rwa [f7] at this
  have H4 : Hid (∀ W S, At w S 2 k1 W → Calls Try.prog 13 #[.pointer (some ⟨S, 0, none⟩), .int .i64 60, .int .i64 20] W fun e W' => e = .returned (.tuple #[.int .u32 5, .int .i64 0]) ∧ At w S 2 k1 W') := fun W S h => by have := h.union 60 20; rwa [f5, f6] at this
  have H5 : Hid (∀ W S, At w S 2 k1 W → Calls Try.prog 16 #[.pointer (some ⟨S, 0, none⟩), .int .i64 70, .int .u32 0] W fun e W' => e = .returned (.int .i64 0) ∧ At w S 2 k2 W') := fun W S h => by rw [← f2]; exact h.set 70 0 (by simp [W32])
  have H6 : Hid (∀ W S, At w S 2 k2 W → Calls Try.prog 19 #[.pointer (some ⟨S, 0, none⟩)] W fun e W' => e = .returned (.int .i64 0) ∧ W = W') := fun W S h => by have := h.pages; rwa [f8] at this
  clear f1 f2 f3 f4 f5 f6 f7 f8
  go_enter Try.func23, Try.ntmps23
  go_wp2_with fail
  refine H0.out.mono ?_; rintro e w1 ⟨S, rfl, h⟩; have A1 := Lib.hid h; clear h
  go_wp2_with fail
  refine (H1.out _ _ A1.out).mono ?_; rintro e w2 ⟨rfl, h⟩; have A2 := Lib.hid h; clear h
  go_wp2_with fail
  refine (H2.out _ _ A2.out).mono ?_; rintro e w3 ⟨rfl, h⟩; have A3 := Lib.hid h; clear h
  go_wp2_with fail
  refine (H3.out _ _ A3.out).mono ?_; rintro e w3' ⟨rfl, rfl⟩
  go_wp2_with fail
  refine (H4.out _ _ A3.out).mono ?_; rintro e w4 ⟨rfl, h⟩; have A4 := Lib.hid h; clear h
  go_wp2_with fail
  refine (H5.out _ _ A4.out).mono ?_; rintro e w5 ⟨rfl, h⟩; have A5 := Lib.hid h; clear h
  go_wp2_with (first | (go_at_call 15; refine (num_any _ _).mono ?_; rintro e w' ⟨rfl, rfl⟩) | (go_at_call 19; refine (H6.out _ _ A5.out).mono ?_; rintro e w5' ⟨rfl, rfl⟩))
  go_ret
  obtain ⟨F, a1, a2, a3⟩ := A5.out
  exact ⟨rfl, a3⟩
end Go.Proofs.Ytepmndadbikijaa
