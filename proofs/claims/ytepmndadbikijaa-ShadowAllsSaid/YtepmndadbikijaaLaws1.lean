/-
  Layer 3: the walks of ShadowPlays, ShadowSets, ShadowUnions, ShadowFills.
-/
import Derived.Test.YtepmndadbikijaaIs
import Derived.Test.YtepmndadbikijaaPlayed
namespace Go.Proofs.Ytepmndadbikijaa
open Go.RowKit
set_option maxHeartbeats 1000000

theorem Both.is {w W : World} {S P g c : Nat} {l : List Int} (h : Both w S P l g c W) : Calls Try.prog 24 #[.pointer (some ⟨S, 0, none⟩), rwV g c l] W fun e w' => e = .returned (.bool true) ∧ Below W.heap.size W w' := by
  obtain ⟨F, h1, _, _, h4, _, _⟩ := h
  exact is_any h1 h4
theorem Both.w {w W : World} {S P g c : Nat} {l : List Int} (h : Both w S P l g c W) : Below w.heap.size w W := by
  obtain ⟨_, _, _, _, _, _, h⟩ := h; exact h
theorem Both.get {w W : World} {S P g c : Nat} {l : List Int} (h : Both w S P l g c W) (a : Int) :
    Calls Try.prog 12 #[.pointer (some ⟨S, 0, none⟩), .int .i64 a] W fun e W' => e = .returned (.tuple #[.int .u32 (unionV P l a 1), .int .i64 (unionE P a 1)]) ∧ Both w S P l g c W' := by
  have h' := h
  obtain ⟨F, h1, _⟩ := h'
  exact (Get_any h1 a).mono fun e W' ⟨he, hb⟩ => ⟨he, h.below hb⟩
theorem Both.rget {w W : World} {S P g c : Nat} {l : List Int} (h : Both w S P l g c W) (a : Int) :
    Calls Try.prog 27 #[rwV g c l, .int .i64 a] W fun e w' => e = .returned (.tuple #[.int .u32 (unionV P l a 1), .int .i64 (unionE P a 1)]) ∧ W = w' := by
  obtain ⟨F, h1, _, _, h4, _, _⟩ := h
  exact RGet_any h4 h1.bytes a
theorem Both.union {w W : World} {S P g c : Nat} {l : List Int} (h : Both w S P l g c W) (a n : Int) :
    Calls Try.prog 13 #[.pointer (some ⟨S, 0, none⟩), .int .i64 a, .int .i64 n] W fun e W' => e = .returned (.tuple #[.int .u32 (unionV P l a n), .int .i64 (unionE P a n)]) ∧ Both w S P l g c W' := by
  have h' := h
  obtain ⟨F, h1, _⟩ := h'
  exact (Union_any h1 a n).mono fun e W' ⟨he, hb⟩ => ⟨he, h.below hb⟩
theorem Both.runion {w W : World} {S P g c : Nat} {l : List Int} (h : Both w S P l g c W) (a n : Int) :
    Calls Try.prog 28 #[rwV g c l, .int .i64 a, .int .i64 n] W fun e w' => e = .returned (.tuple #[.int .u32 (unionV P l a n), .int .i64 (unionE P a n)]) ∧ W = w' := by
  obtain ⟨F, h1, _, _, h4, _, _⟩ := h
  exact RUnion_any h4 h1.bytes a n

theorem ShadowPlays_walk (a : Int) (_ha : (Lit.int .i64 a).wf = true) (v : Value) (xs : List Step4) (w : World) (hin : StepsIn w v xs) :
    Calls Try.prog 5 #[.int .i64 a, v] w fun e w' => e = .returned (.bool true) ∧ Below w.heap.size w w' := by
  have HP := Lib.hid fun (P : Nat) (h0 : 1 ≤ P) (h1 : P ≤ 32) => played_any P h0 h1 w v xs hin
  obtain ⟨o, cap, rfl, hcap, hlen, _⟩ := hin.form
  clear hin
  by_cases hbad : a < 1 ∨ 32 < a ∨ 40 < (xs.length : Int)
  · by_cases h1 : a < 1
    · clear hbad
      go_enter Try.func5, Try.ntmps5
      go_wp2_with (go_at_call 23; refine (works_any _).mono ?_; rintro e w' ⟨rfl, hb⟩)
      go_ret
      exact ⟨rfl, hb⟩
    · by_cases h2 : 32 < a
      · clear hbad
        go_enter Try.func5, Try.ntmps5
        go_wp2_with (go_at_call 23; refine (works_any _).mono ?_; rintro e w' ⟨rfl, hb⟩)
        go_ret
        exact ⟨rfl, hb⟩
      · have h3 : 40 < (xs.length : Int) := by omega
        clear hbad
        go_enter Try.func5, Try.ntmps5
        go_wp2_with (go_at_call 23; refine (works_any _).mono ?_; rintro e w' ⟨rfl, hb⟩)
        go_ret
        exact ⟨rfl, hb⟩
  · obtain ⟨P, rfl⟩ := Int.eq_ofNat_of_zero_le (show 0 ≤ a by omega)
    have h1 : ¬ (P : Int) < 1 := by omega
    have h2 : ¬ 32 < (P : Int) := by omega
    have h3 : ¬ 40 < (xs.length : Int) := by omega
    have HP1 := Lib.hid (HP.out P (by omega) (by omega))
    clear hbad HP
    go_enter Try.func5, Try.ntmps5
    go_wp2_with (first
      | (go_at_call 26; refine HP1.out.mono ?_; rintro e w1 ⟨S, g, c, rfl, hB⟩; have HB := Lib.hid hB; clear hB)
      | (go_at_call 24; refine HB.out.is.mono ?_; rintro e w2 ⟨rfl, hb⟩; have HB2 := Lib.hid (HB.out.below hb); clear hb)
      | (go_at_call 23; refine (works_any _).mono ?_; rintro e w3 ⟨rfl, hb3⟩))
    go_ret
    exact ⟨rfl, HB2.out.w.trans (hb3.mono HB2.out.w.size)⟩
/-- A script of one call. -/
theorem one_in (w : World) (k a n x : Int) (hx : W32 x) : StepsIn (w.alloc (.cells #[.int .i64 k, .int .i64 a, .int .i64 n, .int .u32 x] 47)) (.slice (some ⟨w.heap.size, 0, none⟩) 1 1) [⟨k, a, n, x⟩] := by
  obtain ⟨m0, m1, m2, m3⟩ := box4 (heap_alloc_new w (.cells #[.int .i64 k, .int .i64 a, .int .i64 n, .int .u32 x] 47))
  refine .inr ⟨⟨w.heap.size, 0, none⟩, 1, rfl, Nat.le_refl _, by unfold maxLen; simp, fun i s hs => ?_, fun s hs => by simp at hs; subst hs; exact hx⟩
  cases i with
  | zero =>
    simp at hs
    subst hs
    refine ⟨m0, ?_, ?_, ?_⟩
    · simp [add_at]
    · simp [add_at]
    · simp [add_at]
  | succ i => simp at hs
theorem played_one (P : Nat) (h0 : 1 ≤ P) (h1 : P ≤ 32) (w : World) (k a n x : Int) (hx : W32 x) :
    Calls Try.prog 26 #[.int .i64 (P : Int), .slice (some ⟨w.heap.size, 0, none⟩) 1 1] (w.alloc (.cells #[.int .i64 k, .int .i64 a, .int .i64 n, .int .u32 x] 47)) fun e w' =>
      ∃ S g c l, e = .returned (.tuple #[.pointer (some ⟨S, 0, none⟩), rwV g c l, .bool true]) ∧ Both w S P l g c w' :=
  (played_any P h0 h1 _ _ _ (one_in w k a n x hx)).mono fun e w' ⟨S, g, c, he, F, b1, b2, b3, b4, b5, b6⟩ => by
    have ha : Below w.heap.size w (w.alloc (.cells #[.int .i64 k, .int .i64 a, .int .i64 n, .int .u32 x] 47)) := (Below.refl _ _).alloc (Nat.le_refl _) _
    have hz := ha.size
    exact ⟨S, g, c, _, he, F, b1, fun k hk => Nat.le_trans hz (b2 k hk), b3, b4, Nat.le_trans hz b5, ha.trans (b6.mono hz)⟩
theorem ShadowSets_walk (a : Int) (_ha : (Lit.int .i64 a).wf = true) (at_ : Int) (_hat : (Lit.int .i64 at_).wf = true) (x : Int) (hx : W32 x) (w : World) :
    Calls Try.prog 4 #[.int .i64 a, .int .i64 at_, .int .u32 x] w fun e w' => e = .returned (.bool true) ∧ Below w.heap.size w w' := by
  have HX := Lib.hid hx
  clear hx
  by_cases hbad : a < 1 ∨ 32 < a
  · by_cases h1 : a < 1
    all_goals
      go_enter Try.func4, Try.ntmps4
      go_wp2_with (go_at_call 23; refine (works_any _).mono ?_; rintro e w' ⟨rfl, hb⟩)
      go_ret
      exact ⟨rfl, hb⟩
  · obtain ⟨P, rfl⟩ := Int.eq_ofNat_of_zero_le (show 0 ≤ a by omega)
    have h1 : ¬ (P : Int) < 1 := by omega
    have h2 : ¬ 32 < (P : Int) := by omega
    have HP1 := Lib.hid (played_one P (by omega) (by omega) w 0 at_ 0 x HX.out)
    clear hbad
    go_enter Try.func4, Try.ntmps4
    go_wp2_with (first
      | (go_at_call 26; refine HP1.out.mono ?_; rintro e w1 ⟨S, g, c, l, rfl, hB⟩; have HB := Lib.hid hB; clear hB)
      | (go_at_call 12; refine (HB.out.get _).mono ?_; rintro e w2 ⟨rfl, hB⟩; have HB2 := Lib.hid hB; clear hB)
      | (go_at_call 27; refine (HB2.out.rget _).mono ?_; rintro e w3 ⟨rfl, rfl⟩)
      | (go_at_call 15; refine (num_any _ _).mono ?_; rintro e w' ⟨rfl, rfl⟩)
      | (go_at_call 24; refine HB2.out.is.mono ?_; rintro e w4 ⟨rfl, hb⟩; have HB4 := Lib.hid (HB2.out.below hb); clear hb)
      | (go_at_call 23; refine (works_any _).mono ?_; rintro e w5 ⟨rfl, hb5⟩))
    go_ret
    exact ⟨rfl, HB4.out.w.trans (hb5.mono HB4.out.w.size)⟩
theorem ShadowUnions_walk (a : Int) (_ha : (Lit.int .i64 a).wf = true) (v : Value) (xs : List Step4) (at_ : Int) (_hat : (Lit.int .i64 at_).wf = true) (n : Int) (_hn : (Lit.int .i64 n).wf = true) (w : World) (hin : StepsIn w v xs) :
    Calls Try.prog 6 #[.int .i64 a, v, .int .i64 at_, .int .i64 n] w fun e w' => e = .returned (.bool true) ∧ Below w.heap.size w w' := by
  have HP := Lib.hid fun (P : Nat) (h0 : 1 ≤ P) (h1 : P ≤ 32) => played_any P h0 h1 w v xs hin
  obtain ⟨o, cap, rfl, hcap, hlen, _⟩ := hin.form
  clear hin
  by_cases hbad : a < 1 ∨ 32 < a ∨ 40 < (xs.length : Int)
  · by_cases h1 : a < 1
    · clear hbad
      go_enter Try.func6, Try.ntmps6
      go_wp2_with (go_at_call 23; refine (works_any _).mono ?_; rintro e w' ⟨rfl, hb⟩)
      go_ret
      exact ⟨rfl, hb⟩
    · by_cases h2 : 32 < a
      · clear hbad
        go_enter Try.func6, Try.ntmps6
        go_wp2_with (go_at_call 23; refine (works_any _).mono ?_; rintro e w' ⟨rfl, hb⟩)
        go_ret
        exact ⟨rfl, hb⟩
      · have h3 : 40 < (xs.length : Int) := by omega
        clear hbad
        go_enter Try.func6, Try.ntmps6
        go_wp2_with (go_at_call 23; refine (works_any _).mono ?_; rintro e w' ⟨rfl, hb⟩)
        go_ret
        exact ⟨rfl, hb⟩
  · obtain ⟨P, rfl⟩ := Int.eq_ofNat_of_zero_le (show 0 ≤ a by omega)
    have h1 : ¬ (P : Int) < 1 := by omega
    have h2 : ¬ 32 < (P : Int) := by omega
    have h3 : ¬ 40 < (xs.length : Int) := by omega
    have HP1 := Lib.hid (HP.out P (by omega) (by omega))
    clear hbad HP
    go_enter Try.func6, Try.ntmps6
    go_wp2_with (first
      | (go_at_call 26; refine HP1.out.mono ?_; rintro e w1 ⟨S, g, c, rfl, hB⟩; have HB := Lib.hid hB; clear hB)
      | (go_at_call 13; refine (HB.out.union _ _).mono ?_; rintro e w2 ⟨rfl, hB⟩; have HB2 := Lib.hid hB; clear hB)
      | (go_at_call 28; refine (HB2.out.runion _ _).mono ?_; rintro e w3 ⟨rfl, rfl⟩)
      | (go_at_call 15; refine (num_any _ _).mono ?_; rintro e w' ⟨rfl, rfl⟩)
      | (go_at_call 24; refine HB2.out.is.mono ?_; rintro e w4 ⟨rfl, hb⟩; have HB4 := Lib.hid (HB2.out.below hb); clear hb)
      | (go_at_call 23; refine (works_any _).mono ?_; rintro e w5 ⟨rfl, hb5⟩))
    go_ret
    exact ⟨rfl, HB4.out.w.trans (hb5.mono HB4.out.w.size)⟩
theorem ShadowFills_walk (a : Int) (_ha : (Lit.int .i64 a).wf = true) (at_ : Int) (_hat : (Lit.int .i64 at_).wf = true) (n : Int) (_hn : (Lit.int .i64 n).wf = true) (x : Int) (hx : W32 x) (y : Int) (hy : W32 y) (w : World) :
    Calls Try.prog 8 #[.int .i64 a, .int .i64 at_, .int .i64 n, .int .u32 x, .int .u32 y] w fun e w' => e = .returned (.bool true) ∧ Below w.heap.size w w' := by
  have HX := Lib.hid hx
  have HY := Lib.hid hy
  clear hx hy
  by_cases hbad : a < 1 ∨ 32 < a
  · by_cases h1 : a < 1
    all_goals
      go_enter Try.func8, Try.ntmps8
      go_wp2_with (go_at_call 23; refine (works_any _).mono ?_; rintro e w' ⟨rfl, hb⟩)
      go_ret
      exact ⟨rfl, hb⟩
  · obtain ⟨P, rfl⟩ := Int.eq_ofNat_of_zero_le (show 0 ≤ a by omega)
    have h1 : ¬ (P : Int) < 1 := by omega
    have h2 : ¬ 32 < (P : Int) := by omega
    have HP1 := Lib.hid (played_one P (by omega) (by omega) w 1 at_ n x HX.out)
    clear hbad
    go_enter Try.func8, Try.ntmps8
    go_wp2_with fail
    refine HP1.out.mono ?_; rintro e w1 ⟨S, g, c, l, rfl, hB⟩; have HB := Lib.hid hB; clear hB
    go_wp2_with fail
    refine HB.out.is.mono ?_; rintro e w2 ⟨rfl, hb⟩; have HB2 := Lib.hid (HB.out.below hb); clear hb
    go_wp2_with fail
    refine (RFill_at HB2.out at_ n y HY.out).mono ?_; rintro e w3 ⟨g', c', rfl, hr, hg, hb⟩
    have HS := Lib.hid (Fill_at HB2.out at_ n y HY.out hr hg hb)
    clear hr hg hb
    generalize fillR P l at_ n y = l' at *
    go_wp2_with (first
      | (go_at_call 17; refine HS.out.mono ?_; rintro e w4 ⟨rfl, hB⟩; have HB4 := Lib.hid hB; clear hB)
      | (go_at_call 15; refine (num_any _ _).mono ?_; rintro e w' ⟨rfl, rfl⟩)
      | (go_at_call 24; refine HB4.out.is.mono ?_; rintro e w5 ⟨rfl, hb⟩; have HB5 := Lib.hid (HB4.out.below hb); clear hb)
      | (go_at_call 23; refine (works_any _).mono ?_; rintro e w6 ⟨rfl, hb6⟩))
    go_ret
    exact ⟨rfl, HB5.out.w.trans (hb6.mono HB5.out.w.size)⟩
end Go.Proofs.Ytepmndadbikijaa
