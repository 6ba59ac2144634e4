/-
  Layer 7: the small functions of package lines: none, canBeRaised, has, askers, SetAlarm, Alarm, SetMask, Mask, Raise, Raised, Waits: walks.
-/
import Derived.Test.YtmnkggnghflcpaaRows
import Derived.Test.YtmnkggnghflcpaaTab
import Derived.WalkKit
import Derived.WalkSpells
import Derived.WalkLawsBesides
import Derived.Lib.Hide
import Derived.Laws.StructEq
import Derived.Maps.OwnIn
import Derived.Maps.AppendAt
import Derived.BigQuiet
import Derived.Laws.BitsAllLaws
namespace Go.Proofs.Ytmnkggnghflcpaa
open Go.RowKit
set_option maxHeartbeats 400000
set_option linter.unusedVariables false

/-! ### what a call makes of lines -/
theorem AtIs.off {w : World} {S : Nat} {l : Ls} {wv tv : Value} (h : AtIs w S l wv tv) (v : Value) : (∀ k, blkOf v = some k → blkOf wv = some k ∨ blkOf tv = some k) → ∀ k, blkOf v = some k → k ≠ S := fun hv k hk => by
  rcases hv k hk with e | e
  · exact h.q.ne h.blk (by decide) e
  · exact h.t.ne h.blk (by decide) e
theorem Qs.setCell {w : World} {v : Value} {xs : List Int} (h : Qs w v xs) {S : Nat} {cs : Array Value} (hS : Blk w S cs 71) (j : Nat) (u : Value) : Qs (w.setCell ⟨S, j, none⟩ u) v xs :=
  h.keep fun k hk => Below.heap_setCell _ _ _ _ (h.ne hS (by decide) hk)
theorem AtIs.set {w : World} {S : Nat} {l l' : Ls} {wv tv : Value} (h : AtIs w S l wv tv) (j : Nat) (v : Value) (e : (pcL l wv tv).setIfInBounds j v = pcL l' wv tv) (ew : l'.wt = l.wt) (et : l'.td = l.td) : AtIs (w.setCell ⟨S, j, none⟩ v) S l' wv tv :=
  ⟨by have := h.blk.setCell j v; rw [e] at this; exact this, by rw [ew]; exact h.q.setCell h.blk j v, by rw [et]; exact h.t.setCell h.blk j v, h.ne⟩
/-- Lines that stand so behind a call; only their own blocks have turned. -/
def Chg (w : World) (S : Nat) (l : Ls) (F : Nat → Prop) (w' : World) : Prop := ∃ F', At w' S l F' ∧ (∀ k, F' k → F k ∨ w.heap.size ≤ k) ∧ Turned F w w'
theorem At.same {w : World} {S : Nat} {l : Ls} {F : Nat → Prop} (h : At w S l F) : Chg w S l F w := ⟨F, h, fun k hk => .inl hk, Turned.refl _ _⟩
theorem AtIs.chg {w : World} {S : Nat} {l l' : Ls} {wv tv : Value} (h : AtIs w S l wv tv) (j : Nat) (v : Value) (e : (pcL l wv tv).setIfInBounds j v = pcL l' wv tv) (ew : l'.wt = l.wt) (et : l'.td = l.td) : Chg w S l' (atF S wv tv) (w.setCell ⟨S, j, none⟩ v) :=
  ⟨_, ⟨wv, tv, rfl, h.set j v e ew et⟩, fun k hk => .inl hk, (Turned.refl _ w).setCell (.inl (.inl rfl)) v⟩

/-! ### walks -/
theorem num_any (x : Int) (w : World) : Calls Try.prog 28 #[.int .i64 x] w fun e w' => e = .returned (.int .i64 x) ∧ w = w' := by
  go_enter Try.func28, Try.ntmps28
  go_wp2
  go_ret
  exact ⟨rfl, rfl⟩
theorem none_nil (w : World) : Calls Try.prog 45 #[.pointer none] w fun e w' => e = .returned (.bool true) ∧ w = w' := by
  go_enter Try.func45, Try.ntmps45
  go_wp2
  go_ret
  exact ⟨rfl, rfl⟩
theorem none_at {w : World} {S : Nat} (hc : w.cell? ⟨S, 0, none⟩ = some (.bool true)) : Calls Try.prog 45 #[.pointer (some ⟨S, 0, none⟩)] w fun e w' => e = .returned (.bool false) ∧ w = w' := by
  go_enter Try.func45, Try.ntmps45
  go_wp2
  go_ret
  exact ⟨rfl, rfl⟩
theorem canBe_any (k : Int) (w : World) : Calls Try.prog 46 #[.int .i64 k] w fun e w' => e = .returned (.bool (decide (k = 2 ∨ k = 3))) ∧ w = w' := by
  by_cases h : k = 2
  · go_enter Try.func46, Try.ntmps46
    go_wp2
    go_ret
    exact ⟨by simp [h], rfl⟩
  · go_enter Try.func46, Try.ntmps46
    go_wp2
    go_ret
    exact ⟨by by_cases h3 : k = 3 <;> simp [h, h3], rfl⟩
theorem New_any (w : World) : Calls Try.prog 12 #[] w fun e w' => e = .returned (.pointer (some ⟨w.heap.size, 0, none⟩)) ∧ w' = w.alloc (.cells (pcL L0 (.slice none 0 0) (.slice none 0 0)) 71) := by
  go_enter Try.func12, Try.ntmps12
  go_wp2
  go_ret
  exact ⟨rfl, rfl⟩
theorem at_new (w : World) : At (w.alloc (.cells (pcL L0 (.slice none 0 0) (.slice none 0 0)) 71)) w.heap.size L0 (atF w.heap.size (.slice none 0 0) (.slice none 0 0)) :=
  ⟨_, _, rfl, blk_new _ _ _, Qs.nil _, Qs.nil _, fun k hk => by simp [blkOf] at hk⟩
theorem and1 {a : Int} (h0 : 0 ≤ a) (h1 : a < 4294967296) : bits .and .u32 a 1 = a % 2 := by
  rw [u32_and a 1 h0 h1 (by omega) (by omega)]
  show ((a.toNat &&& 1 : Nat) : Int) = _
  rw [nat_mask1]; omega
theorem and15 {a : Int} (h0 : 0 ≤ a) (h1 : a < 4294967296) : bits .and .u32 a 15 = a % 16 := by
  rw [u32_and a 15 h0 h1 (by omega) (by omega)]
  show ((a.toNat &&& 15 : Nat) : Int) = _
  rw [nat_mask4]; omega
theorem has_any (m : Int) (i : Nat) (hm : 0 ≤ m ∧ m < 16) (hi : i < 4) (w : World) : Calls Try.prog 43 #[.int .u32 m, .int .i64 (i : Int)] w fun e w' => e = .returned (.bool (bit m i)) ∧ w = w' := by
  have h0 : 0 ≤ m / 2 ^ i := Int.ediv_nonneg hm.1 (Int.pow_nonneg (by omega))
  have h1 : m / 2 ^ i < 4294967296 := by
    have := Int.ediv_le_self (2 ^ i) hm.1
    omega
  have H := Lib.hid (and1 h0 h1)
  clear h0 h1
  go_enter Try.func43, Try.ntmps43
  go_wp2
  go_ret
  refine ⟨?_, rfl⟩
  rw [H.out]; unfold bit
  congr 2

/-! ### the alarm, the mask -/
theorem SetAlarm_nil (x : Int) (w : World) : Calls Try.prog 26 #[.pointer none, .int .u32 x] w fun e w' => e = .returned (.tuple #[]) ∧ w = w' := by
  go_enter Try.func26, Try.ntmps26
  go_wp2_with (go_at_call 45; refine (none_nil _).mono ?_; rintro e w' ⟨rfl, rfl⟩)
  go_end0
  exact ⟨rfl, rfl⟩
theorem SetAlarm_any {w : World} {S : Nat} {l : Ls} {F : Nat → Prop} (h : At w S l F) (x : Int) : Calls Try.prog 26 #[.pointer (some ⟨S, 0, none⟩), .int .u32 x] w fun e w' => e = .returned (.tuple #[]) ∧ Chg w S { l with al := x } F w' := by
  obtain ⟨wv, tv, rfl, h⟩ := h
  obtain ⟨c0, c1, _⟩ := h.cells
  have hf := h.blk.frozen 1
  have HC := Lib.hid (h.chg 1 (.int .u32 x) (l' := { l with al := x }) rfl rfl rfl)
  have HN := Lib.hid (none_at c0)
  clear h c0
  go_enter Try.func26, Try.ntmps26
  go_wp2_with (go_at_call 45; refine HN.out.mono ?_; rintro e w' ⟨rfl, rfl⟩)
  go_end0
  exact ⟨rfl, HC.out⟩
theorem Alarm_nil (w : World) : Calls Try.prog 30 #[.pointer none] w fun e w' => e = .returned (.int .u32 0) ∧ w = w' := by
  go_enter Try.func30, Try.ntmps30
  go_wp2_with (go_at_call 45; refine (none_nil _).mono ?_; rintro e w' ⟨rfl, rfl⟩)
  go_ret
  exact ⟨rfl, rfl⟩
theorem Alarm_any {w : World} {S : Nat} {l : Ls} {F : Nat → Prop} (h : At w S l F) : Calls Try.prog 30 #[.pointer (some ⟨S, 0, none⟩)] w fun e w' => e = .returned (.int .u32 l.al) ∧ w = w' := by
  obtain ⟨wv, tv, rfl, h⟩ := h
  obtain ⟨c0, c1, _⟩ := h.cells
  have HN := Lib.hid (none_at c0)
  clear h c0
  go_enter Try.func30, Try.ntmps30
  go_wp2_with (go_at_call 45; refine HN.out.mono ?_; rintro e w' ⟨rfl, rfl⟩)
  go_ret
  exact ⟨rfl, rfl⟩
theorem SetMask_nil (x : Int) (w : World) : Calls Try.prog 27 #[.pointer none, .int .u32 x] w fun e w' => e = .returned (.tuple #[]) ∧ w = w' := by
  go_enter Try.func27, Try.ntmps27
  go_wp2_with (go_at_call 45; refine (none_nil _).mono ?_; rintro e w' ⟨rfl, rfl⟩)
  go_end0
  exact ⟨rfl, rfl⟩
theorem SetMask_any {w : World} {S : Nat} {l : Ls} {F : Nat → Prop} (h : At w S l F) (x : Int) (hx : W32 x) : Calls Try.prog 27 #[.pointer (some ⟨S, 0, none⟩), .int .u32 x] w fun e w' => e = .returned (.tuple #[]) ∧ Chg w S { l with ms := x % 16 } F w' := by
  obtain ⟨wv, tv, rfl, h⟩ := h
  obtain ⟨c0, _, c2, _⟩ := h.cells
  have hf := h.blk.frozen 2
  have HC := Lib.hid (h.chg 2 (.int .u32 (x % 16)) (l' := { l with ms := x % 16 }) rfl rfl rfl)
  have HN := Lib.hid (none_at c0)
  have hb := and15 hx.1 hx.2
  clear h c0 hx
  go_enter Try.func27, Try.ntmps27
  go_wp2_with (go_at_call 45; refine HN.out.mono ?_; rintro e w' ⟨rfl, rfl⟩)
  go_end0
  exact ⟨rfl, HC.out⟩
theorem Mask_nil (w : World) : Calls Try.prog 35 #[.pointer none] w fun e w' => e = .returned (.int .u32 0) ∧ w = w' := by
  go_enter Try.func35, Try.ntmps35
  go_wp2_with (go_at_call 45; refine (none_nil _).mono ?_; rintro e w' ⟨rfl, rfl⟩)
  go_ret
  exact ⟨rfl, rfl⟩
theorem Mask_any {w : World} {S : Nat} {l : Ls} {F : Nat → Prop} (h : At w S l F) : Calls Try.prog 35 #[.pointer (some ⟨S, 0, none⟩)] w fun e w' => e = .returned (.int .u32 l.ms) ∧ w = w' := by
  obtain ⟨wv, tv, rfl, h⟩ := h
  obtain ⟨c0, _, c2, _⟩ := h.cells
  have HN := Lib.hid (none_at c0)
  clear h c0
  go_enter Try.func35, Try.ntmps35
  go_wp2_with (go_at_call 45; refine HN.out.mono ?_; rintro e w' ⟨rfl, rfl⟩)
  go_ret
  exact ⟨rfl, rfl⟩

/-! ### raised lines -/
theorem Raise_nil (k : Int) (up : Bool) (w : World) : Calls Try.prog 29 #[.pointer none, .int .i64 k, .bool up] w fun e w' => e = .returned (.int .i64 1) ∧ w = w' := by
  go_enter Try.func29, Try.ntmps29
  go_wp2_with (go_at_call 45; refine (none_nil _).mono ?_; rintro e w' ⟨rfl, rfl⟩)
  go_ret
  exact ⟨rfl, rfl⟩
theorem Raise_any {w : World} {S : Nat} {l : Ls} {F : Nat → Prop} (h : At w S l F) (k : Int) (up : Bool) : Calls Try.prog 29 #[.pointer (some ⟨S, 0, none⟩), .int .i64 k, .bool up] w fun e w' => e = .returned (.int .i64 (raiseE k)) ∧ Chg w S (l.raise k up) F w' := by
  have HS := Lib.hid h.same
  obtain ⟨wv, tv, rfl, h⟩ := h
  obtain ⟨c0, _, _, c3, c4, c5, c6, _⟩ := h.cells
  have hf5 := h.blk.frozen 5
  have hf6 := h.blk.frozen 6
  have HC5 := Lib.hid (h.chg 5 (.bool up) (l' := { l with d := up }) rfl rfl rfl)
  have HC6 := Lib.hid (h.chg 6 (.bool up) (l' := { l with n := up }) rfl rfl rfl)
  have HN := Lib.hid (none_at c0)
  have HB := Lib.hid (fun W => canBe_any k W)
  clear h c0
  by_cases e2 : k = 2
  · subst e2
    have hd : decide ((2 : Int) = 2 ∨ (2 : Int) = 3) = true := by decide
    rw [hd] at HB
    clear hd
    go_enter Try.func29, Try.ntmps29
    go_wp2_with (first | (go_at_call 45; refine HN.out.mono ?_; rintro e w' ⟨rfl, rfl⟩) | (go_at_call 46; refine (HB.out _).mono ?_; rintro e w' ⟨rfl, rfl⟩))
    go_ret
    exact ⟨rfl, HC5.out⟩
  · by_cases e3 : k = 3
    · subst e3
      have hd : decide ((3 : Int) = 2 ∨ (3 : Int) = 3) = true := by decide
      rw [hd] at HB
      clear hd e2
      go_enter Try.func29, Try.ntmps29
      go_wp2_with (first | (go_at_call 45; refine HN.out.mono ?_; rintro e w' ⟨rfl, rfl⟩) | (go_at_call 46; refine (HB.out _).mono ?_; rintro e w' ⟨rfl, rfl⟩))
      go_ret
      exact ⟨rfl, HC6.out⟩
    · have hd : decide (k = 2 ∨ k = 3) = false := by simp [e2, e3]
      have E := Lib.hid (show raiseE k = 2 by simp [raiseE, e2, e3])
      have E2 := Lib.hid (show l.raise k up = l by simp [Ls.raise, e2, e3])
      rw [hd] at HB
      clear hd
      go_enter Try.func29, Try.ntmps29
      go_wp2_with (first | (go_at_call 45; refine HN.out.mono ?_; rintro e w' ⟨rfl, rfl⟩) | (go_at_call 46; refine (HB.out _).mono ?_; rintro e w' ⟨rfl, rfl⟩))
      go_ret
      exact ⟨by rw [E.out]; rfl, by rw [E2.out]; exact HS.out⟩
theorem Raised_nil (k : Int) (w : World) : Calls Try.prog 19 #[.pointer none, .int .i64 k] w fun e w' => e = .returned (.bool false) ∧ w = w' := by
  go_enter Try.func19, Try.ntmps19
  go_wp2_with (go_at_call 45; refine (none_nil _).mono ?_; rintro e w' ⟨rfl, rfl⟩)
  go_ret
  exact ⟨rfl, rfl⟩
theorem Raised_any {w : World} {S : Nat} {l : Ls} {F : Nat → Prop} (h : At w S l F) (k : Int) : Calls Try.prog 19 #[.pointer (some ⟨S, 0, none⟩), .int .i64 k] w fun e w' => e = .returned (.bool (l.isUp k)) ∧ w = w' := by
  obtain ⟨wv, tv, rfl, h⟩ := h
  obtain ⟨c0, _, _, c3, c4, c5, c6, _⟩ := h.cells
  have HN := Lib.hid (none_at c0)
  have HB := Lib.hid (fun W => canBe_any k W)
  clear h c0
  by_cases e2 : k = 2
  · subst e2
    have hd : decide ((2 : Int) = 2 ∨ (2 : Int) = 3) = true := by decide
    rw [hd] at HB
    clear hd
    go_enter Try.func19, Try.ntmps19
    go_wp2_with (first | (go_at_call 45; refine HN.out.mono ?_; rintro e w' ⟨rfl, rfl⟩) | (go_at_call 46; refine (HB.out _).mono ?_; rintro e w' ⟨rfl, rfl⟩))
    go_ret
    exact ⟨rfl, rfl⟩
  · by_cases e3 : k = 3
    · subst e3
      have hd : decide ((3 : Int) = 2 ∨ (3 : Int) = 3) = true := by decide
      rw [hd] at HB
      clear hd e2
      go_enter Try.func19, Try.ntmps19
      go_wp2_with (first | (go_at_call 45; refine HN.out.mono ?_; rintro e w' ⟨rfl, rfl⟩) | (go_at_call 46; refine (HB.out _).mono ?_; rintro e w' ⟨rfl, rfl⟩))
      go_ret
      exact ⟨rfl, rfl⟩
    · have hd : decide (k = 2 ∨ k = 3) = false := by simp [e2, e3]
      have E := Lib.hid (show l.isUp k = false by simp [Ls.isUp, e2, e3])
      rw [hd] at HB
      clear hd
      go_enter Try.func19, Try.ntmps19
      go_wp2_with (first | (go_at_call 45; refine HN.out.mono ?_; rintro e w' ⟨rfl, rfl⟩) | (go_at_call 46; refine (HB.out _).mono ?_; rintro e w' ⟨rfl, rfl⟩))
      go_ret
      exact ⟨by rw [E.out]; rfl, rfl⟩
theorem Waits_nil (w : World) : Calls Try.prog 31 #[.pointer none] w fun e w' => e = .returned (.int .i64 0) ∧ w = w' := by
  go_enter Try.func31, Try.ntmps31
  go_wp2_with (go_at_call 45; refine (none_nil _).mono ?_; rintro e w' ⟨rfl, rfl⟩)
  go_ret
  exact ⟨rfl, rfl⟩
theorem Waits_any {w : World} {S : Nat} {l : Ls} {F : Nat → Prop} (h : At w S l F) : Calls Try.prog 31 #[.pointer (some ⟨S, 0, none⟩)] w fun e w' => e = .returned (.int .i64 (l.wt.length : Int)) ∧ w = w' := by
  obtain ⟨wv, tv, rfl, h⟩ := h
  obtain ⟨c0, _, _, _, _, _, _, c7, _⟩ := h.cells
  obtain ⟨ao, c, rfl, hc⟩ := h.q.shape
  have HN := Lib.hid (none_at c0)
  clear h c0
  go_enter Try.func31, Try.ntmps31
  go_wp2_with (go_at_call 45; refine HN.out.mono ?_; rintro e w' ⟨rfl, rfl⟩)
  go_ret
  exact ⟨rfl, rfl⟩
end Go.Proofs.Ytmnkggnghflcpaa
