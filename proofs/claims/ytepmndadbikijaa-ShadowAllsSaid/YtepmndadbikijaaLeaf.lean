/-
  Layer 3: the small functions of package shadow: none, Size, has, refusal, page, Pages, Private, New: walks.
-/
import Derived.Test.YtepmndadbikijaaRows
import Derived.Test.YtepmndadbikijaaTab
import Derived.WalkKit
import Derived.WalkSpells
import Derived.WalkLawsBesides
import Derived.Lib.Hide
namespace Go.Proofs.Ytepmndadbikijaa
open Go.RowKit
set_option maxHeartbeats 400000

theorem none_nil (w : World) : Calls Try.prog 41 #[.pointer none] w fun e w' => e = .returned (.bool true) ∧ w = w' := by
  go_enter Try.func41, Try.ntmps41
  go_wp2
  go_ret
  exact ⟨rfl, rfl⟩
theorem none_some (S P : Nat) (w : World) (hc : w.cell? ⟨S, 32, none⟩ = some (.int .i64 (P : Int))) (h1 : 1 ≤ P) :
    Calls Try.prog 41 #[.pointer (some ⟨S, 0, none⟩)] w fun e w' => e = .returned (.bool false) ∧ w = w' := by
  go_enter Try.func41, Try.ntmps41
  go_wp2
  go_ret
  exact ⟨by simp; omega, rfl⟩
theorem Size_nil (w : World) : Calls Try.prog 18 #[.pointer none] w fun e w' => e = .returned (.int .i64 0) ∧ w = w' := by
  go_enter Try.func18, Try.ntmps18
  go_wp2_with (go_at_call 41; refine (none_nil _).mono ?_; rintro e w' ⟨rfl, rfl⟩)
  go_ret
  exact ⟨rfl, rfl⟩
theorem Size_cell (S P : Nat) (w : World) (hc : w.cell? ⟨S, 32, none⟩ = some (.int .i64 (P : Int))) (h1 : 1 ≤ P) (h2 : P ≤ 32) :
    Calls Try.prog 18 #[.pointer (some ⟨S, 0, none⟩)] w fun e w' => e = .returned (.int .i64 (64 * P : Nat)) ∧ w = w' := by
  go_enter Try.func18, Try.ntmps18
  go_wp2_with (go_at_call 41; refine (none_some S P _ hc h1).mono ?_; rintro e w' ⟨rfl, rfl⟩)
  go_ret
  exact ⟨by simp; omega, rfl⟩
theorem Sh.cell {w : World} {S P : Nat} {l : List Int} {F : Nat → Prop} (h : Sh w S P l F) : w.cell? ⟨S, 32, none⟩ = some (.int .i64 (P : Int)) ∧ 1 ≤ P ∧ P ≤ 32 := by
  obtain ⟨mb, G, D, rfl, h⟩ := h
  exact ⟨h.cells.1, h.bytes.lo, h.bytes.hi⟩
theorem Size_any {w : World} {S P : Nat} {l : List Int} {F : Nat → Prop} (h : Sh w S P l F) :
    Calls Try.prog 18 #[.pointer (some ⟨S, 0, none⟩)] w fun e w' => e = .returned (.int .i64 (64 * P : Nat)) ∧ w = w' := Size_cell S P w h.cell.1 h.cell.2.1 h.cell.2.2

/-- Are there n bytes from a on? -/
def insB (P : Nat) (a n : Int) : Bool := decide (0 ≤ a) && decide (a ≤ 64 * P) && decide (0 ≤ n) && decide (n ≤ 64 * P - a)
theorem insB_yes {P : Nat} {a n : Int} (h : insB P a n = true) : ∃ i k : Nat, a = i ∧ n = k ∧ i + k ≤ 64 * P := by
  simp [insB] at h
  exact ⟨a.toNat, n.toNat, by omega, by omega, by omega⟩
theorem insB_one {P i : Nat} : insB P (i : Int) 1 = decide (i < 64 * P) := by
  simp [insB]
  by_cases h : i < 64 * P
  · simp [h]; omega
  · simp [h]; omega
theorem has_cell (S P : Nat) (a n : Int) (w : World) (hc : w.cell? ⟨S, 32, none⟩ = some (.int .i64 (P : Int))) (h1 : 1 ≤ P) (h2 : P ≤ 32) :
    Calls Try.prog 46 #[.pointer (some ⟨S, 0, none⟩), .int .i64 a, .int .i64 n] w fun e w' => e = .returned (.bool (insB P a n)) ∧ w = w' := by
  have HS : Hid (∀ W, W = w → Calls Try.prog 18 #[.pointer (some ⟨S, 0, none⟩)] W fun e w' => e = .returned (.int .i64 (64 * P : Nat)) ∧ W = w') := fun W e => by subst e; exact Size_cell S P W hc h1 h2
  clear hc
  unfold insB
  by_cases ha : 0 ≤ a
  · by_cases hb : a ≤ 64 * P
    · by_cases hn : 0 ≤ n
      all_goals
        go_enter Try.func46, Try.ntmps46
        go_wp2_with (go_at_call 18; refine (HS.out _ rfl).mono ?_; rintro e w' ⟨rfl, rfl⟩)
        go_ret
        exact ⟨by simp [ha, hb, hn] <;> omega, rfl⟩
    · go_enter Try.func46, Try.ntmps46
      go_wp2_with (go_at_call 18; refine (HS.out _ rfl).mono ?_; rintro e w' ⟨rfl, rfl⟩)
      go_ret
      exact ⟨by simp [ha, hb] <;> omega, rfl⟩
  · go_enter Try.func46, Try.ntmps46
    go_wp2_with (go_at_call 18; refine (HS.out _ rfl).mono ?_; rintro e w' ⟨rfl, rfl⟩)
    go_ret
    exact ⟨by simp <;> omega, rfl⟩
/-- Why n bytes from a on can't be asked for, or have that set. -/
def refR (P : Nat) (a n x : Int) : Int := if 65536 ≤ x then 2 else if insB P a n = true then 0 else 4
theorem refusal_nil (a n x : Int) (w : World) : Calls Try.prog 33 #[.pointer none, .int .i64 a, .int .i64 n, .int .u32 x] w fun e w' => e = .returned (.int .i64 1) ∧ w = w' := by
  go_enter Try.func33, Try.ntmps33
  go_wp2_with (go_at_call 41; refine (none_nil _).mono ?_; rintro e w' ⟨rfl, rfl⟩)
  go_ret
  exact ⟨rfl, rfl⟩
theorem refusal_cell (S P : Nat) (a n x : Int) (hx : W32 x) (w : World) (hc : w.cell? ⟨S, 32, none⟩ = some (.int .i64 (P : Int))) (h1 : 1 ≤ P) (h2 : P ≤ 32) :
    Calls Try.prog 33 #[.pointer (some ⟨S, 0, none⟩), .int .i64 a, .int .i64 n, .int .u32 x] w fun e w' => e = .returned (.int .i64 (refR P a n x)) ∧ w = w' := by
  obtain ⟨x0, x1⟩ := hx
  have HH := Lib.hid (has_cell S P a n w hc h1 h2)
  by_cases hb : 65536 ≤ x
  · have hs : x / 65536 ≠ 0 := by omega
    go_enter Try.func33, Try.ntmps33
    go_wp2_with (go_at_call 41; refine (none_some S P _ hc h1).mono ?_; rintro e w' ⟨rfl, rfl⟩)
    go_ret
    exact ⟨by simp [refR, hb], rfl⟩
  · have hs : x / 65536 = 0 := by omega
    cases hi : insB P a n
    all_goals
      rw [hi] at HH
      go_enter Try.func33, Try.ntmps33
      go_wp2_with (first | (go_at_call 41; refine (none_some S P _ hc h1).mono ?_; rintro e w' ⟨rfl, rfl⟩) | (go_at_call 46; refine (HH.out).mono ?_; rintro e w' ⟨rfl, rfl⟩))
      go_ret
      exact ⟨by simp [refR, hb, hi], rfl⟩
theorem num_any (x : Int) (w : World) : Calls Try.prog 15 #[.int .i64 x] w fun e w' => e = .returned (.int .i64 x) ∧ w = w' := by
  go_enter Try.func15, Try.ntmps15
  go_wp2
  go_ret
  exact ⟨rfl, rfl⟩
/-- Where a page's sets are read. -/
def pageAt (S : Nat) (l : List Int) (G : Nat → Nat) (p : Nat) : Addr := if priv l p = true then ⟨G p, 0, none⟩ else ⟨S, 34, none⟩
theorem page_any {w : World} {S mb P : Nat} {l : List Int} {G : Nat → Nat} {D : DataW Unit} (h : ShIs w S mb P l G D) {p : Nat} (hp : p < P) :
    Calls Try.prog 36 #[.pointer (some ⟨S, 0, none⟩), .int .i64 (p : Int)] w fun e w' => e = .returned (.pointer (some (pageAt S l G p))) ∧ w = w' := by
  obtain ⟨c0, c1, c2⟩ := h.cells
  have h32 := h.bytes.hi
  cases hq : priv l p with
  | true =>
    have hl := (h.look_yes hq).1
    have HA : Hid (pageAt S l G p = ⟨G p, 0, none⟩) := by simp [Hid, pageAt, hq]
    clear h hq
    go_enter Try.func36, Try.ntmps36
    go_wp2
    go_ret
    exact ⟨by rw [HA.out]; rfl, rfl⟩
  | false =>
    have hl := (h.look_no (k := (p : Int)) (wf_i64 (by omega) (by omega)) (by simp [hq])).1
    have HA : Hid (pageAt S l G p = ⟨S, 34, none⟩) := by simp [Hid, pageAt, hq]
    clear h hq
    go_enter Try.func36, Try.ntmps36
    go_wp2
    go_ret
    exact ⟨by rw [HA.out]; rfl, rfl⟩
theorem Pages_nil (w : World) : Calls Try.prog 19 #[.pointer none] w fun e w' => e = .returned (.int .i64 0) ∧ w = w' := by
  go_enter Try.func19, Try.ntmps19
  go_wp2_with (go_at_call 41; refine (none_nil _).mono ?_; rintro e w' ⟨rfl, rfl⟩)
  go_ret
  exact ⟨rfl, rfl⟩
theorem Pages_any {w : World} {S P : Nat} {l : List Int} {F : Nat → Prop} (h : Sh w S P l F) :
    Calls Try.prog 19 #[.pointer (some ⟨S, 0, none⟩)] w fun e w' => e = .returned (.int .i64 ((privs l P).length : Int)) ∧ w = w' := by
  obtain ⟨mb, G, D, rfl, h⟩ := h
  obtain ⟨c0, c1, c2⟩ := h.cells
  have h1 := h.bytes.lo
  have hl := h.map.len Try.underlying65 3
  rw [h.pd.size] at hl
  clear h
  go_enter Try.func19, Try.ntmps19
  go_wp2_with (go_at_call 41; refine (none_some S P _ c0 h1).mono ?_; rintro e w' ⟨rfl, rfl⟩)
  go_ret
  exact ⟨rfl, rfl⟩
theorem Private_nil (k : Int) (w : World) : Calls Try.prog 20 #[.pointer none, .int .i64 k] w fun e w' => e = .returned (.bool false) ∧ w = w' := by
  go_enter Try.func20, Try.ntmps20
  go_wp2_with (go_at_call 41; refine (none_nil _).mono ?_; rintro e w' ⟨rfl, rfl⟩)
  go_ret
  exact ⟨rfl, rfl⟩
theorem Private_any {w : World} {S P : Nat} {l : List Int} {F : Nat → Prop} (h : Sh w S P l F) (k : Int) (hk : (Lit.int .i64 k).wf = true) :
    Calls Try.prog 20 #[.pointer (some ⟨S, 0, none⟩), .int .i64 k] w fun e w' => e = .returned (.bool (decide (0 ≤ k) && priv l k.toNat)) ∧ w = w' := by
  obtain ⟨mb, G, D, rfl, h⟩ := h
  obtain ⟨c0, c1, c2⟩ := h.cells
  have h1 := h.bytes.lo
  by_cases hp : 0 ≤ k ∧ priv l k.toNat = true
  · obtain ⟨p, rfl⟩ := Int.eq_ofNat_of_zero_le hp.1
    have hl := (h.look_yes (p := p) (by simpa using hp.2)).2
    have HP := Lib.hid hp
    clear h hp
    go_enter Try.func20, Try.ntmps20
    go_wp2_with (go_at_call 41; refine (none_some S P _ c0 h1).mono ?_; rintro e w' ⟨rfl, rfl⟩)
    go_ret
    exact ⟨by simpa using HP.out.2, rfl⟩
  · have hl := (h.look_no hk hp).2
    have HP := Lib.hid hp
    clear h hp
    go_enter Try.func20, Try.ntmps20
    go_wp2_with (go_at_call 41; refine (none_some S P _ c0 h1).mono ?_; rintro e w' ⟨rfl, rfl⟩)
    go_ret
    refine ⟨?_, rfl⟩
    have := HP.out
    by_cases h0 : 0 ≤ k
    · simp [h0] at this ⊢; simp [this]
    · simp [h0]
theorem New_bad (k : Int) (h : k < 1 ∨ 32 < k) (w : World) : Calls Try.prog 11 #[.int .i64 k] w fun e w' => e = .returned (.tuple #[.pointer none, .int .i64 2]) ∧ w = w' := by
  rcases h with h | h
  · go_enter Try.func11, Try.ntmps11
    go_wp2
    go_ret2
    exact ⟨rfl, rfl⟩
  · have h0 : ¬ k < 1 := by omega
    go_enter Try.func11, Try.ntmps11
    go_wp2
    go_ret2
    exact ⟨rfl, rfl⟩
theorem New_any (P : Nat) (h0 : 1 ≤ P) (h1 : P ≤ 32) (w : World) : Calls Try.prog 11 #[.int .i64 (P : Int)] w fun e w' =>
    ∃ F, e = .returned (.tuple #[.pointer (some ⟨w.heap.size + 1, 0, none⟩), .int .i64 0]) ∧ Sh w' (w.heap.size + 1) P (List.replicate (64 * P) 0) F ∧ (∀ k, F k → w.heap.size ≤ k) ∧ Below w.heap.size w w' := by
  have hmm := @run_makeMap Try.prog
  have hz := zero_sh
  have hs := shCells_size
  have hn := shCells_new
  go_enter Try.func11, Try.ntmps11
  go_wp2
  go_ret2
  have hS := sh_new (w := (w.alloc (.map #[] 0)).alloc (.cells (shCells (fun _ => 0) P (some w.heap.size)) 72)) (S := w.heap.size + 1) (mb := w.heap.size) h0 h1
    (by have := heap_alloc_new (w.alloc (.map #[] 0)) (.cells (shCells (fun _ => 0) P (some w.heap.size)) 72); rwa [World.size_alloc] at this)
    ((World.ownsMap_made w Try.prog 3 ptrElem).alloc _)
  refine ⟨_, rfl, hS, ?_, ((Below.refl _ _).alloc (Nat.le_refl _) _).alloc (by simp) _⟩
  rintro k (rfl | rfl | ⟨p, hp, _⟩)
  · omega
  · omega
  · simp [priv, cnt_new] at hp
end Go.Proofs.Ytepmndadbikijaa
