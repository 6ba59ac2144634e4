/-
  Layer 2: what each small function of package labels gives, over a table that lies: walks.
-/
import Derived.Test.YtafnclkkncokpaaDoorRows
import Derived.Test.YtafnclkkncokpaaDoorTab
import Derived.Test.YtafnclkkncokpaaDoorScope
import Derived.WalkKit
import Derived.WalkSpells
import Derived.WalkLawsBesides
import Derived.Lib.Hide
import Derived.Maps.OwnSet
import Derived.Deep.QuietTactic
import Derived.BigQuiet
namespace Go.Proofs.YtafnclkkncokpaaDoor
open Go.RowKit
set_option maxHeartbeats 400000

theorem none_nil (w : World) : Calls Tryd.prog 31 #[.pointer none] w fun e w' => e = .returned (.bool true) ∧ w = w' := by
  go_enter Tryd.func31, Tryd.ntmps31
  go_wp2
  go_ret
  exact ⟨rfl, rfl⟩
theorem none_zero (T : Nat) (w : World) (hc : w.cell? ⟨T, 0, none⟩ = some (.int .i64 0)) : Calls Tryd.prog 31 #[.pointer (some ⟨T, 0, none⟩)] w fun e w' => e = .returned (.bool true) ∧ w = w' := by
  go_enter Tryd.func31, Tryd.ntmps31
  go_wp2
  go_ret
  exact ⟨rfl, rfl⟩
theorem none_some (T : Nat) (most : Int) (w : World) (hc : w.cell? ⟨T, 0, none⟩ = some (.int .i64 most)) (hm : 1 ≤ most) : Calls Tryd.prog 31 #[.pointer (some ⟨T, 0, none⟩)] w fun e w' => e = .returned (.bool false) ∧ w = w' := by
  go_enter Tryd.func31, Tryd.ntmps31
  go_wp2
  go_ret
  exact ⟨by simp; omega, rfl⟩
theorem isSet_any (x : Int) (hx : W32 x) (w : World) : Calls Tryd.prog 32 #[.int .u32 x] w fun e w' => e = .returned (.bool (decide (x < 65536))) ∧ w = w' := by
  obtain ⟨h0, h1⟩ := hx
  go_enter Tryd.func32, Tryd.ntmps32
  go_wp2
  go_ret
  refine ⟨?_, rfl⟩
  simp
  rw [Bool.eq_iff_iff]; simp; omega
theorem hasNumber_any (T : Nat) (v : Option Addr) (n c : Nat) (k : Int) (w : World) (hc : w.cell? ⟨T, 1, none⟩ = some (.slice v n c)) :
    Calls Tryd.prog 34 #[.pointer (some ⟨T, 0, none⟩), .int .i64 k] w fun e w' => e = .returned (.bool (decide (0 ≤ k ∧ k < (n : Int)))) ∧ w = w' := by
  go_enter Tryd.func34, Tryd.ntmps34
  go_wp2
  all_goals go_ret
  all_goals exact ⟨by simp <;> omega, rfl⟩

theorem Len_none (w : World) : Calls Tryd.prog 27 #[.pointer none] w fun e w' => e = .returned (.int .i64 0) ∧ w = w' := by
  go_enter Tryd.func27, Tryd.ntmps27
  go_wp2_with (go_at_call 31; refine (none_nil _).mono ?_; rintro e w' ⟨rfl, rfl⟩)
  go_ret
  exact ⟨rfl, rfl⟩
theorem Len_any (T : Nat) (most : Int) (ss : List Int) (m : Nat) (F : List Nat) (w : World) (h : Tab w T most ss m F) :
    Calls Tryd.prog 27 #[.pointer (some ⟨T, 0, none⟩)] w fun e w' => e = .returned (.int .i64 (ss.length : Int)) ∧ w = w' := by
  obtain ⟨g, c, mb, jb, D, J, rfl, h⟩ := h
  obtain ⟨c0, c1, c2, c3⟩ := h.cell
  have hm : 1 ≤ most := by have := h.sets.pos; have := h.sets.len; omega
  go_enter Tryd.func27, Tryd.ntmps27
  go_wp2_with (go_at_call 31; refine (none_some T most _ c0 hm).mono ?_; rintro e w' ⟨rfl, rfl⟩)
  go_ret
  exact ⟨rfl, rfl⟩

/-! ### with a goto -/
theorem Set_nil (k : Int) (w : World) : Calls Tryd.prog 15 #[.pointer none, .int .i64 k] w fun e w' => e = .returned (.tuple #[.int .u32 0, .int .i64 1]) ∧ w = w' := by
  go_enter Tryd.func15, Tryd.ntmps15
  go_wp2
  refine wp_scope_fwd 0 rfl ?_
  go_wp2_with (go_at_call 31; refine (none_nil _).mono ?_; rintro e w' ⟨rfl, rfl⟩)
  go_step3
  refine ⟨rfl, ?_⟩
  go_wp2
  rw [Exit.noGoto_ret]
  go_ret2
  exact ⟨rfl, rfl⟩
theorem Set_none (T : Nat) (most : Int) (ss : List Int) (m : Nat) (F : List Nat) (k : Int) (w : World) (h : Tab w T most ss m F) (hk : ¬ (0 ≤ k ∧ k < (ss.length : Int))) :
    Calls Tryd.prog 15 #[.pointer (some ⟨T, 0, none⟩), .int .i64 k] w fun e w' => e = .returned (.tuple #[.int .u32 0, .int .i64 5]) ∧ w = w' := by
  obtain ⟨g, c, mb, jb, D, J, rfl, h⟩ := h
  obtain ⟨c0, c1, c2, c3⟩ := h.cell
  have hm : 1 ≤ most := by have := h.sets.pos; have := h.sets.len; omega
  have hd : decide (0 ≤ k ∧ k < (ss.length : Int)) = false := by simpa using hk
  go_enter Tryd.func15, Tryd.ntmps15
  go_wp2
  refine wp_scope_fwd 0 rfl ?_
  go_wp2_with (first | (go_at_call 31; refine (none_some T most _ c0 hm).mono ?_; rintro e w' ⟨rfl, rfl⟩) | (go_at_call 34; refine (hasNumber_any T _ _ _ k _ c1).mono ?_; rintro e w' ⟨rfl, rfl⟩; rw [hd]))
  go_step3
  refine ⟨rfl, ?_⟩
  go_wp2
  rw [Exit.noGoto_ret]
  go_ret2
  exact ⟨rfl, rfl⟩
theorem Set_some (T : Nat) (most : Int) (ss : List Int) (m : Nat) (F : List Nat) (k : Nat) (w : World) (h : Tab w T most ss m F) (hk : k < ss.length) :
    Calls Tryd.prog 15 #[.pointer (some ⟨T, 0, none⟩), .int .i64 (k : Int)] w fun e w' => e = .returned (.tuple #[.int .u32 (ss[k]?.getD 0), .int .i64 0]) ∧ w = w' := by
  obtain ⟨g, c, mb, jb, D, J, rfl, h⟩ := h
  obtain ⟨c0, c1, c2, c3⟩ := h.cell
  have hm : 1 ≤ most := by have := h.sets.pos; have := h.sets.len; omega
  have hd : decide (0 ≤ (k : Int) ∧ (k : Int) < (ss.length : Int)) = true := by simp; omega
  have hs := h.set_ hk
  go_enter Tryd.func15, Tryd.ntmps15
  go_wp2
  refine wp_scope_fwd 0 rfl ?_
  go_wp2_with (first | (go_at_call 31; refine (none_some T most _ c0 hm).mono ?_; rintro e w' ⟨rfl, rfl⟩) | (go_at_call 34; refine (hasNumber_any T _ _ _ k _ c1).mono ?_; rintro e w' ⟨rfl, rfl⟩; rw [hd]))
  rw [Fwd_ret]
  go_ret2
  exact ⟨by simp [hk], rfl⟩

theorem Has_nil (x : Int) (w : World) : Calls Tryd.prog 18 #[.pointer none, .int .u32 x] w fun e w' => e = .returned (.tuple #[.int .i64 0, .bool false]) ∧ w = w' := by
  go_enter Tryd.func18, Tryd.ntmps18
  go_wp2_with (go_at_call 31; refine (none_nil _).mono ?_; rintro e w' ⟨rfl, rfl⟩)
  go_ret2
  exact ⟨rfl, rfl⟩
theorem Has_zero (T : Nat) (x : Int) (w : World) (hc : w.cell? ⟨T, 0, none⟩ = some (.int .i64 0)) : Calls Tryd.prog 18 #[.pointer (some ⟨T, 0, none⟩), .int .u32 x] w fun e w' => e = .returned (.tuple #[.int .i64 0, .bool false]) ∧ w = w' := by
  go_enter Tryd.func18, Tryd.ntmps18
  go_wp2_with (go_at_call 31; refine (none_zero T _ hc).mono ?_; rintro e w' ⟨rfl, rfl⟩)
  go_ret2
  exact ⟨rfl, rfl⟩
theorem zeroInt (w : World) : (zeroValue 3).run Tryd.prog w = .ok (.int .i64 0) w := by kernel_rfl
/-- What the map of numbers answers. -/
theorem look_num {w : World} {T g c mb jb : Nat} {most : Int} {ss : List Int} {m : Nat} {D J : DataW Unit} (h : TabIs w T g c mb jb most ss m D J) {x : Int} (hx : W32 x) :
    (Instr.lookup 58 (.map (some mb)) (.int .u32 x) true).run Tryd.prog w = .ok (.tuple #[.int .i64 (if x ∈ ss then (pos ss x : Int) else 0), .bool (decide (x ∈ ss))]) w := by
  obtain ⟨h1, h2⟩ := h.numD x hx
  obtain ⟨v, ps, hr, hv⟩ := h.num.look_ok numLaw Tryd.underlying58 (zeroInt w) (plainElem_int Tryd.underlying3 (wf_i64 (by omega) (by omega))) (key_u32 hx)
  obtain ⟨a, rfl, ha, _⟩ := plainElem_int_inv Tryd.underlying3 hv
  rw [h2] at ha
  simp only [Prod.mk.injEq, DataW.lit.injEq, Lit.int.injEq, true_and] at ha
  rw [hr, h1, ha.1]
theorem Has_any (T : Nat) (most : Int) (ss : List Int) (m : Nat) (F : List Nat) (x : Int) (hx : W32 x) (w : World) (h : Tab w T most ss m F) :
    Calls Tryd.prog 18 #[.pointer (some ⟨T, 0, none⟩), .int .u32 x] w fun e w' => e = .returned (.tuple #[.int .i64 (if x ∈ ss then (pos ss x : Int) else 0), .bool (decide (x ∈ ss))]) ∧ w = w' := by
  obtain ⟨g, c, mb, jb, D, J, rfl, h⟩ := h
  obtain ⟨c0, c1, c2, c3⟩ := h.cell
  have hm : 1 ≤ most := by have := h.sets.pos; have := h.sets.len; omega
  have hl := look_num h hx
  obtain ⟨r, hr⟩ : ∃ r : Int, r = (if x ∈ ss then (pos ss x : Int) else 0) := ⟨_, rfl⟩
  obtain ⟨q, hq⟩ : ∃ q : Bool, q = decide (x ∈ ss) := ⟨_, rfl⟩
  rw [← hr, ← hq] at hl ⊢
  clear hr hq
  go_enter Tryd.func18, Tryd.ntmps18
  go_wp2_with (go_at_call 31; refine (none_some T most _ c0 hm).mono ?_; rintro e w' ⟨rfl, rfl⟩)
  go_ret2
  exact ⟨rfl, rfl⟩
end Go.Proofs.YtafnclkkncokpaaDoor
