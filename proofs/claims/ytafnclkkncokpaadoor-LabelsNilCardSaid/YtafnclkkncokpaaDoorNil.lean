/-
  Layer 2: the walk of LabelsNil.
-/
import Derived.Test.YtafnclkkncokpaaDoorKnown
import Derived.Test.YtafnclkkncokpaaDoorCopy
import Derived.Test.YtafnclkkncokpaaDoorLeaf
namespace Go.Proofs.YtafnclkkncokpaaDoor
open Go.RowKit
set_option maxHeartbeats 1000000
theorem Set_zero (T : Nat) (k : Int) (w : World) (hc : w.cell? ⟨T, 0, none⟩ = some (.int .i64 0)) : Calls Tryd.prog 15 #[.pointer (some ⟨T, 0, none⟩), .int .i64 k] w fun e w' => e = .returned (.tuple #[.int .u32 0, .int .i64 1]) ∧ w = w' := by
  go_enter Tryd.func15, Tryd.ntmps15
  go_wp2
  refine wp_scope_fwd 0 rfl ?_
  go_wp2_with (go_at_call 31; refine (none_zero T _ hc).mono ?_; rintro e w' ⟨rfl, rfl⟩)
  go_step3
  refine ⟨rfl, ?_⟩
  go_wp2
  rw [Exit.noGoto_ret]
  go_ret2
  exact ⟨rfl, rfl⟩

theorem none_tab {w : World} {T : Nat} {most : Int} {ss : List Int} {m : Nat} {F : List Nat} (h : Tab w T most ss m F) : Calls Tryd.prog 31 #[.pointer (some ⟨T, 0, none⟩)] w fun e w' => e = .returned (.bool false) ∧ w = w' := by
  obtain ⟨g, c, mb, jb, D, J, rfl, h⟩ := h
  exact none_some T most w h.cell.1 (by have := h.sets.pos; have := h.sets.len; omega)
theorem same_nz (T : Nat) (w : World) (hc : w.cell? ⟨T, 0, none⟩ = some (.int .i64 0)) : Calls Tryd.prog 20 #[.pointer none, .pointer (some ⟨T, 0, none⟩)] w fun e w' => e = .returned (.bool true) ∧ w = w' :=
  Same_none none _ true true w rfl (none_nil w) (none_zero T w hc)
theorem same_nt (T : Nat) (most : Int) (ss : List Int) (m : Nat) (F : List Nat) (w : World) (h : Tab w T most ss m F) : Calls Tryd.prog 20 #[.pointer none, .pointer (some ⟨T, 0, none⟩)] w fun e w' => e = .returned (.bool false) ∧ w = w' :=
  Same_none none _ true false w rfl (none_nil w) (none_tab h)
theorem same_tz (T U : Nat) (most : Int) (ss : List Int) (m : Nat) (F : List Nat) (w : World) (h : Tab w T most ss m F) (hc : w.cell? ⟨U, 0, none⟩ = some (.int .i64 0)) : Calls Tryd.prog 20 #[.pointer (some ⟨T, 0, none⟩), .pointer (some ⟨U, 0, none⟩)] w fun e w' => e = .returned (.bool false) ∧ w = w' :=
  Same_none _ _ false true w rfl (none_tab h) (none_zero U w hc)

set_option maxRecDepth 100000 in
theorem LabelsNil_walk (k a b x : Int) (hx : W32 x) (w : World) : Calls Tryd.prog 7 #[.agg #[.int .i64 k, .int .i64 a, .int .i64 b, .int .u32 x]] w fun e w' => e = .returned (.bool true) ∧ Below w.heap.size w w' := by
  have hB : ((w.alloc (.cells #[.int .i64 k, .int .i64 a, .int .i64 b, .int .u32 x] 37)).alloc (.cells #[.int .i64 0, .slice none 0 0, .map none, .map none] 61)).heap[w.heap.size + 1]? = some (.cells #[.int .i64 0, .slice none 0 0, .map none, .map none] 61) := by
    have := heap_alloc_new (w.alloc (.cells #[.int .i64 k, .int .i64 a, .int .i64 b, .int .u32 x] 37)) (.cells #[.int .i64 0, .slice none 0 0, .map none, .map none] 61)
    rwa [World.size_alloc] at this
  have hz : ((w.alloc (.cells #[.int .i64 k, .int .i64 a, .int .i64 b, .int .u32 x] 37)).alloc (.cells #[.int .i64 0, .slice none 0 0, .map none, .map none] 61)).cell? ⟨w.heap.size + 1, 0, none⟩ = some (.int .i64 0) := (cell_of_row _ _ 0 _ _ _ hB).trans rfl
  have hb0 : Below w.heap.size w ((w.alloc (.cells #[.int .i64 k, .int .i64 a, .int .i64 b, .int .u32 x] 37)).alloc (.cells #[.int .i64 0, .slice none 0 0, .map none, .map none] 61)) := ((Below.refl _ w).alloc (Nat.le_refl _) _).alloc (by simp) _
  go_enter Tryd.func7, Tryd.ntmps7
  go_wp2_with (first
    | (go_at_call 14; (with_reducible refine (Keep_nil _ _).mono ?_); rintro e w1 ⟨rfl, rfl⟩)
    | (go_at_call 15; (with_reducible refine (Set_zero _ _ _ hz).mono ?_); rintro e w1 ⟨rfl, rfl⟩)
    | (go_at_call 16; (with_reducible refine (Join_nil _ _ _).mono ?_); rintro e w1 ⟨rfl, rfl⟩)
    | (go_at_call 18; (with_reducible refine (Has_zero _ _ _ hz).mono ?_); rintro e w1 ⟨rfl, rfl⟩)
    | (go_at_call 10; (with_reducible refine (New_good 1 (by decide) (by decide) _).mono ?_); rintro e w1 ⟨rfl, hT, hb1⟩; have hT' := hT; simp only [World.size_alloc] at hT'; have hz1 := (cell_of_row w1 _ 0 _ _ _ ((hb1.block (w.heap.size + 1) (by simp)).trans hB)).trans (show _ = some (Value.int .i64 0) from rfl))
    | (go_at_call 27; (with_reducible refine (Len_none _).mono ?_); rintro e w2 ⟨rfl, rfl⟩)
    | (go_at_call 17; (with_reducible refine (All_zero _ _ hz1).mono ?_); rintro e w2 ⟨rfl, rfl⟩)
    | (go_at_call 19; (with_reducible refine (Copy_nil _).mono ?_); rintro e w2 ⟨rfl, rfl⟩)
    | (go_at_call 20; (with_reducible refine (same_nz _ _ hz1).mono ?_); rintro e w2 ⟨rfl, rfl⟩)
    | (go_at_call 20; (with_reducible refine (same_nt _ _ _ _ _ _ hT').mono ?_); rintro e w2 ⟨rfl, rfl⟩)
    | (go_at_call 20; (with_reducible refine (same_tz _ _ _ _ _ _ _ hT' hz1).mono ?_); rintro e w2 ⟨rfl, rfl⟩)
    | (go_at_call 9; (with_reducible refine (known_any _).mono ?_); rintro e w3 ⟨rfl, hb3⟩))
  go_ret
  have hB1 := hb0.trans (hb1.mono hb0.size)
  exact ⟨rfl, hB1.trans (hb3.mono hB1.size)⟩
end Go.Proofs.YtafnclkkncokpaaDoor
