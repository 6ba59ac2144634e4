/-
  Layer 10: set of touches: walks. Written by gen_tq.py.
-/
import Derived.Test.YthjdfneibogcgaaDoorTrap
namespace Go.Proofs.YthjdfneibogcgaaDoor
open Go.RowKit
set_option maxHeartbeats 16000000
set_option linter.unusedVariables false
set_option linter.unusedSimpArgs false

set_option maxRecDepth 20000 in
theorem tset_2 {N : Nat} {w : World} {T : Nat} {l : List Tch} (h : At N w T l) (hl : l.length ≤ 3) (n k' n' : Int) :
    Calls Tryd.prog 57 #[.pointer (some ⟨T, 0, none⟩), .agg (pla ⟨2, n⟩), .agg (pla ⟨k', n'⟩)] w fun e w' => e = .returned (.tuple #[]) ∧ At N w' T (l ++ ([] : List Tch)) ∧ Kp N w w' := by
  obtain ⟨W, HW⟩ : ∃ W, Hid (W = (w.alloc (.cells (pla ⟨2, n⟩) 49)).alloc (.cells (pla ⟨k', n'⟩) 49)) := ⟨_, rfl⟩
  have HT : Hid (Tq N w T l [(w.heap.size + 1, 49, 2, pla ⟨k', n'⟩), (w.heap.size, 49, 2, pla ⟨2, n⟩)] W) := Lib.hid (by
    rw [HW.out]
    exact ((Pb.new w (pla_ok ⟨2, n⟩) (ty := 49) (by decide) (by decide)).box (g := w.heap.size + 1) (bel1 _ (.cells (pla ⟨k', n'⟩) 49)) (by have := (pla_ok ⟨k', n'⟩).new 49 (w.alloc (.cells (pla ⟨2, n⟩) 49)); rw [World.size_alloc] at this; exact this) (by decide) (by decide)).tq h)
  have HE1 : Hid (Rf 49 2 _ _ #[.int .i64 2, .int .i64 n]) := Lib.hid HT.out.b.h1
  have HE0 : Hid (Rf 49 2 _ _ #[.int .i64 k', .int .i64 n']) := Lib.hid HT.out.b.h0
  have qk := (HT.out.b.h1.cell 0).trans (show (pla ⟨2, n⟩)[0]? = some (.int .i64 2) from rfl)
  clear h
  go_enter Tryd.func57, Tryd.ntmps57
  go_wp2_with (rw [← HW.out])
  go_end0
  refine ⟨rfl, ?_, HT.out.k⟩
  have := HT.out.a
  simpa using this
set_option maxRecDepth 20000 in
theorem tset_7 {N : Nat} {w : World} {T : Nat} {l : List Tch} (h : At N w T l) (hl : l.length ≤ 3) (n k' n' : Int) :
    Calls Tryd.prog 57 #[.pointer (some ⟨T, 0, none⟩), .agg (pla ⟨7, n⟩), .agg (pla ⟨k', n'⟩)] w fun e w' => e = .returned (.tuple #[]) ∧ At N w' T (l ++ [⟨⟨7, n⟩, [⟨7, n⟩, ⟨k', n'⟩]⟩]) ∧ Kp N w w' := by
  obtain ⟨W, HW⟩ : ∃ W, Hid (W = (w.alloc (.cells (pla ⟨7, n⟩) 49)).alloc (.cells (pla ⟨k', n'⟩) 49)) := ⟨_, rfl⟩
  have HT : Hid (Tq N w T l [(w.heap.size + 1, 49, 2, pla ⟨k', n'⟩), (w.heap.size, 49, 2, pla ⟨7, n⟩)] W) := Lib.hid (by
    rw [HW.out]
    exact ((Pb.new w (pla_ok ⟨7, n⟩) (ty := 49) (by decide) (by decide)).box (g := w.heap.size + 1) (bel1 _ (.cells (pla ⟨k', n'⟩) 49)) (by have := (pla_ok ⟨k', n'⟩).new 49 (w.alloc (.cells (pla ⟨7, n⟩) 49)); rw [World.size_alloc] at this; exact this) (by decide) (by decide)).tq h)
  have HE1 : Hid (Rf 49 2 _ _ #[.int .i64 7, .int .i64 n]) := Lib.hid HT.out.b.h1
  have HE0 : Hid (Rf 49 2 _ _ #[.int .i64 k', .int .i64 n']) := Lib.hid HT.out.b.h0
  have qk := (HT.out.b.h1.cell 0).trans (show (pla ⟨7, n⟩)[0]? = some (.int .i64 7) from rfl)
  clear h
  go_enter Tryd.func57, Tryd.ntmps57
  go_wp2_with (first | (rw [← HW.out]) | ((with_reducible refine wp_load_R rowP HE1.out ?_ ?_); (rfl)) | ((with_reducible refine wp_load_R rowP HE0.out ?_ ?_); (rfl)))
  clear qk HE1 HE0 HW
  refine (give_any (HT.out.after (bel1 _ _)).a (by first | omega | (simp only [List.length_append, List.length_cons, List.length_nil]; omega)) ⟨7, n⟩ _ [⟨7, n⟩, ⟨k', n'⟩] (pl2 _ _ _ _ _)).mono ?_
  rintro e W5 ⟨rfl, hA, hK⟩
  replace HT := Lib.hid ((HT.out.after (bel1 _ _)).give hA hK)
  clear hA hK
  go_wp2
  go_end0
  refine ⟨rfl, ?_, HT.out.k⟩
  have := HT.out.a
  simpa [on] using this
set_option maxRecDepth 20000 in
theorem tset_o {N : Nat} {w : World} {T : Nat} {l : List Tch} (h : At N w T l) (hl : l.length ≤ 3) (k n k' n' : Int) (h2 : k ≠ 2) (h7 : k ≠ 7) :
    Calls Tryd.prog 57 #[.pointer (some ⟨T, 0, none⟩), .agg (pla ⟨k, n⟩), .agg (pla ⟨k', n'⟩)] w fun e w' => e = .returned (.tuple #[]) ∧ At N w' T (l ++ [⟨⟨k, n⟩, [⟨k', n'⟩]⟩]) ∧ Kp N w w' := by
  obtain ⟨W, HW⟩ : ∃ W, Hid (W = (w.alloc (.cells (pla ⟨k, n⟩) 49)).alloc (.cells (pla ⟨k', n'⟩) 49)) := ⟨_, rfl⟩
  have HT : Hid (Tq N w T l [(w.heap.size + 1, 49, 2, pla ⟨k', n'⟩), (w.heap.size, 49, 2, pla ⟨k, n⟩)] W) := Lib.hid (by
    rw [HW.out]
    exact ((Pb.new w (pla_ok ⟨k, n⟩) (ty := 49) (by decide) (by decide)).box (g := w.heap.size + 1) (bel1 _ (.cells (pla ⟨k', n'⟩) 49)) (by have := (pla_ok ⟨k', n'⟩).new 49 (w.alloc (.cells (pla ⟨k, n⟩) 49)); rw [World.size_alloc] at this; exact this) (by decide) (by decide)).tq h)
  have HE1 : Hid (Rf 49 2 _ _ #[.int .i64 (k), .int .i64 n]) := Lib.hid HT.out.b.h1
  have HE0 : Hid (Rf 49 2 _ _ #[.int .i64 k', .int .i64 n']) := Lib.hid HT.out.b.h0
  have qk := (HT.out.b.h1.cell 0).trans (show (pla ⟨k, n⟩)[0]? = some (.int .i64 k) from rfl)
  clear h
  go_enter Tryd.func57, Tryd.ntmps57
  go_wp2_with (first | (rw [← HW.out]) | ((with_reducible refine wp_load_R rowP HE1.out ?_ ?_); (rfl)) | ((with_reducible refine wp_load_R rowP HE0.out ?_ ?_); (rfl)))
  clear qk HE1 HE0 HW
  refine (give_any (HT.out.after (bel1 _ _)).a (by first | omega | (simp only [List.length_append, List.length_cons, List.length_nil]; omega)) ⟨k, n⟩ _ [⟨k', n'⟩] (pl1 _ _ _)).mono ?_
  rintro e W5 ⟨rfl, hA, hK⟩
  replace HT := Lib.hid ((HT.out.after (bel1 _ _)).give hA hK)
  clear hA hK
  go_wp2
  go_end0
  refine ⟨rfl, ?_, HT.out.k⟩
  have := HT.out.a
  simpa [on] using this
end Go.Proofs.YthjdfneibogcgaaDoor
