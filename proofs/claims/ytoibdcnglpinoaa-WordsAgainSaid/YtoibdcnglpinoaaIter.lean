/-
  Layer 1: Bytes of the program: the iterator 'eachByte' and the range over it.
-/
import Derived.RangeFuncNested
import Derived.RangeFuncBound
import Derived.RangeFuncCalls
import Derived.RangeFuncLeaves
import Derived.Shelf.Abstract
import Derived.Shelf.RegionOpen
import Derived.WalkKit
import Derived.OwnWalkIn
import Derived.TacticsInMore
import Derived.LoopNIn
import Derived.LoopIn
import Derived.Test.YtoibdcnglpinoaaRows
import Derived.Test.YtoibdcnglpinoaaMath
import Derived.Test.YtoibdcnglpinoaaLeaf
import Derived.Lib.Hide
namespace Go.Proofs.Ytoibdcnglpinoaa
open Go.RowKit Go.Shelf
attribute [local go_sem] Oper.semAt_some

abbrev bEnc (a : Int) (i : Fin 4) : Array Value := #[.int .i64 (i.val : Int), .int .u8 (byt a i.val)]
/-- What a round keeps: the box of the word. -/
def bKeep (B : Nat) (W W' : World) : Prop := W'.heap[B]? = W.heap[B]?


theorem grown_of_below {w w' : World} (h : Below w.heap.size w w') : w.grownBy w' none :=
  ⟨h.os, h.tape, h.output, h.size, fun k hk _ => h.block k hk⟩

set_option maxHeartbeats 1000000 in
/-- eachByte tells the four bytes, in order. -/
theorem eachByte_stops (n : Nat) (hn : 1 ≤ n) (B : Nat) (a : Int) (ha : W32 a) (w : World) (hB : w.heap[B]? = some (.cells #[.int .u32 a] 22)) :
    SeqStopsK Fence.wide n Try.prog 42 #[.pointer (some ⟨B, 0, none⟩)] (bEnc a) (bKeep B) (fun xs => xs = [0, 1, 2, 3]) (fun _ => True) 4 w := fun l J Jx W hW hJ hJx hY h0 => by
  refine callsIn_of_wp Try.func42 rfl trivial ?_ rfl
  simp only [Try.ntmps42, List.size_toArray, List.length_cons, List.length_nil, Nat.reduceAdd, Nat.reduceSub, Array.replicate_succ, Array.replicate_zero, List.push_toArray, List.append_toArray, List.nil_append, List.cons_append]
  have hBl : B < w.heap.size := (Array.getElem?_eq_some_iff.1 hB).1
  have hB0 : W.heap[B]? = some (.cells #[.int .u32 a] 22) := (hW.block B hBl).trans hB
  have hc0 : W.cell? ⟨B, 0, none⟩ = some (.int .u32 a) := by simp [World.cell?, hB0]
  gi_wp2
  refine wpIn_loop_rounds 5 ?_
  rw [roundsIn_succ]
  gi_wp2_with (refine ⟨trivial, ?_⟩; gi_at_call 33; refine (callsIn_wide.2 (Byte_any a 0 ha ⟨by omega, by omega⟩ _)).mono ?_; rintro e w0 ⟨rfl, hb0⟩)
  have hJ0 : J [] w0 := hJ _ _ _ none h0 (grown_of_below hb0) (fun r e => by cases e)
  obtain ⟨f0, t0, a0, b0, hy0, hR0⟩ := hY [] 0 w0 hJ0 (by simp)
  simp [bEnc] at hy0
  rw [hy0, Oper.uponIn_round]
  refine ⟨fun _ => hn, hR0.mono ?_⟩
  rintro e W0 (⟨rfl, hj0, hk0⟩ | ⟨rfl, hx0⟩)
  rotate_left
  · gi_wp2
    refine bodyPost_ret (results_none rfl _ _ _) rfl ?_
    exact ⟨⟨_, rfl⟩, .inr ⟨_, trivial, hx0⟩⟩
  have hB1 : W0.heap[B]? = some (.cells #[.int .u32 a] 22) := hk0.trans ((hb0.block B (Array.getElem?_eq_some_iff.1 hB0).1).trans hB0)
  have hc1 : W0.cell? ⟨B, 0, none⟩ = some (.int .u32 a) := by simp [World.cell?, hB1]
  clear hR0 hy0 hJ0 hc0
  gi_wp2
  rw [roundsIn_succ]
  gi_wp2_with (refine ⟨trivial, ?_⟩; gi_at_call 33; refine (callsIn_wide.2 (Byte_any a 1 ha ⟨by omega, by omega⟩ _)).mono ?_; rintro e w1 ⟨rfl, hb1⟩)
  have hJ1 : J [0] w1 := hJ _ _ _ none hj0 (grown_of_below hb1) (fun r e => by cases e)
  obtain ⟨f1, t1, a1, b1, hy1, hR1⟩ := hY [0] 1 w1 hJ1 (by simp)
  simp [bEnc] at hy1
  rw [hy1, Oper.uponIn_round]
  refine ⟨fun _ => hn, hR1.mono ?_⟩
  rintro e W1 (⟨rfl, hj1, hk1⟩ | ⟨rfl, hx1⟩)
  rotate_left
  · gi_wp2
    refine bodyPost_ret (results_none rfl _ _ _) rfl ?_
    exact ⟨⟨_, rfl⟩, .inr ⟨_, trivial, hx1⟩⟩
  have hB2 : W1.heap[B]? = some (.cells #[.int .u32 a] 22) := hk1.trans ((hb1.block B (Array.getElem?_eq_some_iff.1 hB1).1).trans hB1)
  have hc2 : W1.cell? ⟨B, 0, none⟩ = some (.int .u32 a) := by simp [World.cell?, hB2]
  clear hR1 hy1 hJ1 hc1
  gi_wp2
  rw [roundsIn_succ]
  gi_wp2_with (refine ⟨trivial, ?_⟩; gi_at_call 33; refine (callsIn_wide.2 (Byte_any a 2 ha ⟨by omega, by omega⟩ _)).mono ?_; rintro e w2 ⟨rfl, hb2⟩)
  have hJ2 : J [0, 1] w2 := hJ _ _ _ none hj1 (grown_of_below hb2) (fun r e => by cases e)
  obtain ⟨f2, t2, a2, b2, hy2, hR2⟩ := hY [0, 1] 2 w2 hJ2 (by simp)
  simp [bEnc] at hy2
  rw [hy2, Oper.uponIn_round]
  refine ⟨fun _ => hn, hR2.mono ?_⟩
  rintro e W2 (⟨rfl, hj2, hk2⟩ | ⟨rfl, hx2⟩)
  rotate_left
  · gi_wp2
    refine bodyPost_ret (results_none rfl _ _ _) rfl ?_
    exact ⟨⟨_, rfl⟩, .inr ⟨_, trivial, hx2⟩⟩
  have hB3 : W2.heap[B]? = some (.cells #[.int .u32 a] 22) := hk2.trans ((hb2.block B (Array.getElem?_eq_some_iff.1 hB2).1).trans hB2)
  have hc3 : W2.cell? ⟨B, 0, none⟩ = some (.int .u32 a) := by simp [World.cell?, hB3]
  clear hR2 hy2 hJ2 hc2
  gi_wp2
  rw [roundsIn_succ]
  gi_wp2_with (refine ⟨trivial, ?_⟩; gi_at_call 33; refine (callsIn_wide.2 (Byte_any a 3 ha ⟨by omega, by omega⟩ _)).mono ?_; rintro e w3 ⟨rfl, hb3⟩)
  have hJ3 : J [0, 1, 2] w3 := hJ _ _ _ none hj2 (grown_of_below hb3) (fun r e => by cases e)
  obtain ⟨f3, t3, a3, b3, hy3, hR3⟩ := hY [0, 1, 2] 3 w3 hJ3 (by simp)
  simp [bEnc, show ((3 : Fin 4) : Nat) = 3 from rfl] at hy3
  rw [hy3, Oper.uponIn_round]
  refine ⟨fun _ => hn, hR3.mono ?_⟩
  rintro e W3 (⟨rfl, hj3, hk3⟩ | ⟨rfl, hx3⟩)
  rotate_left
  · gi_wp2
    refine bodyPost_ret (results_none rfl _ _ _) rfl ?_
    exact ⟨⟨_, rfl⟩, .inr ⟨_, trivial, hx3⟩⟩
  have hB4 : W3.heap[B]? = some (.cells #[.int .u32 a] 22) := hk3.trans ((hb3.block B (Array.getElem?_eq_some_iff.1 hB3).1).trans hB3)
  have hc4 : W3.cell? ⟨B, 0, none⟩ = some (.int .u32 a) := by simp [World.cell?, hB4]
  clear hR3 hy3 hJ3 hc3
  gi_wp2
  rw [roundsIn_succ]
  gi_wp2
  go_end0
  exact ⟨⟨_, rfl⟩, .inl ⟨_, rfl, hj3⟩⟩

theorem eachByte_any (a : Int) (w : World) :
    Calls Try.prog 40 #[.int .u32 a] w fun e w' => e = .returned (.func (.func 42) #[] #[.pointer (some ⟨w.heap.size, 0, none⟩)]) ∧ w' = w.alloc (.cells #[.int .u32 a] 22) := by
  have hmf : ∀ (fn : Fn) (first cap : Array Value) (w : World), (Instr.makeFunc fn first cap).run Try.prog w = .ok (.func fn first cap) w := fun _ _ _ _ => rfl
  go_enter Try.func40, Try.ntmps40
  go_wp2
  go_ret
  exact ⟨rfl, rfl⟩


/-- A block of cells lies as it lay where no block of cells is turned. -/
theorem blk_kept {W W' : World} {row : Option Nat} {b : Nat} {cs : Array Value} {t : TypeId} (h : W.heap[b]? = some (.cells cs t)) (hg : W.grownBy W' row)
    (hr : ∀ r, row = some r → ∃ o : Obj, W.heap[r]? = some o ∧ o.isCells = false) : W'.heap[b]? = some (.cells cs t) := by
  rw [hg.block b (Array.getElem?_eq_some_iff.1 h).1 ?_]
  · exact h
  · intro e
    obtain ⟨o, ho, hc⟩ := hr b e.symm
    rw [h] at ho
    cases ho
    cases hc

theorem set_block {W : World} {b : Nat} {cs : Array Value} {t : TypeId} (h : W.heap[b]? = some (.cells cs t)) (k : Nat) (u : Value) : (W.setCell ⟨b, k, none⟩ u).heap[b]? = some (.cells (cs.setIfInBounds k u) t) := by
  simp [World.setCell, Array.getElem?_modify, h]
theorem set_other {W : World} {b c : Nat} (h : b ≠ c) (k : Nat) (u : Value) : (W.setCell ⟨c, k, none⟩ u).heap[b]? = W.heap[b]? := Below.heap_setCell _ _ _ _ h

theorem three_blocks (w : World) (A B C : Obj) : (((w.alloc A).alloc B).alloc C).heap[w.heap.size]? = some A ∧ (((w.alloc A).alloc B).alloc C).heap[w.heap.size + 1]? = some B ∧ (((w.alloc A).alloc B).alloc C).heap[w.heap.size + 1 + 1]? = some C := by
  have s1 : (w.alloc A).heap.size = w.heap.size + 1 := World.size_alloc w A
  have s2 : ((w.alloc A).alloc B).heap.size = w.heap.size + 1 + 1 := by rw [World.size_alloc, s1]
  refine ⟨?_, ?_, ?_⟩
  · rw [Below.heap_alloc _ _ _ (by omega), Below.heap_alloc _ _ _ (by omega)]; exact World.alloc_heap_new w A
  · rw [Below.heap_alloc _ _ _ (by omega), ← s1]; exact World.alloc_heap_new _ B
  · rw [← s2]; exact World.alloc_heap_new _ C

/-- The i-th byte, where it has come. -/
def cv (a : Int) (pre : List (Fin 4)) (i : Fin 4) : Value := .int .u8 (if i ∈ pre then byt a i.val else 0)
theorem cv_hit (a : Int) (pre : List (Fin 4)) (i : Fin 4) : cv a (pre ++ [i]) i = .int .u8 (byt a i.val) := by simp [cv]
theorem cv_miss (a : Int) (pre : List (Fin 4)) (i j : Fin 4) (h : i ≠ j) : cv a (pre ++ [j]) i = cv a pre i := by simp [cv, h]

set_option maxRecDepth 100000 in
set_option maxHeartbeats 2000000 in
theorem Bytes_any (a : Int) (ha : W32 a) (w : World) :
    Calls Try.prog 29 #[.int .u32 a] w fun e w' => e = .returned (.agg #[.int .u8 (byt a 0), .int .u8 (byt a 1), .int .u8 (byt a 2), .int .u8 (byt a 3)]) ∧ Below w.heap.size w w' := by
  refine (callsIn_wide (n := 5)).1 ?_
  refine callsIn_of_wp_marks Try.func29 rfl trivial ?_ rfl
  simp only [Try.ntmps29, List.size_toArray, List.length_cons, List.length_nil, Nat.reduceAdd, Nat.reduceSub, Array.replicate_succ, Array.replicate_zero, List.push_toArray, List.append_toArray, List.nil_append, List.cons_append]
  gi_wp2_with (refine ⟨trivial, ?_⟩; gi_at_call 40; refine (callsIn_wide.2 (eachByte_any a _)).mono ?_; rintro e w1 ⟨rfl, rfl⟩)
  refine wpIn_rangeFunc_ownF rfl (by omega) (gf := 42) (lb := #[.pointer (some ⟨w.heap.size + 1 + 1, 0, none⟩)]) rfl trivial (enters_of Try.func42 (by kernel_rfl) rfl)
    (eachByte_stops _ (by omega) (w.heap.size + 1 + 1) a ha _ ?box) (fun h k => k.trans h) ?keep (Below.refl _ _) (fun _ => rfl)
    (fun pre W => (W.heap[w.heap.size]? = some (.cells #[.int .u8 0, .int .u8 0, .int .u8 0, .int .u8 0] 27) ∧
      W.heap[w.heap.size + 1]? = some (.cells #[cv a pre 0, cv a pre 1, cv a pre 2, cv a pre 3] 27)) ∧ Below w.heap.size w W)
    (fun _ _ _ => False)
    (OwnFrom.and (Own.from (fun s A B row hs hg hr => ⟨blk_kept hs.1 hg hr, blk_kept hs.2 hg hr⟩) _) (ownFrom_below (Nat.le_refl _) (by simp; omega)))
    (fun _ _ _ _ _ hs _ _ => hs)
    ?start
    (fun x => { tmps := #[.int .u32 a, undef, .pointer (some ⟨w.heap.size, 0, none⟩), .pointer (some ⟨w.heap.size + 1, 0, none⟩), .int .i64 (x.val : Int), .int .u8 (byt a x.val), .int .u32 a, .func (.func 42) #[] #[.pointer (some ⟨w.heap.size + 1 + 1, 0, none⟩)], .int .i64 (x.val : Int), .int .u8 (byt a x.val), undef, undef, undef, undef], defers := [] }) ?assign ?body ?done ?stop
  case box => exact (three_blocks _ _ _ _).2.2
  case keep =>
    intro W l o o' hl ho hc _
    have hs : w.heap.size + 1 + 1 + 1 ≤ l := by simpa using hl
    exact World.putObj_heap_other (by omega)
  case start =>
    refine ⟨⟨(three_blocks _ _ _ _).1, ?_⟩, (((Below.refl _ w).alloc (Nat.le_refl _) _).alloc (by simp) _).alloc (by simp; omega) _⟩
    have h := (three_blocks w (.cells #[.int .u8 0, .int .u8 0, .int .u8 0, .int .u8 0] 27) (.cells #[.int .u8 0, .int .u8 0, .int .u8 0, .int .u8 0] 27) (.cells #[.int .u32 a] 22)).2.1
    simpa [cv] using h
  case assign =>
    intro l x W K hK
    gi_wp2
    exact hK
  case body =>
    rintro l pre x W ⟨⟨h0, h1⟩, hB⟩ _
    have c0 : W.cell? ⟨w.heap.size + 1, 0, none⟩ = some (cv a pre 0) := by simp [World.cell?, h1]
    have c1 : W.cell? ⟨w.heap.size + 1, 1, none⟩ = some (cv a pre 1) := by simp [World.cell?, h1]
    have c2 : W.cell? ⟨w.heap.size + 1, 2, none⟩ = some (cv a pre 2) := by simp [World.cell?, h1]
    have c3 : W.cell? ⟨w.heap.size + 1, 3, none⟩ = some (cv a pre 3) := by simp [World.cell?, h1]
    have f0 : W.frozen? ⟨w.heap.size + 1, 0, none⟩ = false := by simp [World.frozen?, h1]
    have f1 : W.frozen? ⟨w.heap.size + 1, 1, none⟩ = false := by simp [World.frozen?, h1]
    have f2 : W.frozen? ⟨w.heap.size + 1, 2, none⟩ = false := by simp [World.frozen?, h1]
    have f3 : W.frozen? ⟨w.heap.size + 1, 3, none⟩ = false := by simp [World.frozen?, h1]
    match x with
    | 0 =>
      gi_wp2
      refine ⟨KeepsOthers.setCell _ _ _, set_other (by omega) _ _, ⟨(set_other (by omega) _ _).trans h0, ?_⟩, hB.setCell (p := ⟨w.heap.size + 1, 0, none⟩) (by simp) _⟩
      refine (set_block h1 0 _).trans ?_
      simp [cv]
    | 1 =>
      gi_wp2
      refine ⟨KeepsOthers.setCell _ _ _, set_other (by omega) _ _, ⟨(set_other (by omega) _ _).trans h0, ?_⟩, hB.setCell (p := ⟨w.heap.size + 1, 1, none⟩) (by simp) _⟩
      refine (set_block h1 1 _).trans ?_
      simp [cv]
    | 2 =>
      gi_wp2
      refine ⟨KeepsOthers.setCell _ _ _, set_other (by omega) _ _, ⟨(set_other (by omega) _ _).trans h0, ?_⟩, hB.setCell (p := ⟨w.heap.size + 1, 2, none⟩) (by simp) _⟩
      refine (set_block h1 2 _).trans ?_
      simp [cv]
    | 3 =>
      have hx3 : ((3 : Fin 4) : Nat) = 3 := rfl
      gi_wp2
      refine ⟨KeepsOthers.setCell _ _ _, set_other (by omega) _ _, ⟨(set_other (by omega) _ _).trans h0, ?_⟩, hB.setCell (p := ⟨w.heap.size + 1, 3, none⟩) (by simp) _⟩
      refine (set_block h1 3 _).trans ?_
      simp [cv, hx3]
  case done =>
    rintro D xs W hD rfl ⟨⟨h0, h1⟩, hB⟩ hK
    have c0 : W.cell? ⟨w.heap.size + 1, 0, none⟩ = some (.int .u8 (byt a 0)) := by simp [World.cell?, h1, cv]
    have c1 : W.cell? ⟨w.heap.size + 1, 1, none⟩ = some (.int .u8 (byt a 1)) := by simp [World.cell?, h1, cv]
    have c2 : W.cell? ⟨w.heap.size + 1, 2, none⟩ = some (.int .u8 (byt a 2)) := by simp [World.cell?, h1, cv]
    have c3 : W.cell? ⟨w.heap.size + 1, 3, none⟩ = some (.int .u8 (byt a 3)) := by simp [World.cell?, h1, cv, show ((3 : Fin 4) : Nat) = 3 from rfl]
    have d0 : W.cell? ⟨w.heap.size, 0, none⟩ = some (.int .u8 0) := by simp [World.cell?, h0]
    have d1 : W.cell? ⟨w.heap.size, 1, none⟩ = some (.int .u8 0) := by simp [World.cell?, h0]
    have d2 : W.cell? ⟨w.heap.size, 2, none⟩ = some (.int .u8 0) := by simp [World.cell?, h0]
    have d3 : W.cell? ⟨w.heap.size, 3, none⟩ = some (.int .u8 0) := by simp [World.cell?, h0]
    have g0 : W.frozen? ⟨w.heap.size, 0, none⟩ = false := by simp [World.frozen?, h0]
    have g1 : W.frozen? ⟨w.heap.size, 1, none⟩ = false := by simp [World.frozen?, h0]
    have g2 : W.frozen? ⟨w.heap.size, 2, none⟩ = false := by simp [World.frozen?, h0]
    have g3 : W.frozen? ⟨w.heap.size, 3, none⟩ = false := by simp [World.frozen?, h0]
    have hD' : w.heap.size + 1 + 1 + 1 ≤ D := by simpa using hD
    have r1 := set_block h0 0 (.int .u8 (byt a 0))
    have r2 := set_block r1 1 (.int .u8 (byt a 1))
    have r3 := set_block r2 2 (.int .u8 (byt a 2))
    have r4 := set_block r3 3 (.int .u8 (byt a 3))
    simp only [List.setIfInBounds_toArray, List.set_cons_zero, List.set_cons_succ] at r1 r2 r3 r4
    have R := Lib.hid r4
    clear r1 r2 r3 r4
    gi_wp2
    have hK1 := (((set_other (b := D) (c := w.heap.size) (by omega) 0 (.int .u8 (byt a 0))).trans hK))
    have hK2 := (((set_other (b := D) (c := w.heap.size) (by omega) 1 (.int .u8 (byt a 1))).trans hK1))
    have hK3 := (((set_other (b := D) (c := w.heap.size) (by omega) 2 (.int .u8 (byt a 2))).trans hK2))
    have hK4 := (((set_other (b := D) (c := w.heap.size) (by omega) 3 (.int .u8 (byt a 3))).trans hK3))
    refine ⟨by simp, .inl ⟨_, _, rfl, run_takeDeferred hK4, ?_⟩⟩
    have hr := (World.putObj_heap_other (o := Obj.deferred none) (show w.heap.size ≠ D by omega)).trans R.out
    generalize hV : World.putObj _ D (Obj.deferred none) = V at hr ⊢
    have e0 : V.cell? ⟨w.heap.size, 0, none⟩ = some (.int .u8 (byt a 0)) := by simp [World.cell?, hr]
    have e1 : V.cell? ⟨w.heap.size, 1, none⟩ = some (.int .u8 (byt a 1)) := by simp [World.cell?, hr]
    have e2 : V.cell? ⟨w.heap.size, 2, none⟩ = some (.int .u8 (byt a 2)) := by simp [World.cell?, hr]
    have e3 : V.cell? ⟨w.heap.size, 3, none⟩ = some (.int .u8 (byt a 3)) := by simp [World.cell?, hr]
    refine ⟨.agg #[.int .u8 (byt a 0), .int .u8 (byt a 1), .int .u8 (byt a 2), .int .u8 (byt a 3)], ?_, rfl, ?_⟩
    · simp [results, Try.f29, go_sem, e0, e1, e2, e3]
    · rw [← hV]
      exact ((((hB.setCell (p := ⟨w.heap.size, 0, none⟩) (Nat.le_refl _) _).setCell (p := ⟨w.heap.size, 1, none⟩) (Nat.le_refl _) _).setCell (p := ⟨w.heap.size, 2, none⟩) (Nat.le_refl _) _).setCell (p := ⟨w.heap.size, 3, none⟩) (Nat.le_refl _) _).trans
        (belowK_b (w := w) (Nat.le_refl _) _ D _ _ (by omega) hK4 rfl rfl)
  case stop =>
    rintro D c pre W _ _ h _
    exact h.elim
end Go.Proofs.Ytoibdcnglpinoaa
