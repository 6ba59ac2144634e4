/-
  Layer 4: the closures that tell an instruction's parts: walks.
-/
import Derived.Test.YtcbbinmecnameaaDoorWord
import Derived.Test.YtcbbinmecnameaaDoorShelf
import Derived.WalkKit
import Derived.WalkSpells
import Derived.WalkLawsBesides
import Derived.Lib.Hide
import Derived.Deep.RegionWith
set_option linter.unusedVariables false
namespace Go.Proofs.YtcbbinmecnameaaDoor
open Go.RowKit
set_option maxHeartbeats 1000000

theorem grow_below' (B : Nat) (w : World) (os : Array Obj) (hB : B ≤ w.heap.size) : Below B w (Sort.grow w os) :=
  ⟨rfl, rfl, rfl, by simp [Sort.grow], fun k hk => by simp [Sort.grow, Array.getElem?_append, show k < w.heap.size by omega]⟩
theorem Itoa_any (n : Int) (h0 : -32768 ≤ n) (h1 : n ≤ 32767) (w : World) (h : Env w) :
    Calls Tryd.prog 25 #[.int .i64 n] w fun e w' => e = .returned (.string (bytes (Lib.itoa n))) ∧ Below w.heap.size w w' := by
  refine (Tryd.strconv_Itoa n (by omega) (by omega) w h.pow).mono ?_
  rintro e w' ⟨rfl, k, os, rfl⟩
  exact ⟨rfl, below_drewN (Below.refl _ _) k |>.trans (grow_below' _ _ os (Nat.le_refl _))⟩

theorem tell11_any (p : Nat) (n : Int) (h0 : -32768 ≤ n) (h1 : n ≤ 32767) (w : World) (h : Env w) (hc : w.cell? ⟨p, 0, none⟩ = some (.int .i64 n)) :
    Calls Tryd.prog 28 #[.pointer (some ⟨p, 0, none⟩)] w fun e w' => e = .returned (.string (bytes (reg n))) ∧ Below w.heap.size w w' := by
  have hl : (bytes (Lib.itoa n)).size ≤ 6 := by rw [bytes_size]; exact itoa_len h0 h1
  have HI := Lib.hid (Itoa_any n h0 h1 w h)
  have hr : Hid (bytes (reg n) = ⟨#[114]⟩ ++ bytes (Lib.itoa n)) := (bytes_app [114] (Lib.itoa n)).symm
  generalize bytes (Lib.itoa n) = T at *
  go_enter Tryd.func28, Tryd.ntmps28
  go_wp2_with fail
  refine HI.out.mono ?_
  rintro e w1 ⟨rfl, b1⟩
  go_wp2
  go_ret
  exact ⟨by rw [hr.out]; rfl, b1⟩

theorem tell2_any (p : Nat) (i : Ins) (h0 : -32768 ≤ i.imm) (h1 : i.imm ≤ 32767) (w : World) (h : Env w) (hc : w.cell? ⟨p, 3, none⟩ = some (.int .i64 i.imm)) :
    Calls Tryd.prog 29 #[.pointer (some ⟨p, 0, none⟩)] w fun e w' => e = .returned (.string (bytes (Lib.itoa i.imm))) ∧ Below w.heap.size w w' := by
  have HI := Lib.hid (Itoa_any i.imm h0 h1 w h)
  generalize bytes (Lib.itoa i.imm) = T at *
  go_enter Tryd.func29, Tryd.ntmps29
  go_wp2_with fail
  refine HI.out.mono ?_
  rintro e w1 ⟨rfl, b1⟩
  go_wp2
  go_ret
  exact ⟨rfl, b1⟩

theorem tell1_any (n : Int) (w : World) :
    Calls Tryd.prog 27 #[.int .i64 n] w fun e w' => e = .returned (.func (.func 28) #[] #[.pointer (some ⟨w.heap.size, 0, none⟩)]) ∧ w' = w.alloc (.cells #[.int .i64 n] 3) := by
  go_enter Tryd.func27, Tryd.ntmps27
  have hmf : ∀ (fn : Fn) (first cap : Array Value) (w : World), (Instr.makeFunc fn first cap).run Tryd.prog w = .ok (.func fn first cap) w := fun _ _ _ _ => rfl
  go_wp2
  go_ret
  exact ⟨rfl, rfl⟩

/-- What tellers hands back. -/
structure Tellers (w : World) (v : Value) (A B M : Int) (g c p0 p1 p2 : Nat) : Prop where
  v_eq : v = .slice (some ⟨g, 0, none⟩) 3 c
  f0 : w.cell? ⟨g, 0, none⟩ = some (.func (.func 28) #[] #[.pointer (some ⟨p0, 0, none⟩)])
  f1 : w.cell? ⟨g, 1, none⟩ = some (.func (.func 28) #[] #[.pointer (some ⟨p1, 0, none⟩)])
  f2 : w.cell? ⟨g, 2, none⟩ = some (.func (.func 29) #[] #[.pointer (some ⟨p2, 0, none⟩)])
  q0 : w.cell? ⟨p0, 0, none⟩ = some (.int .i64 A)
  q1 : w.cell? ⟨p1, 0, none⟩ = some (.int .i64 B)
  q2 : w.cell? ⟨p2, 3, none⟩ = some (.int .i64 M)

theorem tellers_world (O A B M : Int) (w : World) :
    Tellers ((((w.alloc (.cells #[.int .i64 O, .int .i64 A, .int .i64 B, .int .i64 M] 26)).alloc (.cells #[.int .i64 A] 3)).alloc (.cells #[.int .i64 B] 3)).alloc (.cells #[.func (.func 28) #[] #[.pointer (some ⟨w.heap.size + 1, 0, none⟩)], .func (.func 28) #[] #[.pointer (some ⟨w.heap.size + 1 + 1, 0, none⟩)], .func (.func 29) #[] #[.pointer (some ⟨w.heap.size, 0, none⟩)]] 56)).drew
      (.slice (some ⟨w.heap.size + 1 + 1 + 1, 0, none⟩) 3 3) A B M (w.heap.size + 1 + 1 + 1) 3 (w.heap.size + 1) (w.heap.size + 1 + 1) w.heap.size ∧
    Below w.heap.size w ((((w.alloc (.cells #[.int .i64 O, .int .i64 A, .int .i64 B, .int .i64 M] 26)).alloc (.cells #[.int .i64 A] 3)).alloc (.cells #[.int .i64 B] 3)).alloc (.cells #[.func (.func 28) #[] #[.pointer (some ⟨w.heap.size + 1, 0, none⟩)], .func (.func 28) #[] #[.pointer (some ⟨w.heap.size + 1 + 1, 0, none⟩)], .func (.func 29) #[] #[.pointer (some ⟨w.heap.size, 0, none⟩)]] 56)).drew := by
  have e1 : ∀ (v : World) (o : Obj), (v.alloc o).heap.size = v.heap.size + 1 := fun v o => World.size_alloc ..
  generalize hw1 : w.alloc (.cells #[.int .i64 O, .int .i64 A, .int .i64 B, .int .i64 M] 26) = w1
  have s1 : w1.heap.size = w.heap.size + 1 := by rw [← hw1]; exact e1 _ _
  generalize hw2 : w1.alloc (.cells #[.int .i64 A] 3) = w2
  have s2 : w2.heap.size = w.heap.size + 1 + 1 := by rw [← hw2, e1, s1]
  generalize hw3 : w2.alloc (.cells #[.int .i64 B] 3) = w3
  have s3 : w3.heap.size = w.heap.size + 1 + 1 + 1 := by rw [← hw3, e1, s2]
  generalize hF : (.cells #[.func (.func 28) #[] #[.pointer (some ⟨w.heap.size + 1, 0, none⟩)], .func (.func 28) #[] #[.pointer (some ⟨w.heap.size + 1 + 1, 0, none⟩)], .func (.func 29) #[] #[.pointer (some ⟨w.heap.size, 0, none⟩)]] 56 : Obj) = F
  have n3 : (w3.alloc F).drew.heap[w.heap.size + 1 + 1 + 1]? = some F := by rw [← s3]; exact heap_alloc_new w3 F
  have n2 : (w3.alloc F).drew.heap[w.heap.size + 1 + 1]? = some (.cells #[.int .i64 B] 3) := by
    refine (Below.heap_alloc w3 F _ (by omega)).trans ?_
    rw [← hw3, ← s2]; exact heap_alloc_new w2 _
  have n1 : (w3.alloc F).drew.heap[w.heap.size + 1]? = some (.cells #[.int .i64 A] 3) := by
    refine (Below.heap_alloc w3 F _ (by omega)).trans ?_
    rw [← hw3]
    refine (Below.heap_alloc w2 _ _ (by omega)).trans ?_
    rw [← hw2, ← s1]; exact heap_alloc_new w1 _
  have n0 : (w3.alloc F).drew.heap[w.heap.size]? = some (.cells #[.int .i64 O, .int .i64 A, .int .i64 B, .int .i64 M] 26) := by
    refine (Below.heap_alloc w3 F _ (by omega)).trans ?_
    rw [← hw3]
    refine (Below.heap_alloc w2 _ _ (by omega)).trans ?_
    rw [← hw2]
    refine (Below.heap_alloc w1 _ _ (by omega)).trans ?_
    rw [← hw1]; exact heap_alloc_new w _
  subst hF
  refine ⟨⟨rfl, cell_of_row _ _ _ _ _ _ n3, cell_of_row _ _ _ _ _ _ n3, cell_of_row _ _ _ _ _ _ n3, cell_of_row _ _ _ _ _ _ n1, cell_of_row _ _ _ _ _ _ n2, cell_of_row _ _ _ _ _ _ n0⟩, ?_⟩
  subst hw1 hw2 hw3
  exact (((((Below.refl _ w).alloc (Nat.le_refl _) _).alloc (by simp) _).alloc (by simp; omega) _).alloc (by simp; omega) _).drew

set_option maxRecDepth 10000 in
theorem tellers_any (O A B M : Int) (w : World) :
    Calls Tryd.prog 21 #[.agg #[.int .i64 O, .int .i64 A, .int .i64 B, .int .i64 M]] w fun e w' => ∃ v g c p0 p1 p2, e = .returned v ∧ Tellers w' v A B M g c p0 p1 p2 ∧ Below w.heap.size w w' := by
  have hmf : ∀ (fn : Fn) (first cap : Array Value) (w : World), (Instr.makeFunc fn first cap).run Tryd.prog w = .ok (.func fn first cap) w := fun _ _ _ _ => rfl
  go_enter Tryd.func21, Tryd.ntmps21
  go_wp2
  go_region_with (go_at_call 27; refine (tell1_any _ _).mono ?_; rintro e w' ⟨rfl, rfl⟩)
  all_goals go_wp2
  all_goals go_ret
  all_goals exact ⟨_, _, _, _, _, _, rfl, (tellers_world O A B M w).1, (tellers_world O A B M w).2⟩
end Go.Proofs.YtcbbinmecnameaaDoor
