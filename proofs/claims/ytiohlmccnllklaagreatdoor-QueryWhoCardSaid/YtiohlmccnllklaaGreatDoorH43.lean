/-
  Layer 14: SamePlaces of the document's answer: walk.
-/
import Derived.Test.YtiohlmccnllklaaGreatDoorH42
import Derived.Test.YtiohlmccnllklaaGreatDoorH29
set_option linter.unusedVariables false
set_option linter.unusedSimpArgs false
namespace Go.Proofs.YtiohlmccnllklaaGreatDoor.Q
open Go.RowKit
set_option maxHeartbeats 8000000
set_option maxRecDepth 100000
set_option linter.unusedVariables false
set_option linter.unusedSimpArgs false

/-- The cells of two places. -/
structure Pq (g o g2 o2 : Nat) (p q : T.Pl) (W : World) : Prop where
  a : W.cell? ⟨g, o, none⟩ = some (.int .i64 p.1)
  b : W.cell? ⟨g, o + 1, none⟩ = some (.int .i64 p.2)
  c : W.cell? ⟨g2, o2, none⟩ = some (.int .i64 q.1)
  d : W.cell? ⟨g2, o2 + 1, none⟩ = some (.int .i64 q.2)
theorem Pq.stb (g o g2 o2 : Nat) (p q : T.Pl) : Free.Stb (Pq g o g2 o2 p q) := fun W W' h hb => ⟨cell_below h.a hb, cell_below h.b hb, cell_below h.c hb, cell_below h.d hb⟩
theorem take_eq_succ {α : Type} {l m : List α} {k : Nat} {x : α} (h : l.take k = m.take k) (hl : l[k]? = some x) (hm : m[k]? = some x) : l.take (k + 1) = m.take (k + 1) := by
  rw [List.take_add_one, List.take_add_one, h, hl, hm]
theorem same_any {w : World} {lv mv : Value} {l m : List T.Pl} (hl : PlsIn w lv l) (hm : PlsIn w mv m) : Calls Tryz.prog 13 #[lv, mv] w fun e w' => e = .returned (.bool (decide (l = m))) ∧ Below w.heap.size w w' := by
  obtain ⟨r, hr⟩ : ∃ r, Hid (r = decide (l = m)) := ⟨_, rfl⟩
  rw [← hr.out]
  have HL := Lib.hid (fun W (hb : Below w.heap.size w W) => (show PlsIn W lv l from hl.below hb))
  have HM := Lib.hid (fun W (hb : Below w.heap.size w W) => (show PlsIn W mv m from hm.below hb))
  have HB0 := Lib.hid (Below.refl w.heap.size w)
  obtain ⟨ol, cl, rfl, _, hml⟩ := hl.shape
  unfold maxLen at hml
  obtain ⟨om, cm, rfl, _, _⟩ := hm.shape
  clear hl hm
  by_cases hlen : l.length = m.length
  · have hlen' : (l.length : Int) = (m.length : Int) := by omega
    go_enter Tryz.func13, Tryz.ntmps13
    go_wp2
    go_loopw [5] (fun i wr => ∃ k : Nat, k ≤ l.length ∧ i = .int .i64 (k : Int) ∧ Hid (Below w.heap.size w wr) ∧ Hid (l.take k = m.take k)) (fun i _ => l.length + 1 - natI i)
    case atStart => exact ⟨0, by omega, rfl, HB0, Lib.hid rfl⟩
    case round =>
      obtain ⟨k, hk, rfl, HB, HT⟩ := hrel
      by_cases hlt : k < l.length
      · have hi : (k : Int) < (l.length : Int) := by omega
        have hj : (k : Int) < (m.length : Int) := by omega
        obtain ⟨g1, o1, d1, p, e1, l1, _, r1⟩ := (HL.out _ HB.out).at_ hlt
        simp at e1
        obtain ⟨rfl, rfl⟩ := e1
        obtain ⟨g2, o2, d2, q, e2, l2, _, r2⟩ := (HM.out _ HB.out).at_ (show k < m.length by omega)
        simp at e2
        obtain ⟨rfl, rfl⟩ := e2
        obtain ⟨x1, x2⟩ := rng2 r1
        obtain ⟨x3, x4⟩ := rng2 r2
        have HS : Hid (Pq g1 (o1 + k * 2) g2 (o2 + k * 2) p q (World.drew wr)) := Lib.hid (Pq.stb _ _ _ _ _ _ _ _ ⟨x1, x2, x3, x4⟩ (Below.refl _ _).drew)
        have HLm := Lib.hid (And.intro l1 l2)
        clear x1 x2 x3 x4 r1 r2 l1 l2 hlen'
        go_wp2_with fail
        refine Free.any (Pq g1 (o1 + k * 2) g2 (o2 + k * 2) p q) (Pq.stb _ _ _ _ p q) HS.out (fun st => ?_)
        refine Free.tk 0 (some 17) ?_ (hy := by intro W hW; go_simp; try with_reducible rfl)
        refine Free.tk 1 (some 18) ?_ (hy := by intro W hW; go_simp; try with_reducible rfl)
        refine Free.tk 2 (some 19) (v := .pointer (some ⟨g1, o1 + k * 2, none⟩)) ?_ (hy := by intro W hW; go_simp; try with_reducible rfl)
        refine Free.tk 3 (some 20) (v := .agg #[.int .i64 p.1, .int .i64 p.2]) ?_ (hy := by intro W hW; have x1 := hW.a; have x2 := hW.b; go_simp; try with_reducible rfl)
        refine Free.tk 4 (some 21) ?_ (hy := by intro W hW; go_simp; try with_reducible rfl)
        refine Free.tk 5 (some 22) ?_ (hy := by intro W hW; go_simp; try with_reducible rfl)
        refine Free.tk 6 (some 23) (v := .pointer (some ⟨g2, o2 + k * 2, none⟩)) ?_ (hy := by intro W hW; go_simp; try with_reducible rfl)
        refine Free.tk 7 (some 24) (v := .agg #[.int .i64 q.1, .int .i64 q.2]) ?_ (hy := by intro W hW; have x1 := hW.c; have x2 := hW.d; go_simp; try with_reducible rfl)
        by_cases hpq : p = q
        · refine Free.tk 8 (some 25) (v := .bool false) ?_ (hy := by intro W hW; have he := fun w => neq_place p q w; simp only [decide_eq_true hpq, Bool.not_true, Bool.not_false] at he; go_simp; try with_reducible rfl)
          refine Free.done (fun W hb hW => ?_)
          have HB2 := Lib.hid (belT HB.out ((Below.refl _ _).drew.trans hb))
          clear hb hW
          have HT2 := Lib.hid (take_eq_succ HT.out HLm.out.1 (by rw [hpq]; exact HLm.out.2))
          clear hpq
          go_wp2
          exact ⟨⟨k + 1, by omega, by go_num, HB2, HT2⟩, by simp [natI]; omega⟩
        · refine Free.tk 8 (some 25) (v := .bool true) ?_ (hy := by intro W hW; have he := fun w => neq_place p q w; simp only [decide_eq_false hpq, Bool.not_true, Bool.not_false] at he; go_simp; try with_reducible rfl)
          refine Free.done (fun W hb hW => ?_)
          have HB2 := Lib.hid (belT HB.out ((Below.refl _ _).drew.trans hb))
          clear hb hW
          have hr2 : r = false := by
            rw [hr.out]
            refine decide_eq_false fun e => hpq ?_
            have h := HLm.out
            rw [e] at h
            exact Option.some.inj (h.1.symm.trans h.2)
          subst hr2
          go_wp2
          go_ret
          exact ⟨rfl, HB2.out⟩
      · obtain rfl : k = l.length := by omega
        have hr2 : r = true := by
          rw [hr.out]
          have h := HT.out
          rw [List.take_length, hlen, List.take_length] at h
          exact decide_eq_true h
        subst hr2
        go_wp2
        go_ret
        exact ⟨rfl, HB.out⟩
  · have hlen' : ¬ (l.length : Int) = (m.length : Int) := by omega
    have hr2 : r = false := by
      rw [hr.out]
      exact decide_eq_false fun e => hlen (by rw [e])
    subst hr2
    go_enter Tryz.func13, Tryz.ntmps13
    go_wp2
    go_ret
    exact ⟨rfl, HB0.out⟩
end Go.Proofs.YtiohlmccnllklaaGreatDoor.Q
