/-
  Layer 14: more than is done: walk. Layer 14: SamePlaces of the document's answer: walk.
-/
import Derived.Test.YtiohlmccnllklaaGreatDoorG19
import Derived.Test.YtiohlmccnllklaaGreatDoorG05
set_option linter.unusedVariables false
set_option linter.unusedSimpArgs false
namespace Go.Proofs.YtiohlmccnllklaaGreatDoor.Q
open Go.RowKit
set_option maxHeartbeats 8000000
set_option maxRecDepth 100000
set_option linter.unusedVariables false
set_option linter.unusedSimpArgs false

def VaO (w : World) (l : List T.Ad) (e : Ending) (w' : World) : Prop := ∃ b, e = .returned (.bool b) ∧ (b = false → l.length ≤ 30 ∧ T.NVast l) ∧ Below w.heap.size w w'
theorem nv_succ {l : List T.Ad} {k : Nat} {a : T.Ad} (h : T.NVast (l.take k)) (ha : l[k]? = some a) (h1 : a.2.length ≤ 10) (h2 : ∀ t ∈ a.2, t.2.length ≤ 6) : T.NVast (l.take (k + 1)) := by
  intro x hx
  rw [List.take_add_one, ha] at hx
  rcases List.mem_append.1 hx with e | e
  · exact h x e
  · simp at e; subst e; exact ⟨h1, h2⟩
theorem vast_any {w : World} {v : Value} {l : List T.Ad} (h : AdsIn w v l) : Calls Tryz.prog 14 #[v] w fun e w' => VaO w l e w' := by
  have HA := Lib.hid h
  have HB := Lib.hid (Below.refl w.heap.size w)
  obtain ⟨oa, ca, rfl, _, hla⟩ := h.shape
  unfold maxLen at hla
  clear h
  by_cases h30 : (30 : Int) < (l.length : Int)
  · have HF := Lib.hid (show VaO w l (.returned (.bool true)) w from ⟨true, rfl, fun e => absurd e (by decide), HB.out⟩)
    go_enter Tryz.func14, Tryz.ntmps14
    go_wp2
    go_ret
    exact HF.out
  · have HT := Lib.hid (show VaO w l (.returned (.bool true)) w from ⟨true, rfl, fun e => absurd e (by decide), HB.out⟩)
    go_enter Tryz.func14, Tryz.ntmps14
    go_wp2
    go_loopw [3] (fun i wr => ∃ k : Nat, k ≤ l.length ∧ i = .int .i64 (k : Int) ∧ Hid (w = wr) ∧ Hid (T.NVast (l.take k))) (fun i _ => l.length + 1 - natI i)
    case atStart => exact ⟨0, by omega, rfl, Lib.hid rfl, Lib.hid (by intro a ha; simp at ha)⟩
    case round =>
      obtain ⟨k, hk, rfl, HW, HN⟩ := hrel
      obtain rfl := HW.out
      by_cases hlt : k < l.length
      · have hi : (k : Int) < (l.length : Int) := by omega
        obtain ⟨g1, o1, c1, a, tv, e1, l1, _, ht, r1⟩ := HA.out.at_ hlt
        obtain ⟨ot, ct, rfl, _, hlm⟩ := ht.shape
        unfold maxLen at hlm
        obtain ⟨q1, q2⟩ := rng2 r1
        simp at e1
        obtain ⟨rfl, rfl⟩ := e1
        have HL := Lib.hid l1
        have HTs := Lib.hid ht
        clear r1 ht l1
        by_cases hb : (10 : Int) < (a.2.length : Int)
        · go_wp2
          go_ret
          exact HT.out
        · go_wp2
          go_loopw [4] (fun i wr => ∃ j : Nat, j ≤ a.2.length ∧ i = .int .i64 (j : Int) ∧ Hid (w = wr) ∧ Hid (∀ t ∈ a.2.take j, t.2.length ≤ 6)) (fun i _ => a.2.length + 1 - natI i)
          case atStart => exact ⟨0, by omega, rfl, Lib.hid rfl, Lib.hid (by intro a ha; simp at ha)⟩
          case round =>
            obtain ⟨j, hj, rfl, HW2, HM⟩ := hrel
            obtain rfl := HW2.out
            by_cases hlj : j < a.2.length
            · have hji : (j : Int) < (a.2.length : Int) := by omega
              obtain ⟨g2, o2, c2, t, fv, e2, l2, _, hf, r2⟩ := HTs.out.at_ hlj
              obtain ⟨of, cf, rfl, _, hlf⟩ := hf.shape
              unfold maxLen at hlf
              obtain ⟨x1, x2, x3⟩ := rng3 r2
              simp at e2
              obtain ⟨rfl, rfl⟩ := e2
              have HL2 := Lib.hid l2
              clear r2 hf l2
              by_cases hc : (6 : Int) < (t.2.length : Int)
              · go_wp2
                go_ret
                exact HT.out
              · go_wp2
                refine ⟨⟨j + 1, by omega, by go_num, Lib.hid (by trivial), Lib.hid fun y hy => ?_⟩, by simp [natI]; omega⟩
                rw [List.take_add_one, HL2.out] at hy
                rcases List.mem_append.1 hy with e | e
                · exact HM.out y e
                · simp at e; subst e; omega
            · obtain rfl : j = a.2.length := by omega
              have HN2 := Lib.hid (nv_succ HN.out HL.out (by omega) (by have := HM.out; rwa [List.take_length] at this))
              go_wp2
              exact ⟨⟨k + 1, by omega, by go_num, Lib.hid (by trivial), HN2⟩, by simp [natI]; omega⟩
      · obtain rfl : k = l.length := by omega
        have HF := Lib.hid (show VaO w l (.returned (.bool false)) w from ⟨false, rfl, fun _ => ⟨by omega, by have := HN.out; rwa [List.take_length] at this⟩, HB.out⟩)
        go_wp2
        go_ret
        exact HF.out
end Go.Proofs.YtiohlmccnllklaaGreatDoor.Q
namespace Go.Proofs.YtiohlmccnllklaaGreatDoor.Q
open Go.RowKit
set_option maxHeartbeats 8000000
set_option maxRecDepth 100000
set_option linter.unusedVariables false
set_option linter.unusedSimpArgs false

/-- The cells of two places. -/
structure Pq (g o g2 o2 : Nat) (p q : T.Pl) (W : World) : Prop where
  a : W.cell? ⟨g, o, none⟩ = some (.int .i64 p.1)
  b : W.cell? ⟨g, o + 1, none⟩ = some (.int .i64 p.2)
  c : W.cell? ⟨g2, o2, none⟩ = some (.int .i64 q.1)
  d : W.cell? ⟨g2, o2 + 1, none⟩ = some (.int .i64 q.2)
theorem Pq.stb (g o g2 o2 : Nat) (p q : T.Pl) : Free.Stb (Pq g o g2 o2 p q) := fun W W' h hb => ⟨cell_below h.a hb, cell_below h.b hb, cell_below h.c hb, cell_below h.d hb⟩
theorem take_eq_succ {α : Type} {l m : List α} {k : Nat} {x : α} (h : l.take k = m.take k) (hl : l[k]? = some x) (hm : m[k]? = some x) : l.take (k + 1) = m.take (k + 1) := by
  rw [List.take_add_one, List.take_add_one, h, hl, hm]
theorem same_any {w : World} {lv mv : Value} {l m : List T.Pl} (hl : PlsIn w lv l) (hm : PlsIn w mv m) : Calls Tryz.prog 13 #[lv, mv] w fun e w' => e = .returned (.bool (decide (l = m))) ∧ Below w.heap.size w w' := by
  obtain ⟨r, hr⟩ : ∃ r, Hid (r = decide (l = m)) := ⟨_, rfl⟩
  rw [← hr.out]
  have HL := Lib.hid (fun W (hb : Below w.heap.size w W) => (show PlsIn W lv l from hl.below hb))
  have HM := Lib.hid (fun W (hb : Below w.heap.size w W) => (show PlsIn W mv m from hm.below hb))
  have HB0 := Lib.hid (Below.refl w.heap.size w)
  obtain ⟨ol, cl, rfl, _, hml⟩ := hl.shape
  unfold maxLen at hml
  obtain ⟨om, cm, rfl, _, _⟩ := hm.shape
  clear hl hm
  by_cases hlen : l.length = m.length
  · have hlen' : (l.length : Int) = (m.length : Int) := by omega
    go_enter Tryz.func13, Tryz.ntmps13
    go_wp2
    go_loopw [5] (fun i wr => ∃ k : Nat, k ≤ l.length ∧ i = .int .i64 (k : Int) ∧ Hid (Below w.heap.size w wr) ∧ Hid (l.take k = m.take k)) (fun i _ => l.length + 1 - natI i)
    case atStart => exact ⟨0, by omega, rfl, HB0, Lib.hid rfl⟩
    case round =>
      obtain ⟨k, hk, rfl, HB, HT⟩ := hrel
      by_cases hlt : k < l.length
      · have hi : (k : Int) < (l.length : Int) := by omega
        have hj : (k : Int) < (m.length : Int) := by omega
        obtain ⟨g1, o1, d1, p, e1, l1, _, r1⟩ := (HL.out _ HB.out).at_ hlt
        simp at e1
        obtain ⟨rfl, rfl⟩ := e1
        obtain ⟨g2, o2, d2, q, e2, l2, _, r2⟩ := (HM.out _ HB.out).at_ (show k < m.length by omega)
        simp at e2
        obtain ⟨rfl, rfl⟩ := e2
        obtain ⟨x1, x2⟩ := rng2 r1
        obtain ⟨x3, x4⟩ := rng2 r2
        have HS : Hid (Pq g1 (o1 + k * 2) g2 (o2 + k * 2) p q (World.drew wr)) := Lib.hid (Pq.stb _ _ _ _ _ _ _ _ ⟨x1, x2, x3, x4⟩ (Below.refl _ _).drew)
        have HLm := Lib.hid (And.intro l1 l2)
        clear x1 x2 x3 x4 r1 r2 l1 l2 hlen'
        go_wp2_with fail
        refine Free.any (Pq g1 (o1 + k * 2) g2 (o2 + k * 2) p q) (Pq.stb _ _ _ _ p q) HS.out (fun st => ?_)
        refine Free.tk 0 (some 17) ?_ (hy := by intro W hW; go_simp; try with_reducible rfl)
        refine Free.tk 1 (some 18) ?_ (hy := by intro W hW; go_simp; try with_reducible rfl)
        refine Free.tk 2 (some 19) (v := .pointer (some ⟨g1, o1 + k * 2, none⟩)) ?_ (hy := by intro W hW; go_simp; try with_reducible rfl)
        refine Free.tk 3 (some 20) (v := .agg #[.int .i64 p.1, .int .i64 p.2]) ?_ (hy := by intro W hW; have x1 := hW.a; have x2 := hW.b; go_simp; try with_reducible rfl)
        refine Free.tk 4 (some 21) ?_ (hy := by intro W hW; go_simp; try with_reducible rfl)
        refine Free.tk 5 (some 22) ?_ (hy := by intro W hW; go_simp; try with_reducible rfl)
        refine Free.tk 6 (some 23) (v := .pointer (some ⟨g2, o2 + k * 2, none⟩)) ?_ (hy := by intro W hW; go_simp; try with_reducible rfl)
        refine Free.tk 7 (some 24) (v := .agg #[.int .i64 q.1, .int .i64 q.2]) ?_ (hy := by intro W hW; have x1 := hW.c; have x2 := hW.d; go_simp; try with_reducible rfl)
        by_cases hpq : p = q
        · refine Free.tk 8 (some 25) (v := .bool false) ?_ (hy := by intro W hW; have he := fun w => neq_place p q w; simp only [decide_eq_true hpq, Bool.not_true, Bool.not_false] at he; go_simp; try with_reducible rfl)
          refine Free.done (fun W hb hW => ?_)
          have HB2 := Lib.hid (belT HB.out ((Below.refl _ _).drew.trans hb))
          clear hb hW
          have HT2 := Lib.hid (take_eq_succ HT.out HLm.out.1 (by rw [hpq]; exact HLm.out.2))
          clear hpq
          go_wp2
          exact ⟨⟨k + 1, by omega, by go_num, HB2, HT2⟩, by simp [natI]; omega⟩
        · refine Free.tk 8 (some 25) (v := .bool true) ?_ (hy := by intro W hW; have he := fun w => neq_place p q w; simp only [decide_eq_false hpq, Bool.not_true, Bool.not_false] at he; go_simp; try with_reducible rfl)
          refine Free.done (fun W hb hW => ?_)
          have HB2 := Lib.hid (belT HB.out ((Below.refl _ _).drew.trans hb))
          clear hb hW
          have hr2 : r = false := by
            rw [hr.out]
            refine decide_eq_false fun e => hpq ?_
            have h := HLm.out
            rw [e] at h
            exact Option.some.inj (h.1.symm.trans h.2)
          subst hr2
          go_wp2
          go_ret
          exact ⟨rfl, HB2.out⟩
      · obtain rfl : k = l.length := by omega
        have hr2 : r = true := by
          rw [hr.out]
          have h := HT.out
          rw [List.take_length, hlen, List.take_length] at h
          exact decide_eq_true h
        subst hr2
        go_wp2
        go_ret
        exact ⟨rfl, HB.out⟩
  · have hlen' : ¬ (l.length : Int) = (m.length : Int) := by omega
    have hr2 : r = false := by
      rw [hr.out]
      exact decide_eq_false fun e => hlen (by rw [e])
    subst hr2
    go_enter Tryz.func13, Tryz.ntmps13
    go_wp2
    go_ret
    exact ⟨rfl, HB0.out⟩
end Go.Proofs.YtiohlmccnllklaaGreatDoor.Q
