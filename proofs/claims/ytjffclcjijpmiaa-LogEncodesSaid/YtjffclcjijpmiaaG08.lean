/-
  Layer 16: may a record be, by the document: walk. Written by gen_right.py.
-/
import Derived.Test.YtjffclcjijpmiaaG06
import Derived.Test.YtjffclcjijpmiaaG03
set_option linter.unusedVariables false
set_option linter.unusedSimpArgs false
namespace Go.Proofs.Ytjffclcjijpmiaa.LG
open Go.RowKit
set_option maxHeartbeats 4000000
set_option maxRecDepth 100000
set_option linter.unusedVariables false
set_option linter.unusedSimpArgs false

/-! ### Right -/
structure RtS (R : Nat) (a b c d : Value) (W : World) : Prop where
  a : W.cell? ⟨R, 0, none⟩ = some a
  b : W.cell? ⟨R, 1, none⟩ = some b
  c : W.cell? ⟨R, 2, none⟩ = some c
  d : W.cell? ⟨R, 3, none⟩ = some d
theorem RtS.stb (R : Nat) (a b c d : Value) : Free.Stb (RtS R a b c d) := fun W W' h hb => ⟨cell_below h.a hb, cell_below h.b hb, cell_below h.c hb, cell_below h.d hb⟩
theorem RtS.make (w : World) (a b c d : Value) : RtS w.heap.size a b c d (w.alloc (.cells #[a, b, c, d] 42)).drew := by
  have h := blk_new w #[a, b, c, d] 42
  exact RtS.stb _ _ _ _ _ _ _ ⟨h.cell 0, h.cell 1, h.cell 2, h.cell 3⟩ (Below.refl _ _).drew
theorem Right_any {w : World} {r : Rc} {bv : Value} (hr : Ri r) (hb : Bs w bv r.bs) : Calls Try.prog 20 #[.agg #[.int .i64 r.tm, .int .i64 r.kind, .int .i64 r.n, bv]] w fun e w' => e = .returned (.bool r.right) ∧ Below w.heap.size w w' := by
  obtain ⟨tm, kind, n, bs⟩ := r
  obtain ⟨ao, ca, rfl, _, hla⟩ := hb.shape
  unfold maxLen at hla
  have HB := Lib.hid (bel1 w (.cells #[.int .i64 tm, .int .i64 kind, .int .i64 n, .slice ao bs.length ca] 42))
  have HS := Lib.hid (RtS.make w (.int .i64 tm) (.int .i64 kind) (.int .i64 n) (.slice ao bs.length ca))
  have hw := Lib.hid (fun n a b W => within_any n a b W)
  have e : Hid (Rc.right ⟨tm, kind, n, bs⟩ = (if decide (0 ≤ tm ∧ tm ≤ 4611686018427387904) = true then rOk kind n bs.length else false)) := Lib.hid (by
    unfold Rc.right; show (decide (0 ≤ tm ∧ tm ≤ two62) && rOk kind n bs.length) = _
    rw [show two62 = 4611686018427387904 from rfl]
    cases decide (0 ≤ tm ∧ tm ≤ 4611686018427387904) <;> simp)
  generalize bs.length = m at *
  clear hb
  cases ht : decide (0 ≤ tm ∧ tm ≤ 4611686018427387904) with
  | false =>
    have e : Hid (Rc.right ⟨tm, kind, n, bs⟩ = false) := Lib.hid (by rw [e.out, ht]; rfl)
    go_enter Try.func20, Try.ntmps20
    go_wp2
    refine Free.any (RtS w.heap.size (.int .i64 tm) (.int .i64 kind) (.int .i64 n) (.slice ao m ca)) (RtS.stb _ _ _ _ _) HS.out (fun st => ?_)
    refine Free.tk 0 (some 5) ?_
    refine Free.tk 1 (some 6) (v := .int .i64 n) ?_ (hy := by intro W hW; have c0 := hW.c; go_simp; try with_reducible rfl)
    refine Free.tk 2 (some 7) ?_
    refine Free.tk 3 (some 8) (v := .slice ao m ca) ?_ (hy := by intro W hW; have c0 := hW.d; go_simp; try with_reducible rfl)
    refine Free.tk 4 (some 9) (v := .int .i64 (m : Int)) ?_ (hy := by intro W hW; go_simp; try with_reducible rfl)
    refine Free.tk 5 (some 3) ?_
    refine Free.tk 6 (some 4) ?_
    refine Free.done (fun W hbw hW => ?_)
    have c0 := hW.a
    have c1 := hW.b
    have HB2 := Lib.hid (belT HB.out ((Below.refl _ _).drew.trans hbw))
    clear hbw hW HS HB
    go_wp2_with fail
    refine (hw.out _ _ _ _).mono ?_
    rintro e' w2 ⟨rfl, rfl⟩
    rw [ht]
    go_wp2
    go_ret
    exact ⟨by rw [e.out]; rfl, HB2.out⟩
  | true =>
    have e : Hid (Rc.right ⟨tm, kind, n, bs⟩ = rOk kind n m) := Lib.hid (by rw [e.out, ht]; rfl)
    by_cases hk1 : kind = 1
    · subst hk1
      have e : Hid (Rc.right ⟨tm, 1, n, bs⟩ = (if decide (0 ≤ n ∧ n ≤ 65535) = true then decide (m ≤ 2048) else false)) := Lib.hid (by rw [e.out]; unfold rOk; by_cases a : 0 ≤ n ∧ n ≤ 65535 <;> by_cases b : m ≤ 2048 <;> simp [a, b] <;> omega)
      cases hn : decide (0 ≤ n ∧ n ≤ 65535) with
      | false =>
        go_enter Try.func20, Try.ntmps20
        go_wp2
        refine Free.any (RtS w.heap.size (.int .i64 tm) (.int .i64 1) (.int .i64 n) (.slice ao m ca)) (RtS.stb _ _ _ _ _) HS.out (fun st => ?_)
        refine Free.tk 0 (some 5) ?_
        refine Free.tk 1 (some 6) (v := .int .i64 n) ?_ (hy := by intro W hW; have c0 := hW.c; go_simp; try with_reducible rfl)
        refine Free.tk 2 (some 7) ?_
        refine Free.tk 3 (some 8) (v := .slice ao m ca) ?_ (hy := by intro W hW; have c0 := hW.d; go_simp; try with_reducible rfl)
        refine Free.tk 4 (some 9) (v := .int .i64 (m : Int)) ?_ (hy := by intro W hW; go_simp; try with_reducible rfl)
        refine Free.tk 5 (some 3) ?_
        refine Free.tk 6 (some 4) ?_
        refine Free.done (fun W hbw hW => ?_)
        have c0 := hW.a
        have c1 := hW.b
        have HB2 := Lib.hid (belT HB.out ((Below.refl _ _).drew.trans hbw))
        clear hbw hW HS HB
        go_wp2_with fail
        refine (hw.out _ _ _ _).mono ?_
        rintro e' w2 ⟨rfl, rfl⟩
        rw [ht]
        go_wp2_with fail
        refine (hw.out _ _ _ _).mono ?_
        rintro e' w2 ⟨rfl, rfl⟩
        rw [hn]
        go_wp2
        go_ret
        exact ⟨by rw [e.out, hn]; rfl, HB2.out⟩
      | true =>
        by_cases hb : m ≤ 2048
        · have hm : (m : Int) ≤ 2048 := by omega
          go_enter Try.func20, Try.ntmps20
          go_wp2
          refine Free.any (RtS w.heap.size (.int .i64 tm) (.int .i64 1) (.int .i64 n) (.slice ao m ca)) (RtS.stb _ _ _ _ _) HS.out (fun st => ?_)
          refine Free.tk 0 (some 5) ?_
          refine Free.tk 1 (some 6) (v := .int .i64 n) ?_ (hy := by intro W hW; have c0 := hW.c; go_simp; try with_reducible rfl)
          refine Free.tk 2 (some 7) ?_
          refine Free.tk 3 (some 8) (v := .slice ao m ca) ?_ (hy := by intro W hW; have c0 := hW.d; go_simp; try with_reducible rfl)
          refine Free.tk 4 (some 9) (v := .int .i64 (m : Int)) ?_ (hy := by intro W hW; go_simp; try with_reducible rfl)
          refine Free.tk 5 (some 3) ?_
          refine Free.tk 6 (some 4) ?_
          refine Free.done (fun W hbw hW => ?_)
          have c0 := hW.a
          have c1 := hW.b
          have HB2 := Lib.hid (belT HB.out ((Below.refl _ _).drew.trans hbw))
          clear hbw hW HS HB
          go_wp2_with fail
          refine (hw.out _ _ _ _).mono ?_
          rintro e' w2 ⟨rfl, rfl⟩
          rw [ht]
          go_wp2_with fail
          refine (hw.out _ _ _ _).mono ?_
          rintro e' w2 ⟨rfl, rfl⟩
          rw [hn]
          go_wp2
          go_ret
          exact ⟨by rw [e.out]; simp [hn, hb] <;> omega, HB2.out⟩
        · have hm : (2048 : Int) < m := by omega
          go_enter Try.func20, Try.ntmps20
          go_wp2
          refine Free.any (RtS w.heap.size (.int .i64 tm) (.int .i64 1) (.int .i64 n) (.slice ao m ca)) (RtS.stb _ _ _ _ _) HS.out (fun st => ?_)
          refine Free.tk 0 (some 5) ?_
          refine Free.tk 1 (some 6) (v := .int .i64 n) ?_ (hy := by intro W hW; have c0 := hW.c; go_simp; try with_reducible rfl)
          refine Free.tk 2 (some 7) ?_
          refine Free.tk 3 (some 8) (v := .slice ao m ca) ?_ (hy := by intro W hW; have c0 := hW.d; go_simp; try with_reducible rfl)
          refine Free.tk 4 (some 9) (v := .int .i64 (m : Int)) ?_ (hy := by intro W hW; go_simp; try with_reducible rfl)
          refine Free.tk 5 (some 3) ?_
          refine Free.tk 6 (some 4) ?_
          refine Free.done (fun W hbw hW => ?_)
          have c0 := hW.a
          have c1 := hW.b
          have HB2 := Lib.hid (belT HB.out ((Below.refl _ _).drew.trans hbw))
          clear hbw hW HS HB
          go_wp2_with fail
          refine (hw.out _ _ _ _).mono ?_
          rintro e' w2 ⟨rfl, rfl⟩
          rw [ht]
          go_wp2_with fail
          refine (hw.out _ _ _ _).mono ?_
          rintro e' w2 ⟨rfl, rfl⟩
          rw [hn]
          go_wp2
          go_ret
          exact ⟨by rw [e.out]; simp [hn, hb] <;> omega, HB2.out⟩
    · by_cases hk2 : kind = 2
      · subst hk2
        have e : Hid (Rc.right ⟨tm, 2, n, bs⟩ = (if decide (0 ≤ n ∧ n ≤ 255) = true then decide (m ≤ 64) else false)) := Lib.hid (by rw [e.out]; unfold rOk; by_cases a : 0 ≤ n ∧ n ≤ 255 <;> by_cases b : m ≤ 64 <;> simp [a, b] <;> omega)
        cases hn : decide (0 ≤ n ∧ n ≤ 255) with
        | false =>
          go_enter Try.func20, Try.ntmps20
          go_wp2
          refine Free.any (RtS w.heap.size (.int .i64 tm) (.int .i64 2) (.int .i64 n) (.slice ao m ca)) (RtS.stb _ _ _ _ _) HS.out (fun st => ?_)
          refine Free.tk 0 (some 5) ?_
          refine Free.tk 1 (some 6) (v := .int .i64 n) ?_ (hy := by intro W hW; have c0 := hW.c; go_simp; try with_reducible rfl)
          refine Free.tk 2 (some 7) ?_
          refine Free.tk 3 (some 8) (v := .slice ao m ca) ?_ (hy := by intro W hW; have c0 := hW.d; go_simp; try with_reducible rfl)
          refine Free.tk 4 (some 9) (v := .int .i64 (m : Int)) ?_ (hy := by intro W hW; go_simp; try with_reducible rfl)
          refine Free.tk 5 (some 3) ?_
          refine Free.tk 6 (some 4) ?_
          refine Free.done (fun W hbw hW => ?_)
          have c0 := hW.a
          have c1 := hW.b
          have HB2 := Lib.hid (belT HB.out ((Below.refl _ _).drew.trans hbw))
          clear hbw hW HS HB
          go_wp2_with fail
          refine (hw.out _ _ _ _).mono ?_
          rintro e' w2 ⟨rfl, rfl⟩
          rw [ht]
          go_wp2_with fail
          refine (hw.out _ _ _ _).mono ?_
          rintro e' w2 ⟨rfl, rfl⟩
          rw [hn]
          go_wp2
          go_ret
          exact ⟨by rw [e.out, hn]; rfl, HB2.out⟩
        | true =>
          by_cases hb : m ≤ 64
          · have hm : (m : Int) ≤ 64 := by omega
            go_enter Try.func20, Try.ntmps20
            go_wp2
            refine Free.any (RtS w.heap.size (.int .i64 tm) (.int .i64 2) (.int .i64 n) (.slice ao m ca)) (RtS.stb _ _ _ _ _) HS.out (fun st => ?_)
            refine Free.tk 0 (some 5) ?_
            refine Free.tk 1 (some 6) (v := .int .i64 n) ?_ (hy := by intro W hW; have c0 := hW.c; go_simp; try with_reducible rfl)
            refine Free.tk 2 (some 7) ?_
            refine Free.tk 3 (some 8) (v := .slice ao m ca) ?_ (hy := by intro W hW; have c0 := hW.d; go_simp; try with_reducible rfl)
            refine Free.tk 4 (some 9) (v := .int .i64 (m : Int)) ?_ (hy := by intro W hW; go_simp; try with_reducible rfl)
            refine Free.tk 5 (some 3) ?_
            refine Free.tk 6 (some 4) ?_
            refine Free.done (fun W hbw hW => ?_)
            have c0 := hW.a
            have c1 := hW.b
            have HB2 := Lib.hid (belT HB.out ((Below.refl _ _).drew.trans hbw))
            clear hbw hW HS HB
            go_wp2_with fail
            refine (hw.out _ _ _ _).mono ?_
            rintro e' w2 ⟨rfl, rfl⟩
            rw [ht]
            go_wp2_with fail
            refine (hw.out _ _ _ _).mono ?_
            rintro e' w2 ⟨rfl, rfl⟩
            rw [hn]
            go_wp2
            go_ret
            exact ⟨by rw [e.out]; simp [hn, hb] <;> omega, HB2.out⟩
          · have hm : (64 : Int) < m := by omega
            go_enter Try.func20, Try.ntmps20
            go_wp2
            refine Free.any (RtS w.heap.size (.int .i64 tm) (.int .i64 2) (.int .i64 n) (.slice ao m ca)) (RtS.stb _ _ _ _ _) HS.out (fun st => ?_)
            refine Free.tk 0 (some 5) ?_
            refine Free.tk 1 (some 6) (v := .int .i64 n) ?_ (hy := by intro W hW; have c0 := hW.c; go_simp; try with_reducible rfl)
            refine Free.tk 2 (some 7) ?_
            refine Free.tk 3 (some 8) (v := .slice ao m ca) ?_ (hy := by intro W hW; have c0 := hW.d; go_simp; try with_reducible rfl)
            refine Free.tk 4 (some 9) (v := .int .i64 (m : Int)) ?_ (hy := by intro W hW; go_simp; try with_reducible rfl)
            refine Free.tk 5 (some 3) ?_
            refine Free.tk 6 (some 4) ?_
            refine Free.done (fun W hbw hW => ?_)
            have c0 := hW.a
            have c1 := hW.b
            have HB2 := Lib.hid (belT HB.out ((Below.refl _ _).drew.trans hbw))
            clear hbw hW HS HB
            go_wp2_with fail
            refine (hw.out _ _ _ _).mono ?_
            rintro e' w2 ⟨rfl, rfl⟩
            rw [ht]
            go_wp2_with fail
            refine (hw.out _ _ _ _).mono ?_
            rintro e' w2 ⟨rfl, rfl⟩
            rw [hn]
            go_wp2
            go_ret
            exact ⟨by rw [e.out]; simp [hn, hb] <;> omega, HB2.out⟩
      · by_cases hk3 : kind = 3
        · subst hk3
          have e : Hid (Rc.right ⟨tm, 3, n, bs⟩ = (if decide (n = 0) = true then decide (m ≤ 256) else false)) := Lib.hid (by rw [e.out]; unfold rOk; by_cases a : n = 0 <;> by_cases b : m ≤ 256 <;> simp [a, b])
          by_cases hn : n = 0
          · by_cases hb : m ≤ 256
            · have hm : (m : Int) ≤ 256 := by omega
              subst hn
              go_enter Try.func20, Try.ntmps20
              go_wp2
              refine Free.any (RtS w.heap.size (.int .i64 tm) (.int .i64 3) (.int .i64 0) (.slice ao m ca)) (RtS.stb _ _ _ _ _) HS.out (fun st => ?_)
              refine Free.tk 0 (some 5) ?_
              refine Free.tk 1 (some 6) (v := .int .i64 0) ?_ (hy := by intro W hW; have c0 := hW.c; go_simp; try with_reducible rfl)
              refine Free.tk 2 (some 7) ?_
              refine Free.tk 3 (some 8) (v := .slice ao m ca) ?_ (hy := by intro W hW; have c0 := hW.d; go_simp; try with_reducible rfl)
              refine Free.tk 4 (some 9) (v := .int .i64 (m : Int)) ?_ (hy := by intro W hW; go_simp; try with_reducible rfl)
              refine Free.tk 5 (some 3) ?_
              refine Free.tk 6 (some 4) ?_
              refine Free.done (fun W hbw hW => ?_)
              have c0 := hW.a
              have c1 := hW.b
              have HB2 := Lib.hid (belT HB.out ((Below.refl _ _).drew.trans hbw))
              clear hbw hW HS HB
              go_wp2_with fail
              refine (hw.out _ _ _ _).mono ?_
              rintro e' w2 ⟨rfl, rfl⟩
              rw [ht]
              go_wp2
              go_ret
              exact ⟨by rw [e.out]; simp [hb] <;> omega, HB2.out⟩
            · have hm : (256 : Int) < m := by omega
              subst hn
              go_enter Try.func20, Try.ntmps20
              go_wp2
              refine Free.any (RtS w.heap.size (.int .i64 tm) (.int .i64 3) (.int .i64 0) (.slice ao m ca)) (RtS.stb _ _ _ _ _) HS.out (fun st => ?_)
              refine Free.tk 0 (some 5) ?_
              refine Free.tk 1 (some 6) (v := .int .i64 0) ?_ (hy := by intro W hW; have c0 := hW.c; go_simp; try with_reducible rfl)
              refine Free.tk 2 (some 7) ?_
              refine Free.tk 3 (some 8) (v := .slice ao m ca) ?_ (hy := by intro W hW; have c0 := hW.d; go_simp; try with_reducible rfl)
              refine Free.tk 4 (some 9) (v := .int .i64 (m : Int)) ?_ (hy := by intro W hW; go_simp; try with_reducible rfl)
              refine Free.tk 5 (some 3) ?_
              refine Free.tk 6 (some 4) ?_
              refine Free.done (fun W hbw hW => ?_)
              have c0 := hW.a
              have c1 := hW.b
              have HB2 := Lib.hid (belT HB.out ((Below.refl _ _).drew.trans hbw))
              clear hbw hW HS HB
              go_wp2_with fail
              refine (hw.out _ _ _ _).mono ?_
              rintro e' w2 ⟨rfl, rfl⟩
              rw [ht]
              go_wp2
              go_ret
              exact ⟨by rw [e.out]; simp [hb] <;> omega, HB2.out⟩
          · go_enter Try.func20, Try.ntmps20
            go_wp2
            refine Free.any (RtS w.heap.size (.int .i64 tm) (.int .i64 3) (.int .i64 n) (.slice ao m ca)) (RtS.stb _ _ _ _ _) HS.out (fun st => ?_)
            refine Free.tk 0 (some 5) ?_
            refine Free.tk 1 (some 6) (v := .int .i64 n) ?_ (hy := by intro W hW; have c0 := hW.c; go_simp; try with_reducible rfl)
            refine Free.tk 2 (some 7) ?_
            refine Free.tk 3 (some 8) (v := .slice ao m ca) ?_ (hy := by intro W hW; have c0 := hW.d; go_simp; try with_reducible rfl)
            refine Free.tk 4 (some 9) (v := .int .i64 (m : Int)) ?_ (hy := by intro W hW; go_simp; try with_reducible rfl)
            refine Free.tk 5 (some 3) ?_
            refine Free.tk 6 (some 4) ?_
            refine Free.done (fun W hbw hW => ?_)
            have c0 := hW.a
            have c1 := hW.b
            have HB2 := Lib.hid (belT HB.out ((Below.refl _ _).drew.trans hbw))
            clear hbw hW HS HB
            go_wp2_with fail
            refine (hw.out _ _ _ _).mono ?_
            rintro e' w2 ⟨rfl, rfl⟩
            rw [ht]
            go_wp2
            go_ret
            exact ⟨by rw [e.out]; simp [hn], HB2.out⟩
        · by_cases hk4 : kind = 4
          · subst hk4
            have e : Hid (Rc.right ⟨tm, 4, n, bs⟩ = (if decide (n = 0) = true then decide (m ≤ 64) else false)) := Lib.hid (by rw [e.out]; unfold rOk; by_cases a : n = 0 <;> by_cases b : m ≤ 64 <;> simp [a, b])
            by_cases hn : n = 0
            · by_cases hb : m ≤ 64
              · have hm : (m : Int) ≤ 64 := by omega
                subst hn
                go_enter Try.func20, Try.ntmps20
                go_wp2
                refine Free.any (RtS w.heap.size (.int .i64 tm) (.int .i64 4) (.int .i64 0) (.slice ao m ca)) (RtS.stb _ _ _ _ _) HS.out (fun st => ?_)
                refine Free.tk 0 (some 5) ?_
                refine Free.tk 1 (some 6) (v := .int .i64 0) ?_ (hy := by intro W hW; have c0 := hW.c; go_simp; try with_reducible rfl)
                refine Free.tk 2 (some 7) ?_
                refine Free.tk 3 (some 8) (v := .slice ao m ca) ?_ (hy := by intro W hW; have c0 := hW.d; go_simp; try with_reducible rfl)
                refine Free.tk 4 (some 9) (v := .int .i64 (m : Int)) ?_ (hy := by intro W hW; go_simp; try with_reducible rfl)
                refine Free.tk 5 (some 3) ?_
                refine Free.tk 6 (some 4) ?_
                refine Free.done (fun W hbw hW => ?_)
                have c0 := hW.a
                have c1 := hW.b
                have HB2 := Lib.hid (belT HB.out ((Below.refl _ _).drew.trans hbw))
                clear hbw hW HS HB
                go_wp2_with fail
                refine (hw.out _ _ _ _).mono ?_
                rintro e' w2 ⟨rfl, rfl⟩
                rw [ht]
                go_wp2
                go_ret
                exact ⟨by rw [e.out]; simp [hb] <;> omega, HB2.out⟩
              · have hm : (64 : Int) < m := by omega
                subst hn
                go_enter Try.func20, Try.ntmps20
                go_wp2
                refine Free.any (RtS w.heap.size (.int .i64 tm) (.int .i64 4) (.int .i64 0) (.slice ao m ca)) (RtS.stb _ _ _ _ _) HS.out (fun st => ?_)
                refine Free.tk 0 (some 5) ?_
                refine Free.tk 1 (some 6) (v := .int .i64 0) ?_ (hy := by intro W hW; have c0 := hW.c; go_simp; try with_reducible rfl)
                refine Free.tk 2 (some 7) ?_
                refine Free.tk 3 (some 8) (v := .slice ao m ca) ?_ (hy := by intro W hW; have c0 := hW.d; go_simp; try with_reducible rfl)
                refine Free.tk 4 (some 9) (v := .int .i64 (m : Int)) ?_ (hy := by intro W hW; go_simp; try with_reducible rfl)
                refine Free.tk 5 (some 3) ?_
                refine Free.tk 6 (some 4) ?_
                refine Free.done (fun W hbw hW => ?_)
                have c0 := hW.a
                have c1 := hW.b
                have HB2 := Lib.hid (belT HB.out ((Below.refl _ _).drew.trans hbw))
                clear hbw hW HS HB
                go_wp2_with fail
                refine (hw.out _ _ _ _).mono ?_
                rintro e' w2 ⟨rfl, rfl⟩
                rw [ht]
                go_wp2
                go_ret
                exact ⟨by rw [e.out]; simp [hb] <;> omega, HB2.out⟩
            · go_enter Try.func20, Try.ntmps20
              go_wp2
              refine Free.any (RtS w.heap.size (.int .i64 tm) (.int .i64 4) (.int .i64 n) (.slice ao m ca)) (RtS.stb _ _ _ _ _) HS.out (fun st => ?_)
              refine Free.tk 0 (some 5) ?_
              refine Free.tk 1 (some 6) (v := .int .i64 n) ?_ (hy := by intro W hW; have c0 := hW.c; go_simp; try with_reducible rfl)
              refine Free.tk 2 (some 7) ?_
              refine Free.tk 3 (some 8) (v := .slice ao m ca) ?_ (hy := by intro W hW; have c0 := hW.d; go_simp; try with_reducible rfl)
              refine Free.tk 4 (some 9) (v := .int .i64 (m : Int)) ?_ (hy := by intro W hW; go_simp; try with_reducible rfl)
              refine Free.tk 5 (some 3) ?_
              refine Free.tk 6 (some 4) ?_
              refine Free.done (fun W hbw hW => ?_)
              have c0 := hW.a
              have c1 := hW.b
              have HB2 := Lib.hid (belT HB.out ((Below.refl _ _).drew.trans hbw))
              clear hbw hW HS HB
              go_wp2_with fail
              refine (hw.out _ _ _ _).mono ?_
              rintro e' w2 ⟨rfl, rfl⟩
              rw [ht]
              go_wp2
              go_ret
              exact ⟨by rw [e.out]; simp [hn], HB2.out⟩
          · by_cases hk5 : kind = 5
            · subst hk5
              have e : Hid (Rc.right ⟨tm, 5, n, bs⟩ = (if decide (1 ≤ n ∧ n ≤ 4) = true then decide (m = 2) else false)) := Lib.hid (by rw [e.out]; unfold rOk; by_cases a : 1 ≤ n ∧ n ≤ 4 <;> by_cases b : m = 2 <;> simp [a, b] <;> omega)
              cases hn : decide (1 ≤ n ∧ n ≤ 4) with
              | false =>
                go_enter Try.func20, Try.ntmps20
                go_wp2
                refine Free.any (RtS w.heap.size (.int .i64 tm) (.int .i64 5) (.int .i64 n) (.slice ao m ca)) (RtS.stb _ _ _ _ _) HS.out (fun st => ?_)
                refine Free.tk 0 (some 5) ?_
                refine Free.tk 1 (some 6) (v := .int .i64 n) ?_ (hy := by intro W hW; have c0 := hW.c; go_simp; try with_reducible rfl)
                refine Free.tk 2 (some 7) ?_
                refine Free.tk 3 (some 8) (v := .slice ao m ca) ?_ (hy := by intro W hW; have c0 := hW.d; go_simp; try with_reducible rfl)
                refine Free.tk 4 (some 9) (v := .int .i64 (m : Int)) ?_ (hy := by intro W hW; go_simp; try with_reducible rfl)
                refine Free.tk 5 (some 3) ?_
                refine Free.tk 6 (some 4) ?_
                refine Free.done (fun W hbw hW => ?_)
                have c0 := hW.a
                have c1 := hW.b
                have HB2 := Lib.hid (belT HB.out ((Below.refl _ _).drew.trans hbw))
                clear hbw hW HS HB
                go_wp2_with fail
                refine (hw.out _ _ _ _).mono ?_
                rintro e' w2 ⟨rfl, rfl⟩
                rw [ht]
                go_wp2_with fail
                refine (hw.out _ _ _ _).mono ?_
                rintro e' w2 ⟨rfl, rfl⟩
                rw [hn]
                go_wp2
                go_ret
                exact ⟨by rw [e.out, hn]; rfl, HB2.out⟩
              | true =>
                by_cases hb : m = 2
                · subst hb
                  go_enter Try.func20, Try.ntmps20
                  go_wp2
                  refine Free.any (RtS w.heap.size (.int .i64 tm) (.int .i64 5) (.int .i64 n) (.slice ao 2 ca)) (RtS.stb _ _ _ _ _) HS.out (fun st => ?_)
                  refine Free.tk 0 (some 5) ?_
                  refine Free.tk 1 (some 6) (v := .int .i64 n) ?_ (hy := by intro W hW; have c0 := hW.c; go_simp; try with_reducible rfl)
                  refine Free.tk 2 (some 7) ?_
                  refine Free.tk 3 (some 8) (v := .slice ao 2 ca) ?_ (hy := by intro W hW; have c0 := hW.d; go_simp; try with_reducible rfl)
                  refine Free.tk 4 (some 9) (v := .int .i64 (2 : Int)) ?_ (hy := by intro W hW; go_simp; try with_reducible rfl)
                  refine Free.tk 5 (some 3) ?_
                  refine Free.tk 6 (some 4) ?_
                  refine Free.done (fun W hbw hW => ?_)
                  have c0 := hW.a
                  have c1 := hW.b
                  have HB2 := Lib.hid (belT HB.out ((Below.refl _ _).drew.trans hbw))
                  clear hbw hW HS HB
                  go_wp2_with fail
                  refine (hw.out _ _ _ _).mono ?_
                  rintro e' w2 ⟨rfl, rfl⟩
                  rw [ht]
                  go_wp2_with fail
                  refine (hw.out _ _ _ _).mono ?_
                  rintro e' w2 ⟨rfl, rfl⟩
                  rw [hn]
                  go_wp2
                  go_ret
                  exact ⟨by rw [e.out]; simp [hn] <;> omega, HB2.out⟩
                · have hm : ¬ (m : Int) = 2 := by omega
                  go_enter Try.func20, Try.ntmps20
                  go_wp2
                  refine Free.any (RtS w.heap.size (.int .i64 tm) (.int .i64 5) (.int .i64 n) (.slice ao m ca)) (RtS.stb _ _ _ _ _) HS.out (fun st => ?_)
                  refine Free.tk 0 (some 5) ?_
                  refine Free.tk 1 (some 6) (v := .int .i64 n) ?_ (hy := by intro W hW; have c0 := hW.c; go_simp; try with_reducible rfl)
                  refine Free.tk 2 (some 7) ?_
                  refine Free.tk 3 (some 8) (v := .slice ao m ca) ?_ (hy := by intro W hW; have c0 := hW.d; go_simp; try with_reducible rfl)
                  refine Free.tk 4 (some 9) (v := .int .i64 (m : Int)) ?_ (hy := by intro W hW; go_simp; try with_reducible rfl)
                  refine Free.tk 5 (some 3) ?_
                  refine Free.tk 6 (some 4) ?_
                  refine Free.done (fun W hbw hW => ?_)
                  have c0 := hW.a
                  have c1 := hW.b
                  have HB2 := Lib.hid (belT HB.out ((Below.refl _ _).drew.trans hbw))
                  clear hbw hW HS HB
                  go_wp2_with fail
                  refine (hw.out _ _ _ _).mono ?_
                  rintro e' w2 ⟨rfl, rfl⟩
                  rw [ht]
                  go_wp2_with fail
                  refine (hw.out _ _ _ _).mono ?_
                  rintro e' w2 ⟨rfl, rfl⟩
                  rw [hn]
                  go_wp2
                  go_ret
                  exact ⟨by rw [e.out]; simp [hn, hb] <;> omega, HB2.out⟩
            · by_cases hk6 : kind = 6
              · subst hk6
                have e : Hid (Rc.right ⟨tm, 6, n, bs⟩ = (if decide (1 ≤ n ∧ n ≤ 4) = true then decide (m = 2) else false)) := Lib.hid (by rw [e.out]; unfold rOk; by_cases a : 1 ≤ n ∧ n ≤ 4 <;> by_cases b : m = 2 <;> simp [a, b] <;> omega)
                cases hn : decide (1 ≤ n ∧ n ≤ 4) with
                | false =>
                  go_enter Try.func20, Try.ntmps20
                  go_wp2
                  refine Free.any (RtS w.heap.size (.int .i64 tm) (.int .i64 6) (.int .i64 n) (.slice ao m ca)) (RtS.stb _ _ _ _ _) HS.out (fun st => ?_)
                  refine Free.tk 0 (some 5) ?_
                  refine Free.tk 1 (some 6) (v := .int .i64 n) ?_ (hy := by intro W hW; have c0 := hW.c; go_simp; try with_reducible rfl)
                  refine Free.tk 2 (some 7) ?_
                  refine Free.tk 3 (some 8) (v := .slice ao m ca) ?_ (hy := by intro W hW; have c0 := hW.d; go_simp; try with_reducible rfl)
                  refine Free.tk 4 (some 9) (v := .int .i64 (m : Int)) ?_ (hy := by intro W hW; go_simp; try with_reducible rfl)
                  refine Free.tk 5 (some 3) ?_
                  refine Free.tk 6 (some 4) ?_
                  refine Free.done (fun W hbw hW => ?_)
                  have c0 := hW.a
                  have c1 := hW.b
                  have HB2 := Lib.hid (belT HB.out ((Below.refl _ _).drew.trans hbw))
                  clear hbw hW HS HB
                  go_wp2_with fail
                  refine (hw.out _ _ _ _).mono ?_
                  rintro e' w2 ⟨rfl, rfl⟩
                  rw [ht]
                  go_wp2_with fail
                  refine (hw.out _ _ _ _).mono ?_
                  rintro e' w2 ⟨rfl, rfl⟩
                  rw [hn]
                  go_wp2
                  go_ret
                  exact ⟨by rw [e.out, hn]; rfl, HB2.out⟩
                | true =>
                  by_cases hb : m = 2
                  · subst hb
                    go_enter Try.func20, Try.ntmps20
                    go_wp2
                    refine Free.any (RtS w.heap.size (.int .i64 tm) (.int .i64 6) (.int .i64 n) (.slice ao 2 ca)) (RtS.stb _ _ _ _ _) HS.out (fun st => ?_)
                    refine Free.tk 0 (some 5) ?_
                    refine Free.tk 1 (some 6) (v := .int .i64 n) ?_ (hy := by intro W hW; have c0 := hW.c; go_simp; try with_reducible rfl)
                    refine Free.tk 2 (some 7) ?_
                    refine Free.tk 3 (some 8) (v := .slice ao 2 ca) ?_ (hy := by intro W hW; have c0 := hW.d; go_simp; try with_reducible rfl)
                    refine Free.tk 4 (some 9) (v := .int .i64 (2 : Int)) ?_ (hy := by intro W hW; go_simp; try with_reducible rfl)
                    refine Free.tk 5 (some 3) ?_
                    refine Free.tk 6 (some 4) ?_
                    refine Free.done (fun W hbw hW => ?_)
                    have c0 := hW.a
                    have c1 := hW.b
                    have HB2 := Lib.hid (belT HB.out ((Below.refl _ _).drew.trans hbw))
                    clear hbw hW HS HB
                    go_wp2_with fail
                    refine (hw.out _ _ _ _).mono ?_
                    rintro e' w2 ⟨rfl, rfl⟩
                    rw [ht]
                    go_wp2_with fail
                    refine (hw.out _ _ _ _).mono ?_
                    rintro e' w2 ⟨rfl, rfl⟩
                    rw [hn]
                    go_wp2
                    go_ret
                    exact ⟨by rw [e.out]; simp [hn] <;> omega, HB2.out⟩
                  · have hm : ¬ (m : Int) = 2 := by omega
                    go_enter Try.func20, Try.ntmps20
                    go_wp2
                    refine Free.any (RtS w.heap.size (.int .i64 tm) (.int .i64 6) (.int .i64 n) (.slice ao m ca)) (RtS.stb _ _ _ _ _) HS.out (fun st => ?_)
                    refine Free.tk 0 (some 5) ?_
                    refine Free.tk 1 (some 6) (v := .int .i64 n) ?_ (hy := by intro W hW; have c0 := hW.c; go_simp; try with_reducible rfl)
                    refine Free.tk 2 (some 7) ?_
                    refine Free.tk 3 (some 8) (v := .slice ao m ca) ?_ (hy := by intro W hW; have c0 := hW.d; go_simp; try with_reducible rfl)
                    refine Free.tk 4 (some 9) (v := .int .i64 (m : Int)) ?_ (hy := by intro W hW; go_simp; try with_reducible rfl)
                    refine Free.tk 5 (some 3) ?_
                    refine Free.tk 6 (some 4) ?_
                    refine Free.done (fun W hbw hW => ?_)
                    have c0 := hW.a
                    have c1 := hW.b
                    have HB2 := Lib.hid (belT HB.out ((Below.refl _ _).drew.trans hbw))
                    clear hbw hW HS HB
                    go_wp2_with fail
                    refine (hw.out _ _ _ _).mono ?_
                    rintro e' w2 ⟨rfl, rfl⟩
                    rw [ht]
                    go_wp2_with fail
                    refine (hw.out _ _ _ _).mono ?_
                    rintro e' w2 ⟨rfl, rfl⟩
                    rw [hn]
                    go_wp2
                    go_ret
                    exact ⟨by rw [e.out]; simp [hn, hb] <;> omega, HB2.out⟩
              · by_cases hk7 : kind = 7
                · subst hk7
                  have e : Hid (Rc.right ⟨tm, 7, n, bs⟩ = (if decide (n = 0) = true then decide (m = 2) else false)) := Lib.hid (by rw [e.out]; unfold rOk; by_cases a : n = 0 <;> by_cases b : m = 2 <;> simp [a, b])
                  by_cases hn : n = 0
                  · by_cases hb : m = 2
                    · subst hb
                      subst hn
                      go_enter Try.func20, Try.ntmps20
                      go_wp2
                      refine Free.any (RtS w.heap.size (.int .i64 tm) (.int .i64 7) (.int .i64 0) (.slice ao 2 ca)) (RtS.stb _ _ _ _ _) HS.out (fun st => ?_)
                      refine Free.tk 0 (some 5) ?_
                      refine Free.tk 1 (some 6) (v := .int .i64 0) ?_ (hy := by intro W hW; have c0 := hW.c; go_simp; try with_reducible rfl)
                      refine Free.tk 2 (some 7) ?_
                      refine Free.tk 3 (some 8) (v := .slice ao 2 ca) ?_ (hy := by intro W hW; have c0 := hW.d; go_simp; try with_reducible rfl)
                      refine Free.tk 4 (some 9) (v := .int .i64 (2 : Int)) ?_ (hy := by intro W hW; go_simp; try with_reducible rfl)
                      refine Free.tk 5 (some 3) ?_
                      refine Free.tk 6 (some 4) ?_
                      refine Free.done (fun W hbw hW => ?_)
                      have c0 := hW.a
                      have c1 := hW.b
                      have HB2 := Lib.hid (belT HB.out ((Below.refl _ _).drew.trans hbw))
                      clear hbw hW HS HB
                      go_wp2_with fail
                      refine (hw.out _ _ _ _).mono ?_
                      rintro e' w2 ⟨rfl, rfl⟩
                      rw [ht]
                      go_wp2
                      go_ret
                      exact ⟨by rw [e.out]; simp <;> omega, HB2.out⟩
                    · have hm : ¬ (m : Int) = 2 := by omega
                      subst hn
                      go_enter Try.func20, Try.ntmps20
                      go_wp2
                      refine Free.any (RtS w.heap.size (.int .i64 tm) (.int .i64 7) (.int .i64 0) (.slice ao m ca)) (RtS.stb _ _ _ _ _) HS.out (fun st => ?_)
                      refine Free.tk 0 (some 5) ?_
                      refine Free.tk 1 (some 6) (v := .int .i64 0) ?_ (hy := by intro W hW; have c0 := hW.c; go_simp; try with_reducible rfl)
                      refine Free.tk 2 (some 7) ?_
                      refine Free.tk 3 (some 8) (v := .slice ao m ca) ?_ (hy := by intro W hW; have c0 := hW.d; go_simp; try with_reducible rfl)
                      refine Free.tk 4 (some 9) (v := .int .i64 (m : Int)) ?_ (hy := by intro W hW; go_simp; try with_reducible rfl)
                      refine Free.tk 5 (some 3) ?_
                      refine Free.tk 6 (some 4) ?_
                      refine Free.done (fun W hbw hW => ?_)
                      have c0 := hW.a
                      have c1 := hW.b
                      have HB2 := Lib.hid (belT HB.out ((Below.refl _ _).drew.trans hbw))
                      clear hbw hW HS HB
                      go_wp2_with fail
                      refine (hw.out _ _ _ _).mono ?_
                      rintro e' w2 ⟨rfl, rfl⟩
                      rw [ht]
                      go_wp2
                      go_ret
                      exact ⟨by rw [e.out]; simp [hb] <;> omega, HB2.out⟩
                  · go_enter Try.func20, Try.ntmps20
                    go_wp2
                    refine Free.any (RtS w.heap.size (.int .i64 tm) (.int .i64 7) (.int .i64 n) (.slice ao m ca)) (RtS.stb _ _ _ _ _) HS.out (fun st => ?_)
                    refine Free.tk 0 (some 5) ?_
                    refine Free.tk 1 (some 6) (v := .int .i64 n) ?_ (hy := by intro W hW; have c0 := hW.c; go_simp; try with_reducible rfl)
                    refine Free.tk 2 (some 7) ?_
                    refine Free.tk 3 (some 8) (v := .slice ao m ca) ?_ (hy := by intro W hW; have c0 := hW.d; go_simp; try with_reducible rfl)
                    refine Free.tk 4 (some 9) (v := .int .i64 (m : Int)) ?_ (hy := by intro W hW; go_simp; try with_reducible rfl)
                    refine Free.tk 5 (some 3) ?_
                    refine Free.tk 6 (some 4) ?_
                    refine Free.done (fun W hbw hW => ?_)
                    have c0 := hW.a
                    have c1 := hW.b
                    have HB2 := Lib.hid (belT HB.out ((Below.refl _ _).drew.trans hbw))
                    clear hbw hW HS HB
                    go_wp2_with fail
                    refine (hw.out _ _ _ _).mono ?_
                    rintro e' w2 ⟨rfl, rfl⟩
                    rw [ht]
                    go_wp2
                    go_ret
                    exact ⟨by rw [e.out]; simp [hn], HB2.out⟩
                · have e : Hid (Rc.right ⟨tm, kind, n, bs⟩ = false) := Lib.hid (by rw [e.out]; unfold rOk; simp [hk1, hk2, hk3, hk4, hk5, hk6, hk7])
                  go_enter Try.func20, Try.ntmps20
                  go_wp2
                  refine Free.any (RtS w.heap.size (.int .i64 tm) (.int .i64 kind) (.int .i64 n) (.slice ao m ca)) (RtS.stb _ _ _ _ _) HS.out (fun st => ?_)
                  refine Free.tk 0 (some 5) ?_
                  refine Free.tk 1 (some 6) (v := .int .i64 n) ?_ (hy := by intro W hW; have c0 := hW.c; go_simp; try with_reducible rfl)
                  refine Free.tk 2 (some 7) ?_
                  refine Free.tk 3 (some 8) (v := .slice ao m ca) ?_ (hy := by intro W hW; have c0 := hW.d; go_simp; try with_reducible rfl)
                  refine Free.tk 4 (some 9) (v := .int .i64 (m : Int)) ?_ (hy := by intro W hW; go_simp; try with_reducible rfl)
                  refine Free.tk 5 (some 3) ?_
                  refine Free.tk 6 (some 4) ?_
                  refine Free.done (fun W hbw hW => ?_)
                  have c0 := hW.a
                  have c1 := hW.b
                  have HB2 := Lib.hid (belT HB.out ((Below.refl _ _).drew.trans hbw))
                  clear hbw hW HS HB
                  go_wp2_with fail
                  refine (hw.out _ _ _ _).mono ?_
                  rintro e' w2 ⟨rfl, rfl⟩
                  rw [ht]
                  go_wp2
                  go_ret
                  exact ⟨by rw [e.out]; rfl, HB2.out⟩
end Go.Proofs.Ytjffclcjijpmiaa.LG
