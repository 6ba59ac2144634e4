/-
  Layer 13: the statement PolicyPlay: a walk. Written by gen_pplay.py.
-/
import Derived.Test.YtdpdoclhdjhjkaaG26
import Derived.Test.YtdpdoclhdjhjkaaG27
import Derived.Test.YtdpdoclhdjhjkaaG34
import Derived.Test.YtdpdoclhdjhjkaaG29
import Derived.Test.YtdpdoclhdjhjkaaG28
set_option linter.unusedVariables false
set_option linter.unusedSimpArgs false
namespace Go.Proofs.Ytdpdoclhdjhjkaa
open Go.RowKit
set_option maxHeartbeats 16000000
set_option maxRecDepth 100000
set_option linter.unusedVariables false
set_option linter.unusedSimpArgs false

theorem ruC_set (r : Ru) {j : Nat} (h : j < 11) (x : Int) : (ruC r).setIfInBounds j (.int .u32 x) = ruC (r.set j x) := by
  rcases (show j = 0 ∨ j = 1 ∨ j = 2 ∨ j = 3 ∨ j = 4 ∨ j = 5 ∨ j = 6 ∨ j = 7 ∨ j = 8 ∨ j = 9 ∨ j = 10 by omega) with rfl | rfl | rfl | rfl | rfl | rfl | rfl | rfl | rfl | rfl | rfl <;> rfl
theorem ruC_at (r : Ru) {j : Nat} (h : j < 11) : (ruC r)[j]? = some (.int .u32 (r j)) := by
  rcases (show j = 0 ∨ j = 1 ∨ j = 2 ∨ j = 3 ∨ j = 4 ∨ j = 5 ∨ j = 6 ∨ j = 7 ∨ j = 8 ∨ j = 9 ∨ j = 10 by omega) with rfl | rfl | rfl | rfl | rfl | rfl | rfl | rfl | rfl | rfl | rfl <;> rfl
/-- The rules in a box. -/
def RuB (w : World) (B : Nat) (r : Ru) : Prop := Rf 25 11 w B (ruC r)
theorem RuB.set {w : World} {B : Nat} {r : Ru} (h : RuB w B r) {j : Nat} (hj : j < 11) (x : Int) : RuB (w.setCell ⟨B, j, none⟩ (.int .u32 x)) B (r.set j x) := by
  have := h.blk.setCell j (.int .u32 x)
  rw [ruC_set r hj] at this
  exact ⟨this, (ruC_ok _).1, (ruC_ok _).2⟩
theorem RuB.at_ {w : World} {B : Nat} {r : Ru} (h : RuB w B r) {j : Nat} (hj : j < 11) : w.cell? ⟨B, j, none⟩ = some (.int .u32 (r j)) := by
  rw [h.blk.cell, ruC_at r hj]
theorem RuB.below {w w' : World} {B : Nat} {r : Ru} (h : RuB w B r) (hb : Below w.heap.size w w') : RuB w' B r := Rf.below h hb
theorem RuB.turned {w w' : World} {B : Nat} {r : Ru} (h : RuB w B r) {F : Nat → Prop} (ht : Turned F w w') (hn : ¬ F B) : RuB w' B r := Rf.turned h ht hn
/-- A round: the policy, the rules beside it. -/
structure PlR (w : World) (B P : Nat) (r : Ru) (W : World) : Prop where
  b : Below w.heap.size w W
  x : RuB W B r
  p : Po W P r
  lt : B < P
  lo : w.heap.size ≤ B
theorem PlR.after {w : World} {B P : Nat} {r : Ru} {W W' : World} (h : PlR w B P r W) (hb : Below W.heap.size W W') : PlR w B P r W' := ⟨h.b.trans (hb.mono h.b.size), h.x.below hb, h.p.below hb, h.lt, h.lo⟩
/-- What the last region of a round knows: the policy's copy, as it was. -/
structure PlC (w : World) (B P C : Nat) (r r' : Ru) (W : World) : Prop where
  i : PlR w B P r' W
  c : Po W C r
theorem PlC.stb (w : World) (B P C : Nat) (r r' : Ru) : Free.Stb (PlC w B P C r r') := fun W W' h hb => ⟨h.i.after hb, h.c.below hb⟩
theorem PlC.after {w : World} {B P C : Nat} {r r' : Ru} {W W' : World} (h : PlC w B P C r r' W) (hb : Below W.heap.size W W') : PlC w B P C r r' W' := PlC.stb _ _ _ _ _ _ _ _ h hb
/-- A setter has been called, and the rules beside it have been set. -/
theorem PlR.turn {w : World} {B P : Nat} {r r' : Ru} {W W' : World} (h : PlR w B P r W) (hp : Po W' P r') (ht : Turned (fun k => k = P) W W') : Below w.heap.size w W' ∧ RuB W' B r ∧ Po W' P r' :=
  ⟨h.b.trans (ht.below h.b.size (fun k e => by have := h.lt; have := h.lo; omega)), h.x.turned ht (fun e => by have := h.lt; omega), hp⟩
theorem PlR.of {w : World} {B P : Nat} {r r' : Ru} {W : World} (h : Below w.heap.size w W ∧ RuB W B r ∧ Po W P r') (hlt : B < P) (hlo : w.heap.size ≤ B) {j : Nat} (hj : j < 11) (x : Int) (hr : r' = r.set j x) : PlR w B P r' (W.setCell ⟨B, j, none⟩ (.int .u32 x)) := by
  obtain ⟨h1, h2, h3⟩ := h
  have tt : Turned (fun k => k = B) W (W.setCell ⟨B, j, none⟩ (.int .u32 x)) := (Turned.refl (fun k => k = B) W).setCell (.inl rfl) _
  exact ⟨h1.trans (tt.below h1.size (fun k e => by omega)), by rw [hr]; exact h2.set hj x, h3.turned tt (by omega), hlt, hlo⟩
theorem ptr_nil_ne (S : Nat) (t : TypeId) : True := trivial
theorem PPlay_few (r : Ru) (hr : RuW r) {v : Value} {xs : List T.Pr} {w : World} (h : MksIn w v xs) (hq : 40 < xs.length ∨ mayR r = false) : Calls Try.prog 3 #[.agg (ruC r), v] w fun e w' => e = .returned (.bool true) ∧ Below w.heap.size w w' := by
  have HB0 := Lib.hid (bel1 w (.cells (ruC r) 25))
  have HX0 := Lib.hid ((ruC_ok r).new 25 w)
  have HOf := Lib.hid (Of_any r hr (w.alloc (.cells (ruC r) 25)))
  obtain ⟨oa, ca, rfl, _, hla⟩ := h.1.shape
  unfold maxLen at hla
  clear h hr
  cases hm : mayR r with
  | false =>
    have HM := Lib.hid hm
    clear hq hm
    go_enter Try.func3, Try.ntmps3
    go_wp2_with ((with_reducible refine wp_load_V rvRules HX0.out ?_ ?_); (rfl))
    refine HOf.out.mono ?_
    rintro e w1 ⟨_, he, hb⟩
    obtain rfl := he HM.out
    have HB1 := Lib.hid (HB0.out.trans (hb.mono HB0.out.size))
    clear hb he
    by_cases hx : 40 < xs.length
    · have hx' : (40 : Int) < (xs.length : Int) := by omega
      clear hx
      go_wp2_with fail
      refine (known13_any _).mono ?_
      rintro e w2 ⟨rfl, hb⟩
      have HB2 := Lib.hid (HB1.out.trans (hb.mono HB1.out.size))
      clear hb
      go_wp2
      go_ret
      exact ⟨rfl, HB2.out⟩
    · have hx' : ¬ (40 : Int) < (xs.length : Int) := by omega
      clear hx
      go_wp2_with fail
      refine (known13_any _).mono ?_
      rintro e w2 ⟨rfl, hb⟩
      have HB2 := Lib.hid (HB1.out.trans (hb.mono HB1.out.size))
      clear hb
      go_wp2
      go_ret
      exact ⟨rfl, HB2.out⟩
  | true =>
    have HM := Lib.hid hm
    have hx' : (40 : Int) < (xs.length : Int) := by
      rcases hq with e | e
      · omega
      · rw [hm] at e; cases e
    clear hq hm
    go_enter Try.func3, Try.ntmps3
    go_wp2_with ((with_reducible refine wp_load_V rvRules HX0.out ?_ ?_); (rfl))
    refine HOf.out.mono ?_
    rintro e w1 ⟨he, _, hb⟩
    obtain ⟨S, rfl, _, _⟩ := he HM.out
    have HB1 := Lib.hid (HB0.out.trans (hb.mono HB0.out.size))
    clear hb he
    go_wp2_with fail
    refine (known13_any _).mono ?_
    rintro e w2 ⟨rfl, hb⟩
    have HB2 := Lib.hid (HB1.out.trans (hb.mono HB1.out.size))
    clear hb
    go_wp2
    go_ret
    exact ⟨rfl, HB2.out⟩
theorem x_load_R {n R : Nat} {c : Array Value} {ty : TypeId} {x : Operand} {op : Oper} {ev : Operand → Value} {W : World} (ht : RowV ty n) (ho : op.op = .load ty x) (hx : ev x = .pointer (some ⟨R, 0, none⟩)) (hr : Rf ty n W R c) : (execOp ev op).run Try.prog W = .ok (.value (.agg c)) W := by
  unfold execOp
  simp only [ho, hx, Instr.loadAt, Instr.sureAddr, Sem.run_bind, Sem.run_pure, Result.andThen_ok, run_load_V ht hr]
theorem x_neq_ru {x y : Operand} {op : Oper} {ev : Operand → Value} {W : World} {s s' : Ru} {t2 : TypeId} {b : Bool} (ho : op.op = .binOp .neq 25 x y t2) (hx : ev x = .agg (ruC s)) (hy : ev y = .agg (ruC s')) (hb : (!ruE s s') = b) : (execOp ev op).run Try.prog W = .ok (.value (.bool b)) W := by
  have h1 := guard_ru .neq x y (ruC s) (ruC s') W
  have h2 := neq_ru s s' W
  unfold execOp
  subst hb
  simp only [ho, hx, hy, Sem.run_bind, h1, h2, Result.andThen_ok]
  rfl
theorem PolicyPlay_walk (r : Ru) (hr : RuW r) {v : Value} {xs : List T.Pr} {w : World} (h : MksIn w v xs) : Calls Try.prog 3 #[.agg (ruC r), v] w fun e w' => e = .returned (.bool true) ∧ Below w.heap.size w w' := by
  by_cases hq : 40 < xs.length ∨ mayR r = false
  · exact PPlay_few r hr h hq
  have hm : mayR r = true := by
    cases e : mayR r with
    | true => rfl
    | false => exact absurd (.inr e) hq
  have hx40 : ¬ (40 : Int) < (xs.length : Int) := by omega
  have HM := Lib.hid hm
  have HXs := Lib.hid h
  have HB0 := Lib.hid (bel1 w (.cells (ruC r) 25))
  have HX0 := Lib.hid ((ruC_ok r).new 25 w)
  have HOf := Lib.hid (Of_any r hr (w.alloc (.cells (ruC r) 25)))
  obtain ⟨oa, ca, rfl, _, hla⟩ := h.1.shape
  unfold maxLen at hla
  clear h hr hq hm
  go_enter Try.func3, Try.ntmps3
  go_wp2_with ((with_reducible refine wp_load_V rvRules HX0.out ?_ ?_); (rfl))
  refine HOf.out.mono ?_
  rintro e w1 ⟨he, _, hb⟩
  obtain ⟨P, rfl, hp, hPl⟩ := he HM.out
  have H1 : Hid (PlR w w.heap.size P r w1) := ⟨HB0.out.trans (hb.mono HB0.out.size), Rf.below HX0.out hb, hp, by simp only [World.size_alloc] at hPl; omega, Nat.le_refl _⟩
  clear hb he hp hPl HX0 HB0 HOf
  go_wp2
  go_loopw [7] (fun i wr => ∃ (k : Nat) (r : Ru), k ≤ xs.length ∧ i = .int .i64 (k : Int) ∧ Hid (PlR w w.heap.size P r wr)) (fun i _ => xs.length + 1 - natI i)
  case atStart => exact ⟨0, r, by omega, rfl, H1.out⟩
  case round =>
    obtain ⟨k, r, hk, rfl, HI⟩ := hrel
    clear H1
    by_cases hlt : k < xs.length
    · have hi : (k : Int) < (xs.length : Int) := by omega
      obtain ⟨g1, o1, c1, y, e1, l1, hg1, hq⟩ := PrIn.fix HXs.out.1 hlt
      simp at e1
      obtain ⟨rfl, rfl⟩ := e1
      obtain ⟨hpi, hx32⟩ := HXs.out.2 y (List.mem_of_getElem? l1)
      obtain ⟨q1, q2, q3⟩ := hq wr HI.out.b
      obtain ⟨⟨kd, wh⟩, x⟩ := y
      obtain ⟨hkd, hwh⟩ : I64 kd ∧ I64 wh := hpi
      simp only at q1 q2 q3 hx32
      clear hq l1
      by_cases hd : kd = 1
      · subst hd
        by_cases hx2 : x < 65536
        · by_cases hk1 : 0 < wh
          · by_cases hk5 : wh < 5
            · obtain ⟨j, rfl⟩ : ∃ j : Nat, wh = (j : Int) := ⟨wh.toNat, by omega⟩
              have hj0 : (0 : Int) ≤ (j : Int) := by omega
              have hj1 : (1 : Int) ≤ (j : Int) := by omega
              have hj4 : (j : Int) ≤ 4 := by omega
              have hd1 : decide ((1 : Int) ≤ (j : Int)) = true := decide_eq_true hj1
              have hd4 : decide ((j : Int) ≤ 4) = true := decide_eq_true hj4
              have hdx : decide ((65536 : Int) ≤ x) = false := decide_eq_false (by omega)
              have hjj : j < 5 := by omega
              go_wp2_with fail
              refine (pCopy_any (HI.out.p.below (bel1 wr _))).mono ?_
              rintro e w2 ⟨rfl, hpc, hb⟩
              have hb2 := (bel1 wr (.cells #[.int .i64 1, .int .i64 (j : Int), .int .u32 x] 33)).trans (hb.mono (by simp))
              have HI2 := Lib.hid (HI.out.after hb2)
              have hbk := Blk.below (blk_new wr #[.int .i64 1, .int .i64 (j : Int), .int .u32 x] 33) hb
              have HBk := Lib.hid hbk
              rw [World.size_alloc] at hpc
              have HPc := Lib.hid hpc
              have b0 := hbk.cell 0
              have b1 := hbk.cell 1
              have b2 := hbk.cell 2
              simp only [List.getElem?_toArray, List.getElem?_cons_zero, List.getElem?_cons_succ] at b0 b1 b2
              have HPl := Lib.hid HI.out.p.lt
              have HBl := Lib.hid hbk.lt
              clear hpc hb hb2 hbk HI q1 q2 q3
              go_wp2_with fail
              refine (Source_any HI2.out.p (j : Int) x hwh hx32).mono ?_
              rintro e w3 ⟨rfl, hp3, ht⟩
              rw [kindB_ok hk1 hk5, decide_eq_true hx2, Bool.and_self, turn_yes, Int.toNat_natCast] at hp3
              rw [kindB_ok hk1 hk5, refE_ok hx2]
              have h3 := HI2.out.turn hp3 ht
              have hc3 := HPc.out.turned ht (fun e => by have := HPl.out; omega)
              have HBk3 := Lib.hid (HBk.out.turned ht (fun e => by have := HPl.out; omega))
              have HL3 := Lib.hid (And.intro HI2.out.lt HI2.out.lo)
              have HT3 := Lib.hid h3
              have HC3 := Lib.hid hc3
              clear h3 hc3 hp3 ht HI2 HPc HBk b0 b1 b2
              have b0 := HBk3.out.cell 0
              have b1 := HBk3.out.cell 1
              have b2 := HBk3.out.cell 2
              simp only [List.getElem?_toArray, List.getElem?_cons_zero, List.getElem?_cons_succ] at b0 b1 b2
              have cx := HT3.out.2.1.at_ (j := (0 + j)) (by omega)
              have fx := HT3.out.2.1.blk.frozen (0 + j)
              rw [Nat.zero_add] at cx fx
              obtain ⟨r2, hr2⟩ : ∃ r2 : Ru, Hid (r2 = r.set (0 + j) x) := ⟨_, rfl⟩
              have HC : Hid (PlC w w.heap.size P (wr.heap.size + 1) r r2 (w3.setCell ⟨w.heap.size, j, none⟩ (.int .u32 x)).drew) := PlC.after (W := w3.setCell ⟨w.heap.size, j, none⟩ (.int .u32 x)) ⟨by
                have := PlR.of (r' := r2) (by rw [hr2.out]; exact HT3.out) HL3.out.1 HL3.out.2 (j := (0 + j)) (by omega) x hr2.out
                rw [Nat.zero_add] at this
                exact this, HC3.out.turned ((Turned.refl (fun k => k = w.heap.size) w3).setCell (.inl rfl) _) (by have := HPl.out; have := HL3.out; omega)⟩ (Below.refl _ _).drew
              go_wp2
              obtain ⟨eb, heb⟩ : ∃ eb : Bool, Hid (ruE r r2 = eb) := ⟨_, rfl⟩
              have HE := heb
              cases eb with
              | true =>
                refine Free.any (PlC w w.heap.size P (wr.heap.size + 1) r r2) (PlC.stb w w.heap.size P (wr.heap.size + 1) r r2) HC.out (fun st => ?_)
                refine Free.tk 0 (some 106) ?_
                refine Free.tk 1 (some 107) ?_
                refine Free.tk 2 (some 108) (v := .bool false) ?_
                refine Free.tk 3 (some 109) ?_
                refine Free.tk 4 (some 110) ?_
                refine Free.cl 5 (some 111) st (fun W hW => Rules_any hW.i.p) ?_ (hy := by intro W; go_simp; try rfl)
                refine Free.tk 6 (some 112) (v := .agg (ruC r2)) ?_ (hy := by intro W hW; exact x_load_R rvRules rfl rfl hW.i.x)
                refine Free.tk 7 (some 113) (v := .bool false) ?_ (hy := by intro W hW; exact x_neq_ru rfl rfl rfl (by rw [ruE_self]; rfl))
                refine Free.tk 8 (some 114) ?_
                refine Free.tk 9 (some 115) ?_
                refine Free.tk 10 (some 116) ?_
                refine Free.tk 11 (some 117) ?_
                refine Free.tk 12 (some 118) ?_
                refine Free.tk 13 (some 119) ?_
                refine Free.tk 14 (some 120) ?_
                refine Free.cl 15 (some 121) st (fun W hW => Rules_any hW.c) ?_ (hy := by intro W; go_simp; try rfl)
                refine Free.tk 16 (some 122) (v := .agg (ruC r2)) ?_ (hy := by intro W hW; exact x_load_R rvRules rfl rfl hW.i.x)
                refine Free.tk 17 (some 123) (v := .bool false) ?_ (hy := by intro W hW; exact x_neq_ru rfl rfl rfl (by rw [HE.out]; rfl))
                refine Free.tk 18 (some 124) ?_
                refine Free.sk 19 (some 125) ?_
                refine Free.sk 20 (some 126) ?_
                refine Free.tk 21 (some 127) ?_
                refine Free.tk 22 (some 128) ?_
                refine Free.done (fun W9 hb9 hW9 => ?_)
                have HN := Lib.hid hW9.i
                clear hb9 hW9 st HC
                go_wp2
                exact ⟨⟨k + 1, r2, by omega, by go_num, HN.out⟩, by simp [natI]; omega⟩
              | false =>
                refine Free.any (PlC w w.heap.size P (wr.heap.size + 1) r r2) (PlC.stb w w.heap.size P (wr.heap.size + 1) r r2) HC.out (fun st => ?_)
                refine Free.tk 0 (some 106) ?_
                refine Free.tk 1 (some 107) ?_
                refine Free.tk 2 (some 108) (v := .bool false) ?_
                refine Free.tk 3 (some 109) ?_
                refine Free.tk 4 (some 110) ?_
                refine Free.cl 5 (some 111) st (fun W hW => Rules_any hW.i.p) ?_ (hy := by intro W; go_simp; try rfl)
                refine Free.tk 6 (some 112) (v := .agg (ruC r2)) ?_ (hy := by intro W hW; exact x_load_R rvRules rfl rfl hW.i.x)
                refine Free.tk 7 (some 113) (v := .bool false) ?_ (hy := by intro W hW; exact x_neq_ru rfl rfl rfl (by rw [ruE_self]; rfl))
                refine Free.tk 8 (some 114) ?_
                refine Free.tk 9 (some 115) ?_
                refine Free.tk 10 (some 116) ?_
                refine Free.tk 11 (some 117) ?_
                refine Free.tk 12 (some 118) ?_
                refine Free.tk 13 (some 119) ?_
                refine Free.tk 14 (some 120) ?_
                refine Free.cl 15 (some 121) st (fun W hW => Rules_any hW.c) ?_ (hy := by intro W; go_simp; try rfl)
                refine Free.tk 16 (some 122) (v := .agg (ruC r2)) ?_ (hy := by intro W hW; exact x_load_R rvRules rfl rfl hW.i.x)
                refine Free.tk 17 (some 123) (v := .bool true) ?_ (hy := by intro W hW; exact x_neq_ru rfl rfl rfl (by rw [HE.out]; rfl))
                refine Free.tk 18 (some 124) ?_
                refine Free.tk 19 (some 125) ?_
                refine Free.tk 20 (some 126) ?_
                refine Free.tk 21 (some 127) ?_
                refine Free.tk 22 (some 128) ?_
                refine Free.done (fun W9 hb9 hW9 => ?_)
                have HN := Lib.hid hW9.i
                clear hb9 hW9 st HC
                go_wp2
                exact ⟨⟨k + 1, r2, by omega, by go_num, HN.out⟩, by simp [natI]; omega⟩
            · have hd1 : decide ((1 : Int) ≤ wh) = true := decide_eq_true (by omega)
              have hd4 : decide (wh ≤ 4) = false := decide_eq_false (by omega)
              have hdx : decide ((65536 : Int) ≤ x) = false := decide_eq_false (by omega)
              go_wp2_with fail
              refine (pCopy_any (HI.out.p.below (bel1 wr _))).mono ?_
              rintro e w2 ⟨rfl, hpc, hb⟩
              have hb2 := (bel1 wr (.cells #[.int .i64 1, .int .i64 wh, .int .u32 x] 33)).trans (hb.mono (by simp))
              have HI2 := Lib.hid (HI.out.after hb2)
              have hbk := Blk.below (blk_new wr #[.int .i64 1, .int .i64 wh, .int .u32 x] 33) hb
              have HBk := Lib.hid hbk
              rw [World.size_alloc] at hpc
              have HPc := Lib.hid hpc
              have b0 := hbk.cell 0
              have b1 := hbk.cell 1
              have b2 := hbk.cell 2
              simp only [List.getElem?_toArray, List.getElem?_cons_zero, List.getElem?_cons_succ] at b0 b1 b2
              have HPl := Lib.hid HI.out.p.lt
              have HBl := Lib.hid hbk.lt
              clear hpc hb hb2 hbk HI q1 q2 q3
              go_wp2_with fail
              refine (Source_any HI2.out.p wh x hwh hx32).mono ?_
              rintro e w3 ⟨rfl, hp3, ht⟩
              rw [kindB_hi (s := wh) (by omega), Bool.false_and, turn_no] at hp3
              rw [kindB_hi (s := wh) (by omega), refE_kind]
              have h3 := HI2.out.turn hp3 ht
              have hc3 := HPc.out.turned ht (fun e => by have := HPl.out; omega)
              have HBk3 := Lib.hid (HBk.out.turned ht (fun e => by have := HPl.out; omega))
              have HL3 := Lib.hid (And.intro HI2.out.lt HI2.out.lo)
              have HC : Hid (PlC w w.heap.size P (wr.heap.size + 1) r r w3.drew) := PlC.after ⟨⟨h3.1, h3.2.1, h3.2.2, HL3.out.1, HL3.out.2⟩, hc3⟩ (Below.refl _ _).drew
              clear h3 hc3 hp3 ht HI2 HPc HBk b0 b1 b2
              go_wp2
              refine Free.any (PlC w w.heap.size P (wr.heap.size + 1) r r) (PlC.stb w w.heap.size P (wr.heap.size + 1) r r) HC.out (fun st => ?_)
              refine Free.tk 0 (some 106) ?_
              refine Free.tk 1 (some 107) ?_
              refine Free.tk 2 (some 108) (v := .bool false) ?_
              refine Free.tk 3 (some 109) ?_
              refine Free.tk 4 (some 110) ?_
              refine Free.cl 5 (some 111) st (fun W hW => Rules_any hW.i.p) ?_ (hy := by intro W; go_simp; try rfl)
              refine Free.tk 6 (some 112) (v := .agg (ruC r)) ?_ (hy := by intro W hW; exact x_load_R rvRules rfl rfl hW.i.x)
              refine Free.tk 7 (some 113) (v := .bool false) ?_ (hy := by intro W hW; exact x_neq_ru rfl rfl rfl (by rw [ruE_self]; rfl))
              refine Free.tk 8 (some 114) ?_
              refine Free.tk 9 (some 115) ?_
              refine Free.tk 10 (some 116) ?_
              refine Free.tk 11 (some 117) ?_
              refine Free.tk 12 (some 118) ?_
              refine Free.tk 13 (some 119) ?_
              refine Free.tk 14 (some 120) ?_
              refine Free.cl 15 (some 121) st (fun W hW => Rules_any hW.c) ?_ (hy := by intro W; go_simp; try rfl)
              refine Free.tk 16 (some 122) (v := .agg (ruC r)) ?_ (hy := by intro W hW; exact x_load_R rvRules rfl rfl hW.i.x)
              refine Free.tk 17 (some 123) (v := .bool false) ?_ (hy := by intro W hW; exact x_neq_ru rfl rfl rfl (by rw [ruE_self]; rfl))
              refine Free.tk 18 (some 124) ?_
              refine Free.sk 19 (some 125) ?_
              refine Free.sk 20 (some 126) ?_
              refine Free.tk 21 (some 127) ?_
              refine Free.tk 22 (some 128) ?_
              refine Free.done (fun W9 hb9 hW9 => ?_)
              have HN := Lib.hid hW9.i
              clear hb9 hW9 st HC
              go_wp2
              exact ⟨⟨k + 1, r, by omega, by go_num, HN.out⟩, by simp [natI]; omega⟩
          · have hd1 : decide ((1 : Int) ≤ wh) = false := decide_eq_false (by omega)
            have hdx : decide ((65536 : Int) ≤ x) = false := decide_eq_false (by omega)
            go_wp2_with fail
            refine (pCopy_any (HI.out.p.below (bel1 wr _))).mono ?_
            rintro e w2 ⟨rfl, hpc, hb⟩
            have hb2 := (bel1 wr (.cells #[.int .i64 1, .int .i64 wh, .int .u32 x] 33)).trans (hb.mono (by simp))
            have HI2 := Lib.hid (HI.out.after hb2)
            have hbk := Blk.below (blk_new wr #[.int .i64 1, .int .i64 wh, .int .u32 x] 33) hb
            have HBk := Lib.hid hbk
            rw [World.size_alloc] at hpc
            have HPc := Lib.hid hpc
            have b0 := hbk.cell 0
            have b1 := hbk.cell 1
            have b2 := hbk.cell 2
            simp only [List.getElem?_toArray, List.getElem?_cons_zero, List.getElem?_cons_succ] at b0 b1 b2
            have HPl := Lib.hid HI.out.p.lt
            have HBl := Lib.hid hbk.lt
            clear hpc hb hb2 hbk HI q1 q2 q3
            go_wp2_with fail
            refine (Source_any HI2.out.p wh x hwh hx32).mono ?_
            rintro e w3 ⟨rfl, hp3, ht⟩
            rw [kindB_lo (s := wh) (by omega), Bool.false_and, turn_no] at hp3
            rw [kindB_lo (s := wh) (by omega), refE_kind]
            have h3 := HI2.out.turn hp3 ht
            have hc3 := HPc.out.turned ht (fun e => by have := HPl.out; omega)
            have HBk3 := Lib.hid (HBk.out.turned ht (fun e => by have := HPl.out; omega))
            have HL3 := Lib.hid (And.intro HI2.out.lt HI2.out.lo)
            have HC : Hid (PlC w w.heap.size P (wr.heap.size + 1) r r w3.drew) := PlC.after ⟨⟨h3.1, h3.2.1, h3.2.2, HL3.out.1, HL3.out.2⟩, hc3⟩ (Below.refl _ _).drew
            clear h3 hc3 hp3 ht HI2 HPc HBk b0 b1 b2
            go_wp2
            refine Free.any (PlC w w.heap.size P (wr.heap.size + 1) r r) (PlC.stb w w.heap.size P (wr.heap.size + 1) r r) HC.out (fun st => ?_)
            refine Free.tk 0 (some 106) ?_
            refine Free.tk 1 (some 107) ?_
            refine Free.tk 2 (some 108) (v := .bool false) ?_
            refine Free.tk 3 (some 109) ?_
            refine Free.tk 4 (some 110) ?_
            refine Free.cl 5 (some 111) st (fun W hW => Rules_any hW.i.p) ?_ (hy := by intro W; go_simp; try rfl)
            refine Free.tk 6 (some 112) (v := .agg (ruC r)) ?_ (hy := by intro W hW; exact x_load_R rvRules rfl rfl hW.i.x)
            refine Free.tk 7 (some 113) (v := .bool false) ?_ (hy := by intro W hW; exact x_neq_ru rfl rfl rfl (by rw [ruE_self]; rfl))
            refine Free.tk 8 (some 114) ?_
            refine Free.tk 9 (some 115) ?_
            refine Free.tk 10 (some 116) ?_
            refine Free.tk 11 (some 117) ?_
            refine Free.tk 12 (some 118) ?_
            refine Free.tk 13 (some 119) ?_
            refine Free.tk 14 (some 120) ?_
            refine Free.cl 15 (some 121) st (fun W hW => Rules_any hW.c) ?_ (hy := by intro W; go_simp; try rfl)
            refine Free.tk 16 (some 122) (v := .agg (ruC r)) ?_ (hy := by intro W hW; exact x_load_R rvRules rfl rfl hW.i.x)
            refine Free.tk 17 (some 123) (v := .bool false) ?_ (hy := by intro W hW; exact x_neq_ru rfl rfl rfl (by rw [ruE_self]; rfl))
            refine Free.tk 18 (some 124) ?_
            refine Free.sk 19 (some 125) ?_
            refine Free.sk 20 (some 126) ?_
            refine Free.tk 21 (some 127) ?_
            refine Free.tk 22 (some 128) ?_
            refine Free.done (fun W9 hb9 hW9 => ?_)
            have HN := Lib.hid hW9.i
            clear hb9 hW9 st HC
            go_wp2
            exact ⟨⟨k + 1, r, by omega, by go_num, HN.out⟩, by simp [natI]; omega⟩
        · have hdx : decide ((65536 : Int) ≤ x) = true := decide_eq_true (by omega)
          by_cases hk1 : 1 ≤ wh
          · have hd1 : decide ((1 : Int) ≤ wh) = true := decide_eq_true hk1
            by_cases hk4 : wh ≤ 4
            · have hd4 : decide (wh ≤ 4) = true := decide_eq_true hk4
              go_wp2_with fail
              refine (pCopy_any (HI.out.p.below (bel1 wr _))).mono ?_
              rintro e w2 ⟨rfl, hpc, hb⟩
              have hb2 := (bel1 wr (.cells #[.int .i64 1, .int .i64 wh, .int .u32 x] 33)).trans (hb.mono (by simp))
              have HI2 := Lib.hid (HI.out.after hb2)
              have hbk := Blk.below (blk_new wr #[.int .i64 1, .int .i64 wh, .int .u32 x] 33) hb
              have HBk := Lib.hid hbk
              rw [World.size_alloc] at hpc
              have HPc := Lib.hid hpc
              have b0 := hbk.cell 0
              have b1 := hbk.cell 1
              have b2 := hbk.cell 2
              simp only [List.getElem?_toArray, List.getElem?_cons_zero, List.getElem?_cons_succ] at b0 b1 b2
              have HPl := Lib.hid HI.out.p.lt
              have HBl := Lib.hid hbk.lt
              clear hpc hb hb2 hbk HI q1 q2 q3
              go_wp2_with fail
              refine (Source_any HI2.out.p wh x hwh hx32).mono ?_
              rintro e w3 ⟨rfl, hp3, ht⟩
              rw [show decide (x < 65536) = false from decide_eq_false (by omega), Bool.and_false, turn_no] at hp3
              rw [refE_no (x := x) (by omega)]
              have h3 := HI2.out.turn hp3 ht
              have hc3 := HPc.out.turned ht (fun e => by have := HPl.out; omega)
              have HBk3 := Lib.hid (HBk.out.turned ht (fun e => by have := HPl.out; omega))
              have HL3 := Lib.hid (And.intro HI2.out.lt HI2.out.lo)
              have HC : Hid (PlC w w.heap.size P (wr.heap.size + 1) r r w3.drew) := PlC.after ⟨⟨h3.1, h3.2.1, h3.2.2, HL3.out.1, HL3.out.2⟩, hc3⟩ (Below.refl _ _).drew
              clear h3 hc3 hp3 ht HI2 HPc HBk b0 b1 b2
              go_wp2
              refine Free.any (PlC w w.heap.size P (wr.heap.size + 1) r r) (PlC.stb w w.heap.size P (wr.heap.size + 1) r r) HC.out (fun st => ?_)
              refine Free.tk 0 (some 106) ?_
              refine Free.tk 1 (some 107) ?_
              refine Free.tk 2 (some 108) (v := .bool false) ?_
              refine Free.tk 3 (some 109) ?_
              refine Free.tk 4 (some 110) ?_
              refine Free.cl 5 (some 111) st (fun W hW => Rules_any hW.i.p) ?_ (hy := by intro W; go_simp; try rfl)
              refine Free.tk 6 (some 112) (v := .agg (ruC r)) ?_ (hy := by intro W hW; exact x_load_R rvRules rfl rfl hW.i.x)
              refine Free.tk 7 (some 113) (v := .bool false) ?_ (hy := by intro W hW; exact x_neq_ru rfl rfl rfl (by rw [ruE_self]; rfl))
              refine Free.tk 8 (some 114) ?_
              refine Free.tk 9 (some 115) ?_
              refine Free.tk 10 (some 116) ?_
              refine Free.tk 11 (some 117) ?_
              refine Free.tk 12 (some 118) ?_
              refine Free.tk 13 (some 119) ?_
              refine Free.tk 14 (some 120) ?_
              refine Free.cl 15 (some 121) st (fun W hW => Rules_any hW.c) ?_ (hy := by intro W; go_simp; try rfl)
              refine Free.tk 16 (some 122) (v := .agg (ruC r)) ?_ (hy := by intro W hW; exact x_load_R rvRules rfl rfl hW.i.x)
              refine Free.tk 17 (some 123) (v := .bool false) ?_ (hy := by intro W hW; exact x_neq_ru rfl rfl rfl (by rw [ruE_self]; rfl))
              refine Free.tk 18 (some 124) ?_
              refine Free.sk 19 (some 125) ?_
              refine Free.sk 20 (some 126) ?_
              refine Free.tk 21 (some 127) ?_
              refine Free.tk 22 (some 128) ?_
              refine Free.done (fun W9 hb9 hW9 => ?_)
              have HN := Lib.hid hW9.i
              clear hb9 hW9 st HC
              go_wp2
              exact ⟨⟨k + 1, r, by omega, by go_num, HN.out⟩, by simp [natI]; omega⟩
            · have hd4 : decide (wh ≤ 4) = false := decide_eq_false hk4
              go_wp2_with fail
              refine (pCopy_any (HI.out.p.below (bel1 wr _))).mono ?_
              rintro e w2 ⟨rfl, hpc, hb⟩
              have hb2 := (bel1 wr (.cells #[.int .i64 1, .int .i64 wh, .int .u32 x] 33)).trans (hb.mono (by simp))
              have HI2 := Lib.hid (HI.out.after hb2)
              have hbk := Blk.below (blk_new wr #[.int .i64 1, .int .i64 wh, .int .u32 x] 33) hb
              have HBk := Lib.hid hbk
              rw [World.size_alloc] at hpc
              have HPc := Lib.hid hpc
              have b0 := hbk.cell 0
              have b1 := hbk.cell 1
              have b2 := hbk.cell 2
              simp only [List.getElem?_toArray, List.getElem?_cons_zero, List.getElem?_cons_succ] at b0 b1 b2
              have HPl := Lib.hid HI.out.p.lt
              have HBl := Lib.hid hbk.lt
              clear hpc hb hb2 hbk HI q1 q2 q3
              go_wp2_with fail
              refine (Source_any HI2.out.p wh x hwh hx32).mono ?_
              rintro e w3 ⟨rfl, hp3, ht⟩
              rw [show decide (x < 65536) = false from decide_eq_false (by omega), Bool.and_false, turn_no] at hp3
              rw [refE_no (x := x) (by omega)]
              have h3 := HI2.out.turn hp3 ht
              have hc3 := HPc.out.turned ht (fun e => by have := HPl.out; omega)
              have HBk3 := Lib.hid (HBk.out.turned ht (fun e => by have := HPl.out; omega))
              have HL3 := Lib.hid (And.intro HI2.out.lt HI2.out.lo)
              have HC : Hid (PlC w w.heap.size P (wr.heap.size + 1) r r w3.drew) := PlC.after ⟨⟨h3.1, h3.2.1, h3.2.2, HL3.out.1, HL3.out.2⟩, hc3⟩ (Below.refl _ _).drew
              clear h3 hc3 hp3 ht HI2 HPc HBk b0 b1 b2
              go_wp2
              refine Free.any (PlC w w.heap.size P (wr.heap.size + 1) r r) (PlC.stb w w.heap.size P (wr.heap.size + 1) r r) HC.out (fun st => ?_)
              refine Free.tk 0 (some 106) ?_
              refine Free.tk 1 (some 107) ?_
              refine Free.tk 2 (some 108) (v := .bool false) ?_
              refine Free.tk 3 (some 109) ?_
              refine Free.tk 4 (some 110) ?_
              refine Free.cl 5 (some 111) st (fun W hW => Rules_any hW.i.p) ?_ (hy := by intro W; go_simp; try rfl)
              refine Free.tk 6 (some 112) (v := .agg (ruC r)) ?_ (hy := by intro W hW; exact x_load_R rvRules rfl rfl hW.i.x)
              refine Free.tk 7 (some 113) (v := .bool false) ?_ (hy := by intro W hW; exact x_neq_ru rfl rfl rfl (by rw [ruE_self]; rfl))
              refine Free.tk 8 (some 114) ?_
              refine Free.tk 9 (some 115) ?_
              refine Free.tk 10 (some 116) ?_
              refine Free.tk 11 (some 117) ?_
              refine Free.tk 12 (some 118) ?_
              refine Free.tk 13 (some 119) ?_
              refine Free.tk 14 (some 120) ?_
              refine Free.cl 15 (some 121) st (fun W hW => Rules_any hW.c) ?_ (hy := by intro W; go_simp; try rfl)
              refine Free.tk 16 (some 122) (v := .agg (ruC r)) ?_ (hy := by intro W hW; exact x_load_R rvRules rfl rfl hW.i.x)
              refine Free.tk 17 (some 123) (v := .bool false) ?_ (hy := by intro W hW; exact x_neq_ru rfl rfl rfl (by rw [ruE_self]; rfl))
              refine Free.tk 18 (some 124) ?_
              refine Free.sk 19 (some 125) ?_
              refine Free.sk 20 (some 126) ?_
              refine Free.tk 21 (some 127) ?_
              refine Free.tk 22 (some 128) ?_
              refine Free.done (fun W9 hb9 hW9 => ?_)
              have HN := Lib.hid hW9.i
              clear hb9 hW9 st HC
              go_wp2
              exact ⟨⟨k + 1, r, by omega, by go_num, HN.out⟩, by simp [natI]; omega⟩
          · have hd1 : decide ((1 : Int) ≤ wh) = false := decide_eq_false hk1
            go_wp2_with fail
            refine (pCopy_any (HI.out.p.below (bel1 wr _))).mono ?_
            rintro e w2 ⟨rfl, hpc, hb⟩
            have hb2 := (bel1 wr (.cells #[.int .i64 1, .int .i64 wh, .int .u32 x] 33)).trans (hb.mono (by simp))
            have HI2 := Lib.hid (HI.out.after hb2)
            have hbk := Blk.below (blk_new wr #[.int .i64 1, .int .i64 wh, .int .u32 x] 33) hb
            have HBk := Lib.hid hbk
            rw [World.size_alloc] at hpc
            have HPc := Lib.hid hpc
            have b0 := hbk.cell 0
            have b1 := hbk.cell 1
            have b2 := hbk.cell 2
            simp only [List.getElem?_toArray, List.getElem?_cons_zero, List.getElem?_cons_succ] at b0 b1 b2
            have HPl := Lib.hid HI.out.p.lt
            have HBl := Lib.hid hbk.lt
            clear hpc hb hb2 hbk HI q1 q2 q3
            go_wp2_with fail
            refine (Source_any HI2.out.p wh x hwh hx32).mono ?_
            rintro e w3 ⟨rfl, hp3, ht⟩
            rw [show decide (x < 65536) = false from decide_eq_false (by omega), Bool.and_false, turn_no] at hp3
            rw [refE_no (x := x) (by omega)]
            have h3 := HI2.out.turn hp3 ht
            have hc3 := HPc.out.turned ht (fun e => by have := HPl.out; omega)
            have HBk3 := Lib.hid (HBk.out.turned ht (fun e => by have := HPl.out; omega))
            have HL3 := Lib.hid (And.intro HI2.out.lt HI2.out.lo)
            have HC : Hid (PlC w w.heap.size P (wr.heap.size + 1) r r w3.drew) := PlC.after ⟨⟨h3.1, h3.2.1, h3.2.2, HL3.out.1, HL3.out.2⟩, hc3⟩ (Below.refl _ _).drew
            clear h3 hc3 hp3 ht HI2 HPc HBk b0 b1 b2
            go_wp2
            refine Free.any (PlC w w.heap.size P (wr.heap.size + 1) r r) (PlC.stb w w.heap.size P (wr.heap.size + 1) r r) HC.out (fun st => ?_)
            refine Free.tk 0 (some 106) ?_
            refine Free.tk 1 (some 107) ?_
            refine Free.tk 2 (some 108) (v := .bool false) ?_
            refine Free.tk 3 (some 109) ?_
            refine Free.tk 4 (some 110) ?_
            refine Free.cl 5 (some 111) st (fun W hW => Rules_any hW.i.p) ?_ (hy := by intro W; go_simp; try rfl)
            refine Free.tk 6 (some 112) (v := .agg (ruC r)) ?_ (hy := by intro W hW; exact x_load_R rvRules rfl rfl hW.i.x)
            refine Free.tk 7 (some 113) (v := .bool false) ?_ (hy := by intro W hW; exact x_neq_ru rfl rfl rfl (by rw [ruE_self]; rfl))
            refine Free.tk 8 (some 114) ?_
            refine Free.tk 9 (some 115) ?_
            refine Free.tk 10 (some 116) ?_
            refine Free.tk 11 (some 117) ?_
            refine Free.tk 12 (some 118) ?_
            refine Free.tk 13 (some 119) ?_
            refine Free.tk 14 (some 120) ?_
            refine Free.cl 15 (some 121) st (fun W hW => Rules_any hW.c) ?_ (hy := by intro W; go_simp; try rfl)
            refine Free.tk 16 (some 122) (v := .agg (ruC r)) ?_ (hy := by intro W hW; exact x_load_R rvRules rfl rfl hW.i.x)
            refine Free.tk 17 (some 123) (v := .bool false) ?_ (hy := by intro W hW; exact x_neq_ru rfl rfl rfl (by rw [ruE_self]; rfl))
            refine Free.tk 18 (some 124) ?_
            refine Free.sk 19 (some 125) ?_
            refine Free.sk 20 (some 126) ?_
            refine Free.tk 21 (some 127) ?_
            refine Free.tk 22 (some 128) ?_
            refine Free.done (fun W9 hb9 hW9 => ?_)
            have HN := Lib.hid hW9.i
            clear hb9 hW9 st HC
            go_wp2
            exact ⟨⟨k + 1, r, by omega, by go_num, HN.out⟩, by simp [natI]; omega⟩
      · by_cases hd2 : kd = 2
        · subst hd2
          by_cases hx2 : x < 65536
          · by_cases hk1 : 0 < wh
            · by_cases hk5 : wh < 5
              · obtain ⟨j, rfl⟩ : ∃ j : Nat, wh = (j : Int) := ⟨wh.toNat, by omega⟩
                have hj0 : (0 : Int) ≤ (j : Int) := by omega
                have hj1 : (1 : Int) ≤ (j : Int) := by omega
                have hj4 : (j : Int) ≤ 4 := by omega
                have hd1 : decide ((1 : Int) ≤ (j : Int)) = true := decide_eq_true hj1
                have hd4 : decide ((j : Int) ≤ 4) = true := decide_eq_true hj4
                have hdx : decide ((65536 : Int) ≤ x) = false := decide_eq_false (by omega)
                have hjj : j < 5 := by omega
                go_wp2_with fail
                refine (pCopy_any (HI.out.p.below (bel1 wr _))).mono ?_
                rintro e w2 ⟨rfl, hpc, hb⟩
                have hb2 := (bel1 wr (.cells #[.int .i64 2, .int .i64 (j : Int), .int .u32 x] 33)).trans (hb.mono (by simp))
                have HI2 := Lib.hid (HI.out.after hb2)
                have hbk := Blk.below (blk_new wr #[.int .i64 2, .int .i64 (j : Int), .int .u32 x] 33) hb
                have HBk := Lib.hid hbk
                rw [World.size_alloc] at hpc
                have HPc := Lib.hid hpc
                have b0 := hbk.cell 0
                have b1 := hbk.cell 1
                have b2 := hbk.cell 2
                simp only [List.getElem?_toArray, List.getElem?_cons_zero, List.getElem?_cons_succ] at b0 b1 b2
                have HPl := Lib.hid HI.out.p.lt
                have HBl := Lib.hid hbk.lt
                clear hpc hb hb2 hbk HI q1 q2 q3
                go_wp2_with fail
                refine (Sink_any HI2.out.p (j : Int) x hwh hx32).mono ?_
                rintro e w3 ⟨rfl, hp3, ht⟩
                rw [kindB_ok hk1 hk5, decide_eq_true hx2, Bool.and_self, turn_yes, Int.toNat_natCast] at hp3
                rw [kindB_ok hk1 hk5, refE_ok hx2]
                have h3 := HI2.out.turn hp3 ht
                have hc3 := HPc.out.turned ht (fun e => by have := HPl.out; omega)
                have HBk3 := Lib.hid (HBk.out.turned ht (fun e => by have := HPl.out; omega))
                have HL3 := Lib.hid (And.intro HI2.out.lt HI2.out.lo)
                have HT3 := Lib.hid h3
                have HC3 := Lib.hid hc3
                clear h3 hc3 hp3 ht HI2 HPc HBk b0 b1 b2
                have b0 := HBk3.out.cell 0
                have b1 := HBk3.out.cell 1
                have b2 := HBk3.out.cell 2
                simp only [List.getElem?_toArray, List.getElem?_cons_zero, List.getElem?_cons_succ] at b0 b1 b2
                have cx := HT3.out.2.1.at_ (j := (5 + j)) (by omega)
                have fx := HT3.out.2.1.blk.frozen (5 + j)
                obtain ⟨r2, hr2⟩ : ∃ r2 : Ru, Hid (r2 = r.set (5 + j) x) := ⟨_, rfl⟩
                have HC : Hid (PlC w w.heap.size P (wr.heap.size + 1) r r2 (w3.setCell ⟨w.heap.size, 5 + j, none⟩ (.int .u32 x)).drew) := PlC.after (W := w3.setCell ⟨w.heap.size, 5 + j, none⟩ (.int .u32 x)) ⟨by
                  have := PlR.of (r' := r2) (by rw [hr2.out]; exact HT3.out) HL3.out.1 HL3.out.2 (j := (5 + j)) (by omega) x hr2.out
                  exact this, HC3.out.turned ((Turned.refl (fun k => k = w.heap.size) w3).setCell (.inl rfl) _) (by have := HPl.out; have := HL3.out; omega)⟩ (Below.refl _ _).drew
                go_wp2
                obtain ⟨eb, heb⟩ : ∃ eb : Bool, Hid (ruE r r2 = eb) := ⟨_, rfl⟩
                have HE := heb
                cases eb with
                | true =>
                  refine Free.any (PlC w w.heap.size P (wr.heap.size + 1) r r2) (PlC.stb w w.heap.size P (wr.heap.size + 1) r r2) HC.out (fun st => ?_)
                  refine Free.tk 0 (some 106) ?_
                  refine Free.tk 1 (some 107) ?_
                  refine Free.tk 2 (some 108) (v := .bool false) ?_
                  refine Free.tk 3 (some 109) ?_
                  refine Free.tk 4 (some 110) ?_
                  refine Free.cl 5 (some 111) st (fun W hW => Rules_any hW.i.p) ?_ (hy := by intro W; go_simp; try rfl)
                  refine Free.tk 6 (some 112) (v := .agg (ruC r2)) ?_ (hy := by intro W hW; exact x_load_R rvRules rfl rfl hW.i.x)
                  refine Free.tk 7 (some 113) (v := .bool false) ?_ (hy := by intro W hW; exact x_neq_ru rfl rfl rfl (by rw [ruE_self]; rfl))
                  refine Free.tk 8 (some 114) ?_
                  refine Free.tk 9 (some 115) ?_
                  refine Free.tk 10 (some 116) ?_
                  refine Free.tk 11 (some 117) ?_
                  refine Free.tk 12 (some 118) ?_
                  refine Free.tk 13 (some 119) ?_
                  refine Free.tk 14 (some 120) ?_
                  refine Free.cl 15 (some 121) st (fun W hW => Rules_any hW.c) ?_ (hy := by intro W; go_simp; try rfl)
                  refine Free.tk 16 (some 122) (v := .agg (ruC r2)) ?_ (hy := by intro W hW; exact x_load_R rvRules rfl rfl hW.i.x)
                  refine Free.tk 17 (some 123) (v := .bool false) ?_ (hy := by intro W hW; exact x_neq_ru rfl rfl rfl (by rw [HE.out]; rfl))
                  refine Free.tk 18 (some 124) ?_
                  refine Free.sk 19 (some 125) ?_
                  refine Free.sk 20 (some 126) ?_
                  refine Free.tk 21 (some 127) ?_
                  refine Free.tk 22 (some 128) ?_
                  refine Free.done (fun W9 hb9 hW9 => ?_)
                  have HN := Lib.hid hW9.i
                  clear hb9 hW9 st HC
                  go_wp2
                  exact ⟨⟨k + 1, r2, by omega, by go_num, HN.out⟩, by simp [natI]; omega⟩
                | false =>
                  refine Free.any (PlC w w.heap.size P (wr.heap.size + 1) r r2) (PlC.stb w w.heap.size P (wr.heap.size + 1) r r2) HC.out (fun st => ?_)
                  refine Free.tk 0 (some 106) ?_
                  refine Free.tk 1 (some 107) ?_
                  refine Free.tk 2 (some 108) (v := .bool false) ?_
                  refine Free.tk 3 (some 109) ?_
                  refine Free.tk 4 (some 110) ?_
                  refine Free.cl 5 (some 111) st (fun W hW => Rules_any hW.i.p) ?_ (hy := by intro W; go_simp; try rfl)
                  refine Free.tk 6 (some 112) (v := .agg (ruC r2)) ?_ (hy := by intro W hW; exact x_load_R rvRules rfl rfl hW.i.x)
                  refine Free.tk 7 (some 113) (v := .bool false) ?_ (hy := by intro W hW; exact x_neq_ru rfl rfl rfl (by rw [ruE_self]; rfl))
                  refine Free.tk 8 (some 114) ?_
                  refine Free.tk 9 (some 115) ?_
                  refine Free.tk 10 (some 116) ?_
                  refine Free.tk 11 (some 117) ?_
                  refine Free.tk 12 (some 118) ?_
                  refine Free.tk 13 (some 119) ?_
                  refine Free.tk 14 (some 120) ?_
                  refine Free.cl 15 (some 121) st (fun W hW => Rules_any hW.c) ?_ (hy := by intro W; go_simp; try rfl)
                  refine Free.tk 16 (some 122) (v := .agg (ruC r2)) ?_ (hy := by intro W hW; exact x_load_R rvRules rfl rfl hW.i.x)
                  refine Free.tk 17 (some 123) (v := .bool true) ?_ (hy := by intro W hW; exact x_neq_ru rfl rfl rfl (by rw [HE.out]; rfl))
                  refine Free.tk 18 (some 124) ?_
                  refine Free.tk 19 (some 125) ?_
                  refine Free.tk 20 (some 126) ?_
                  refine Free.tk 21 (some 127) ?_
                  refine Free.tk 22 (some 128) ?_
                  refine Free.done (fun W9 hb9 hW9 => ?_)
                  have HN := Lib.hid hW9.i
                  clear hb9 hW9 st HC
                  go_wp2
                  exact ⟨⟨k + 1, r2, by omega, by go_num, HN.out⟩, by simp [natI]; omega⟩
              · have hd1 : decide ((1 : Int) ≤ wh) = true := decide_eq_true (by omega)
                have hd4 : decide (wh ≤ 4) = false := decide_eq_false (by omega)
                have hdx : decide ((65536 : Int) ≤ x) = false := decide_eq_false (by omega)
                go_wp2_with fail
                refine (pCopy_any (HI.out.p.below (bel1 wr _))).mono ?_
                rintro e w2 ⟨rfl, hpc, hb⟩
                have hb2 := (bel1 wr (.cells #[.int .i64 2, .int .i64 wh, .int .u32 x] 33)).trans (hb.mono (by simp))
                have HI2 := Lib.hid (HI.out.after hb2)
                have hbk := Blk.below (blk_new wr #[.int .i64 2, .int .i64 wh, .int .u32 x] 33) hb
                have HBk := Lib.hid hbk
                rw [World.size_alloc] at hpc
                have HPc := Lib.hid hpc
                have b0 := hbk.cell 0
                have b1 := hbk.cell 1
                have b2 := hbk.cell 2
                simp only [List.getElem?_toArray, List.getElem?_cons_zero, List.getElem?_cons_succ] at b0 b1 b2
                have HPl := Lib.hid HI.out.p.lt
                have HBl := Lib.hid hbk.lt
                clear hpc hb hb2 hbk HI q1 q2 q3
                go_wp2_with fail
                refine (Sink_any HI2.out.p wh x hwh hx32).mono ?_
                rintro e w3 ⟨rfl, hp3, ht⟩
                rw [kindB_hi (s := wh) (by omega), Bool.false_and, turn_no] at hp3
                rw [kindB_hi (s := wh) (by omega), refE_kind]
                have h3 := HI2.out.turn hp3 ht
                have hc3 := HPc.out.turned ht (fun e => by have := HPl.out; omega)
                have HBk3 := Lib.hid (HBk.out.turned ht (fun e => by have := HPl.out; omega))
                have HL3 := Lib.hid (And.intro HI2.out.lt HI2.out.lo)
                have HC : Hid (PlC w w.heap.size P (wr.heap.size + 1) r r w3.drew) := PlC.after ⟨⟨h3.1, h3.2.1, h3.2.2, HL3.out.1, HL3.out.2⟩, hc3⟩ (Below.refl _ _).drew
                clear h3 hc3 hp3 ht HI2 HPc HBk b0 b1 b2
                go_wp2
                refine Free.any (PlC w w.heap.size P (wr.heap.size + 1) r r) (PlC.stb w w.heap.size P (wr.heap.size + 1) r r) HC.out (fun st => ?_)
                refine Free.tk 0 (some 106) ?_
                refine Free.tk 1 (some 107) ?_
                refine Free.tk 2 (some 108) (v := .bool false) ?_
                refine Free.tk 3 (some 109) ?_
                refine Free.tk 4 (some 110) ?_
                refine Free.cl 5 (some 111) st (fun W hW => Rules_any hW.i.p) ?_ (hy := by intro W; go_simp; try rfl)
                refine Free.tk 6 (some 112) (v := .agg (ruC r)) ?_ (hy := by intro W hW; exact x_load_R rvRules rfl rfl hW.i.x)
                refine Free.tk 7 (some 113) (v := .bool false) ?_ (hy := by intro W hW; exact x_neq_ru rfl rfl rfl (by rw [ruE_self]; rfl))
                refine Free.tk 8 (some 114) ?_
                refine Free.tk 9 (some 115) ?_
                refine Free.tk 10 (some 116) ?_
                refine Free.tk 11 (some 117) ?_
                refine Free.tk 12 (some 118) ?_
                refine Free.tk 13 (some 119) ?_
                refine Free.tk 14 (some 120) ?_
                refine Free.cl 15 (some 121) st (fun W hW => Rules_any hW.c) ?_ (hy := by intro W; go_simp; try rfl)
                refine Free.tk 16 (some 122) (v := .agg (ruC r)) ?_ (hy := by intro W hW; exact x_load_R rvRules rfl rfl hW.i.x)
                refine Free.tk 17 (some 123) (v := .bool false) ?_ (hy := by intro W hW; exact x_neq_ru rfl rfl rfl (by rw [ruE_self]; rfl))
                refine Free.tk 18 (some 124) ?_
                refine Free.sk 19 (some 125) ?_
                refine Free.sk 20 (some 126) ?_
                refine Free.tk 21 (some 127) ?_
                refine Free.tk 22 (some 128) ?_
                refine Free.done (fun W9 hb9 hW9 => ?_)
                have HN := Lib.hid hW9.i
                clear hb9 hW9 st HC
                go_wp2
                exact ⟨⟨k + 1, r, by omega, by go_num, HN.out⟩, by simp [natI]; omega⟩
            · have hd1 : decide ((1 : Int) ≤ wh) = false := decide_eq_false (by omega)
              have hdx : decide ((65536 : Int) ≤ x) = false := decide_eq_false (by omega)
              go_wp2_with fail
              refine (pCopy_any (HI.out.p.below (bel1 wr _))).mono ?_
              rintro e w2 ⟨rfl, hpc, hb⟩
              have hb2 := (bel1 wr (.cells #[.int .i64 2, .int .i64 wh, .int .u32 x] 33)).trans (hb.mono (by simp))
              have HI2 := Lib.hid (HI.out.after hb2)
              have hbk := Blk.below (blk_new wr #[.int .i64 2, .int .i64 wh, .int .u32 x] 33) hb
              have HBk := Lib.hid hbk
              rw [World.size_alloc] at hpc
              have HPc := Lib.hid hpc
              have b0 := hbk.cell 0
              have b1 := hbk.cell 1
              have b2 := hbk.cell 2
              simp only [List.getElem?_toArray, List.getElem?_cons_zero, List.getElem?_cons_succ] at b0 b1 b2
              have HPl := Lib.hid HI.out.p.lt
              have HBl := Lib.hid hbk.lt
              clear hpc hb hb2 hbk HI q1 q2 q3
              go_wp2_with fail
              refine (Sink_any HI2.out.p wh x hwh hx32).mono ?_
              rintro e w3 ⟨rfl, hp3, ht⟩
              rw [kindB_lo (s := wh) (by omega), Bool.false_and, turn_no] at hp3
              rw [kindB_lo (s := wh) (by omega), refE_kind]
              have h3 := HI2.out.turn hp3 ht
              have hc3 := HPc.out.turned ht (fun e => by have := HPl.out; omega)
              have HBk3 := Lib.hid (HBk.out.turned ht (fun e => by have := HPl.out; omega))
              have HL3 := Lib.hid (And.intro HI2.out.lt HI2.out.lo)
              have HC : Hid (PlC w w.heap.size P (wr.heap.size + 1) r r w3.drew) := PlC.after ⟨⟨h3.1, h3.2.1, h3.2.2, HL3.out.1, HL3.out.2⟩, hc3⟩ (Below.refl _ _).drew
              clear h3 hc3 hp3 ht HI2 HPc HBk b0 b1 b2
              go_wp2
              refine Free.any (PlC w w.heap.size P (wr.heap.size + 1) r r) (PlC.stb w w.heap.size P (wr.heap.size + 1) r r) HC.out (fun st => ?_)
              refine Free.tk 0 (some 106) ?_
              refine Free.tk 1 (some 107) ?_
              refine Free.tk 2 (some 108) (v := .bool false) ?_
              refine Free.tk 3 (some 109) ?_
              refine Free.tk 4 (some 110) ?_
              refine Free.cl 5 (some 111) st (fun W hW => Rules_any hW.i.p) ?_ (hy := by intro W; go_simp; try rfl)
              refine Free.tk 6 (some 112) (v := .agg (ruC r)) ?_ (hy := by intro W hW; exact x_load_R rvRules rfl rfl hW.i.x)
              refine Free.tk 7 (some 113) (v := .bool false) ?_ (hy := by intro W hW; exact x_neq_ru rfl rfl rfl (by rw [ruE_self]; rfl))
              refine Free.tk 8 (some 114) ?_
              refine Free.tk 9 (some 115) ?_
              refine Free.tk 10 (some 116) ?_
              refine Free.tk 11 (some 117) ?_
              refine Free.tk 12 (some 118) ?_
              refine Free.tk 13 (some 119) ?_
              refine Free.tk 14 (some 120) ?_
              refine Free.cl 15 (some 121) st (fun W hW => Rules_any hW.c) ?_ (hy := by intro W; go_simp; try rfl)
              refine Free.tk 16 (some 122) (v := .agg (ruC r)) ?_ (hy := by intro W hW; exact x_load_R rvRules rfl rfl hW.i.x)
              refine Free.tk 17 (some 123) (v := .bool false) ?_ (hy := by intro W hW; exact x_neq_ru rfl rfl rfl (by rw [ruE_self]; rfl))
              refine Free.tk 18 (some 124) ?_
              refine Free.sk 19 (some 125) ?_
              refine Free.sk 20 (some 126) ?_
              refine Free.tk 21 (some 127) ?_
              refine Free.tk 22 (some 128) ?_
              refine Free.done (fun W9 hb9 hW9 => ?_)
              have HN := Lib.hid hW9.i
              clear hb9 hW9 st HC
              go_wp2
              exact ⟨⟨k + 1, r, by omega, by go_num, HN.out⟩, by simp [natI]; omega⟩
          · have hdx : decide ((65536 : Int) ≤ x) = true := decide_eq_true (by omega)
            by_cases hk1 : 1 ≤ wh
            · have hd1 : decide ((1 : Int) ≤ wh) = true := decide_eq_true hk1
              by_cases hk4 : wh ≤ 4
              · have hd4 : decide (wh ≤ 4) = true := decide_eq_true hk4
                go_wp2_with fail
                refine (pCopy_any (HI.out.p.below (bel1 wr _))).mono ?_
                rintro e w2 ⟨rfl, hpc, hb⟩
                have hb2 := (bel1 wr (.cells #[.int .i64 2, .int .i64 wh, .int .u32 x] 33)).trans (hb.mono (by simp))
                have HI2 := Lib.hid (HI.out.after hb2)
                have hbk := Blk.below (blk_new wr #[.int .i64 2, .int .i64 wh, .int .u32 x] 33) hb
                have HBk := Lib.hid hbk
                rw [World.size_alloc] at hpc
                have HPc := Lib.hid hpc
                have b0 := hbk.cell 0
                have b1 := hbk.cell 1
                have b2 := hbk.cell 2
                simp only [List.getElem?_toArray, List.getElem?_cons_zero, List.getElem?_cons_succ] at b0 b1 b2
                have HPl := Lib.hid HI.out.p.lt
                have HBl := Lib.hid hbk.lt
                clear hpc hb hb2 hbk HI q1 q2 q3
                go_wp2_with fail
                refine (Sink_any HI2.out.p wh x hwh hx32).mono ?_
                rintro e w3 ⟨rfl, hp3, ht⟩
                rw [show decide (x < 65536) = false from decide_eq_false (by omega), Bool.and_false, turn_no] at hp3
                rw [refE_no (x := x) (by omega)]
                have h3 := HI2.out.turn hp3 ht
                have hc3 := HPc.out.turned ht (fun e => by have := HPl.out; omega)
                have HBk3 := Lib.hid (HBk.out.turned ht (fun e => by have := HPl.out; omega))
                have HL3 := Lib.hid (And.intro HI2.out.lt HI2.out.lo)
                have HC : Hid (PlC w w.heap.size P (wr.heap.size + 1) r r w3.drew) := PlC.after ⟨⟨h3.1, h3.2.1, h3.2.2, HL3.out.1, HL3.out.2⟩, hc3⟩ (Below.refl _ _).drew
                clear h3 hc3 hp3 ht HI2 HPc HBk b0 b1 b2
                go_wp2
                refine Free.any (PlC w w.heap.size P (wr.heap.size + 1) r r) (PlC.stb w w.heap.size P (wr.heap.size + 1) r r) HC.out (fun st => ?_)
                refine Free.tk 0 (some 106) ?_
                refine Free.tk 1 (some 107) ?_
                refine Free.tk 2 (some 108) (v := .bool false) ?_
                refine Free.tk 3 (some 109) ?_
                refine Free.tk 4 (some 110) ?_
                refine Free.cl 5 (some 111) st (fun W hW => Rules_any hW.i.p) ?_ (hy := by intro W; go_simp; try rfl)
                refine Free.tk 6 (some 112) (v := .agg (ruC r)) ?_ (hy := by intro W hW; exact x_load_R rvRules rfl rfl hW.i.x)
                refine Free.tk 7 (some 113) (v := .bool false) ?_ (hy := by intro W hW; exact x_neq_ru rfl rfl rfl (by rw [ruE_self]; rfl))
                refine Free.tk 8 (some 114) ?_
                refine Free.tk 9 (some 115) ?_
                refine Free.tk 10 (some 116) ?_
                refine Free.tk 11 (some 117) ?_
                refine Free.tk 12 (some 118) ?_
                refine Free.tk 13 (some 119) ?_
                refine Free.tk 14 (some 120) ?_
                refine Free.cl 15 (some 121) st (fun W hW => Rules_any hW.c) ?_ (hy := by intro W; go_simp; try rfl)
                refine Free.tk 16 (some 122) (v := .agg (ruC r)) ?_ (hy := by intro W hW; exact x_load_R rvRules rfl rfl hW.i.x)
                refine Free.tk 17 (some 123) (v := .bool false) ?_ (hy := by intro W hW; exact x_neq_ru rfl rfl rfl (by rw [ruE_self]; rfl))
                refine Free.tk 18 (some 124) ?_
                refine Free.sk 19 (some 125) ?_
                refine Free.sk 20 (some 126) ?_
                refine Free.tk 21 (some 127) ?_
                refine Free.tk 22 (some 128) ?_
                refine Free.done (fun W9 hb9 hW9 => ?_)
                have HN := Lib.hid hW9.i
                clear hb9 hW9 st HC
                go_wp2
                exact ⟨⟨k + 1, r, by omega, by go_num, HN.out⟩, by simp [natI]; omega⟩
              · have hd4 : decide (wh ≤ 4) = false := decide_eq_false hk4
                go_wp2_with fail
                refine (pCopy_any (HI.out.p.below (bel1 wr _))).mono ?_
                rintro e w2 ⟨rfl, hpc, hb⟩
                have hb2 := (bel1 wr (.cells #[.int .i64 2, .int .i64 wh, .int .u32 x] 33)).trans (hb.mono (by simp))
                have HI2 := Lib.hid (HI.out.after hb2)
                have hbk := Blk.below (blk_new wr #[.int .i64 2, .int .i64 wh, .int .u32 x] 33) hb
                have HBk := Lib.hid hbk
                rw [World.size_alloc] at hpc
                have HPc := Lib.hid hpc
                have b0 := hbk.cell 0
                have b1 := hbk.cell 1
                have b2 := hbk.cell 2
                simp only [List.getElem?_toArray, List.getElem?_cons_zero, List.getElem?_cons_succ] at b0 b1 b2
                have HPl := Lib.hid HI.out.p.lt
                have HBl := Lib.hid hbk.lt
                clear hpc hb hb2 hbk HI q1 q2 q3
                go_wp2_with fail
                refine (Sink_any HI2.out.p wh x hwh hx32).mono ?_
                rintro e w3 ⟨rfl, hp3, ht⟩
                rw [show decide (x < 65536) = false from decide_eq_false (by omega), Bool.and_false, turn_no] at hp3
                rw [refE_no (x := x) (by omega)]
                have h3 := HI2.out.turn hp3 ht
                have hc3 := HPc.out.turned ht (fun e => by have := HPl.out; omega)
                have HBk3 := Lib.hid (HBk.out.turned ht (fun e => by have := HPl.out; omega))
                have HL3 := Lib.hid (And.intro HI2.out.lt HI2.out.lo)
                have HC : Hid (PlC w w.heap.size P (wr.heap.size + 1) r r w3.drew) := PlC.after ⟨⟨h3.1, h3.2.1, h3.2.2, HL3.out.1, HL3.out.2⟩, hc3⟩ (Below.refl _ _).drew
                clear h3 hc3 hp3 ht HI2 HPc HBk b0 b1 b2
                go_wp2
                refine Free.any (PlC w w.heap.size P (wr.heap.size + 1) r r) (PlC.stb w w.heap.size P (wr.heap.size + 1) r r) HC.out (fun st => ?_)
                refine Free.tk 0 (some 106) ?_
                refine Free.tk 1 (some 107) ?_
                refine Free.tk 2 (some 108) (v := .bool false) ?_
                refine Free.tk 3 (some 109) ?_
                refine Free.tk 4 (some 110) ?_
                refine Free.cl 5 (some 111) st (fun W hW => Rules_any hW.i.p) ?_ (hy := by intro W; go_simp; try rfl)
                refine Free.tk 6 (some 112) (v := .agg (ruC r)) ?_ (hy := by intro W hW; exact x_load_R rvRules rfl rfl hW.i.x)
                refine Free.tk 7 (some 113) (v := .bool false) ?_ (hy := by intro W hW; exact x_neq_ru rfl rfl rfl (by rw [ruE_self]; rfl))
                refine Free.tk 8 (some 114) ?_
                refine Free.tk 9 (some 115) ?_
                refine Free.tk 10 (some 116) ?_
                refine Free.tk 11 (some 117) ?_
                refine Free.tk 12 (some 118) ?_
                refine Free.tk 13 (some 119) ?_
                refine Free.tk 14 (some 120) ?_
                refine Free.cl 15 (some 121) st (fun W hW => Rules_any hW.c) ?_ (hy := by intro W; go_simp; try rfl)
                refine Free.tk 16 (some 122) (v := .agg (ruC r)) ?_ (hy := by intro W hW; exact x_load_R rvRules rfl rfl hW.i.x)
                refine Free.tk 17 (some 123) (v := .bool false) ?_ (hy := by intro W hW; exact x_neq_ru rfl rfl rfl (by rw [ruE_self]; rfl))
                refine Free.tk 18 (some 124) ?_
                refine Free.sk 19 (some 125) ?_
                refine Free.sk 20 (some 126) ?_
                refine Free.tk 21 (some 127) ?_
                refine Free.tk 22 (some 128) ?_
                refine Free.done (fun W9 hb9 hW9 => ?_)
                have HN := Lib.hid hW9.i
                clear hb9 hW9 st HC
                go_wp2
                exact ⟨⟨k + 1, r, by omega, by go_num, HN.out⟩, by simp [natI]; omega⟩
            · have hd1 : decide ((1 : Int) ≤ wh) = false := decide_eq_false hk1
              go_wp2_with fail
              refine (pCopy_any (HI.out.p.below (bel1 wr _))).mono ?_
              rintro e w2 ⟨rfl, hpc, hb⟩
              have hb2 := (bel1 wr (.cells #[.int .i64 2, .int .i64 wh, .int .u32 x] 33)).trans (hb.mono (by simp))
              have HI2 := Lib.hid (HI.out.after hb2)
              have hbk := Blk.below (blk_new wr #[.int .i64 2, .int .i64 wh, .int .u32 x] 33) hb
              have HBk := Lib.hid hbk
              rw [World.size_alloc] at hpc
              have HPc := Lib.hid hpc
              have b0 := hbk.cell 0
              have b1 := hbk.cell 1
              have b2 := hbk.cell 2
              simp only [List.getElem?_toArray, List.getElem?_cons_zero, List.getElem?_cons_succ] at b0 b1 b2
              have HPl := Lib.hid HI.out.p.lt
              have HBl := Lib.hid hbk.lt
              clear hpc hb hb2 hbk HI q1 q2 q3
              go_wp2_with fail
              refine (Sink_any HI2.out.p wh x hwh hx32).mono ?_
              rintro e w3 ⟨rfl, hp3, ht⟩
              rw [show decide (x < 65536) = false from decide_eq_false (by omega), Bool.and_false, turn_no] at hp3
              rw [refE_no (x := x) (by omega)]
              have h3 := HI2.out.turn hp3 ht
              have hc3 := HPc.out.turned ht (fun e => by have := HPl.out; omega)
              have HBk3 := Lib.hid (HBk.out.turned ht (fun e => by have := HPl.out; omega))
              have HL3 := Lib.hid (And.intro HI2.out.lt HI2.out.lo)
              have HC : Hid (PlC w w.heap.size P (wr.heap.size + 1) r r w3.drew) := PlC.after ⟨⟨h3.1, h3.2.1, h3.2.2, HL3.out.1, HL3.out.2⟩, hc3⟩ (Below.refl _ _).drew
              clear h3 hc3 hp3 ht HI2 HPc HBk b0 b1 b2
              go_wp2
              refine Free.any (PlC w w.heap.size P (wr.heap.size + 1) r r) (PlC.stb w w.heap.size P (wr.heap.size + 1) r r) HC.out (fun st => ?_)
              refine Free.tk 0 (some 106) ?_
              refine Free.tk 1 (some 107) ?_
              refine Free.tk 2 (some 108) (v := .bool false) ?_
              refine Free.tk 3 (some 109) ?_
              refine Free.tk 4 (some 110) ?_
              refine Free.cl 5 (some 111) st (fun W hW => Rules_any hW.i.p) ?_ (hy := by intro W; go_simp; try rfl)
              refine Free.tk 6 (some 112) (v := .agg (ruC r)) ?_ (hy := by intro W hW; exact x_load_R rvRules rfl rfl hW.i.x)
              refine Free.tk 7 (some 113) (v := .bool false) ?_ (hy := by intro W hW; exact x_neq_ru rfl rfl rfl (by rw [ruE_self]; rfl))
              refine Free.tk 8 (some 114) ?_
              refine Free.tk 9 (some 115) ?_
              refine Free.tk 10 (some 116) ?_
              refine Free.tk 11 (some 117) ?_
              refine Free.tk 12 (some 118) ?_
              refine Free.tk 13 (some 119) ?_
              refine Free.tk 14 (some 120) ?_
              refine Free.cl 15 (some 121) st (fun W hW => Rules_any hW.c) ?_ (hy := by intro W; go_simp; try rfl)
              refine Free.tk 16 (some 122) (v := .agg (ruC r)) ?_ (hy := by intro W hW; exact x_load_R rvRules rfl rfl hW.i.x)
              refine Free.tk 17 (some 123) (v := .bool false) ?_ (hy := by intro W hW; exact x_neq_ru rfl rfl rfl (by rw [ruE_self]; rfl))
              refine Free.tk 18 (some 124) ?_
              refine Free.sk 19 (some 125) ?_
              refine Free.sk 20 (some 126) ?_
              refine Free.tk 21 (some 127) ?_
              refine Free.tk 22 (some 128) ?_
              refine Free.done (fun W9 hb9 hW9 => ?_)
              have HN := Lib.hid hW9.i
              clear hb9 hW9 st HC
              go_wp2
              exact ⟨⟨k + 1, r, by omega, by go_num, HN.out⟩, by simp [natI]; omega⟩
        · have hdk : decide (kd = 1) = false := decide_eq_false hd
          have hdk2 : decide (kd = 2) = false := decide_eq_false hd2
          by_cases hk1 : 1 ≤ wh
          · have hd1 : decide ((1 : Int) ≤ wh) = true := decide_eq_true hk1
            by_cases hk4 : wh ≤ 4
            · have hd4 : decide (wh ≤ 4) = true := decide_eq_true hk4
              by_cases hx2 : x < 65536
              · have hdx : decide ((65536 : Int) ≤ x) = false := decide_eq_false (by omega)
                go_wp2_with fail
                refine (pCopy_any (HI.out.p.below (bel1 wr _))).mono ?_
                rintro e w2 ⟨rfl, hpc, hb⟩
                have hb2 := (bel1 wr (.cells #[.int .i64 kd, .int .i64 wh, .int .u32 x] 33)).trans (hb.mono (by simp))
                have HI2 := Lib.hid (HI.out.after hb2)
                have hbk := Blk.below (blk_new wr #[.int .i64 kd, .int .i64 wh, .int .u32 x] 33) hb
                have HBk := Lib.hid hbk
                rw [World.size_alloc] at hpc
                have HPc := Lib.hid hpc
                have b0 := hbk.cell 0
                have b1 := hbk.cell 1
                have b2 := hbk.cell 2
                simp only [List.getElem?_toArray, List.getElem?_cons_zero, List.getElem?_cons_succ] at b0 b1 b2
                have HPl := Lib.hid HI.out.p.lt
                have HBl := Lib.hid hbk.lt
                clear hpc hb hb2 hbk HI q1 q2 q3
                go_wp2_with fail
                refine (Strict_any HI2.out.p x hx32).mono ?_
                rintro e w3 ⟨rfl, hp3, ht⟩
                rw [decide_eq_true hx2, turn_yes] at hp3
                rw [refE_ok hx2]
                have h3 := HI2.out.turn hp3 ht
                have hc3 := HPc.out.turned ht (fun e => by have := HPl.out; omega)
                have HBk3 := Lib.hid (HBk.out.turned ht (fun e => by have := HPl.out; omega))
                have HL3 := Lib.hid (And.intro HI2.out.lt HI2.out.lo)
                have HT3 := Lib.hid h3
                have HC3 := Lib.hid hc3
                clear h3 hc3 hp3 ht HI2 HPc HBk b0 b1 b2
                have b0 := HBk3.out.cell 0
                have b1 := HBk3.out.cell 1
                have b2 := HBk3.out.cell 2
                simp only [List.getElem?_toArray, List.getElem?_cons_zero, List.getElem?_cons_succ] at b0 b1 b2
                have cx := HT3.out.2.1.at_ (j := 10) (by omega)
                have fx := HT3.out.2.1.blk.frozen 10
                obtain ⟨r2, hr2⟩ : ∃ r2 : Ru, Hid (r2 = r.set 10 x) := ⟨_, rfl⟩
                have HC : Hid (PlC w w.heap.size P (wr.heap.size + 1) r r2 (w3.setCell ⟨w.heap.size, 10, none⟩ (.int .u32 x)).drew) := PlC.after (W := w3.setCell ⟨w.heap.size, 10, none⟩ (.int .u32 x)) ⟨by
                  have := PlR.of (r' := r2) (by rw [hr2.out]; exact HT3.out) HL3.out.1 HL3.out.2 (j := 10) (by omega) x hr2.out
                  exact this, HC3.out.turned ((Turned.refl (fun k => k = w.heap.size) w3).setCell (.inl rfl) _) (by have := HPl.out; have := HL3.out; omega)⟩ (Below.refl _ _).drew
                go_wp2
                obtain ⟨eb, heb⟩ : ∃ eb : Bool, Hid (ruE r r2 = eb) := ⟨_, rfl⟩
                have HE := heb
                cases eb with
                | true =>
                  refine Free.any (PlC w w.heap.size P (wr.heap.size + 1) r r2) (PlC.stb w w.heap.size P (wr.heap.size + 1) r r2) HC.out (fun st => ?_)
                  refine Free.tk 0 (some 106) ?_
                  refine Free.tk 1 (some 107) ?_
                  refine Free.tk 2 (some 108) (v := .bool false) ?_
                  refine Free.tk 3 (some 109) ?_
                  refine Free.tk 4 (some 110) ?_
                  refine Free.cl 5 (some 111) st (fun W hW => Rules_any hW.i.p) ?_ (hy := by intro W; go_simp; try rfl)
                  refine Free.tk 6 (some 112) (v := .agg (ruC r2)) ?_ (hy := by intro W hW; exact x_load_R rvRules rfl rfl hW.i.x)
                  refine Free.tk 7 (some 113) (v := .bool false) ?_ (hy := by intro W hW; exact x_neq_ru rfl rfl rfl (by rw [ruE_self]; rfl))
                  refine Free.tk 8 (some 114) ?_
                  refine Free.tk 9 (some 115) ?_
                  refine Free.tk 10 (some 116) ?_
                  refine Free.tk 11 (some 117) ?_
                  refine Free.tk 12 (some 118) ?_
                  refine Free.tk 13 (some 119) ?_
                  refine Free.tk 14 (some 120) ?_
                  refine Free.cl 15 (some 121) st (fun W hW => Rules_any hW.c) ?_ (hy := by intro W; go_simp; try rfl)
                  refine Free.tk 16 (some 122) (v := .agg (ruC r2)) ?_ (hy := by intro W hW; exact x_load_R rvRules rfl rfl hW.i.x)
                  refine Free.tk 17 (some 123) (v := .bool false) ?_ (hy := by intro W hW; exact x_neq_ru rfl rfl rfl (by rw [HE.out]; rfl))
                  refine Free.tk 18 (some 124) ?_
                  refine Free.sk 19 (some 125) ?_
                  refine Free.sk 20 (some 126) ?_
                  refine Free.tk 21 (some 127) ?_
                  refine Free.tk 22 (some 128) ?_
                  refine Free.done (fun W9 hb9 hW9 => ?_)
                  have HN := Lib.hid hW9.i
                  clear hb9 hW9 st HC
                  go_wp2
                  exact ⟨⟨k + 1, r2, by omega, by go_num, HN.out⟩, by simp [natI]; omega⟩
                | false =>
                  refine Free.any (PlC w w.heap.size P (wr.heap.size + 1) r r2) (PlC.stb w w.heap.size P (wr.heap.size + 1) r r2) HC.out (fun st => ?_)
                  refine Free.tk 0 (some 106) ?_
                  refine Free.tk 1 (some 107) ?_
                  refine Free.tk 2 (some 108) (v := .bool false) ?_
                  refine Free.tk 3 (some 109) ?_
                  refine Free.tk 4 (some 110) ?_
                  refine Free.cl 5 (some 111) st (fun W hW => Rules_any hW.i.p) ?_ (hy := by intro W; go_simp; try rfl)
                  refine Free.tk 6 (some 112) (v := .agg (ruC r2)) ?_ (hy := by intro W hW; exact x_load_R rvRules rfl rfl hW.i.x)
                  refine Free.tk 7 (some 113) (v := .bool false) ?_ (hy := by intro W hW; exact x_neq_ru rfl rfl rfl (by rw [ruE_self]; rfl))
                  refine Free.tk 8 (some 114) ?_
                  refine Free.tk 9 (some 115) ?_
                  refine Free.tk 10 (some 116) ?_
                  refine Free.tk 11 (some 117) ?_
                  refine Free.tk 12 (some 118) ?_
                  refine Free.tk 13 (some 119) ?_
                  refine Free.tk 14 (some 120) ?_
                  refine Free.cl 15 (some 121) st (fun W hW => Rules_any hW.c) ?_ (hy := by intro W; go_simp; try rfl)
                  refine Free.tk 16 (some 122) (v := .agg (ruC r2)) ?_ (hy := by intro W hW; exact x_load_R rvRules rfl rfl hW.i.x)
                  refine Free.tk 17 (some 123) (v := .bool true) ?_ (hy := by intro W hW; exact x_neq_ru rfl rfl rfl (by rw [HE.out]; rfl))
                  refine Free.tk 18 (some 124) ?_
                  refine Free.tk 19 (some 125) ?_
                  refine Free.tk 20 (some 126) ?_
                  refine Free.tk 21 (some 127) ?_
                  refine Free.tk 22 (some 128) ?_
                  refine Free.done (fun W9 hb9 hW9 => ?_)
                  have HN := Lib.hid hW9.i
                  clear hb9 hW9 st HC
                  go_wp2
                  exact ⟨⟨k + 1, r2, by omega, by go_num, HN.out⟩, by simp [natI]; omega⟩
              · have hdx : decide ((65536 : Int) ≤ x) = true := decide_eq_true (by omega)
                go_wp2_with fail
                refine (pCopy_any (HI.out.p.below (bel1 wr _))).mono ?_
                rintro e w2 ⟨rfl, hpc, hb⟩
                have hb2 := (bel1 wr (.cells #[.int .i64 kd, .int .i64 wh, .int .u32 x] 33)).trans (hb.mono (by simp))
                have HI2 := Lib.hid (HI.out.after hb2)
                have hbk := Blk.below (blk_new wr #[.int .i64 kd, .int .i64 wh, .int .u32 x] 33) hb
                have HBk := Lib.hid hbk
                rw [World.size_alloc] at hpc
                have HPc := Lib.hid hpc
                have b0 := hbk.cell 0
                have b1 := hbk.cell 1
                have b2 := hbk.cell 2
                simp only [List.getElem?_toArray, List.getElem?_cons_zero, List.getElem?_cons_succ] at b0 b1 b2
                have HPl := Lib.hid HI.out.p.lt
                have HBl := Lib.hid hbk.lt
                clear hpc hb hb2 hbk HI q1 q2 q3
                go_wp2_with fail
                refine (Strict_any HI2.out.p x hx32).mono ?_
                rintro e w3 ⟨rfl, hp3, ht⟩
                rw [show decide (x < 65536) = false from decide_eq_false (by omega), turn_no] at hp3
                rw [refE_no (x := x) (by omega)]
                have h3 := HI2.out.turn hp3 ht
                have hc3 := HPc.out.turned ht (fun e => by have := HPl.out; omega)
                have HBk3 := Lib.hid (HBk.out.turned ht (fun e => by have := HPl.out; omega))
                have HL3 := Lib.hid (And.intro HI2.out.lt HI2.out.lo)
                have HC : Hid (PlC w w.heap.size P (wr.heap.size + 1) r r w3.drew) := PlC.after ⟨⟨h3.1, h3.2.1, h3.2.2, HL3.out.1, HL3.out.2⟩, hc3⟩ (Below.refl _ _).drew
                clear h3 hc3 hp3 ht HI2 HPc HBk b0 b1 b2
                go_wp2
                refine Free.any (PlC w w.heap.size P (wr.heap.size + 1) r r) (PlC.stb w w.heap.size P (wr.heap.size + 1) r r) HC.out (fun st => ?_)
                refine Free.tk 0 (some 106) ?_
                refine Free.tk 1 (some 107) ?_
                refine Free.tk 2 (some 108) (v := .bool false) ?_
                refine Free.tk 3 (some 109) ?_
                refine Free.tk 4 (some 110) ?_
                refine Free.cl 5 (some 111) st (fun W hW => Rules_any hW.i.p) ?_ (hy := by intro W; go_simp; try rfl)
                refine Free.tk 6 (some 112) (v := .agg (ruC r)) ?_ (hy := by intro W hW; exact x_load_R rvRules rfl rfl hW.i.x)
                refine Free.tk 7 (some 113) (v := .bool false) ?_ (hy := by intro W hW; exact x_neq_ru rfl rfl rfl (by rw [ruE_self]; rfl))
                refine Free.tk 8 (some 114) ?_
                refine Free.tk 9 (some 115) ?_
                refine Free.tk 10 (some 116) ?_
                refine Free.tk 11 (some 117) ?_
                refine Free.tk 12 (some 118) ?_
                refine Free.tk 13 (some 119) ?_
                refine Free.tk 14 (some 120) ?_
                refine Free.cl 15 (some 121) st (fun W hW => Rules_any hW.c) ?_ (hy := by intro W; go_simp; try rfl)
                refine Free.tk 16 (some 122) (v := .agg (ruC r)) ?_ (hy := by intro W hW; exact x_load_R rvRules rfl rfl hW.i.x)
                refine Free.tk 17 (some 123) (v := .bool false) ?_ (hy := by intro W hW; exact x_neq_ru rfl rfl rfl (by rw [ruE_self]; rfl))
                refine Free.tk 18 (some 124) ?_
                refine Free.sk 19 (some 125) ?_
                refine Free.sk 20 (some 126) ?_
                refine Free.tk 21 (some 127) ?_
                refine Free.tk 22 (some 128) ?_
                refine Free.done (fun W9 hb9 hW9 => ?_)
                have HN := Lib.hid hW9.i
                clear hb9 hW9 st HC
                go_wp2
                exact ⟨⟨k + 1, r, by omega, by go_num, HN.out⟩, by simp [natI]; omega⟩
            · have hd4 : decide (wh ≤ 4) = false := decide_eq_false hk4
              by_cases hx2 : x < 65536
              · have hdx : decide ((65536 : Int) ≤ x) = false := decide_eq_false (by omega)
                go_wp2_with fail
                refine (pCopy_any (HI.out.p.below (bel1 wr _))).mono ?_
                rintro e w2 ⟨rfl, hpc, hb⟩
                have hb2 := (bel1 wr (.cells #[.int .i64 kd, .int .i64 wh, .int .u32 x] 33)).trans (hb.mono (by simp))
                have HI2 := Lib.hid (HI.out.after hb2)
                have hbk := Blk.below (blk_new wr #[.int .i64 kd, .int .i64 wh, .int .u32 x] 33) hb
                have HBk := Lib.hid hbk
                rw [World.size_alloc] at hpc
                have HPc := Lib.hid hpc
                have b0 := hbk.cell 0
                have b1 := hbk.cell 1
                have b2 := hbk.cell 2
                simp only [List.getElem?_toArray, List.getElem?_cons_zero, List.getElem?_cons_succ] at b0 b1 b2
                have HPl := Lib.hid HI.out.p.lt
                have HBl := Lib.hid hbk.lt
                clear hpc hb hb2 hbk HI q1 q2 q3
                go_wp2_with fail
                refine (Strict_any HI2.out.p x hx32).mono ?_
                rintro e w3 ⟨rfl, hp3, ht⟩
                rw [decide_eq_true hx2, turn_yes] at hp3
                rw [refE_ok hx2]
                have h3 := HI2.out.turn hp3 ht
                have hc3 := HPc.out.turned ht (fun e => by have := HPl.out; omega)
                have HBk3 := Lib.hid (HBk.out.turned ht (fun e => by have := HPl.out; omega))
                have HL3 := Lib.hid (And.intro HI2.out.lt HI2.out.lo)
                have HT3 := Lib.hid h3
                have HC3 := Lib.hid hc3
                clear h3 hc3 hp3 ht HI2 HPc HBk b0 b1 b2
                have b0 := HBk3.out.cell 0
                have b1 := HBk3.out.cell 1
                have b2 := HBk3.out.cell 2
                simp only [List.getElem?_toArray, List.getElem?_cons_zero, List.getElem?_cons_succ] at b0 b1 b2
                have cx := HT3.out.2.1.at_ (j := 10) (by omega)
                have fx := HT3.out.2.1.blk.frozen 10
                obtain ⟨r2, hr2⟩ : ∃ r2 : Ru, Hid (r2 = r.set 10 x) := ⟨_, rfl⟩
                have HC : Hid (PlC w w.heap.size P (wr.heap.size + 1) r r2 (w3.setCell ⟨w.heap.size, 10, none⟩ (.int .u32 x)).drew) := PlC.after (W := w3.setCell ⟨w.heap.size, 10, none⟩ (.int .u32 x)) ⟨by
                  have := PlR.of (r' := r2) (by rw [hr2.out]; exact HT3.out) HL3.out.1 HL3.out.2 (j := 10) (by omega) x hr2.out
                  exact this, HC3.out.turned ((Turned.refl (fun k => k = w.heap.size) w3).setCell (.inl rfl) _) (by have := HPl.out; have := HL3.out; omega)⟩ (Below.refl _ _).drew
                go_wp2
                obtain ⟨eb, heb⟩ : ∃ eb : Bool, Hid (ruE r r2 = eb) := ⟨_, rfl⟩
                have HE := heb
                cases eb with
                | true =>
                  refine Free.any (PlC w w.heap.size P (wr.heap.size + 1) r r2) (PlC.stb w w.heap.size P (wr.heap.size + 1) r r2) HC.out (fun st => ?_)
                  refine Free.tk 0 (some 106) ?_
                  refine Free.tk 1 (some 107) ?_
                  refine Free.tk 2 (some 108) (v := .bool false) ?_
                  refine Free.tk 3 (some 109) ?_
                  refine Free.tk 4 (some 110) ?_
                  refine Free.cl 5 (some 111) st (fun W hW => Rules_any hW.i.p) ?_ (hy := by intro W; go_simp; try rfl)
                  refine Free.tk 6 (some 112) (v := .agg (ruC r2)) ?_ (hy := by intro W hW; exact x_load_R rvRules rfl rfl hW.i.x)
                  refine Free.tk 7 (some 113) (v := .bool false) ?_ (hy := by intro W hW; exact x_neq_ru rfl rfl rfl (by rw [ruE_self]; rfl))
                  refine Free.tk 8 (some 114) ?_
                  refine Free.tk 9 (some 115) ?_
                  refine Free.tk 10 (some 116) ?_
                  refine Free.tk 11 (some 117) ?_
                  refine Free.tk 12 (some 118) ?_
                  refine Free.tk 13 (some 119) ?_
                  refine Free.tk 14 (some 120) ?_
                  refine Free.cl 15 (some 121) st (fun W hW => Rules_any hW.c) ?_ (hy := by intro W; go_simp; try rfl)
                  refine Free.tk 16 (some 122) (v := .agg (ruC r2)) ?_ (hy := by intro W hW; exact x_load_R rvRules rfl rfl hW.i.x)
                  refine Free.tk 17 (some 123) (v := .bool false) ?_ (hy := by intro W hW; exact x_neq_ru rfl rfl rfl (by rw [HE.out]; rfl))
                  refine Free.tk 18 (some 124) ?_
                  refine Free.sk 19 (some 125) ?_
                  refine Free.sk 20 (some 126) ?_
                  refine Free.tk 21 (some 127) ?_
                  refine Free.tk 22 (some 128) ?_
                  refine Free.done (fun W9 hb9 hW9 => ?_)
                  have HN := Lib.hid hW9.i
                  clear hb9 hW9 st HC
                  go_wp2
                  exact ⟨⟨k + 1, r2, by omega, by go_num, HN.out⟩, by simp [natI]; omega⟩
                | false =>
                  refine Free.any (PlC w w.heap.size P (wr.heap.size + 1) r r2) (PlC.stb w w.heap.size P (wr.heap.size + 1) r r2) HC.out (fun st => ?_)
                  refine Free.tk 0 (some 106) ?_
                  refine Free.tk 1 (some 107) ?_
                  refine Free.tk 2 (some 108) (v := .bool false) ?_
                  refine Free.tk 3 (some 109) ?_
                  refine Free.tk 4 (some 110) ?_
                  refine Free.cl 5 (some 111) st (fun W hW => Rules_any hW.i.p) ?_ (hy := by intro W; go_simp; try rfl)
                  refine Free.tk 6 (some 112) (v := .agg (ruC r2)) ?_ (hy := by intro W hW; exact x_load_R rvRules rfl rfl hW.i.x)
                  refine Free.tk 7 (some 113) (v := .bool false) ?_ (hy := by intro W hW; exact x_neq_ru rfl rfl rfl (by rw [ruE_self]; rfl))
                  refine Free.tk 8 (some 114) ?_
                  refine Free.tk 9 (some 115) ?_
                  refine Free.tk 10 (some 116) ?_
                  refine Free.tk 11 (some 117) ?_
                  refine Free.tk 12 (some 118) ?_
                  refine Free.tk 13 (some 119) ?_
                  refine Free.tk 14 (some 120) ?_
                  refine Free.cl 15 (some 121) st (fun W hW => Rules_any hW.c) ?_ (hy := by intro W; go_simp; try rfl)
                  refine Free.tk 16 (some 122) (v := .agg (ruC r2)) ?_ (hy := by intro W hW; exact x_load_R rvRules rfl rfl hW.i.x)
                  refine Free.tk 17 (some 123) (v := .bool true) ?_ (hy := by intro W hW; exact x_neq_ru rfl rfl rfl (by rw [HE.out]; rfl))
                  refine Free.tk 18 (some 124) ?_
                  refine Free.tk 19 (some 125) ?_
                  refine Free.tk 20 (some 126) ?_
                  refine Free.tk 21 (some 127) ?_
                  refine Free.tk 22 (some 128) ?_
                  refine Free.done (fun W9 hb9 hW9 => ?_)
                  have HN := Lib.hid hW9.i
                  clear hb9 hW9 st HC
                  go_wp2
                  exact ⟨⟨k + 1, r2, by omega, by go_num, HN.out⟩, by simp [natI]; omega⟩
              · have hdx : decide ((65536 : Int) ≤ x) = true := decide_eq_true (by omega)
                go_wp2_with fail
                refine (pCopy_any (HI.out.p.below (bel1 wr _))).mono ?_
                rintro e w2 ⟨rfl, hpc, hb⟩
                have hb2 := (bel1 wr (.cells #[.int .i64 kd, .int .i64 wh, .int .u32 x] 33)).trans (hb.mono (by simp))
                have HI2 := Lib.hid (HI.out.after hb2)
                have hbk := Blk.below (blk_new wr #[.int .i64 kd, .int .i64 wh, .int .u32 x] 33) hb
                have HBk := Lib.hid hbk
                rw [World.size_alloc] at hpc
                have HPc := Lib.hid hpc
                have b0 := hbk.cell 0
                have b1 := hbk.cell 1
                have b2 := hbk.cell 2
                simp only [List.getElem?_toArray, List.getElem?_cons_zero, List.getElem?_cons_succ] at b0 b1 b2
                have HPl := Lib.hid HI.out.p.lt
                have HBl := Lib.hid hbk.lt
                clear hpc hb hb2 hbk HI q1 q2 q3
                go_wp2_with fail
                refine (Strict_any HI2.out.p x hx32).mono ?_
                rintro e w3 ⟨rfl, hp3, ht⟩
                rw [show decide (x < 65536) = false from decide_eq_false (by omega), turn_no] at hp3
                rw [refE_no (x := x) (by omega)]
                have h3 := HI2.out.turn hp3 ht
                have hc3 := HPc.out.turned ht (fun e => by have := HPl.out; omega)
                have HBk3 := Lib.hid (HBk.out.turned ht (fun e => by have := HPl.out; omega))
                have HL3 := Lib.hid (And.intro HI2.out.lt HI2.out.lo)
                have HC : Hid (PlC w w.heap.size P (wr.heap.size + 1) r r w3.drew) := PlC.after ⟨⟨h3.1, h3.2.1, h3.2.2, HL3.out.1, HL3.out.2⟩, hc3⟩ (Below.refl _ _).drew
                clear h3 hc3 hp3 ht HI2 HPc HBk b0 b1 b2
                go_wp2
                refine Free.any (PlC w w.heap.size P (wr.heap.size + 1) r r) (PlC.stb w w.heap.size P (wr.heap.size + 1) r r) HC.out (fun st => ?_)
                refine Free.tk 0 (some 106) ?_
                refine Free.tk 1 (some 107) ?_
                refine Free.tk 2 (some 108) (v := .bool false) ?_
                refine Free.tk 3 (some 109) ?_
                refine Free.tk 4 (some 110) ?_
                refine Free.cl 5 (some 111) st (fun W hW => Rules_any hW.i.p) ?_ (hy := by intro W; go_simp; try rfl)
                refine Free.tk 6 (some 112) (v := .agg (ruC r)) ?_ (hy := by intro W hW; exact x_load_R rvRules rfl rfl hW.i.x)
                refine Free.tk 7 (some 113) (v := .bool false) ?_ (hy := by intro W hW; exact x_neq_ru rfl rfl rfl (by rw [ruE_self]; rfl))
                refine Free.tk 8 (some 114) ?_
                refine Free.tk 9 (some 115) ?_
                refine Free.tk 10 (some 116) ?_
                refine Free.tk 11 (some 117) ?_
                refine Free.tk 12 (some 118) ?_
                refine Free.tk 13 (some 119) ?_
                refine Free.tk 14 (some 120) ?_
                refine Free.cl 15 (some 121) st (fun W hW => Rules_any hW.c) ?_ (hy := by intro W; go_simp; try rfl)
                refine Free.tk 16 (some 122) (v := .agg (ruC r)) ?_ (hy := by intro W hW; exact x_load_R rvRules rfl rfl hW.i.x)
                refine Free.tk 17 (some 123) (v := .bool false) ?_ (hy := by intro W hW; exact x_neq_ru rfl rfl rfl (by rw [ruE_self]; rfl))
                refine Free.tk 18 (some 124) ?_
                refine Free.sk 19 (some 125) ?_
                refine Free.sk 20 (some 126) ?_
                refine Free.tk 21 (some 127) ?_
                refine Free.tk 22 (some 128) ?_
                refine Free.done (fun W9 hb9 hW9 => ?_)
                have HN := Lib.hid hW9.i
                clear hb9 hW9 st HC
                go_wp2
                exact ⟨⟨k + 1, r, by omega, by go_num, HN.out⟩, by simp [natI]; omega⟩
          · have hd1 : decide ((1 : Int) ≤ wh) = false := decide_eq_false hk1
            by_cases hx2 : x < 65536
            · have hdx : decide ((65536 : Int) ≤ x) = false := decide_eq_false (by omega)
              go_wp2_with fail
              refine (pCopy_any (HI.out.p.below (bel1 wr _))).mono ?_
              rintro e w2 ⟨rfl, hpc, hb⟩
              have hb2 := (bel1 wr (.cells #[.int .i64 kd, .int .i64 wh, .int .u32 x] 33)).trans (hb.mono (by simp))
              have HI2 := Lib.hid (HI.out.after hb2)
              have hbk := Blk.below (blk_new wr #[.int .i64 kd, .int .i64 wh, .int .u32 x] 33) hb
              have HBk := Lib.hid hbk
              rw [World.size_alloc] at hpc
              have HPc := Lib.hid hpc
              have b0 := hbk.cell 0
              have b1 := hbk.cell 1
              have b2 := hbk.cell 2
              simp only [List.getElem?_toArray, List.getElem?_cons_zero, List.getElem?_cons_succ] at b0 b1 b2
              have HPl := Lib.hid HI.out.p.lt
              have HBl := Lib.hid hbk.lt
              clear hpc hb hb2 hbk HI q1 q2 q3
              go_wp2_with fail
              refine (Strict_any HI2.out.p x hx32).mono ?_
              rintro e w3 ⟨rfl, hp3, ht⟩
              rw [decide_eq_true hx2, turn_yes] at hp3
              rw [refE_ok hx2]
              have h3 := HI2.out.turn hp3 ht
              have hc3 := HPc.out.turned ht (fun e => by have := HPl.out; omega)
              have HBk3 := Lib.hid (HBk.out.turned ht (fun e => by have := HPl.out; omega))
              have HL3 := Lib.hid (And.intro HI2.out.lt HI2.out.lo)
              have HT3 := Lib.hid h3
              have HC3 := Lib.hid hc3
              clear h3 hc3 hp3 ht HI2 HPc HBk b0 b1 b2
              have b0 := HBk3.out.cell 0
              have b1 := HBk3.out.cell 1
              have b2 := HBk3.out.cell 2
              simp only [List.getElem?_toArray, List.getElem?_cons_zero, List.getElem?_cons_succ] at b0 b1 b2
              have cx := HT3.out.2.1.at_ (j := 10) (by omega)
              have fx := HT3.out.2.1.blk.frozen 10
              obtain ⟨r2, hr2⟩ : ∃ r2 : Ru, Hid (r2 = r.set 10 x) := ⟨_, rfl⟩
              have HC : Hid (PlC w w.heap.size P (wr.heap.size + 1) r r2 (w3.setCell ⟨w.heap.size, 10, none⟩ (.int .u32 x)).drew) := PlC.after (W := w3.setCell ⟨w.heap.size, 10, none⟩ (.int .u32 x)) ⟨by
                have := PlR.of (r' := r2) (by rw [hr2.out]; exact HT3.out) HL3.out.1 HL3.out.2 (j := 10) (by omega) x hr2.out
                exact this, HC3.out.turned ((Turned.refl (fun k => k = w.heap.size) w3).setCell (.inl rfl) _) (by have := HPl.out; have := HL3.out; omega)⟩ (Below.refl _ _).drew
              go_wp2
              obtain ⟨eb, heb⟩ : ∃ eb : Bool, Hid (ruE r r2 = eb) := ⟨_, rfl⟩
              have HE := heb
              cases eb with
              | true =>
                refine Free.any (PlC w w.heap.size P (wr.heap.size + 1) r r2) (PlC.stb w w.heap.size P (wr.heap.size + 1) r r2) HC.out (fun st => ?_)
                refine Free.tk 0 (some 106) ?_
                refine Free.tk 1 (some 107) ?_
                refine Free.tk 2 (some 108) (v := .bool false) ?_
                refine Free.tk 3 (some 109) ?_
                refine Free.tk 4 (some 110) ?_
                refine Free.cl 5 (some 111) st (fun W hW => Rules_any hW.i.p) ?_ (hy := by intro W; go_simp; try rfl)
                refine Free.tk 6 (some 112) (v := .agg (ruC r2)) ?_ (hy := by intro W hW; exact x_load_R rvRules rfl rfl hW.i.x)
                refine Free.tk 7 (some 113) (v := .bool false) ?_ (hy := by intro W hW; exact x_neq_ru rfl rfl rfl (by rw [ruE_self]; rfl))
                refine Free.tk 8 (some 114) ?_
                refine Free.tk 9 (some 115) ?_
                refine Free.tk 10 (some 116) ?_
                refine Free.tk 11 (some 117) ?_
                refine Free.tk 12 (some 118) ?_
                refine Free.tk 13 (some 119) ?_
                refine Free.tk 14 (some 120) ?_
                refine Free.cl 15 (some 121) st (fun W hW => Rules_any hW.c) ?_ (hy := by intro W; go_simp; try rfl)
                refine Free.tk 16 (some 122) (v := .agg (ruC r2)) ?_ (hy := by intro W hW; exact x_load_R rvRules rfl rfl hW.i.x)
                refine Free.tk 17 (some 123) (v := .bool false) ?_ (hy := by intro W hW; exact x_neq_ru rfl rfl rfl (by rw [HE.out]; rfl))
                refine Free.tk 18 (some 124) ?_
                refine Free.sk 19 (some 125) ?_
                refine Free.sk 20 (some 126) ?_
                refine Free.tk 21 (some 127) ?_
                refine Free.tk 22 (some 128) ?_
                refine Free.done (fun W9 hb9 hW9 => ?_)
                have HN := Lib.hid hW9.i
                clear hb9 hW9 st HC
                go_wp2
                exact ⟨⟨k + 1, r2, by omega, by go_num, HN.out⟩, by simp [natI]; omega⟩
              | false =>
                refine Free.any (PlC w w.heap.size P (wr.heap.size + 1) r r2) (PlC.stb w w.heap.size P (wr.heap.size + 1) r r2) HC.out (fun st => ?_)
                refine Free.tk 0 (some 106) ?_
                refine Free.tk 1 (some 107) ?_
                refine Free.tk 2 (some 108) (v := .bool false) ?_
                refine Free.tk 3 (some 109) ?_
                refine Free.tk 4 (some 110) ?_
                refine Free.cl 5 (some 111) st (fun W hW => Rules_any hW.i.p) ?_ (hy := by intro W; go_simp; try rfl)
                refine Free.tk 6 (some 112) (v := .agg (ruC r2)) ?_ (hy := by intro W hW; exact x_load_R rvRules rfl rfl hW.i.x)
                refine Free.tk 7 (some 113) (v := .bool false) ?_ (hy := by intro W hW; exact x_neq_ru rfl rfl rfl (by rw [ruE_self]; rfl))
                refine Free.tk 8 (some 114) ?_
                refine Free.tk 9 (some 115) ?_
                refine Free.tk 10 (some 116) ?_
                refine Free.tk 11 (some 117) ?_
                refine Free.tk 12 (some 118) ?_
                refine Free.tk 13 (some 119) ?_
                refine Free.tk 14 (some 120) ?_
                refine Free.cl 15 (some 121) st (fun W hW => Rules_any hW.c) ?_ (hy := by intro W; go_simp; try rfl)
                refine Free.tk 16 (some 122) (v := .agg (ruC r2)) ?_ (hy := by intro W hW; exact x_load_R rvRules rfl rfl hW.i.x)
                refine Free.tk 17 (some 123) (v := .bool true) ?_ (hy := by intro W hW; exact x_neq_ru rfl rfl rfl (by rw [HE.out]; rfl))
                refine Free.tk 18 (some 124) ?_
                refine Free.tk 19 (some 125) ?_
                refine Free.tk 20 (some 126) ?_
                refine Free.tk 21 (some 127) ?_
                refine Free.tk 22 (some 128) ?_
                refine Free.done (fun W9 hb9 hW9 => ?_)
                have HN := Lib.hid hW9.i
                clear hb9 hW9 st HC
                go_wp2
                exact ⟨⟨k + 1, r2, by omega, by go_num, HN.out⟩, by simp [natI]; omega⟩
            · have hdx : decide ((65536 : Int) ≤ x) = true := decide_eq_true (by omega)
              go_wp2_with fail
              refine (pCopy_any (HI.out.p.below (bel1 wr _))).mono ?_
              rintro e w2 ⟨rfl, hpc, hb⟩
              have hb2 := (bel1 wr (.cells #[.int .i64 kd, .int .i64 wh, .int .u32 x] 33)).trans (hb.mono (by simp))
              have HI2 := Lib.hid (HI.out.after hb2)
              have hbk := Blk.below (blk_new wr #[.int .i64 kd, .int .i64 wh, .int .u32 x] 33) hb
              have HBk := Lib.hid hbk
              rw [World.size_alloc] at hpc
              have HPc := Lib.hid hpc
              have b0 := hbk.cell 0
              have b1 := hbk.cell 1
              have b2 := hbk.cell 2
              simp only [List.getElem?_toArray, List.getElem?_cons_zero, List.getElem?_cons_succ] at b0 b1 b2
              have HPl := Lib.hid HI.out.p.lt
              have HBl := Lib.hid hbk.lt
              clear hpc hb hb2 hbk HI q1 q2 q3
              go_wp2_with fail
              refine (Strict_any HI2.out.p x hx32).mono ?_
              rintro e w3 ⟨rfl, hp3, ht⟩
              rw [show decide (x < 65536) = false from decide_eq_false (by omega), turn_no] at hp3
              rw [refE_no (x := x) (by omega)]
              have h3 := HI2.out.turn hp3 ht
              have hc3 := HPc.out.turned ht (fun e => by have := HPl.out; omega)
              have HBk3 := Lib.hid (HBk.out.turned ht (fun e => by have := HPl.out; omega))
              have HL3 := Lib.hid (And.intro HI2.out.lt HI2.out.lo)
              have HC : Hid (PlC w w.heap.size P (wr.heap.size + 1) r r w3.drew) := PlC.after ⟨⟨h3.1, h3.2.1, h3.2.2, HL3.out.1, HL3.out.2⟩, hc3⟩ (Below.refl _ _).drew
              clear h3 hc3 hp3 ht HI2 HPc HBk b0 b1 b2
              go_wp2
              refine Free.any (PlC w w.heap.size P (wr.heap.size + 1) r r) (PlC.stb w w.heap.size P (wr.heap.size + 1) r r) HC.out (fun st => ?_)
              refine Free.tk 0 (some 106) ?_
              refine Free.tk 1 (some 107) ?_
              refine Free.tk 2 (some 108) (v := .bool false) ?_
              refine Free.tk 3 (some 109) ?_
              refine Free.tk 4 (some 110) ?_
              refine Free.cl 5 (some 111) st (fun W hW => Rules_any hW.i.p) ?_ (hy := by intro W; go_simp; try rfl)
              refine Free.tk 6 (some 112) (v := .agg (ruC r)) ?_ (hy := by intro W hW; exact x_load_R rvRules rfl rfl hW.i.x)
              refine Free.tk 7 (some 113) (v := .bool false) ?_ (hy := by intro W hW; exact x_neq_ru rfl rfl rfl (by rw [ruE_self]; rfl))
              refine Free.tk 8 (some 114) ?_
              refine Free.tk 9 (some 115) ?_
              refine Free.tk 10 (some 116) ?_
              refine Free.tk 11 (some 117) ?_
              refine Free.tk 12 (some 118) ?_
              refine Free.tk 13 (some 119) ?_
              refine Free.tk 14 (some 120) ?_
              refine Free.cl 15 (some 121) st (fun W hW => Rules_any hW.c) ?_ (hy := by intro W; go_simp; try rfl)
              refine Free.tk 16 (some 122) (v := .agg (ruC r)) ?_ (hy := by intro W hW; exact x_load_R rvRules rfl rfl hW.i.x)
              refine Free.tk 17 (some 123) (v := .bool false) ?_ (hy := by intro W hW; exact x_neq_ru rfl rfl rfl (by rw [ruE_self]; rfl))
              refine Free.tk 18 (some 124) ?_
              refine Free.sk 19 (some 125) ?_
              refine Free.sk 20 (some 126) ?_
              refine Free.tk 21 (some 127) ?_
              refine Free.tk 22 (some 128) ?_
              refine Free.done (fun W9 hb9 hW9 => ?_)
              have HN := Lib.hid hW9.i
              clear hb9 hW9 st HC
              go_wp2
              exact ⟨⟨k + 1, r, by omega, by go_num, HN.out⟩, by simp [natI]; omega⟩
    · obtain rfl : k = xs.length := by omega
      go_wp2_with fail
      refine (known13_any _).mono ?_
      rintro e w8 ⟨rfl, hb⟩
      have HB8 := Lib.hid (HI.out.b.trans (hb.mono HI.out.b.size))
      clear hb
      go_wp2
      go_ret
      exact ⟨rfl, HB8.out⟩
end Go.Proofs.Ytdpdoclhdjhjkaa
