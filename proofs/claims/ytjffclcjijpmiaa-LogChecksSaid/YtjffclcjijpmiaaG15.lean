/-
  Layer 16: a record behind the others: walk. Written by gen_next.py.
-/
import Derived.Test.YtjffclcjijpmiaaG12
import Derived.Test.YtjffclcjijpmiaaG07
set_option linter.unusedVariables false
set_option linter.unusedSimpArgs false
namespace Go.Proofs.Ytjffclcjijpmiaa.LG
open Go.RowKit
set_option maxHeartbeats 8000000
set_option maxRecDepth 100000
set_option linter.unusedVariables false
set_option linter.unusedSimpArgs false

theorem o_okb {op : Oper} {a b : Act} {w : World} {K : Act → World → Prop} {Q : Exit → Act → World → Prop} (d : Option Tmp) (v : Value) (w1 : World) (h : (execOp a.eval op).run Try.prog w = .ok (.value v) w1) (hK : K b w1)
    (hd : op.dst = d := by rfl) (ha : a.put d v = b := by (simp only [Act.put, List.setIfInBounds_toArray, List.set_cons_zero, List.set_cons_succ]; rfl)) : op.wp Try.prog a w K Q := by
  subst ha
  exact o_ok hd v w1 h hK
/-- A call that gives up, at the operation. -/
theorem o_callp {P : Program} {op : Oper} {a : Act} {w : World} {K : Act → World → Prop} {Q : Exit → Act → World → Prop} {F : FuncId} {args : Array Value} (he : (execOp a.eval op).run P w = .ok (.enter F args) w)
    (hc : Calls P F args w fun e w' => ∃ ch, e = .panicked ch ∧ Q (.panic ch) a w') : op.wp P a w K Q := by
  unfold Oper.wp
  rw [he]
  refine hc.mono ?_
  rintro e w' ⟨ch, rfl, h⟩
  exact h
/-- May a record of its kind be, the end's too? -/
def kOk (r : Rc) : Bool := rOk r.kind r.n r.bs.length || (decide (r.kind = 8) && decide (r.n = 0) && decide (r.bs.length = 0))
/-- May a record stand behind those of a time? -/
def nextOk (at_ : Int) (en : Bool) (r : Rc) : Bool := !en && kOk r && decide (at_ ≤ r.tm) && decide (r.tm ≤ two62)
/-- What came ahead, in its block. -/
def Ord (w : World) (O b : Nat) (at_ : Int) (en : Bool) : Prop := Blk w O #[.map (some b), .int .i64 at_, .bool en] 72 ∧ Shs w b
theorem Ord.below {w w' : World} {O b : Nat} {at_ : Int} {en : Bool} (h : Ord w O b at_ en) (hb : Below w.heap.size w w') : Ord w' O b at_ en := ⟨h.1.below hb, Turned.map (Turned.of_below hb (fun _ => False)) h.2 (fun e => e)⟩
theorem Ord.turned {F : Nat → Prop} {w w' : World} {O b : Nat} {at_ : Int} {en : Bool} (h : Ord w O b at_ en) (ht : Turned F w w') (h1 : ¬ F O) (h2 : ¬ F b) : Ord w' O b at_ en := ⟨h.1.turned ht h1, Turned.map ht h.2 h2⟩
theorem Ord.ne {w : World} {O b : Nat} {at_ : Int} {en : Bool} (h : Ord w O b at_ en) : b ≠ O := by
  rintro rfl
  obtain ⟨es, c, hb, _⟩ := h.2
  have := h.1.symm.trans hb
  simp at this
theorem Ord.cells {w : World} {O b : Nat} {at_ : Int} {en : Bool} (h : Ord w O b at_ en) : w.cell? ⟨O, 0, none⟩ = some (.map (some b)) ∧ w.cell? ⟨O, 1, none⟩ = some (.int .i64 at_) ∧ w.cell? ⟨O, 2, none⟩ = some (.bool en) := ⟨h.1.cell 0, h.1.cell 1, h.1.cell 2⟩
theorem kinds_at (k n len : Int) (hl : 0 ≤ len) : ∃ a b c d is, lookV shL k = #[shp a b c d, .bool is] ∧
    ((is && decide (a ≤ n ∧ n ≤ b) && decide (c ≤ len ∧ len ≤ d)) = (rOk k n len.toNat || (decide (k = 8) && decide (n = 0) && decide (len = 0)))) := by
  by_cases h1 : k = 1
  · subst h1; exact ⟨0, 65535, 0, 2048, true, rfl, by unfold rOk; rw [Bool.eq_iff_iff]; simp; omega⟩
  by_cases h2 : k = 2
  · subst h2; exact ⟨0, 255, 0, 64, true, rfl, by unfold rOk; rw [Bool.eq_iff_iff]; simp; omega⟩
  by_cases h3 : k = 3
  · subst h3; exact ⟨0, 0, 0, 256, true, rfl, by unfold rOk; rw [Bool.eq_iff_iff]; simp; omega⟩
  by_cases h4 : k = 4
  · subst h4; exact ⟨0, 0, 0, 64, true, rfl, by unfold rOk; rw [Bool.eq_iff_iff]; simp; omega⟩
  by_cases h5 : k = 5
  · subst h5; exact ⟨1, 4, 2, 2, true, rfl, by unfold rOk; rw [Bool.eq_iff_iff]; simp; omega⟩
  by_cases h6 : k = 6
  · subst h6; exact ⟨1, 4, 2, 2, true, rfl, by unfold rOk; rw [Bool.eq_iff_iff]; simp; omega⟩
  by_cases h7 : k = 7
  · subst h7; exact ⟨0, 0, 2, 2, true, rfl, by unfold rOk; rw [Bool.eq_iff_iff]; simp; omega⟩
  by_cases h8 : k = 8
  · subst h8; exact ⟨0, 0, 0, 0, true, rfl, by unfold rOk; rw [Bool.eq_iff_iff]; simp; omega⟩
  exact ⟨0, 0, 0, 0, false, by simp [lookV, look, shL, h1, h2, h3, h4, h5, h6, h7, h8], by simp [rOk, h1, h2, h3, h4, h5, h6, h7, h8]⟩
/-- What next leaves. -/
def NextP (O b : Nat) (at_ : Int) (en : Bool) (r : Rc) (w : World) (e : Ending) (w' : World) : Prop :=
  Turned (fun k => k = O) w w' ∧ ((nextOk at_ en r = true ∧ e = .returned (.tuple #[]) ∧ Ord w' O b r.tm (decide (r.kind = 8))) ∨ (nextOk at_ en r = false ∧ e = .panicked (chain 260)))
/-- What is held while a region is walked: the record's box, the order, the kind's box. -/
structure NxS (O b R : Nat) (at_ : Int) (en : Bool) (t k n : Int) (bv : Value) (W : World) : Prop where
  o : Ord W O b at_ en
  r : Blk W R #[.int .i64 t, .int .i64 k, .int .i64 n, bv] 42
theorem NxS.stb (O b R : Nat) (at_ : Int) (en : Bool) (t k n : Int) (bv : Value) : Free.Stb (NxS O b R at_ en t k n bv) := fun _ _ h hb => ⟨h.o.below hb, h.r.below hb⟩
theorem NxS.cells {O b R : Nat} {at_ : Int} {en : Bool} {t k n : Int} {bv : Value} {W : World} (h : NxS O b R at_ en t k n bv W) : W.cell? ⟨R, 0, none⟩ = some (.int .i64 t) ∧ W.cell? ⟨R, 1, none⟩ = some (.int .i64 k) ∧ W.cell? ⟨R, 2, none⟩ = some (.int .i64 n) ∧ W.cell? ⟨R, 3, none⟩ = some bv := ⟨h.r.cell 0, h.r.cell 1, h.r.cell 2, h.r.cell 3⟩
theorem rowSh : RowT 100 4 := ⟨⟨_, Try.underlying100⟩, by kernel_rfl⟩
theorem zeroSh (w : World) : (zeroValue 100).run Try.prog w = .ok (shp 0 0 0 0) w := by kernel_rfl
theorem next_any {w : World} {O b : Nat} {at_ : Int} {en : Bool} {r : Rc} {bv : Value} (h : Ord w O b at_ en) (hb : Bs w bv r.bs) (hk : I64 r.kind) :
    Calls Try.prog 44 #[.pointer (some ⟨O, 0, none⟩), .agg (rcl r bv).toArray] w fun e w' => NextP O b at_ en r w e w' := by
  obtain ⟨t, k, n, bs⟩ := r
  obtain ⟨bo, bc, rfl, _, _⟩ := hb.shape
  simp only at hk
  have HK : Hid ((Lit.int .i64 k).wf = true) := Lib.hid (by simp only [Lit.wf, IntKind.min, IntKind.max, IntKind.signed, IntKind.bits, Bool.and_eq_true, decide_eq_true_eq, if_true]; unfold I64 at hk; omega)
  obtain ⟨ca, cb, cc, cd, is, HL⟩ : ∃ ca cb cc cd is, Hid (lookV shL k = #[shp ca cb cc cd, .bool is] ∧ ((is && decide (ca ≤ n ∧ n ≤ cb) && decide (cc ≤ (bs.length : Int) ∧ (bs.length : Int) ≤ cd)) = kOk ⟨t, k, n, bs⟩)) := by
    obtain ⟨a, b, c, d, is, h1, h2⟩ := kinds_at k n (bs.length : Int) (by omega)
    exact ⟨a, b, c, d, is, Lib.hid ⟨h1, by rw [h2]; unfold kOk; simp⟩⟩
  have HS : Hid (NxS O b w.heap.size at_ en t k n (.slice bo bs.length bc) (w.alloc (.cells #[.int .i64 t, .int .i64 k, .int .i64 n, .slice bo bs.length bc] 42)).drew) := ⟨(h.below (bel1 w _)).below (Below.refl _ _).drew, (blk_new w _ _).drew⟩
  have HB : Hid (Below w.heap.size w (w.alloc (.cells #[.int .i64 t, .int .i64 k, .int .i64 n, .slice bo bs.length bc] 42)).drew ∧ O < w.heap.size ∧ b < w.heap.size) := ⟨(bel1 w _).drew, h.1.lt, h.2.lt⟩
  clear h hb hk
  simp only [rcl]
  go_enter Try.func44, Try.ntmps44
  go_wp2
  refine Free.any (NxS O b w.heap.size at_ en t k n (.slice bo bs.length bc)) (NxS.stb _ _ _ _ _ _ _ _ _) HS.out (fun st => ?_)
  refine Free.tk 0 (some 7) ?_ (hy := by intro W hW; go_simp; try with_reducible rfl)
  refine Free.tk 1 (some 8) ?_ (hy := by intro W hW; go_simp; try with_reducible rfl)
  refine Free.tk 2 (some 9) ?_ (hy := by intro W hW; go_simp; try with_reducible rfl)
  refine Free.tk 3 (some 10) ?_ (hy := by intro W hW; obtain ⟨q0, q1, q2⟩ := hW.o.cells; obtain ⟨p0, p1, p2, p3⟩ := hW.cells; go_simp; try with_reducible rfl)
  refine Free.tk 4 (some 11) ?_ (hy := by intro W hW; go_simp; try with_reducible rfl)
  refine Free.tk 5 (some 12) ?_ (hy := by intro W hW; obtain ⟨q0, q1, q2⟩ := hW.o.cells; obtain ⟨p0, p1, p2, p3⟩ := hW.cells; go_simp; try with_reducible rfl)
  refine Free.tk 6 (some 13) (v := .tuple #[shp ca cb cc cd, .bool is]) ?_ (hy := by intro W hW; have hk := look_f (t := 69) (e := 100) hW.o.2 Try.underlying69 (zeroSh W) HK.out; rw [HL.out.1] at hk; go_simp; try with_reducible rfl)
  refine Free.tk 7 (some 6) ?_ (hy := by intro W hW; go_simp; try with_reducible rfl)
  refine Free.tk 8 (some 14) ?_ (hy := by intro W hW; go_simp; try with_reducible rfl)
  refine Free.tk 9 (some 15) ?_ (hy := by intro W hW; go_simp; try with_reducible rfl)
  refine Free.one 10 (fun W3 hb3 hW3 => ?_)
  refine o_okb (some 4) (.pointer (some ⟨W3.heap.size, 0, none⟩)) (W3.alloc (.cells #[.int .i64 0, .int .i64 0, .int .i64 0, .int .i64 0] 100)) (by go_simp; try rfl) ⟨st _ _ hW3 (bel1 W3 _), ?_⟩
  obtain ⟨G, hG⟩ : ∃ G, W3.heap.size = G := ⟨_, rfl⟩
  have hR4 : Rf 100 4 (W3.alloc (.cells #[.int .i64 0, .int .i64 0, .int .i64 0, .int .i64 0] 100)) G #[.int .i64 0, .int .i64 0, .int .i64 0, .int .i64 0] := by rw [← hG]; exact (show Ok1 4 #[.int .i64 0, .int .i64 0, .int .i64 0, .int .i64 0] from ⟨rfl, by simp [Value.oneCell']⟩).new _ _
  have hz3 := hb3.size
  have hb4 := belT hb3 (bel1 W3 (.cells #[.int .i64 0, .int .i64 0, .int .i64 0, .int .i64 0] 100))
  rw [hG]
  generalize W3.alloc (.cells #[.int .i64 0, .int .i64 0, .int .i64 0, .int .i64 0] 100) = W4 at *
  have hGw : w.heap.size < G := by
    have := hz3
    rw [hG] at this
    simp at this
    have e : (w.alloc (.cells #[.int .i64 t, .int .i64 k, .int .i64 n, .slice bo bs.length bc] 42)).drew.heap.size = w.heap.size + 1 := by simp [World.drew]
    omega
  clear hb3 hW3 hG hz3
  have hok : Ok1 4 #[.int .i64 ca, .int .i64 cb, .int .i64 cc, .int .i64 cd] := ⟨rfl, by simp [Value.oneCell']⟩
  refine Free.one 11 (fun W5 hb5 hW5 => ?_)
  refine o_store_R (d := none) rfl #[.int .i64 ca, .int .i64 cb, .int .i64 cc, .int .i64 cd] rowSh (hR4.below hb5) hok rfl rfl rfl ?_
  have hR6 := (hR4.below hb5).set hok
  have hT6 := turned_setRow W5 G #[.int .i64 ca, .int .i64 cb, .int .i64 cc, .int .i64 cd]
  have hS6 : NxS O b w.heap.size at_ en t k n (.slice bo bs.length bc) (W5.setRow G #[.int .i64 ca, .int .i64 cb, .int .i64 cc, .int .i64 cd]) := ⟨hW5.o.turned hT6 (by have := HB.out.2.1; omega) (by have := HB.out.2.2; omega), hW5.r.turned hT6 (by omega)⟩
  have hB6 : Below w.heap.size w (W5.setRow G #[.int .i64 ca, .int .i64 cb, .int .i64 cc, .int .i64 cd]) := (HB.out.1.trans ((hb4.trans (hb5.mono hb4.size)).mono (by have := HB.out.1.size; omega))).trans (hT6.below (by have := HB.out.1.size; have := hb4.size; have := hb5.size; omega) (fun k hk => by omega))
  refine ⟨hS6, ?_⟩
  generalize W5.setRow G #[.int .i64 ca, .int .i64 cb, .int .i64 cc, .int .i64 cd] = W6 at *
  clear hb4 hR4 hb5 hW5 hT6 HS
  refine Free.tk 12 (some 5) (v := .bool is) ?_ (hy := by intro W hW; go_simp; try with_reducible rfl)
  refine Free.done (fun W7 hb7 hW7 => ?_)
  have HG7 := Lib.hid (hR6.below hb7)
  have HS7 := Lib.hid hW7
  have HB7 := Lib.hid (hB6.trans (hb7.mono hB6.size))
  clear hS6 hB6 hR6 hb7 hW7 hok st HK
  have HX : Hid (kOk ⟨t, k, n, bs⟩ = (is && decide (ca ≤ n ∧ n ≤ cb) && decide (cc ≤ (bs.length : Int) ∧ (bs.length : Int) ≤ cd))) := Lib.hid HL.out.2.symm
  have HT : ∀ W, Below w.heap.size w W → Hid (Turned (fun k => k = O) w W) := fun W hb => Lib.hid (Turned.of_below hb _)
  have HPn : nextOk at_ en ⟨t, k, n, bs⟩ = false → ∀ W, Below w.heap.size w W → NextP O b at_ en ⟨t, k, n, bs⟩ w (.panicked (chain 260)) W := fun hn W hb => ⟨Turned.of_below hb _, .inr ⟨hn, rfl⟩⟩
  replace HPn := Lib.hid HPn
  clear HL HT HB
  obtain ⟨q0, q1, q2⟩ := HS7.out.o.cells
  cases is
  · have HN : Hid (nextOk at_ en ⟨t, k, n, bs⟩ = false) := Lib.hid (by unfold nextOk; rw [HX.out]; simp)
    go_wp2_with fail
    refine (must_no 260 _).mono ?_
    rintro e w8 ⟨rfl, rfl⟩
    go_wp2
    exact ⟨rfl, HPn.out HN.out _ HB7.out⟩
  · cases en
    rotate_left
    · have HN : Hid (nextOk at_ true ⟨t, k, n, bs⟩ = false) := Lib.hid (by unfold nextOk; simp)
      go_wp2_with fail
      refine (must_no 260 _).mono ?_
      rintro e w8 ⟨rfl, rfl⟩
      go_wp2
      exact ⟨rfl, HPn.out HN.out _ HB7.out⟩
    · go_wp2_with fail
      refine (must_yes 260 _).mono ?_
      rintro e w8 ⟨rfl, rfl⟩
      have HS8 := Lib.hid (NxS.stb _ _ _ _ _ _ _ _ _ _ _ HS7.out (Below.refl _ _).drew)
      have HB8 := Lib.hid HB7.out.drew
      have HG8 := Lib.hid (HG7.out.drew)
      clear q0 q1 q2 HS7 HB7 HG7
      go_wp2_with fail
      refine Free.any (NxS O b w.heap.size at_ false t k n (.slice bo bs.length bc)) (NxS.stb _ _ _ _ _ _ _ _ _) HS8.out (fun st => ?_)
      refine Free.tk 0 (some 25) ?_ (hy := by intro W hW; go_simp; try with_reducible rfl)
      refine Free.tk 1 (some 26) ?_ (hy := by intro W hW; go_simp; try with_reducible rfl)
      refine Free.tk 2 (some 27) ?_ (hy := by intro W hW; go_simp; try with_reducible rfl)
      refine Free.tk 3 (some 28) ?_ (hy := by intro W hW; obtain ⟨q0, q1, q2⟩ := hW.o.cells; obtain ⟨p0, p1, p2, p3⟩ := hW.cells; go_simp; try with_reducible rfl)
      refine Free.tk 4 (some 29) ?_ (hy := by intro W hW; go_simp; try with_reducible rfl)
      refine Free.tk 5 (some 30) ?_ (hy := by intro W hW; obtain ⟨q0, q1, q2⟩ := hW.o.cells; obtain ⟨p0, p1, p2, p3⟩ := hW.cells; go_simp; try with_reducible rfl)
      by_cases h1 : at_ ≤ t
      · by_cases h2 : t ≤ 4611686018427387904
        · refine Free.tk 6 (some 31) (v := .bool true) ?_ (hy := by intro W hW; go_simp; try with_reducible rfl)
          refine Free.tk 7 (some 32) ?_ (hy := by intro W hW; go_simp; try with_reducible rfl)
          refine Free.tk 8 (some 33) ?_ (hy := by intro W hW; go_simp; try with_reducible rfl)
          refine Free.tk 9 (some 34) ?_ (hy := by intro W hW; obtain ⟨q0, q1, q2⟩ := hW.o.cells; obtain ⟨p0, p1, p2, p3⟩ := hW.cells; go_simp; try with_reducible rfl)
          refine Free.tk 10 (some 35) (v := .bool true) ?_ (hy := by intro W hW; go_simp; try with_reducible rfl)
          refine Free.tk 11 (some 36) (v := .bool true) ?_ (hy := by intro W hW; go_simp; try with_reducible rfl)
          refine Free.one 12 (fun Wa hba hWa => ?_)
          refine o_callb (some 37) (by go_simp; first | exact ⟨rfl, rfl⟩ | rfl) ?_
          refine (must_yes 260 _).mono ?_
          rintro e Wb ⟨rfl, rfl⟩
          refine ⟨_, rfl, hWa, ?_⟩
          refine Free.done (fun Wb hbb hWb => ?_)
          have HS9 := Lib.hid hWb
          have HB9 := Lib.hid (HB8.out.trans ((belT hba hbb).mono HB8.out.size))
          have HG9 := Lib.hid ((HG8.out.below hba).below hbb)
          have HY : Hid (nextOk at_ false ⟨t, k, n, bs⟩ = (decide (ca ≤ n ∧ n ≤ cb) && decide (cc ≤ (bs.length : Int) ∧ (bs.length : Int) ≤ cd))) := Lib.hid (by unfold nextOk; rw [HX.out]; simp [h1, two62, h2])
          clear hba hWa hbb hWb st HS8 HB8 HG8 HX
          obtain ⟨p0, p1, p2, p3⟩ := HS9.out.cells
          have g0 := HG9.out.cell 0
          have g1 := HG9.out.cell 1
          have g2 := HG9.out.cell 2
          have g3 := HG9.out.cell 3
          simp only [List.getElem?_toArray, List.getElem?_cons_zero, List.getElem?_cons_succ] at g0 g1 g2 g3
          go_wp2_with fail
          refine (has_any ca cb n _).mono ?_
          rintro e Wc ⟨rfl, hbc⟩
          have HBc := Lib.hid (HB9.out.trans (hbc.mono HB9.out.size))
          have HSc := Lib.hid (NxS.stb _ _ _ _ _ _ _ _ _ _ _ HS9.out hbc)
          have HGc := Lib.hid (HG9.out.below hbc)
          clear hbc p0 p1 p2 p3 g0 g1 g2 g3 HS9 HB9 HG9
          obtain ⟨p0, p1, p2, p3⟩ := HSc.out.cells
          have g2 := HGc.out.cell 2
          have g3 := HGc.out.cell 3
          simp only [List.getElem?_toArray, List.getElem?_cons_zero, List.getElem?_cons_succ] at g2 g3
          generalize decide (ca ≤ n ∧ n ≤ cb) = d1 at *
          cases d1
          · have HN : Hid (nextOk at_ false ⟨t, k, n, bs⟩ = false) := Lib.hid (by rw [HY.out]; rfl)
            go_wp2_with fail
            refine (must_no 260 _).mono ?_
            rintro e w8 ⟨rfl, rfl⟩
            go_wp2
            exact ⟨rfl, HPn.out HN.out _ HBc.out⟩
          · go_wp2_with fail
            refine (has_any cc cd (bs.length : Int) _).mono ?_
            rintro e Wd ⟨rfl, hbd⟩
            have HBd := Lib.hid (HBc.out.trans (hbd.mono HBc.out.size))
            have HSd := Lib.hid (NxS.stb _ _ _ _ _ _ _ _ _ _ _ HSc.out hbd)
            clear hbd p0 p1 p2 p3 g2 g3 HSc HBc HGc
            generalize decide (cc ≤ (bs.length : Int) ∧ (bs.length : Int) ≤ cd) = d2 at *
            cases d2
            · have HN : Hid (nextOk at_ false ⟨t, k, n, bs⟩ = false) := Lib.hid (by rw [HY.out]; rfl)
              go_wp2_with fail
              refine (must_no 260 _).mono ?_
              rintro e w8 ⟨rfl, rfl⟩
              go_wp2
              exact ⟨rfl, HPn.out HN.out _ HBd.out⟩
            · have HN : Hid (nextOk at_ false ⟨t, k, n, bs⟩ = true) := Lib.hid (by rw [HY.out]; rfl)
              go_wp2_with fail
              refine (must_yes 260 _).mono ?_
              rintro e w8 ⟨rfl, rfl⟩
              have HSe := Lib.hid (NxS.stb _ _ _ _ _ _ _ _ _ _ _ HSd.out (Below.refl _ _).drew)
              have HBe := Lib.hid HBd.out.drew
              have HO := Lib.hid (And.intro HSd.out.o.1.lt (And.intro HSd.out.o.2.lt HSd.out.o.ne))
              clear HSd HBd
              go_wp2_with fail
              refine Free.any (fun W => Blk W w.heap.size #[.int .i64 t, .int .i64 k, .int .i64 n, .slice bo bs.length bc] 42) (fun _ _ h hb => h.below hb) HSe.out.r (fun st => ?_)
              refine Free.tk 0 (some 52) ?_ (hy := by intro W hW; go_simp; try with_reducible rfl)
              refine Free.tk 1 (some 53) ?_ (hy := by intro W hW; go_simp; try with_reducible rfl)
              refine Free.tk 2 (some 54) ?_ (hy := by intro W hW; go_simp; try with_reducible rfl)
              refine Free.tk 3 (some 55) ?_ (hy := by intro W hW; have p0 := hW.cell 0; have p1 := hW.cell 1; simp only [List.getElem?_toArray, List.getElem?_cons_zero, List.getElem?_cons_succ] at p0 p1; go_simp; try with_reducible rfl)
              refine Free.tk 4 (some 56) ?_ (hy := by intro W hW; go_simp; try with_reducible rfl)
              refine Free.tk 5 (some 57) ?_ (hy := by intro W hW; have p0 := hW.cell 0; have p1 := hW.cell 1; simp only [List.getElem?_toArray, List.getElem?_cons_zero, List.getElem?_cons_succ] at p0 p1; go_simp; try with_reducible rfl)
              refine Free.tk 6 (some 58) (v := .bool (k == 8)) ?_ (hy := by intro W hW; go_simp; try with_reducible rfl)
              refine Free.tk 7 (some 59) ?_ (hy := by intro W hW; go_simp; try with_reducible rfl)
              refine Free.tk 8 (some 60) ?_ (hy := by intro W hW; go_simp; try with_reducible rfl)
              refine Free.one 9 (fun Wa hba hWa => ?_)
              have hOa := HSe.out.o.below hba
              obtain ⟨q0, q1, q2⟩ := hOa.cells
              have z1 := hOa.1.frozen 1
              have hTa := (Turned.refl (fun k => k = O) Wa).setCell (p := ⟨O, 1, none⟩) (.inl rfl) (.int .i64 t)
              have hBa := hOa.1.setCell 1 (.int .i64 t)
              have hMa := Turned.map hTa hOa.2 (fun e => HO.out.2.2 e)
              have hRa := hWa.turned hTa (by have := HO.out.1; intro e; have e2 := e; rw [← e2] at hOa; have := hOa.1.symm.trans hWa; simp at this)
              refine o_skip (d := none) rfl (Wa.setCell ⟨O, 1, none⟩ (.int .i64 t)) (by go_simp; try rfl) ⟨hRa, ?_⟩
              have hTT := (Turned.of_below (HBe.out.trans (hba.mono HBe.out.size)) (fun k => k = O)).trans hTa (fun k hk => .inl hk)
              clear q0 q1 q2 z1 hOa hWa hba
              generalize Wa.setCell ⟨O, 1, none⟩ (.int .i64 t) = Wb at *
              simp only [List.setIfInBounds_toArray, List.set_cons_zero, List.set_cons_succ] at hBa
              refine Free.tk 10 (some 61) ?_ (hy := by intro W hW; go_simp; try with_reducible rfl)
              refine Free.tk 11 (some 62) ?_ (hy := by intro W hW; go_simp; try with_reducible rfl)
              refine Free.one 12 (fun Wc hbc hWc => ?_)
              have hOc := hBa.below hbc
              have q2 := hOc.cell 2
              have z2 := hOc.frozen 2
              simp only [List.getElem?_toArray, List.getElem?_cons_zero, List.getElem?_cons_succ] at q2
              have hTc := (Turned.refl (fun k => k = O) Wc).setCell (p := ⟨O, 2, none⟩) (.inl rfl) (.bool (k == 8))
              have hBc := hOc.setCell 2 (.bool (k == 8))
              have hMc := Turned.map ((Turned.of_below hbc (fun k => k = O)).trans hTc (fun k hk => .inl hk)) hMa (fun e => HO.out.2.2 e)
              have hRc := hWc.turned hTc (by intro e; rw [← e] at hOc; have := hOc.symm.trans hWc; simp at this)
              refine o_skip (d := none) rfl (Wc.setCell ⟨O, 2, none⟩ (.bool (k == 8))) (by go_simp; try rfl) ⟨hRc, ?_⟩
              have hTU := (hTT.trans (Turned.of_below hbc (fun k => k = O)) (fun k hk => .inl hk)).trans hTc (fun k hk => .inl hk)
              clear q2 z2 hOc hWc hbc
              generalize Wc.setCell ⟨O, 2, none⟩ (.bool (k == 8)) = Wd2 at *
              simp only [List.setIfInBounds_toArray, List.set_cons_zero, List.set_cons_succ] at hBc
              refine Free.done (fun We hbe hWe => ?_)
              have HE : Hid (NextP O b at_ false ⟨t, k, n, bs⟩ w (.returned (.tuple #[])) We) := by
                refine ⟨hTU.trans (Turned.of_below hbe (fun k => k = O)) (fun k hk => .inl hk), .inl ⟨HN.out, rfl, hBc.below hbe, ?_⟩⟩
                exact Turned.map (Turned.of_below hbe (fun _ => False)) hMc (fun e => e)
              clear hTU hTT hbe hBc hMc hBa hMa hRa hRc hTa hTc HSe HBe
              go_wp2
              go_end0
              exact HE.out
        · have HN : Hid (nextOk at_ false ⟨t, k, n, bs⟩ = false) := Lib.hid (by unfold nextOk; simp [h1, two62, h2])
          have h2d : decide (t ≤ 4611686018427387904) = false := by simpa using h2
          refine Free.tk 6 (some 31) (v := .bool true) ?_ (hy := by intro W hW; go_simp; try with_reducible rfl)
          refine Free.tk 7 (some 32) ?_ (hy := by intro W hW; go_simp; try with_reducible rfl)
          refine Free.tk 8 (some 33) ?_ (hy := by intro W hW; go_simp; try with_reducible rfl)
          refine Free.tk 9 (some 34) ?_ (hy := by intro W hW; obtain ⟨q0, q1, q2⟩ := hW.o.cells; obtain ⟨p0, p1, p2, p3⟩ := hW.cells; go_simp; try with_reducible rfl)
          refine Free.tk 10 (some 35) (v := .bool false) ?_ (hy := by intro W hW; go_simp; try with_reducible rfl)
          refine Free.tk 11 (some 36) (v := .bool false) ?_ (hy := by intro W hW; go_simp; try with_reducible rfl)
          refine Free.one 12 (fun Wa hba hWa => ?_)
          refine o_callp (by go_simp; first | exact ⟨rfl, rfl⟩ | rfl) ?_
          refine (must_no 260 _).mono ?_
          rintro e Wb ⟨rfl, rfl⟩
          exact ⟨_, rfl, rfl, HPn.out HN.out _ (HB8.out.trans (hba.mono HB8.out.size))⟩
      · have HN : Hid (nextOk at_ false ⟨t, k, n, bs⟩ = false) := Lib.hid (by unfold nextOk; simp [h1])
        have h1d : decide (at_ ≤ t) = false := by simpa using h1
        refine Free.tk 6 (some 31) (v := .bool false) ?_ (hy := by intro W hW; go_simp; try with_reducible rfl)
        refine Free.tk 7 (some 32) ?_ (hy := by intro W hW; go_simp; try with_reducible rfl)
        refine Free.sk 8 (some 33) ?_
        refine Free.sk 9 (some 34) ?_
        refine Free.sk 10 (some 35) ?_
        refine Free.tk 11 (some 36) (v := .bool false) ?_ (hy := by intro W hW; go_simp; try with_reducible rfl)
        refine Free.one 12 (fun Wa hba hWa => ?_)
        refine o_callp (by go_simp; first | exact ⟨rfl, rfl⟩ | rfl) ?_
        refine (must_no 260 _).mono ?_
        rintro e Wb ⟨rfl, rfl⟩
        exact ⟨_, rfl, rfl, HPn.out HN.out _ (HB8.out.trans (hba.mono HB8.out.size))⟩

end Go.Proofs.Ytjffclcjijpmiaa.LG
