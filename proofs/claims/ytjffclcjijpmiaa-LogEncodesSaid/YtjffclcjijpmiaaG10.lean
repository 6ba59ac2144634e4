/-
  Layer 16: bytes as a string; are two records the same, by the document: walk. Layer 16: are two logs the same, by the document: walk.
-/
import Derived.Test.YtjffclcjijpmiaaG07
import Derived.Laws.BytesArg
import Derived.Laws.BytesString
import Derived.Test.YtjffclcjijpmiaaG03
set_option linter.unusedVariables false
set_option linter.unusedSimpArgs false
namespace Go.Proofs.Ytjffclcjijpmiaa.LG
open Go.RowKit
set_option maxHeartbeats 4000000
set_option maxRecDepth 100000
set_option linter.unusedVariables false
set_option linter.unusedSimpArgs false

theorem toList_strOf (xs : List Int) : (strOfNums xs).toList = xs.map fun n => UInt8.ofNat n.toNat := by
  rw [ByteArray.toList_eq]; rfl
theorem u8_inj {x y : Int} (hx : 0 ≤ x ∧ x < 256) (hy : 0 ≤ y ∧ y < 256) (h : UInt8.ofNat x.toNat = UInt8.ofNat y.toNat) : x = y := by
  have := congrArg UInt8.toNat h
  simp at this
  omega
theorem strOf_inj : ∀ {xs ys : List Int}, By8 xs → By8 ys → (xs.map fun n => UInt8.ofNat n.toNat) = (ys.map fun n => UInt8.ofNat n.toNat) → xs = ys
  | [], [], _, _, _ => rfl
  | [], _ :: _, _, _, h => by simp at h
  | _ :: _, [], _, _, h => by simp at h
  | x :: xs, y :: ys, hx, hy, h => by
    simp only [List.map_cons, List.cons.injEq] at h
    rw [u8_inj (hx x (by simp)) (hy y (by simp)) h.1, strOf_inj (fun z hz => hx z (by simp [hz])) (fun z hz => hy z (by simp [hz])) h.2]
theorem str_eq {xs ys : List Int} (hx : By8 xs) (hy : By8 ys) : ((strOfNums xs).toList == (strOfNums ys).toList) = decide (xs = ys) := by
  rw [toList_strOf, toList_strOf]
  by_cases h : xs = ys
  · subst h; simp
  · simp [h]
    intro e
    exact h (strOf_inj hx hy (by simpa using e))
theorem str_conv {w : World} {v : Value} {xs : List Int} (h : Bs w v xs) : (convert 34 9 v).run Try.prog w = .ok (.string (strOfNums xs)) w := by
  obtain ⟨h0, ao, c, rfl, h2, h3, h4⟩ := h.1
  rcases Nat.eq_zero_or_pos xs.length with e0 | e0
  · have : xs = [] := List.eq_nil_of_length_eq_zero e0
    subst this
    cases ao with
    | none =>
      rw [show (Value.slice none ([] : List Int).length c) = .slice none 0 c from rfl, run_convert_bytes_nil w 34 5 Try.underlying34 Try.underlying5 0 c 9 Try.underlying9]
      rfl
    | some a =>
      have hl : (loadCells a 0).run Try.prog w = .ok (([] : List Int).map (Value.int .u8)).toArray w := by
        simpa using run_loadCells_list (P := Try.prog) w a [] (fun j v hj => by simp at hj)
      rw [show (Value.slice (some a) ([] : List Int).length c) = .slice (some a) 0 c from rfl, run_convert_bytes_string w 34 9 5 _ 0 c Try.underlying34 Try.underlying5 Try.underlying9, run_bytesToString w _ 0 c [] hl]
      rfl
  · obtain ⟨g, o, rfl, hr⟩ := h4 e0
    have hl : (loadCells ⟨g, o, none⟩ xs.length).run Try.prog w = .ok (xs.map (Value.int .u8)).toArray w := by
      have := run_loadCells_list (P := Try.prog) w ⟨g, o, none⟩ (xs.map (Value.int .u8)) (fun j v hj => by rw [add_lit]; exact hr j v hj)
      simpa using this
    rw [run_convert_bytes_string w 34 9 5 _ xs.length c Try.underlying34 Try.underlying5 Try.underlying9, run_bytesToString w _ xs.length c xs hl, foldl_push_bytes]
    simp [strOfNums, ByteArray.empty, ByteArray.emptyWithCapacity]
    rfl
theorem SameRec_any {w : World} {a b : Rc} {av bv : Value} (ha : Bs w av a.bs) (hb : Bs w bv b.bs) : Calls Try.prog 23 #[.agg #[.int .i64 a.tm, .int .i64 a.kind, .int .i64 a.n, av], .agg #[.int .i64 b.tm, .int .i64 b.kind, .int .i64 b.n, bv]] w fun e w' => e = .returned (.bool (decide (a = b))) ∧ Below w.heap.size w w' := by
  obtain ⟨rr, hrr⟩ : ∃ rr, Hid (rr = decide (a = b)) := ⟨_, Lib.hid rfl⟩
  rw [← hrr.out]
  obtain ⟨t1, k1, n1, bs1⟩ := a
  obtain ⟨t2, k2, n2, bs2⟩ := b
  have hb2 := belT (bel1 w (.cells #[.int .i64 t1, .int .i64 k1, .int .i64 n1, av] 42)) (bel1 _ (.cells #[.int .i64 t2, .int .i64 k2, .int .i64 n2, bv] 42))
  have q1 := str_conv (ha.below hb2)
  have q2 := str_conv (hb.below hb2)
  have HSE := str_eq ha.2 hb.2
  have o1 := ha.1.one
  have o2 := hb.1.one
  have HB := Lib.hid hb2
  have e0 : Hid (rr = (decide (t1 = t2) && decide (k1 = k2) && decide (n1 = n2) && decide (bs1 = bs2))) := Lib.hid (by
    rw [hrr.out]
    by_cases x1 : t1 = t2 <;> by_cases x2 : k1 = k2 <;> by_cases x3 : n1 = n2 <;> by_cases x4 : bs1 = bs2 <;> simp [x1, x2, x3, x4])
  obtain ⟨ao, ca, rfl, _, _⟩ := ha.shape
  obtain ⟨bo, cb, rfl, _, _⟩ := hb.shape
  simp only at q1 q2 HSE
  generalize hs1 : strOfNums bs1 = s1 at *
  generalize hs2 : strOfNums bs2 = s2 at *
  clear ha hb hb2
  by_cases x1 : t1 = t2
  · subst x1
    by_cases x2 : k1 = k2
    · subst x2
      by_cases x3 : n1 = n2
      · subst x3
        cases x4 : decide (bs1 = bs2) with
        | true =>
          rw [x4] at HSE
          have e : Hid (rr = true) := Lib.hid (by rw [e0.out, x4]; simp)
          go_enter Try.func23, Try.ntmps23
          go_wp2
          go_ret
          exact ⟨by rw [e.out]; rfl, HB.out⟩
        | false =>
          rw [x4] at HSE
          have e : Hid (rr = false) := Lib.hid (by rw [e0.out, x4]; simp)
          go_enter Try.func23, Try.ntmps23
          go_wp2
          go_ret
          exact ⟨by rw [e.out]; rfl, HB.out⟩
      · have e : Hid (rr = false) := Lib.hid (by rw [e0.out]; simp [x3])
        go_enter Try.func23, Try.ntmps23
        go_wp2
        go_ret
        exact ⟨by rw [e.out]; rfl, HB.out⟩
    · have e : Hid (rr = false) := Lib.hid (by rw [e0.out]; simp [x2])
      go_enter Try.func23, Try.ntmps23
      go_wp2
      go_ret
      exact ⟨by rw [e.out]; rfl, HB.out⟩
  · have e : Hid (rr = false) := Lib.hid (by rw [e0.out]; simp [x1])
    go_enter Try.func23, Try.ntmps23
    go_wp2
    go_ret
    exact ⟨by rw [e.out]; rfl, HB.out⟩
end Go.Proofs.Ytjffclcjijpmiaa.LG
namespace Go.Proofs.Ytjffclcjijpmiaa.LG
open Go.RowKit
set_option maxHeartbeats 4000000
set_option maxRecDepth 100000
set_option linter.unusedVariables false
set_option linter.unusedSimpArgs false

theorem eq_form (a b c d : Int) (w : World) : (Op.equalIn 10000 23 (.agg #[.int .i64 a, .int .i64 b]) (.agg #[.int .i64 c, .int .i64 d])).run Try.prog w = .ok (decide (a = c ∧ b = d)) w := by
  rw [run_equalIn_struct w 9999 23 _ _ (by kernel_rfl) (by kernel_rfl)]
  simp only [Program.fieldsOf, Try.underlying23]
  go_simp
  by_cases h1 : a = c <;> by_cases h2 : b = d <;> simp [h1, h2]
theorem neq_form (a b c d : Int) (w : World) : (binOp .neq 23 (.agg #[.int .i64 a, .int .i64 b]) (.agg #[.int .i64 c, .int .i64 d])).run Try.prog w = .ok (.bool (!decide (a = c ∧ b = d))) w := by
  simp [binOp, Op.equal, Op.maxDepth, eq_form a b c d w, Result.andThen]
/-- Two logs' boxes and a record of each, in a later world. -/
structure SmS (R S : Nat) (u v : Value) (g o g' o' : Nat) (x y : Rc) (av bv : Value) (W : World) : Prop where
  u : W.cell? ⟨R, 3, none⟩ = some u
  v : W.cell? ⟨S, 3, none⟩ = some v
  a0 : W.cell? ⟨g, o, none⟩ = some (.int .i64 x.tm)
  a1 : W.cell? ⟨g, o + 1, none⟩ = some (.int .i64 x.kind)
  a2 : W.cell? ⟨g, o + 2, none⟩ = some (.int .i64 x.n)
  a3 : W.cell? ⟨g, o + 3, none⟩ = some av
  b0 : W.cell? ⟨g', o', none⟩ = some (.int .i64 y.tm)
  b1 : W.cell? ⟨g', o' + 1, none⟩ = some (.int .i64 y.kind)
  b2 : W.cell? ⟨g', o' + 2, none⟩ = some (.int .i64 y.n)
  b3 : W.cell? ⟨g', o' + 3, none⟩ = some bv
  p : Bs W av x.bs
  q : Bs W bv y.bs
theorem SmS.stb (R S : Nat) (u v : Value) (g o g' o' : Nat) (x y : Rc) (av bv : Value) : Free.Stb (SmS R S u v g o g' o' x y av bv) := fun W W' h hb => ⟨cell_below h.u hb, cell_below h.v hb, cell_below h.a0 hb, cell_below h.a1 hb, cell_below h.a2 hb, cell_below h.a3 hb, cell_below h.b0 hb, cell_below h.b1 hb, cell_below h.b2 hb, cell_below h.b3 hb, h.p.below hb, h.q.below hb⟩
theorem take_ne {l m : List Rc} {k : Nat} {x y : Rc} (h : l[k]? = some x) (h' : m[k]? = some y) (hn : x ≠ y) : l ≠ m := by
  rintro rfl
  rw [h] at h'
  exact hn (Option.some.inj h')
theorem take_eq {l m : List Rc} {k : Nat} {x : Rc} (h : l[k]? = some x) (h' : m[k]? = some x) (ht : l.take k = m.take k) : l.take (k + 1) = m.take (k + 1) := by
  rw [List.take_add_one, List.take_add_one, h, h', ht]
theorem Same_any {w : World} {l m : Lg} {lv mv : Value} (hl : LgIn w lv l) (hm : LgIn w mv m) : Calls Try.prog 15 #[.agg (lgc l lv), .agg (lgc m mv)] w fun e w' => e = .returned (.bool (decide (l = m))) ∧ Below w.heap.size w w' := by
  obtain ⟨rr, hrr⟩ : ∃ rr, Hid (rr = decide (l = m)) := ⟨_, Lib.hid rfl⟩
  rw [← hrr.out]
  obtain ⟨fr, se, mo, rs, wh, en⟩ := l
  obtain ⟨fr', se', mo', ms, wh', en'⟩ := m
  have HA := Lib.hid (fun W (hb : Below w.heap.size w W) => (show RsIn W lv rs from hl.r.below hb))
  have HA' := Lib.hid (fun W (hb : Below w.heap.size w W) => (show RsIn W mv ms from hm.r.below hb))
  obtain ⟨ao, ca, rfl, _, hla⟩ := hl.r.shape
  obtain ⟨bo, cb, rfl, _, hlb⟩ := hm.r.shape
  unfold maxLen at hla hlb
  simp only at hla hlb
  have e0 : Hid (rr = (decide (fr = fr' ∧ se = se') && decide (mo = mo') && decide (wh = wh') && decide (en = en') && decide (rs = ms))) := Lib.hid (by
    rw [hrr.out]
    by_cases x1 : fr = fr' <;> by_cases x2 : se = se' <;> by_cases x3 : mo = mo' <;> by_cases x4 : wh = wh' <;> by_cases x5 : en = en' <;> by_cases x6 : rs = ms <;> simp [x1, x2, x3, x4, x5, x6])
  have hnf := neq_form fr se fr' se'
  have hb2 := belT (bel1 w (.cells #[.int .i64 fr, .int .i64 se, .int .i64 mo, .slice ao rs.length ca, .bool wh, .int .i64 en] 26)) (bel1 _ (.cells #[.int .i64 fr', .int .i64 se', .int .i64 mo', .slice bo ms.length cb, .bool wh', .int .i64 en'] 26))
  have HB := Lib.hid hb2
  have y3 := (((blk_new w #[.int .i64 fr, .int .i64 se, .int .i64 mo, .slice ao rs.length ca, .bool wh, .int .i64 en] 26).below (bel1 _ (.cells #[.int .i64 fr', .int .i64 se', .int .i64 mo', .slice bo ms.length cb, .bool wh', .int .i64 en'] 26))).cell 3)
  have z3 := ((blk_new (w.alloc (.cells #[.int .i64 fr, .int .i64 se, .int .i64 mo, .slice ao rs.length ca, .bool wh, .int .i64 en] 26)) #[.int .i64 fr', .int .i64 se', .int .i64 mo', .slice bo ms.length cb, .bool wh', .int .i64 en'] 26).cell 3)
  simp only [List.getElem?_toArray, List.getElem?_cons_zero, List.getElem?_cons_succ, World.size_alloc] at y3 z3
  have Y3 := Lib.hid y3
  have Z3 := Lib.hid z3
  simp only [lgc]
  clear hl hm hb2 y3 z3 hrr
  cases x1 : decide (fr = fr' ∧ se = se') with
  | false =>
    have e : Hid (rr = false) := Lib.hid (by rw [e0.out, x1]; simp)
    rw [x1] at hnf
    simp only [Bool.not_false] at hnf
    go_enter Try.func15, Try.ntmps15
    go_wp2
    go_ret
    exact ⟨by rw [e.out]; rfl, HB.out⟩
  | true =>
    rw [x1] at hnf
    simp only [Bool.not_true] at hnf
    by_cases x2 : mo = mo'
    · subst x2
      by_cases x3 : wh = wh'
      · subst x3
        by_cases x4 : en = en'
        · subst x4
          have e1 : Hid (rr = decide (rs = ms)) := Lib.hid (by rw [e0.out, x1]; simp)
          by_cases x5 : rs.length = ms.length
          · rw [x5] at HB Y3 Z3 HA ⊢
            have X5 := Lib.hid x5
            clear x5
            cases wh with
            | false =>
              go_enter Try.func15, Try.ntmps15
              go_wp2
              generalize (w.alloc (.cells #[.int .i64 fr, .int .i64 se, .int .i64 mo, .slice ao ms.length ca, .bool false, .int .i64 en] 26)).alloc (.cells #[.int .i64 fr', .int .i64 se', .int .i64 mo, .slice bo ms.length cb, .bool false, .int .i64 en] 26) = W1 at *
              go_loopw [5] (fun iv wr => ∃ (k : Nat), k ≤ ms.length ∧ iv = .int .i64 (k : Int) ∧ Hid (Below W1.heap.size W1 wr) ∧ Hid (rs.take k = ms.take k)) (fun iv _ => ms.length + 1 - (intOf iv).toNat)
              case atStart => exact ⟨0, by omega, rfl, Below.refl _ _, rfl⟩
              case round =>
                obtain ⟨k, hk, rfl, HK, HT⟩ := hrel
                have c3 := cell_below Y3.out HK.out
                have d3 := cell_below Z3.out HK.out
                have HBk := Lib.hid (belT HB.out HK.out)
                by_cases hlt : k < ms.length
                · have hi : (k : Int) < (ms.length : Int) := by omega
                  obtain ⟨g1, p1, cc1, x, av, eA, l1, _, hxb, q⟩ := (HA.out _ HBk.out).at_ (show k < rs.length by have h5 := X5.out; omega)
                  obtain ⟨g2, p2, cc2, y, bv, e2, l2, _, hyb, q'⟩ := (HA'.out _ HBk.out).at_ (show k < ms.length by omega)
                  simp only [Value.slice.injEq] at eA e2
                  obtain ⟨rfl, _, rfl⟩ := eA
                  obtain ⟨rfl, _, rfl⟩ := e2
                  obtain ⟨a0, a1, a2, a3⟩ := rng4 q
                  obtain ⟨b0, b1, b2, b3⟩ := rng4 q'
                  have HS : Hid (SmS w.heap.size (w.heap.size + 1) (.slice (some ⟨g1, p1, none⟩) ms.length ca) (.slice (some ⟨g2, p2, none⟩) ms.length cb) g1 (p1 + k * 4) g2 (p2 + k * 4) x y av bv wr.drew) := Lib.hid (SmS.stb _ _ _ _ _ _ _ _ _ _ _ _ _ _ ⟨c3, d3, a0, a1, a2, a3, b0, b1, b2, b3, hxb, hyb⟩ (Below.refl _ _).drew)
                  have HNe := Lib.hid (take_ne l1 l2)
                  have HEq := Lib.hid (fun (e : x = y) => take_eq l1 (by rw [l2, e]) HT.out)
                  clear l1 l2 hxb hyb q q' a0 a1 a2 a3 b0 b1 b2 b3
                  go_wp2_with fail
                  refine Free.any (SmS w.heap.size (w.heap.size + 1) (.slice (some ⟨g1, p1, none⟩) ms.length ca) (.slice (some ⟨g2, p2, none⟩) ms.length cb) g1 (p1 + k * 4) g2 (p2 + k * 4) x y av bv) (SmS.stb _ _ _ _ _ _ _ _ _ _ _ _) HS.out (fun st => ?_)
                  refine Free.tk 0 (some 48) (v := .pointer (some ⟨w.heap.size, 3, none⟩)) ?_ (hy := by intro W hW; go_simp; try with_reducible rfl)
                  refine Free.tk 1 (some 49) (v := .slice (some ⟨g1, p1, none⟩) ms.length ca) ?_ (hy := by intro W hW; have c0 := hW.u; go_simp; try with_reducible rfl)
                  refine Free.tk 2 (some 50) (v := .int .i64 (k : Int)) ?_ (hy := by intro W hW; go_simp; try with_reducible rfl)
                  refine Free.tk 3 (some 51) (v := .pointer (some ⟨g1, p1 + k * 4, none⟩)) ?_ (hy := by intro W hW; go_simp; try with_reducible rfl)
                  refine Free.tk 4 (some 52) (v := .agg #[.int .i64 x.tm, .int .i64 x.kind, .int .i64 x.n, av]) ?_ (hy := by intro W hW; have c0 := hW.a0; have c1 := hW.a1; have c2 := hW.a2; have c3 := hW.a3; go_simp; try with_reducible rfl)
                  refine Free.tk 5 (some 53) (v := .pointer (some ⟨w.heap.size + 1, 3, none⟩)) ?_ (hy := by intro W hW; go_simp; try with_reducible rfl)
                  refine Free.tk 6 (some 54) (v := .slice (some ⟨g2, p2, none⟩) ms.length cb) ?_ (hy := by intro W hW; have c0 := hW.v; go_simp; try with_reducible rfl)
                  refine Free.tk 7 (some 55) (v := .int .i64 (k : Int)) ?_ (hy := by intro W hW; go_simp; try with_reducible rfl)
                  refine Free.tk 8 (some 56) (v := .pointer (some ⟨g2, p2 + k * 4, none⟩)) ?_ (hy := by intro W hW; go_simp; try with_reducible rfl)
                  refine Free.tk 9 (some 57) (v := .agg #[.int .i64 y.tm, .int .i64 y.kind, .int .i64 y.n, bv]) ?_ (hy := by intro W hW; have c0 := hW.b0; have c1 := hW.b1; have c2 := hW.b2; have c3 := hW.b3; go_simp; try with_reducible rfl)
                  refine Free.cl 10 (some 58) (v := .bool (decide (x = y))) st (fun W hW => SameRec_any hW.p hW.q) ?_ (hy := by intro W; go_simp; try with_reducible rfl)
                  refine Free.tk 11 (some 59) (v := .bool (!decide (x = y))) ?_ (hy := by intro W hW; go_simp; try with_reducible rfl)
                  refine Free.done (fun W5 hb5 hW5 => ?_)
                  have HK5 := Lib.hid (belT HK.out ((Below.refl _ _).drew.trans hb5))
                  clear hb5 hW5 st HS c3 d3
                  cases hxy : decide (x = y) with
                  | true =>
                    have HT5 := Lib.hid (HEq.out (of_decide_eq_true hxy))
                    go_wp2
                    exact ⟨⟨k + 1, by omega, by first | rfl | go_num, HK5, HT5⟩, by simp [intOf]; omega⟩
                  | false =>
                    have e : Hid (rr = false) := Lib.hid (by rw [e1.out]; exact decide_eq_false (HNe.out (of_decide_eq_false hxy)))
                    go_wp2
                    go_ret
                    exact ⟨by rw [e.out]; rfl, belT HB.out HK5.out⟩
                · obtain rfl : k = ms.length := by omega
                  have e : Hid (rr = true) := Lib.hid (by
                    rw [e1.out]
                    have h := HT.out
                    rw [List.take_length, ← X5.out, List.take_length] at h
                    exact decide_eq_true h)
                  go_wp2
                  go_ret
                  exact ⟨by rw [e.out]; rfl, HBk.out⟩
            | true =>
              go_enter Try.func15, Try.ntmps15
              go_wp2
              generalize (w.alloc (.cells #[.int .i64 fr, .int .i64 se, .int .i64 mo, .slice ao ms.length ca, .bool true, .int .i64 en] 26)).alloc (.cells #[.int .i64 fr', .int .i64 se', .int .i64 mo, .slice bo ms.length cb, .bool true, .int .i64 en] 26) = W1 at *
              go_loopw [5] (fun iv wr => ∃ (k : Nat), k ≤ ms.length ∧ iv = .int .i64 (k : Int) ∧ Hid (Below W1.heap.size W1 wr) ∧ Hid (rs.take k = ms.take k)) (fun iv _ => ms.length + 1 - (intOf iv).toNat)
              case atStart => exact ⟨0, by omega, rfl, Below.refl _ _, rfl⟩
              case round =>
                obtain ⟨k, hk, rfl, HK, HT⟩ := hrel
                have c3 := cell_below Y3.out HK.out
                have d3 := cell_below Z3.out HK.out
                have HBk := Lib.hid (belT HB.out HK.out)
                by_cases hlt : k < ms.length
                · have hi : (k : Int) < (ms.length : Int) := by omega
                  obtain ⟨g1, p1, cc1, x, av, eA, l1, _, hxb, q⟩ := (HA.out _ HBk.out).at_ (show k < rs.length by have h5 := X5.out; omega)
                  obtain ⟨g2, p2, cc2, y, bv, e2, l2, _, hyb, q'⟩ := (HA'.out _ HBk.out).at_ (show k < ms.length by omega)
                  simp only [Value.slice.injEq] at eA e2
                  obtain ⟨rfl, _, rfl⟩ := eA
                  obtain ⟨rfl, _, rfl⟩ := e2
                  obtain ⟨a0, a1, a2, a3⟩ := rng4 q
                  obtain ⟨b0, b1, b2, b3⟩ := rng4 q'
                  have HS : Hid (SmS w.heap.size (w.heap.size + 1) (.slice (some ⟨g1, p1, none⟩) ms.length ca) (.slice (some ⟨g2, p2, none⟩) ms.length cb) g1 (p1 + k * 4) g2 (p2 + k * 4) x y av bv wr.drew) := Lib.hid (SmS.stb _ _ _ _ _ _ _ _ _ _ _ _ _ _ ⟨c3, d3, a0, a1, a2, a3, b0, b1, b2, b3, hxb, hyb⟩ (Below.refl _ _).drew)
                  have HNe := Lib.hid (take_ne l1 l2)
                  have HEq := Lib.hid (fun (e : x = y) => take_eq l1 (by rw [l2, e]) HT.out)
                  clear l1 l2 hxb hyb q q' a0 a1 a2 a3 b0 b1 b2 b3
                  go_wp2_with fail
                  refine Free.any (SmS w.heap.size (w.heap.size + 1) (.slice (some ⟨g1, p1, none⟩) ms.length ca) (.slice (some ⟨g2, p2, none⟩) ms.length cb) g1 (p1 + k * 4) g2 (p2 + k * 4) x y av bv) (SmS.stb _ _ _ _ _ _ _ _ _ _ _ _) HS.out (fun st => ?_)
                  refine Free.tk 0 (some 48) (v := .pointer (some ⟨w.heap.size, 3, none⟩)) ?_ (hy := by intro W hW; go_simp; try with_reducible rfl)
                  refine Free.tk 1 (some 49) (v := .slice (some ⟨g1, p1, none⟩) ms.length ca) ?_ (hy := by intro W hW; have c0 := hW.u; go_simp; try with_reducible rfl)
                  refine Free.tk 2 (some 50) (v := .int .i64 (k : Int)) ?_ (hy := by intro W hW; go_simp; try with_reducible rfl)
                  refine Free.tk 3 (some 51) (v := .pointer (some ⟨g1, p1 + k * 4, none⟩)) ?_ (hy := by intro W hW; go_simp; try with_reducible rfl)
                  refine Free.tk 4 (some 52) (v := .agg #[.int .i64 x.tm, .int .i64 x.kind, .int .i64 x.n, av]) ?_ (hy := by intro W hW; have c0 := hW.a0; have c1 := hW.a1; have c2 := hW.a2; have c3 := hW.a3; go_simp; try with_reducible rfl)
                  refine Free.tk 5 (some 53) (v := .pointer (some ⟨w.heap.size + 1, 3, none⟩)) ?_ (hy := by intro W hW; go_simp; try with_reducible rfl)
                  refine Free.tk 6 (some 54) (v := .slice (some ⟨g2, p2, none⟩) ms.length cb) ?_ (hy := by intro W hW; have c0 := hW.v; go_simp; try with_reducible rfl)
                  refine Free.tk 7 (some 55) (v := .int .i64 (k : Int)) ?_ (hy := by intro W hW; go_simp; try with_reducible rfl)
                  refine Free.tk 8 (some 56) (v := .pointer (some ⟨g2, p2 + k * 4, none⟩)) ?_ (hy := by intro W hW; go_simp; try with_reducible rfl)
                  refine Free.tk 9 (some 57) (v := .agg #[.int .i64 y.tm, .int .i64 y.kind, .int .i64 y.n, bv]) ?_ (hy := by intro W hW; have c0 := hW.b0; have c1 := hW.b1; have c2 := hW.b2; have c3 := hW.b3; go_simp; try with_reducible rfl)
                  refine Free.cl 10 (some 58) (v := .bool (decide (x = y))) st (fun W hW => SameRec_any hW.p hW.q) ?_ (hy := by intro W; go_simp; try with_reducible rfl)
                  refine Free.tk 11 (some 59) (v := .bool (!decide (x = y))) ?_ (hy := by intro W hW; go_simp; try with_reducible rfl)
                  refine Free.done (fun W5 hb5 hW5 => ?_)
                  have HK5 := Lib.hid (belT HK.out ((Below.refl _ _).drew.trans hb5))
                  clear hb5 hW5 st HS c3 d3
                  cases hxy : decide (x = y) with
                  | true =>
                    have HT5 := Lib.hid (HEq.out (of_decide_eq_true hxy))
                    go_wp2
                    exact ⟨⟨k + 1, by omega, by first | rfl | go_num, HK5, HT5⟩, by simp [intOf]; omega⟩
                  | false =>
                    have e : Hid (rr = false) := Lib.hid (by rw [e1.out]; exact decide_eq_false (HNe.out (of_decide_eq_false hxy)))
                    go_wp2
                    go_ret
                    exact ⟨by rw [e.out]; rfl, belT HB.out HK5.out⟩
                · obtain rfl : k = ms.length := by omega
                  have e : Hid (rr = true) := Lib.hid (by
                    rw [e1.out]
                    have h := HT.out
                    rw [List.take_length, ← X5.out, List.take_length] at h
                    exact decide_eq_true h)
                  go_wp2
                  go_ret
                  exact ⟨by rw [e.out]; rfl, HBk.out⟩
          · have e : Hid (rr = false) := Lib.hid (by rw [e1.out]; exact decide_eq_false (fun h => x5 (by rw [h])))
            have hx5 : ¬ (rs.length : Int) = (ms.length : Int) := by omega
            cases wh <;>
            · go_enter Try.func15, Try.ntmps15
              go_wp2
              go_ret
              exact ⟨by rw [e.out]; rfl, HB.out⟩
        · have e : Hid (rr = false) := Lib.hid (by rw [e0.out]; simp [x4])
          cases wh <;>
          · go_enter Try.func15, Try.ntmps15
            go_wp2
            go_ret
            exact ⟨by rw [e.out]; rfl, HB.out⟩
      · have e : Hid (rr = false) := Lib.hid (by rw [e0.out]; simp [x3])
        cases wh <;> cases wh' <;> first | (exact absurd rfl x3) | skip
        · clear x3
          go_enter Try.func15, Try.ntmps15
          go_wp2
          go_ret
          exact ⟨by rw [e.out]; rfl, HB.out⟩
        · clear x3
          go_enter Try.func15, Try.ntmps15
          go_wp2
          go_ret
          exact ⟨by rw [e.out]; rfl, HB.out⟩
    · have e : Hid (rr = false) := Lib.hid (by rw [e0.out]; simp [x2])
      go_enter Try.func15, Try.ntmps15
      go_wp2
      go_ret
      exact ⟨by rw [e.out]; rfl, HB.out⟩
end Go.Proofs.Ytjffclcjijpmiaa.LG
