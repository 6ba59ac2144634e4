/-
  Layer 16: are two logs the same, by the program: walks. Written by gen_psame.py. Layer 16: what a log that may be has, record by record. No walk.
-/
import Derived.Test.YtjffclcjijpmiaaG10
import Derived.Test.YtjffclcjijpmiaaG16
import Derived.Test.YtjffclcjijpmiaaG07
set_option linter.unusedVariables false
set_option linter.unusedSimpArgs false
namespace Go.Proofs.Ytjffclcjijpmiaa.LG
open Go.RowKit
set_option maxHeartbeats 4000000
set_option maxRecDepth 100000
set_option linter.unusedVariables false
set_option linter.unusedSimpArgs false

theorem BEqual_any {w : World} {xs ys : List Int} {av bv : Value} (ha : Bs w av xs) (hb : Bs w bv ys) : Calls Try.prog 50 #[av, bv] w fun e w' => e = .returned (.bool (decide (xs = ys))) ∧ w = w' := by
  have q1 := str_conv ha
  have q2 := str_conv hb
  have HSE := str_eq ha.2 hb.2
  obtain ⟨ao, ca, rfl, _, _⟩ := ha.shape
  obtain ⟨bo, cb, rfl, _, _⟩ := hb.shape
  generalize hs1 : strOfNums xs = s1 at *
  generalize hs2 : strOfNums ys = s2 at *
  clear ha hb
  cases x4 : decide (xs = ys) with
  | true =>
    rw [x4] at HSE
    go_enter Try.func50, Try.ntmps50
    go_wp2
    go_ret
    exact ⟨rfl, rfl⟩
  | false =>
    rw [x4] at HSE
    go_enter Try.func50, Try.ntmps50
    go_wp2
    go_ret
    exact ⟨rfl, rfl⟩
theorem alike_any {w : World} {a b : Rc} {av bv : Value} (ha : Bs w av a.bs) (hb : Bs w bv b.bs) : Calls Try.prog 31 #[.agg #[.int .i64 a.tm, .int .i64 a.kind, .int .i64 a.n, av], .agg #[.int .i64 b.tm, .int .i64 b.kind, .int .i64 b.n, bv]] w fun e w' => e = .returned (.bool (decide (a = b))) ∧ Below w.heap.size w w' := by
  obtain ⟨rr, hrr⟩ : ∃ rr, Hid (rr = decide (a = b)) := ⟨_, Lib.hid rfl⟩
  rw [← hrr.out]
  obtain ⟨t1, k1, n1, bs1⟩ := a
  obtain ⟨t2, k2, n2, bs2⟩ := b
  have hb2 := belT (bel1 w (.cells #[.int .i64 t1, .int .i64 k1, .int .i64 n1, av] 42)) (bel1 _ (.cells #[.int .i64 t2, .int .i64 k2, .int .i64 n2, bv] 42))
  have HE := Lib.hid (BEqual_any (ha.below hb2) (hb.below hb2))
  have o1 := ha.1.one
  have o2 := hb.1.one
  have HB := Lib.hid hb2
  have e0 : Hid (rr = (decide (t1 = t2) && decide (k1 = k2) && decide (n1 = n2) && decide (bs1 = bs2))) := Lib.hid (by
    rw [hrr.out]
    by_cases x1 : t1 = t2 <;> by_cases x2 : k1 = k2 <;> by_cases x3 : n1 = n2 <;> by_cases x4 : bs1 = bs2 <;> simp [x1, x2, x3, x4])
  obtain ⟨ao, ca, rfl, _, _⟩ := ha.shape
  obtain ⟨bo, cb, rfl, _, _⟩ := hb.shape
  clear ha hb hb2
  by_cases x1 : t1 = t2
  · subst x1
    by_cases x2 : k1 = k2
    · subst x2
      by_cases x3 : n1 = n2
      · subst x3
        have e : Hid (rr = decide (bs1 = bs2)) := Lib.hid (by rw [e0.out]; simp)
        simp only at HE
        generalize decide (bs1 = bs2) = d at *
        go_enter Try.func31, Try.ntmps31
        go_wp2_with fail
        refine HE.out.mono ?_
        rintro e2 w2 ⟨rfl, rfl⟩
        go_wp2
        go_ret
        exact ⟨by rw [e.out]; rfl, HB.out⟩
      · have e : Hid (rr = false) := Lib.hid (by rw [e0.out]; simp [x3])
        go_enter Try.func31, Try.ntmps31
        go_wp2
        go_ret
        exact ⟨by rw [e.out]; rfl, HB.out⟩
    · have e : Hid (rr = false) := Lib.hid (by rw [e0.out]; simp [x2])
      go_enter Try.func31, Try.ntmps31
      go_wp2
      go_ret
      exact ⟨by rw [e.out]; rfl, HB.out⟩
  · have e : Hid (rr = false) := Lib.hid (by rw [e0.out]; simp [x1])
    go_enter Try.func31, Try.ntmps31
    go_wp2
    go_ret
    exact ⟨by rw [e.out]; rfl, HB.out⟩
theorem EqF_any {w : World} {rs ms : List Rc} {lv mv : Value} (hl : RsIn w lv rs) (hm : RsIn w mv ms) : Calls Try.prog 30 #[lv, mv, .func (.func 31) #[] #[]] w fun e w' => e = .returned (.bool (decide (rs = ms))) ∧ Below w.heap.size w w' := by
  obtain ⟨rr, e1⟩ : ∃ rr, Hid (rr = decide (rs = ms)) := ⟨_, Lib.hid rfl⟩
  rw [← e1.out]
  have HA := Lib.hid (fun W (hb : Below w.heap.size w W) => (show RsIn W lv rs from hl.below hb))
  have HA' := Lib.hid (fun W (hb : Below w.heap.size w W) => (show RsIn W mv ms from hm.below hb))
  obtain ⟨ao, ca, rfl, _, hla⟩ := hl.shape
  obtain ⟨bo, cb, rfl, _, hlb⟩ := hm.shape
  unfold maxLen at hla hlb
  clear hl hm
  by_cases x5 : rs.length = ms.length
  · rw [x5] at HA ⊢
    have X5 := Lib.hid x5
    clear x5 hla
    go_enter Try.func30, Try.ntmps30
    go_wp2
    go_loopw [17] (fun iv wr => ∃ (k : Nat), k ≤ ms.length ∧ iv = .int .i64 (k : Int) ∧ Hid (Below w.heap.size w wr) ∧ Hid (rs.take k = ms.take k)) (fun iv _ => ms.length + 1 - (intOf iv).toNat)
    case atStart => exact ⟨0, by omega, rfl, Lib.hid (Below.refl _ _), Lib.hid rfl⟩
    case round =>
      obtain ⟨k, hk, rfl, HK, HT⟩ := hrel
      by_cases hlt : k < ms.length
      · have hi : (k : Int) < (ms.length : Int) := by omega
        obtain ⟨g1, p1, cc1, x, av, eA, l1, _, hxb, q⟩ := (HA.out _ HK.out).at_ (show k < rs.length by have h5 := X5.out; omega)
        simp only [Value.slice.injEq] at eA
        obtain ⟨rfl, hlen, rfl⟩ := eA
        clear hlen
        have hq1 := belT HK.out (bel1 wr (.cells #[.int .i64 x.tm, .int .i64 x.kind, .int .i64 x.n, av] 42))
        obtain ⟨g2, p2, cc2, y, bv, e2, l2, _, hyb, q'⟩ := (HA'.out _ hq1).at_ (show k < ms.length by omega)
        simp only [Value.slice.injEq] at e2
        obtain ⟨rfl, hlen, rfl⟩ := e2
        clear hlen
        obtain ⟨a0, a1, a2, a3⟩ := rng4 q
        obtain ⟨b0, b1, b2, b3⟩ := rng4 q'
        obtain ⟨bo1, bc1, rfl, _, _⟩ := hxb.shape
        obtain ⟨bo2, bc2, rfl, _, _⟩ := hyb.shape
        have hw2 := bel1 (wr.alloc (.cells #[.int .i64 x.tm, .int .i64 x.kind, .int .i64 x.n, .slice bo1 x.bs.length bc1] 42)) (.cells #[.int .i64 y.tm, .int .i64 y.kind, .int .i64 y.n, .slice bo2 y.bs.length bc2] 42)
        have HC := Lib.hid (alike_any (a := x) (b := y) ((hxb.below (bel1 wr (.cells #[.int .i64 x.tm, .int .i64 x.kind, .int .i64 x.n, .slice bo1 x.bs.length bc1] 42))).below hw2) (hyb.below hw2))
        have HW := Lib.hid (belT hq1 hw2)
        have HNe := Lib.hid (take_ne l1 l2)
        have HEq := Lib.hid (fun (e : x = y) => take_eq l1 (by rw [l2, e]) HT.out)
        clear l1 l2 hxb hyb q q' hw2 hq1
        cases hxy : decide (x = y) with
        | true =>
          have HT5 := Lib.hid (HEq.out (of_decide_eq_true hxy))
          rw [hxy] at HC
          go_wp2_with fail
          refine HC.out.mono ?_
          rintro e3 w3 ⟨rfl, hb3⟩
          have HK5 := Lib.hid (belT HW.out hb3)
          clear hb3 hxy a0 a1 a2 a3 b0 b1 b2 b3 HC
          go_wp2
          exact ⟨⟨k + 1, by omega, by first | rfl | go_num, HK5, HT5⟩, by simp [intOf]; omega⟩
        | false =>
          have e : Hid (rr = false) := Lib.hid (by rw [e1.out]; exact decide_eq_false (HNe.out (of_decide_eq_false hxy)))
          rw [hxy] at HC
          go_wp2_with fail
          refine HC.out.mono ?_
          rintro e3 w3 ⟨rfl, hb3⟩
          have HK5 := Lib.hid (belT HW.out hb3)
          clear hb3 hxy a0 a1 a2 a3 b0 b1 b2 b3 HC
          go_wp2
          go_ret
          exact ⟨by rw [e.out]; rfl, HK5.out⟩
      · obtain rfl : k = ms.length := by omega
        have e : Hid (rr = true) := Lib.hid (by
          rw [e1.out]
          have := HT.out
          rw [List.take_length, List.take_of_length_le (by have := X5.out; omega)] at this
          simp [this])
        go_wp2
        go_ret
        exact ⟨by rw [e.out]; rfl, HK.out⟩
  · have e : Hid (rr = false) := Lib.hid (by
      rw [e1.out]
      refine decide_eq_false (fun h => x5 (by rw [h])))
    have x5i : ¬ ((rs.length : Int) = (ms.length : Int)) := by omega
    go_enter Try.func30, Try.ntmps30
    go_wp2
    go_ret
    exact ⟨by rw [e.out]; rfl, Below.refl _ _⟩
theorem eql_form (a b c d : Int) (w : World) : (binOp .eql 23 (.agg #[.int .i64 a, .int .i64 b]) (.agg #[.int .i64 c, .int .i64 d])).run Try.prog w = .ok (.bool (decide (a = c ∧ b = d))) w := by
  simp [binOp, Op.equal, Op.maxDepth, eq_form a b c d w, Result.andThen]
theorem PSame_any {w : World} {l m : Lg} {lv mv : Value} (hl : LgIn w lv l) (hm : LgIn w mv m) : Calls Try.prog 14 #[.agg (lgc l lv), .agg (lgc m mv)] w fun e w' => e = .returned (.bool (decide (l = m))) ∧ Below w.heap.size w w' := by
  obtain ⟨rr, hrr⟩ : ∃ rr, Hid (rr = decide (l = m)) := ⟨_, Lib.hid rfl⟩
  rw [← hrr.out]
  obtain ⟨fr, se, mo, rs, wh, en⟩ := l
  obtain ⟨fr', se', mo', ms, wh', en'⟩ := m
  have hb2 := belT (bel1 w (.cells (lgc ⟨fr, se, mo, rs, wh, en⟩ lv) 26)) (bel1 _ (.cells (lgc ⟨fr', se', mo', ms, wh', en'⟩ mv) 26))
  have HC := Lib.hid (EqF_any (hl.r.below hb2) (hm.r.below hb2))
  obtain ⟨ao, ca, rfl, _, hla⟩ := hl.r.shape
  obtain ⟨bo, cb, rfl, _, hlb⟩ := hm.r.shape
  have e0 : Hid (rr = (decide (fr = fr' ∧ se = se') && decide (mo = mo') && decide (wh = wh') && decide (en = en') && decide (rs = ms))) := Lib.hid (by
    rw [hrr.out]
    by_cases x1 : fr = fr' <;> by_cases x2 : se = se' <;> by_cases x3 : mo = mo' <;> by_cases x4 : wh = wh' <;> by_cases x5 : en = en' <;> by_cases x6 : rs = ms <;> simp [x1, x2, x3, x4, x5, x6])
  have hnf := eql_form fr se fr' se'
  have HB := Lib.hid hb2
  simp only at HC
  simp only [lgc] at HC HB ⊢
  clear hl hm hb2 hrr hla hlb
  cases x1 : decide (fr = fr' ∧ se = se') with
  | false =>
    have e : Hid (rr = false) := Lib.hid (by rw [e0.out, x1]; simp)
    rw [x1] at hnf
    go_enter Try.func14, Try.ntmps14
    go_wp2
    go_ret
    exact ⟨by rw [e.out]; rfl, HB.out⟩
  | true =>
    rw [x1] at hnf
    by_cases x2 : mo = mo'
    · subst x2
      by_cases x3 : wh = wh'
      · subst x3
        by_cases x4 : en = en'
        · subst x4
          have e1 : Hid (rr = decide (rs = ms)) := Lib.hid (by rw [e0.out, x1]; simp)
          generalize decide (rs = ms) = d at *
          cases wh with
          | false =>
            go_enter Try.func14, Try.ntmps14
            go_wp2_with fail
            refine HC.out.mono ?_
            rintro e2 w2 ⟨rfl, hb2⟩
            have HB2 := Lib.hid (belT HB.out hb2)
            clear hb2
            go_wp2
            go_ret
            exact ⟨by rw [e1.out]; rfl, HB2.out⟩
          | true =>
            go_enter Try.func14, Try.ntmps14
            go_wp2_with fail
            refine HC.out.mono ?_
            rintro e2 w2 ⟨rfl, hb2⟩
            have HB2 := Lib.hid (belT HB.out hb2)
            clear hb2
            go_wp2
            go_ret
            exact ⟨by rw [e1.out]; rfl, HB2.out⟩
        · have e : Hid (rr = false) := Lib.hid (by rw [e0.out]; simp [x4])
          cases wh
          · go_enter Try.func14, Try.ntmps14
            go_wp2
            go_ret
            exact ⟨by rw [e.out]; rfl, HB.out⟩
          · go_enter Try.func14, Try.ntmps14
            go_wp2
            go_ret
            exact ⟨by rw [e.out]; rfl, HB.out⟩
      · have e : Hid (rr = false) := Lib.hid (by rw [e0.out]; simp [x3])
        cases wh <;> cases wh' <;> first | exact absurd rfl x3 | skip
        · go_enter Try.func14, Try.ntmps14
          go_wp2
          go_ret
          exact ⟨by rw [e.out]; rfl, HB.out⟩
        · go_enter Try.func14, Try.ntmps14
          go_wp2
          go_ret
          exact ⟨by rw [e.out]; rfl, HB.out⟩
    · have e : Hid (rr = false) := Lib.hid (by rw [e0.out]; simp [x2])
      go_enter Try.func14, Try.ntmps14
      go_wp2
      go_ret
      exact ⟨by rw [e.out]; rfl, HB.out⟩
end Go.Proofs.Ytjffclcjijpmiaa.LG
namespace Go.Proofs.Ytjffclcjijpmiaa.LG
set_option linter.unusedVariables false
theorem rsGo_last : ∀ (l : List Rc) (a : Int) (e : Bool) (x : Int × Bool), rsGo a e l = some x → x.1 = lastOf a l ∧ a ≤ x.1
  | [], a, e, x, h => by cases h; exact ⟨rfl, Int.le_refl _⟩
  | r :: t, a, e, x, h => by
    unfold rsGo at h
    split at h
    · rename_i hn
      have := rsGo_last t _ _ x h
      refine ⟨this.1, ?_⟩
      unfold nextOk at hn
      simp only [Bool.and_eq_true, decide_eq_true_eq] at hn
      have h2 := this.2
      omega
    · cases h
theorem rsGo_split : ∀ (pre : List Rc) (r : Rc) (rest : List Rc) (a : Int) (e : Bool) (x : Int × Bool), rsGo a e (pre ++ r :: rest) = some x → ∃ b, rsGo a e pre = some (lastOf a pre, b) ∧ nextOk (lastOf a pre) b r = true
  | [], r, rest, a, e, x, h => by
    refine ⟨e, rfl, ?_⟩
    have h : rsGo a e (r :: rest) = some x := h
    unfold rsGo at h
    split at h
    · rename_i hn; exact hn
    · cases h
  | p :: t, r, rest, a, e, x, h => by
    have h : rsGo a e (p :: (t ++ r :: rest)) = some x := h
    unfold rsGo at h
    split at h
    · rename_i hn
      obtain ⟨b, h1, h2⟩ := rsGo_split t r rest _ _ x h
      exact ⟨b, by show rsGo a e (p :: t) = _; unfold rsGo; rw [if_pos hn]; exact h1, h2⟩
    · cases h
theorem next_may {a : Int} {b : Bool} {r : Rc} (h : nextOk a b r = true) (h0 : 0 ≤ a) (hb : ∀ x ∈ r.bs, 0 ≤ x ∧ x < 256) : r.May ∧ a ≤ r.tm := by
  unfold nextOk kOk at h
  simp only [Bool.and_eq_true, Bool.or_eq_true, decide_eq_true_eq] at h
  obtain ⟨⟨⟨_, hk⟩, h1⟩, h2⟩ := h
  refine ⟨⟨by omega, h2, ?_, hb⟩, h1⟩
  rcases hk with hk | ⟨⟨h8, hn⟩, hz⟩
  · exact .inl hk
  · exact .inr ⟨h8, hn, List.eq_nil_of_length_eq_zero hz⟩
/-- Each record of a log that may be. -/
theorem rws_step {l : Lg} (h : l.ok = true) (hb : l.By) {pre rest : List Rc} {r : Rc} (e : rws l = pre ++ r :: rest) : r.May ∧ 0 ≤ lastOf 0 pre ∧ lastOf 0 pre ≤ r.tm := by
  rw [← chk_ok] at h
  unfold chk goOk at h
  simp only [Bool.and_eq_true] at h
  obtain ⟨_, h⟩ := h
  split at h
  · rename_i a b hg
    rw [e] at hg
    obtain ⟨c, h1, h2⟩ := rsGo_split pre r rest 0 false _ hg
    have h3 := (rsGo_last pre 0 false _ h1).2
    have hby : ∀ x ∈ r.bs, 0 ≤ x ∧ x < 256 := by
      have hm : r ∈ rws l := by rw [e]; simp
      unfold rws at hm
      rcases List.mem_append.1 hm with hm | hm
      · exact hb r hm
      · simp at hm
        rw [hm.2]; simp [endR]
    have h4 := next_may h2 h3 hby
    exact ⟨h4.1, h3, h4.2⟩
  · cases h
theorem encR_app2 : ∀ (l m : List Rc) (a : Int), encR a (l ++ m) = encR a l ++ encR (lastOf a l) m
  | [], m, a => rfl
  | x :: t, m, a => by show rb x a ++ encR x.tm (t ++ m) = (rb x a ++ encR x.tm t) ++ encR (lastOf x.tm t) m; rw [encR_app2 t, List.append_assoc]
theorem enc_rws (l : Lg) : l.enc = encH l.fr l.se l.mo ++ encR 0 (rws l) := by
  unfold Lg.enc rws
  rw [encR_app2]
  cases l.wh <;> simp [encE, encR]
theorem rws_len {l : Lg} {pre rest : List Rc} (e : rws l = pre ++ rest) : (encH l.fr l.se l.mo ++ encR 0 pre).length ≤ l.enc.length := by
  rw [enc_rws, e, encR_app2]
  simp only [List.length_append]
  omega
theorem rb_byte {r : Rc} (h : r.May) (last : Int) : ∀ x ∈ rb r last, 0 ≤ x ∧ x < 256 := by
  intro x hx
  rcases List.mem_append.1 hx with hx | hx
  · exact num_byte _ _ hx
  · exact bd_byte h last x hx
theorem encR_byte : ∀ (l : List Rc) (last : Int), Chain last l → ∀ x ∈ encR last l, 0 ≤ x ∧ x < 256
  | [], _, _ => by intro x hx; cases hx
  | r :: t, last, h => by
    intro x hx
    rcases List.mem_append.1 hx with hx | hx
    · exact rb_byte (may_chain h.1).1 last x hx
    · exact encR_byte t r.tm h.2.2 x hx
/-- A log's bytes are bytes. -/
theorem enc_by {l : Lg} (h : l.ok = true) (hb : l.By) : ∀ x ∈ l.enc, 0 ≤ x ∧ x < 256 := by
  obtain ⟨h1, h2, h3, h4⟩ := Lg.ok_b h hb
  have hh := headOk_b h1
  intro x hx
  unfold Lg.enc encH at hx
  rcases List.mem_append.1 hx with hx | hx
  · rcases List.mem_append.1 hx with hx | hx
    · simp [pmdr] at hx; omega
    · rcases List.mem_append.1 hx with hx | hx
      · exact num_byte _ _ hx
      · rcases List.mem_append.1 hx with hx | hx
        · exact num_byte _ _ hx
        · exact num_byte _ _ hx
  · rcases List.mem_append.1 hx with hx | hx
    · exact encR_byte l.rs 0 h2 x hx
    · unfold encE at hx
      split at hx
      · rename_i hw
        have := h3 hw
        have h5 := (chain_last l.rs 0 h2 (by decide)).1
        exact rb_byte (endR_may (by omega) this.2) _ x hx
      · cases hx
end Go.Proofs.Ytjffclcjijpmiaa.LG
