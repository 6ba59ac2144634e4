/-
  Layer 16: the document's Check: walk.
-/
import Derived.Test.YtjffclcjijpmiaaG07
import Derived.Test.YtjffclcjijpmiaaG08
set_option linter.unusedVariables false
set_option linter.unusedSimpArgs false
namespace Go.Proofs.Ytjffclcjijpmiaa.LG
open Go.RowKit
set_option maxHeartbeats 4000000
set_option maxRecDepth 100000
set_option linter.unusedVariables false
set_option linter.unusedSimpArgs false

theorem rsOk_app : ∀ (l m : List Rc) (last : Int), rsOk last (l ++ m) = (rsOk last l && rsOk (lastOf last l) m)
  | [], _, _ => by simp [rsOk, lastOf]
  | r :: t, m, last => by
    rw [List.cons_append, rsOk, rsOk, rsOk_app t m r.tm]
    show _ = (_ && rsOk (lastOf r.tm t) m)
    simp only [Bool.and_assoc]
theorem rsOk_at {l : List Rc} {k : Nat} {r : Rc} (h : l[k]? = some r) : rsOk 0 l = (rsOk 0 (l.take k) && (r.right && decide (lastOf 0 (l.take k) ≤ r.tm) && rsOk r.tm (l.drop (k + 1)))) := by
  obtain ⟨h1, h2⟩ := List.getElem?_eq_some_iff.1 h
  conv => lhs; rw [← List.take_append_drop k l, List.drop_eq_getElem_cons h1, h2]
  rw [rsOk_app]; rfl
theorem rsOk_succ {l : List Rc} {k : Nat} {r : Rc} (h : l[k]? = some r) (h0 : rsOk 0 (l.take k) = true) (h1 : r.right = true) (h2 : lastOf 0 (l.take k) ≤ r.tm) : rsOk 0 (l.take (k + 1)) = true := by
  rw [List.take_add_one, h]
  show rsOk 0 (l.take k ++ [r]) = true
  rw [rsOk_app, h0]
  simp [rsOk, h1, h2]
theorem last_b : ∀ (l : List Rc) (last : Int), I64 last → (∀ r ∈ l, Ri r) → I64 (lastOf last l)
  | [], _, h, _ => h
  | r :: t, _, _, h => last_b t r.tm (h r (by simp)).1 fun x hx => h x (by simp [hx])
/-- The answer, for a log that may be or not. -/
def ckN (l : Lg) : Int := if l.ok = true then 0 else 260
theorem Check_any {w : World} {l : Lg} {rv : Value} (h : LgIn w rv l) : Calls Try.prog 13 #[.agg (lgc l rv)] w fun e w' => e = .returned (.int .i64 (ckN l)) ∧ Below w.heap.size w w' := by
  obtain ⟨fr, se, mo, rs, wh, en⟩ := l
  have HA := Lib.hid (fun W (hb : Below w.heap.size w W) => (show RsIn W rv rs from h.r.below hb))
  obtain ⟨ao, ca, rfl, _, hla⟩ := h.r.shape
  unfold maxLen at hla
  have hb1 := bel1 w (.cells #[.int .i64 fr, .int .i64 se, .int .i64 mo, .slice ao rs.length ca, .bool wh, .int .i64 en] 26)
  have HB := Lib.hid hb1
  have HH := Lib.hid (fun W => headR_any fr se mo W)
  have hw := Lib.hid (fun n a b W => within_any n a b W)
  simp only at hla
  clear h hb1
  simp only [lgc]
  cases hh : headOk fr se mo with
  | false =>
    have HR : Hid (ckN ⟨fr, se, mo, rs, wh, en⟩ = 260) := Lib.hid (by unfold ckN Lg.ok; simp [hh])
    go_enter Try.func13, Try.ntmps13
    go_wp2_with fail
    refine (HH.out _).mono ?_
    rintro e w2 ⟨rfl, hb⟩
    rw [hh]
    have HB2 := Lib.hid (belT HB.out hb)
    clear hb
    go_wp2
    go_ret
    exact ⟨by rw [HR.out]; rfl, HB2.out⟩
  | true =>
    cases he : decide (0 ≤ en ∧ en ≤ 4611686018427387904) with
    | false =>
      have HR : Hid (ckN ⟨fr, se, mo, rs, wh, en⟩ = 260) := Lib.hid (by unfold ckN Lg.ok; rw [show two62 = 4611686018427387904 from rfl]; simp only [he]; simp)
      go_enter Try.func13, Try.ntmps13
      go_wp2_with fail
      refine (HH.out _).mono ?_
      rintro e w2 ⟨rfl, hb⟩
      rw [hh]
      have x4 := (LgS.make w (.int .i64 fr) (.int .i64 se) (.int .i64 mo) (.slice ao rs.length ca) (.bool wh) (.int .i64 en) hb).c5
      have HB2 := Lib.hid (belT HB.out hb)
      clear hb
      go_wp2_with fail
      refine (hw.out _ _ _ _).mono ?_
      rintro e w3 ⟨rfl, rfl⟩
      rw [he]
      go_wp2
      go_ret
      exact ⟨by rw [HR.out]; rfl, HB2.out⟩
    | true =>
      cases wh with
      | false =>
        by_cases hen : en = 0
        · subst hen
          have HS0 : Hid (ckN ⟨fr, se, mo, rs, false, 0⟩ = if (rsOk 0 rs && true) = true then 0 else 260) := Lib.hid (by unfold ckN Lg.ok; rw [show two62 = 4611686018427387904 from rfl]; simp only [hh, he]; simp)
          go_enter Try.func13, Try.ntmps13
          go_wp2_with fail
          refine (HH.out _).mono ?_
          rintro e w2 ⟨rfl, hb⟩
          rw [hh]
          have hx := LgS.make w (.int .i64 fr) (.int .i64 se) (.int .i64 mo) (.slice ao rs.length ca) (.bool false) (.int .i64 0) hb
          have x3 := hx.c3
          have x4 := hx.c4
          have x5 := hx.c5
          have HB2 := Lib.hid (belT HB.out hb)
          clear hb hx
          go_wp2_with fail
          refine (hw.out _ _ _ _).mono ?_
          rintro e w3 ⟨rfl, rfl⟩
          rw [he]
          go_wp2
          go_loopw [3, 4] (fun lv iv wr => ∃ (k : Nat), k ≤ rs.length ∧ lv = .int .i64 (lastOf 0 (rs.take k)) ∧ iv = .int .i64 (k : Int) ∧ Hid (Below w2.heap.size w2 wr) ∧ Hid (rsOk 0 (rs.take k) = true)) (fun _ iv _ => rs.length + 1 - (intOf iv).toNat)
          case atStart => exact ⟨0, by omega, rfl, rfl, Below.refl _ _, rfl⟩
          case round =>
            obtain ⟨k, hk, rfl, rfl, HK, HO⟩ := hrel
            have y3 := cell_below x3 HK.out
            have y4 := cell_below x4 HK.out
            have y5 := cell_below x5 HK.out
            have HBk := Lib.hid (belT HB2.out HK.out)
            by_cases hlt : k < rs.length
            · have hi : (k : Int) < (rs.length : Int) := by omega
              obtain ⟨g1, p1, cc1, x, bv, e1, l1, hx, hxb, q⟩ := (HA.out _ HBk.out).at_ hlt
              simp only [Value.slice.injEq] at e1
              obtain ⟨rfl, _, rfl⟩ := e1
              obtain ⟨z0, z1, z2, z3⟩ := rng4 q
              have HRt := Lib.hid (Right_any hx hxb)
              have hat := rsOk_at l1
              have HLs := Lib.hid (last_succ' l1)
              have HSc := Lib.hid (rsOk_succ l1 HO.out)
              rw [HO.out, Bool.true_and] at hat
              have Hat := Lib.hid hat
              have w0 := cell_below z0 (Below.refl wr.heap.size wr)
              obtain ⟨bo, cb, rfl, _, hlb⟩ := hxb.shape
              unfold maxLen at hlb
              clear l1 q hat hxb w0
              generalize lastOf 0 (rs.take k) = la at *
              go_wp2_with fail
              refine HRt.out.mono ?_
              rintro e w4 ⟨rfl, hb4⟩
              have v0 := cell_below z0 hb4
              have v3 := cell_below y3 hb4
              have HB4 := Lib.hid (belT HBk.out hb4)
              have HK4 := Lib.hid (belT HK.out hb4)
              clear hb4 HRt z0 z1 z2 z3
              cases hr : x.right with
              | false =>
                have HR : Hid (ckN ⟨fr, se, mo, rs, false, 0⟩ = 260) := Lib.hid (by rw [HS0.out, Hat.out, hr]; simp)
                go_wp2
                go_ret
                exact ⟨by rw [HR.out]; rfl, HB4.out⟩
              | true =>
                by_cases hlt2 : x.tm < la
                · have HR : Hid (ckN ⟨fr, se, mo, rs, false, 0⟩ = 260) := Lib.hid (by rw [HS0.out, Hat.out, hr, decide_eq_false (show ¬ la ≤ x.tm by omega)]; simp)
                  go_wp2
                  go_ret
                  exact ⟨by rw [HR.out]; rfl, HB4.out⟩
                · have hle : la ≤ x.tm := by omega
                  have HO2 := Lib.hid (HSc.out hr hle)
                  go_wp2
                  refine ⟨⟨k + 1, by omega, by rw [HLs.out], by first | rfl | go_num, HK4, HO2⟩, ?_⟩
                  simp [intOf]; omega
            · obtain rfl : k = rs.length := by omega
              rw [List.take_length] at HO ⊢
              have HS1 : Hid (ckN ⟨fr, se, mo, rs, false, 0⟩ = if (true) = true then 0 else 260) := Lib.hid (by rw [HS0.out, HO.out, Bool.true_and])
              generalize lastOf 0 rs = la at *
              have HR : Hid (ckN ⟨fr, se, mo, rs, false, 0⟩ = 0) := Lib.hid (by rw [HS1.out]; simp)
              go_wp2
              go_ret
              exact ⟨by rw [HR.out]; rfl, HBk.out⟩
        · have HR : Hid (ckN ⟨fr, se, mo, rs, false, en⟩ = 260) := Lib.hid (by unfold ckN Lg.ok; simp [hen])
          go_enter Try.func13, Try.ntmps13
          go_wp2_with fail
          refine (HH.out _).mono ?_
          rintro e w2 ⟨rfl, hb⟩
          rw [hh]
          have hx := LgS.make w (.int .i64 fr) (.int .i64 se) (.int .i64 mo) (.slice ao rs.length ca) (.bool false) (.int .i64 en) hb
          have x4 := hx.c4
          have x5 := hx.c5
          have HB2 := Lib.hid (belT HB.out hb)
          clear hb hx
          go_wp2_with fail
          refine (hw.out _ _ _ _).mono ?_
          rintro e w3 ⟨rfl, rfl⟩
          rw [he]
          go_wp2
          go_ret
          exact ⟨by rw [HR.out]; rfl, HB2.out⟩
      | true =>
        have HS0 : Hid (ckN ⟨fr, se, mo, rs, true, en⟩ = if (rsOk 0 rs && decide (lastOf 0 rs ≤ en)) = true then 0 else 260) := Lib.hid (by unfold ckN Lg.ok; rw [show two62 = 4611686018427387904 from rfl]; simp only [hh, he]; simp)
        go_enter Try.func13, Try.ntmps13
        go_wp2_with fail
        refine (HH.out _).mono ?_
        rintro e w2 ⟨rfl, hb⟩
        rw [hh]
        have hx := LgS.make w (.int .i64 fr) (.int .i64 se) (.int .i64 mo) (.slice ao rs.length ca) (.bool true) (.int .i64 en) hb
        have x3 := hx.c3
        have x4 := hx.c4
        have x5 := hx.c5
        have HB2 := Lib.hid (belT HB.out hb)
        clear hb hx
        go_wp2_with fail
        refine (hw.out _ _ _ _).mono ?_
        rintro e w3 ⟨rfl, rfl⟩
        rw [he]
        go_wp2
        go_loopw [3, 4] (fun lv iv wr => ∃ (k : Nat), k ≤ rs.length ∧ lv = .int .i64 (lastOf 0 (rs.take k)) ∧ iv = .int .i64 (k : Int) ∧ Hid (Below w2.heap.size w2 wr) ∧ Hid (rsOk 0 (rs.take k) = true)) (fun _ iv _ => rs.length + 1 - (intOf iv).toNat)
        case atStart => exact ⟨0, by omega, rfl, rfl, Below.refl _ _, rfl⟩
        case round =>
          obtain ⟨k, hk, rfl, rfl, HK, HO⟩ := hrel
          have y3 := cell_below x3 HK.out
          have y4 := cell_below x4 HK.out
          have y5 := cell_below x5 HK.out
          have HBk := Lib.hid (belT HB2.out HK.out)
          by_cases hlt : k < rs.length
          · have hi : (k : Int) < (rs.length : Int) := by omega
            obtain ⟨g1, p1, cc1, x, bv, e1, l1, hx, hxb, q⟩ := (HA.out _ HBk.out).at_ hlt
            simp only [Value.slice.injEq] at e1
            obtain ⟨rfl, _, rfl⟩ := e1
            obtain ⟨z0, z1, z2, z3⟩ := rng4 q
            have HRt := Lib.hid (Right_any hx hxb)
            have hat := rsOk_at l1
            have HLs := Lib.hid (last_succ' l1)
            have HSc := Lib.hid (rsOk_succ l1 HO.out)
            rw [HO.out, Bool.true_and] at hat
            have Hat := Lib.hid hat
            have w0 := cell_below z0 (Below.refl wr.heap.size wr)
            obtain ⟨bo, cb, rfl, _, hlb⟩ := hxb.shape
            unfold maxLen at hlb
            clear l1 q hat hxb w0
            generalize lastOf 0 (rs.take k) = la at *
            go_wp2_with fail
            refine HRt.out.mono ?_
            rintro e w4 ⟨rfl, hb4⟩
            have v0 := cell_below z0 hb4
            have v3 := cell_below y3 hb4
            have HB4 := Lib.hid (belT HBk.out hb4)
            have HK4 := Lib.hid (belT HK.out hb4)
            clear hb4 HRt z0 z1 z2 z3
            cases hr : x.right with
            | false =>
              have HR : Hid (ckN ⟨fr, se, mo, rs, true, en⟩ = 260) := Lib.hid (by rw [HS0.out, Hat.out, hr]; simp)
              go_wp2
              go_ret
              exact ⟨by rw [HR.out]; rfl, HB4.out⟩
            | true =>
              by_cases hlt2 : x.tm < la
              · have HR : Hid (ckN ⟨fr, se, mo, rs, true, en⟩ = 260) := Lib.hid (by rw [HS0.out, Hat.out, hr, decide_eq_false (show ¬ la ≤ x.tm by omega)]; simp)
                go_wp2
                go_ret
                exact ⟨by rw [HR.out]; rfl, HB4.out⟩
              · have hle : la ≤ x.tm := by omega
                have HO2 := Lib.hid (HSc.out hr hle)
                go_wp2
                refine ⟨⟨k + 1, by omega, by rw [HLs.out], by first | rfl | go_num, HK4, HO2⟩, ?_⟩
                simp [intOf]; omega
          · obtain rfl : k = rs.length := by omega
            rw [List.take_length] at HO ⊢
            have HS1 : Hid (ckN ⟨fr, se, mo, rs, true, en⟩ = if (decide (lastOf 0 rs ≤ en)) = true then 0 else 260) := Lib.hid (by rw [HS0.out, HO.out, Bool.true_and])
            generalize lastOf 0 rs = la at *
            by_cases hle : la ≤ en
            · have HR : Hid (ckN ⟨fr, se, mo, rs, true, en⟩ = 0) := Lib.hid (by rw [HS1.out, decide_eq_true hle]; simp)
              go_wp2
              go_ret
              exact ⟨by rw [HR.out]; rfl, HBk.out⟩
            · have hlt3 : en < la := by omega
              have HR : Hid (ckN ⟨fr, se, mo, rs, true, en⟩ = 260) := Lib.hid (by rw [HS1.out, decide_eq_false hle]; simp)
              go_wp2
              go_ret
              exact ⟨by rw [HR.out]; rfl, HBk.out⟩
end Go.Proofs.Ytjffclcjijpmiaa.LG
