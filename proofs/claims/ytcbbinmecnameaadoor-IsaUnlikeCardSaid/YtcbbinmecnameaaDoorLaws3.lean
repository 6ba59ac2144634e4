/-
  Layer 4: the statement IsaUnlike, as a contract: a walk.
-/
import Derived.Test.YtcbbinmecnameaaDoorWorks
set_option linter.unusedVariables false
namespace Go.Proofs.YtcbbinmecnameaaDoor
open Go.RowKit
set_option maxHeartbeats 1000000

set_option maxRecDepth 10000 in
theorem Unlike_aux (O A B M O' A' B' M' W1 W2 E1 E2 : Int) (T1 T2 : ByteArray) (w : World) (h : Env w)
    (HE1 : Hid (∀ W, Env W → Calls Tryd.prog 12 #[.agg #[.int .i64 O, .int .i64 A, .int .i64 B, .int .i64 M]] W fun e w' => e = .returned (.tuple #[.int .u32 W1, .int .i64 E1]) ∧ Below W.heap.size W w'))
    (HE2 : Hid (∀ W, Env W → Calls Tryd.prog 12 #[.agg #[.int .i64 O', .int .i64 A', .int .i64 B', .int .i64 M']] W fun e w' => e = .returned (.tuple #[.int .u32 W2, .int .i64 E2]) ∧ Below W.heap.size W w'))
    (HT1 : Hid (∀ W, Env W → Calls Tryd.prog 13 #[.agg #[.int .i64 O, .int .i64 A, .int .i64 B, .int .i64 M]] W fun e w' => e = .returned (.tuple #[.string T1, .int .i64 E1]) ∧ Below W.heap.size W w'))
    (HT2 : Hid (∀ W, Env W → Calls Tryd.prog 13 #[.agg #[.int .i64 O', .int .i64 A', .int .i64 B', .int .i64 M']] W fun e w' => e = .returned (.tuple #[.string T2, .int .i64 E2]) ∧ Below W.heap.size W w'))
    (hc : (E1 ≠ 0 ∨ E2 ≠ 0) ∨ (E1 = 0 ∧ E2 = 0 ∧ O = O' ∧ A = A' ∧ B = B' ∧ M = M' ∧ W1 = W2 ∧ T1 = T2) ∨ (E1 = 0 ∧ E2 = 0 ∧ ¬ (O = O' ∧ A = A' ∧ B = B' ∧ M = M') ∧ (W1 == W2) = false ∧ (T1.toList == T2.toList) = false)) :
    Calls Tryd.prog 5 #[.agg #[.int .i64 O, .int .i64 A, .int .i64 B, .int .i64 M], .agg #[.int .i64 O', .int .i64 A', .int .i64 B', .int .i64 M']] w fun e w' => e = .returned (.bool true) ∧ Below w.heap.size w w' := by
  have HC := Lib.hid hc
  clear hc
  have hb0 := ((Below.refl w.heap.size w).alloc (Nat.le_refl _) (.cells #[.int .i64 O, .int .i64 A, .int .i64 B, .int .i64 M] 26)).alloc (by simp) (.cells #[.int .i64 O', .int .i64 A', .int .i64 B', .int .i64 M'] 26)
  have X0 := (Box.new w ⟨O, A, B, M⟩ 26).alloc (.cells #[.int .i64 O', .int .i64 A', .int .i64 B', .int .i64 M'] 26)
  have Y0 := Box.new (w.alloc (.cells #[.int .i64 O, .int .i64 A, .int .i64 B, .int .i64 M] 26)) ⟨O', A', B', M'⟩ 26
  rw [World.size_alloc] at Y0
  have HX0 := Lib.hid X0
  have HY0 := Lib.hid Y0
  have HV0 := Lib.hid (h.below hb0)
  have BF0 := Lib.hid hb0
  clear hb0 X0 Y0
  go_enter Tryd.func5, Tryd.ntmps5
  go_wp2_with fail
  refine (HE1.out _ HV0.out).mono ?_
  rintro e w1 ⟨rfl, b1⟩
  have X := HX0.out.below b1
  have Y := HY0.out.below b1
  have HV1 := Lib.hid (HV0.out.below b1)
  have BF1 := Lib.hid (BF0.out.trans (b1.mono BF0.out.size))
  have HX1 := Lib.hid X
  have HY1 := Lib.hid Y
  clear b1
  obtain ⟨x0, x1, x2, x3, xf⟩ := X
  obtain ⟨y0, y1, y2, y3, yf⟩ := Y
  simp only at x0 x1 x2 x3 y0 y1 y2 y3
  go_wp2_with fail
  refine (HE2.out _ HV1.out).mono ?_
  rintro e w2 ⟨rfl, b2⟩
  have X := HX1.out.below b2
  have Y := HY1.out.below b2
  have HV2 := Lib.hid (HV1.out.below b2)
  have BF2 := Lib.hid (BF1.out.trans (b2.mono BF1.out.size))
  have HX2 := Lib.hid X
  have HY2 := Lib.hid Y
  clear b2
  obtain ⟨x0, x1, x2, x3, xf⟩ := X
  obtain ⟨y0, y1, y2, y3, yf⟩ := Y
  simp only at x0 x1 x2 x3 y0 y1 y2 y3
  go_wp2_with fail
  refine (HT1.out _ HV2.out).mono ?_
  rintro e w3 ⟨rfl, b3⟩
  have X := HX2.out.below b3
  have Y := HY2.out.below b3
  have HV3 := Lib.hid (HV2.out.below b3)
  have BF3 := Lib.hid (BF2.out.trans (b3.mono BF2.out.size))
  have HX3 := Lib.hid X
  have HY3 := Lib.hid Y
  clear b3
  obtain ⟨x0, x1, x2, x3, xf⟩ := X
  obtain ⟨y0, y1, y2, y3, yf⟩ := Y
  simp only at x0 x1 x2 x3 y0 y1 y2 y3
  go_wp2_with fail
  refine (HT2.out _ HV3.out).mono ?_
  rintro e w4 ⟨rfl, b4⟩
  have X := HX3.out.below b4
  have Y := HY3.out.below b4
  have HV4 := Lib.hid (HV3.out.below b4)
  have BF4 := Lib.hid (BF3.out.trans (b4.mono BF3.out.size))
  have HX4 := Lib.hid X
  have HY4 := Lib.hid Y
  clear b4
  obtain ⟨x0, x1, x2, x3, xf⟩ := X
  obtain ⟨y0, y1, y2, y3, yf⟩ := Y
  simp only at x0 x1 x2 x3 y0 y1 y2 y3
  have HK := Lib.hid (known_any w4 HV4.out)
  clear HX0 HY0 HX1 HY1 HX2 HY2 HX3 HY3 HX4 HY4 HV0 HV1 HV2 HV3 BF0 BF1 BF2 BF3 HE1 HE2 HT1 HT2
  rcases HC.out with hc | ⟨e1, e2, rfl, rfl, rfl, rfl, rfl, rfl⟩ | ⟨e1, e2, hne, hw, ht⟩
  · clear HC
    by_cases h1 : E1 = 0
    · have h2 : ¬ E2 = 0 := by rcases hc with h | h
                               · exact absurd h1 h
                               · exact h
      clear hc
      subst h1
      go_wp2_with fail
      all_goals refine HK.out.mono ?_
      all_goals rintro e w5 ⟨rfl, b5⟩
      all_goals have HF := Lib.hid (BF4.out.trans (b5.mono BF4.out.size))
      all_goals clear b5
      all_goals go_wp2_with fail
      all_goals go_ret
      all_goals exact ⟨rfl, HF.out⟩
    · clear hc
      go_wp2_with fail
      all_goals refine HK.out.mono ?_
      all_goals rintro e w5 ⟨rfl, b5⟩
      all_goals have HF := Lib.hid (BF4.out.trans (b5.mono BF4.out.size))
      all_goals clear b5
      all_goals go_wp2_with fail
      all_goals go_ret
      all_goals exact ⟨rfl, HF.out⟩
  · subst e1
    go_wp2_with fail
    all_goals refine HK.out.mono ?_
    all_goals rintro e w5 ⟨rfl, b5⟩
    all_goals have HF := Lib.hid (BF4.out.trans (b5.mono BF4.out.size))
    all_goals clear b5
    all_goals go_wp2_with fail
    all_goals go_ret
    all_goals exact ⟨rfl, HF.out⟩
  · clear HC
    go_wp2_with fail
    all_goals try exact absurd ⟨rfl, rfl, rfl, rfl⟩ hne
    all_goals refine HK.out.mono ?_
    all_goals rintro e w5 ⟨rfl, b5⟩
    all_goals have HF := Lib.hid (BF4.out.trans (b5.mono BF4.out.size))
    all_goals clear b5
    all_goals go_wp2_with fail
    all_goals go_ret
    all_goals exact ⟨rfl, HF.out⟩

theorem IsaUnlike_walk (a : Ins) (ha : I64 a) (b : Ins) (hb : I64 b) (w : World) (h : Env w) :
    Calls Tryd.prog 5 #[iv a, iv b] w fun e w' => e = .returned (.bool true) ∧ Below w.heap.size w w' := by
  refine Unlike_aux a.op a.a a.b a.imm b.op b.a b.b b.imm (encW a) (encW b) (encE a) (encE b) (txtV a) (txtV b) w h (fun W hW => Encode_any a W hW) (fun W hW => Encode_any b W hW) (fun W hW => Text_any a W hW) (fun W hW => Text_any b W hW) ?_
  by_cases hma : May a
  · by_cases hmb : May b
    · have e1 : encE a = 0 := if_pos hma
      have e2 : encE b = 0 := if_pos hmb
      by_cases hab : a = b
      · subst hab
        exact .inr (.inl ⟨e1, e1, rfl, rfl, rfl, rfl, rfl, rfl⟩)
      · refine .inr (.inr ⟨e1, e2, fun q => hab (by obtain ⟨q0, q1, q2, q3⟩ := q; cases a; cases b; simp_all), ?_, ?_⟩)
        · unfold encW
          rw [if_pos hma, if_pos hmb, beq_eq_false_iff_ne]
          exact fun q => hab ((enc_inj hma hmb).1 q)
        · unfold txtV
          rw [if_pos hma, if_pos hmb, beq_eq_false_iff_ne]
          intro q
          rw [ByteArray.toList_eq, ByteArray.toList_eq] at q
          exact hab ((txt_inj hma hmb).1 (by simpa [bytes] using q))
    · exact .inl (.inr (by unfold encE; rw [if_neg hmb]; decide))
  · exact .inl (.inl (by unfold encE; rw [if_neg hma]; decide))
end Go.Proofs.YtcbbinmecnameaaDoor
