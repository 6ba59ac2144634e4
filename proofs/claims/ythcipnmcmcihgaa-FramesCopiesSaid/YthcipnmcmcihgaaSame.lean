/-
  Layer 5: Bytes, Copy, Same: walks.
-/
import Derived.Test.YthcipnmcmcihgaaPages
namespace Go.Proofs.Ythcipnmcmcihgaa
open Go.RowKit
set_option maxHeartbeats 1000000
set_option linter.unusedVariables false

theorem Bytes_nil (w : World) : Calls Try.prog 15 #[.pointer none] w fun e w' => e = .returned (.slice none 0 0) ∧ w = w' := by
  go_enter Try.func15, Try.ntmps15
  go_wp2_with (first | (go_at_call 30; refine (frames_nil _).mono ?_; rintro e w' ⟨rfl, rfl⟩) | (go_at_call 29; refine (Concat_zero _).mono ?_; rintro e w' ⟨rfl, rfl⟩))
  go_ret
  exact ⟨rfl, rfl⟩
theorem Bytes_is {w : World} {S g c : Nat} {l : List Int} (h : FrIs w S g c l) : Calls Try.prog 15 #[.pointer (some ⟨S, 0, none⟩)] w fun e w' =>
    ∃ g' c', e = .returned (.slice (some ⟨g', 0, none⟩) l.length c') ∧ w'.ownsRow w.heap.size 5 1 (.slice (some ⟨g', 0, none⟩) l.length c') l.length (bv l) ∧ Below w.heap.size w w' := by
  have HF := Lib.hid (frames_is h)
  have HI := Lib.hid h
  clear h
  go_enter Try.func15, Try.ntmps15
  go_wp2_with fail
  refine HF.out.mono ?_
  rintro e w1 ⟨v, rfl, hrow, hb⟩
  have hI := HI.out.below hb
  have hlo := hI.lo
  have hhi := hI.hi
  have hpg := hI.pg
  have HC := Lib.hid (Concat_any hI.row v (l.length / 64) (pagesIn_of_own hrow) (by omega) (by omega) (by omega))
  have HB := Lib.hid hb
  have HL : Hid (0 < l.length) := by show 0 < _; omega
  clear hI hlo hhi hpg hrow hb
  go_wp2_with fail
  refine HC.out.mono ?_
  rintro e w2 ⟨u, rfl, hrow2, hb2⟩
  have HR2 := Lib.hid hrow2
  have HB2 := Lib.hid hb2
  clear hrow2 hb2
  go_wp2
  go_ret
  have hs := HB.out.size
  rcases HR2.out.2 with ⟨_, h0⟩ | ⟨g', cap, cur, hu, hg, rest⟩
  · have := HL.out; omega
  · refine ⟨g', cap, by rw [← hu]; rfl, ⟨HR2.out.1, .inr ⟨g', cap, cur, rfl, by omega, rest⟩⟩, HB.out.trans (HB2.out.mono hs)⟩
/-- What Bytes gives: a slice of these bytes, in memory of its own. -/
theorem Bytes_any {w : World} {S : Nat} {l : List Int} {F : Nat → Prop} (h : Fr w S l F) : Calls Try.prog 15 #[.pointer (some ⟨S, 0, none⟩)] w fun e w' =>
    ∃ g' c', e = .returned (.slice (some ⟨g', 0, none⟩) l.length c') ∧ RowAt w' g' l ∧ l.length ≤ c' ∧ w.heap.size ≤ g' ∧ NumsIn .u8 w' (.slice (some ⟨g', 0, none⟩) l.length c') l ∧ Below w.heap.size w w' := by
  obtain ⟨g, c, rfl, h⟩ := h
  refine (Bytes_is h).mono ?_
  rintro e w1 ⟨g', c', rfl, hrow, hb⟩
  obtain ⟨h1, h2, h3, _, h5⟩ := rowAt_of_own hrow
  exact ⟨g', c', rfl, h1, h3, h2, h1.nums h.bytes h3 (by omega), hb⟩
theorem Copy_nil (w : World) : Calls Try.prog 25 #[.pointer none] w fun e w' => e = .returned (.pointer none) ∧ w = w' := by
  go_enter Try.func25, Try.ntmps25
  go_wp2_with (go_at_call 31; refine (none_nil _).mono ?_; rintro e w' ⟨rfl, rfl⟩)
  go_ret
  exact ⟨rfl, rfl⟩
theorem Copy_any {w : World} {S : Nat} {l : List Int} {F : Nat → Prop} (h : Fr w S l F) : Calls Try.prog 25 #[.pointer (some ⟨S, 0, none⟩)] w fun e w' =>
    ∃ S' F', e = .returned (.pointer (some ⟨S', 0, none⟩)) ∧ Fr w' S' l F' ∧ (∀ k, F' k → w.heap.size ≤ k) ∧ Below w.heap.size w w' := by
  obtain ⟨g, c, rfl, h⟩ := h
  have HB := Lib.hid (Bytes_is h)
  have HI := Lib.hid h
  have hlo := h.lo
  have HN := Lib.hid (none_some S _ _ _ w h.cell (by omega))
  clear h hlo
  go_enter Try.func25, Try.ntmps25
  go_wp2_with (first | (go_at_call 31; refine HN.out.mono ?_; rintro e w' ⟨rfl, rfl⟩) | (go_at_call 15; refine HB.out.mono ?_; rintro e w1 ⟨g', c', rfl, hown, hbel⟩; have HO := Lib.hid hown; have HBl := Lib.hid hbel; clear hown hbel))
  go_ret
  obtain ⟨r1, r2, r3, _, r5⟩ := rowAt_of_own HO.out
  have hI := HI.out
  refine ⟨_, _, rfl, frIs_new hI.bytes hI.lo hI.hi hI.pg r3 r5 r1, ?_, HBl.out.alloc HBl.out.size _⟩
  rintro k (rfl | rfl)
  · exact HBl.out.size
  · exact r2

/-! ### which are the same -/
theorem Equal_pages (g1 g2 a1 a2 : Nat) (l m : List Int) (w : World) (h1 : RowAt w g1 l) (h2 : RowAt w g2 m) (ha1 : a1 + 64 ≤ l.length) (ha2 : a2 + 64 ≤ m.length) (q : Bool) (hq : q = true ↔ ∀ i, i < 64 → at0 l (a1 + i) = at0 m (a2 + i)) :
    Calls Try.prog 42 #[.slice (some ⟨g1, a1, none⟩) 64 64, .slice (some ⟨g2, a2, none⟩) 64 64] w fun e w' => e = .returned (.bool q) ∧ Below w.heap.size w w' := by
  have k1 : Hid (∀ k, k < 64 → w.cell? ⟨g1, a1 + k, none⟩ = some (.int .u8 (at0 l (a1 + k)))) := fun k hk => (h1.cell (by omega)).1
  have k2 : Hid (∀ k, k < 64 → w.cell? ⟨g2, a2 + k, none⟩ = some (.int .u8 (at0 m (a2 + k)))) := fun k hk => (h2.cell (by omega)).1
  have HQ := Lib.hid hq
  clear h1 h2 ha1 ha2 hq
  go_enter Try.func42, Try.ntmps42
  go_wp2
  go_loopw [13] (fun k wr => ∃ j : Nat, j ≤ 64 ∧ k = .int .i64 j ∧ Hid (∀ i, i < j → at0 l (a1 + i) = at0 m (a2 + i)) ∧ ∃ q, wr = w.drewN q) (fun k _ => 64 - (intOf k).toNat)
  case atStart => exact ⟨0, by omega, rfl, fun i hi => by omega, 0, rfl⟩
  case round =>
    obtain ⟨j, hj, rfl, hE, z, rfl⟩ := hrel
    by_cases hlt : j < 64
    · have m1 : (w.drewN z).cell? ⟨g1, a1 + j, none⟩ = some (.int .u8 (at0 l (a1 + j))) := k1.out j hlt
      have m2 : (w.drewN z).cell? ⟨g2, a2 + j, none⟩ = some (.int .u8 (at0 m (a2 + j))) := k2.out j hlt
      generalize hx : at0 l (a1 + j) = x1 at m1
      generalize hy : at0 m (a2 + j) = x2 at m2
      have HX1 := Lib.hid hx
      have HX2 := Lib.hid hy
      clear hx hy
      generalize hw1 : w.drewN z = w1 at m1 m2 ⊢
      have HW := Lib.hid hw1
      clear hw1
      by_cases he : x1 = x2
      · have t1 : (x1 != x2) = false := by simp [he]
        have HE := Lib.hid he
        clear he
        go_wp2
        go_quiet (fail)
        go_wp2
        go_roundw
        case rel =>
          refine ⟨j + 1, by omega, by go_num, ?_, z + nq, by rw [← HW.out, World.drewN_drewN]⟩
          intro i hi
          by_cases hij : i = j
          · subst hij; rw [HX1.out, HX2.out]; exact HE.out
          · exact hE.out i (by omega)
        case measure => simp [intOf]; omega
      · have t1 : (x1 != x2) = true := by simp [he]
        have HE := Lib.hid he
        clear he
        go_wp2
        go_quiet (fail)
        go_wp2
        go_ret
        refine ⟨?_, by rw [← HW.out, World.drewN_drewN]; exact below_drewN _ _ _⟩
        have hne : q = false := by
          cases hq : q
          · rfl
          · exact absurd (by rw [← HX1.out, ← HX2.out]; exact HQ.out.1 hq j hlt) HE.out
        simp [hne]
    · go_wp2
      go_ret
      obtain rfl : j = 64 := by omega
      have e := HQ.out.2 hE.out
      exact ⟨by simp [e], below_drewN _ _ _⟩
theorem same_pages (g1 g2 a1 a2 : Nat) (l m : List Int) (w : World) (h1 : RowAt w g1 l) (h2 : RowAt w g2 m) (ha1 : a1 + 64 ≤ l.length) (ha2 : a2 + 64 ≤ m.length) (q : Bool) (hq : q = true ↔ ∀ i, i < 64 → at0 l (a1 + i) = at0 m (a2 + i)) :
    Calls Try.prog 38 #[.slice (some ⟨g1, a1, none⟩) 64 64, .slice (some ⟨g2, a2, none⟩) 64 64] w fun e w' => e = .returned (.bool q) ∧ Below w.heap.size w w' := by
  have H := Lib.hid (Equal_pages g1 g2 a1 a2 l m w h1 h2 ha1 ha2 q hq)
  clear h1 h2 hq
  go_enter Try.func38, Try.ntmps38
  go_wp2_with (go_at_call 42; refine H.out.mono ?_; rintro e w1 ⟨rfl, hb⟩)
  go_ret
  exact ⟨rfl, hb⟩
theorem EqualFunc_lens (o1 o2 : Option Addr) (n1 n2 c1 c2 : Nat) (hne : n1 ≠ n2) (fv : Value) (w : World) :
    Calls Try.prog 37 #[.slice o1 n1 c1, .slice o2 n2 c2, fv] w fun e w' => e = .returned (.bool false) ∧ w = w' := by
  have h1 : ((n1 : Int) == (n2 : Int)) = false := by simp; omega
  have h2 : ((n1 : Int) != (n2 : Int)) = true := by simp; omega
  clear hne
  go_enter Try.func37, Try.ntmps37
  go_wp2
  go_ret
  exact ⟨rfl, rfl⟩
theorem EqualFunc_nil (fv : Value) (w : World) :
    Calls Try.prog 37 #[.slice none 0 0, .slice none 0 0, fv] w fun e w' => e = .returned (.bool true) ∧ w = w' := by
  go_enter Try.func37, Try.ntmps37
  go_wp2
  refine wp_loop_rounds 1 ?_
  rw [rounds_succ]
  go_wp2
  go_ret
  exact ⟨rfl, rfl⟩
theorem EqualFunc_any {w : World} {g1 g2 n : Nat} {l m : List Int} (h1 : RowAt w g1 l) (h2 : RowAt w g2 m) (hl : l.length = 64 * n) (hm : m.length = 64 * n) (hn : n ≤ 32) (r1 r2 c1 c2 : Nat) 
    (p1 : ∀ k, k < n → w.cell? ⟨r1, k, none⟩ = some (.slice (some ⟨g1, 64 * k, none⟩) 64 64)) (p2 : ∀ k, k < n → w.cell? ⟨r2, k, none⟩ = some (.slice (some ⟨g2, 64 * k, none⟩) 64 64)) (hc1 : n ≤ c1) (hc2 : n ≤ c2) :
    Calls Try.prog 37 #[.slice (some ⟨r1, 0, none⟩) n c1, .slice (some ⟨r2, 0, none⟩) n c2, .func (.func 38) #[] #[]] w fun e w' => e = .returned (.bool (decide (l = m))) ∧ Below w.heap.size w w' := by
  have H1 := Lib.hid h1
  have H2 := Lib.hid h2
  have P1 := Lib.hid p1
  have P2 := Lib.hid p2
  have HL := Lib.hid hl
  have HM := Lib.hid hm
  clear h1 h2 p1 p2 hl hm
  go_enter Try.func37, Try.ntmps37
  go_wp2
  go_loopw [17] (fun k wr => ∃ j : Nat, j ≤ n ∧ k = .int .i64 j ∧ Hid (∀ i, i < 64 * j → at0 l i = at0 m i) ∧ Hid (Below w.heap.size w wr)) (fun k _ => n - (intOf k).toNat)
  case atStart => exact ⟨0, by omega, rfl, fun i hi => by omega, Below.refl _ _⟩
  case round =>
    obtain ⟨j, hj, rfl, hE, hb⟩ := hrel
    by_cases hlt : j < n
    · have lt1 := World.block_lt_of_cell? _ _ (P1.out j hlt)
      have lt2 := World.block_lt_of_cell? _ _ (P2.out j hlt)
      have m1 : wr.cell? ⟨r1, j, none⟩ = some (.slice (some ⟨g1, 64 * j, none⟩) 64 64) := by
        have := P1.out j hlt
        unfold World.cell? at this ⊢
        rw [hb.out.block _ lt1]; exact this
      have m2 : wr.cell? ⟨r2, j, none⟩ = some (.slice (some ⟨g2, 64 * j, none⟩) 64 64) := by
        have := P2.out j hlt
        unfold World.cell? at this ⊢
        rw [hb.out.block _ lt2]; exact this
      have q1 := H1.out.keep (hb.out.block _ H1.out.lt)
      have q2 := H2.out.keep (hb.out.block _ H2.out.lt)
      obtain ⟨q, hq⟩ : ∃ q : Bool, q = true ↔ ∀ i, i < 64 → at0 l (64 * j + i) = at0 m (64 * j + i) := ⟨@decide _ (Classical.propDecidable (∀ i, i < 64 → at0 l (64 * j + i) = at0 m (64 * j + i))), by simp⟩
      have HS := Lib.hid (same_pages g1 g2 (64 * j) (64 * j) l m wr q1 q2 (by have := HL.out; omega) (by have := HM.out; omega) q hq)
      have HQ := Lib.hid hq
      clear q1 q2 hq lt1 lt2
      cases q with
      | true =>
        go_wp2_with (go_at_call 38; refine HS.out.mono ?_; rintro e w1 ⟨rfl, hb1⟩; have HB1 := Lib.hid hb1; clear hb1)
        go_roundw
        case rel =>
          refine ⟨j + 1, by omega, by go_num, ?_, hb.out.trans (HB1.out.mono hb.out.size)⟩
          intro i hi
          by_cases hij : i < 64 * j
          · exact hE.out i hij
          · have := HQ.out.1 (by trivial) (i - 64 * j) (by omega)
            rwa [show 64 * j + (i - 64 * j) = i by omega] at this
        case measure => simp [intOf]; omega
      | false =>
        go_wp2_with (go_at_call 38; refine HS.out.mono ?_; rintro e w1 ⟨rfl, hb1⟩; have HB1 := Lib.hid hb1; clear hb1)
        go_ret
        refine ⟨?_, hb.out.trans (HB1.out.mono hb.out.size)⟩
        have hne : ¬ l = m := fun e => by
          have := HQ.out.2 (fun i _ => by rw [e])
          cases this
        simp [hne]
    · go_wp2
      go_ret
      obtain rfl : j = n := by omega
      have e : l = m := list_ext0 (by rw [HL.out, HM.out]) (fun i hi => hE.out i (by rw [← HL.out]; exact hi))
      exact ⟨by simp [e], hb.out⟩
theorem PagesIn.form {w : World} {v : Value} {g n : Nat} (h : PagesIn w v g n) : ∃ o c, v = .slice o n c := by
  rcases h with ⟨rfl, rfl⟩ | ⟨r, c, rfl, _, _⟩
  · exact ⟨_, _, rfl⟩
  · exact ⟨_, _, rfl⟩
theorem Same_nil (w : World) : Calls Try.prog 26 #[.pointer none, .pointer none] w fun e w' => e = .returned (.bool true) ∧ w = w' := by
  go_enter Try.func26, Try.ntmps26
  go_wp2_with (first | (go_at_call 30; refine (frames_nil _).mono ?_; rintro e w' ⟨rfl, rfl⟩) | (go_at_call 37; refine (EqualFunc_nil _ _).mono ?_; rintro e w' ⟨rfl, rfl⟩))
  go_ret
  exact ⟨rfl, rfl⟩
theorem frames_any {w : World} {S : Nat} {l : List Int} {F : Nat → Prop} (h : Fr w S l F) : Calls Try.prog 30 #[.pointer (some ⟨S, 0, none⟩)] w fun e w' =>
    ∃ o c, e = .returned (.slice o (l.length / 64) c) ∧ 0 < l.length / 64 ∧ Below w.heap.size w w' := by
  obtain ⟨g, c, rfl, h⟩ := h
  have := h.lo
  refine (frames_is h).mono ?_
  rintro e w1 ⟨v, rfl, hrow, hb⟩
  obtain ⟨o, c', rfl⟩ := (pagesIn_of_own hrow).form
  exact ⟨o, c', rfl, by omega, hb⟩
theorem Same_left {w : World} {S : Nat} {l : List Int} {F : Nat → Prop} (h : Fr w S l F) : Calls Try.prog 26 #[.pointer (some ⟨S, 0, none⟩), .pointer none] w fun e w' => e = .returned (.bool false) ∧ Below w.heap.size w w' := by
  have H := Lib.hid (frames_any h)
  clear h
  go_enter Try.func26, Try.ntmps26
  go_wp2_with fail
  refine H.out.mono ?_
  rintro e w1 ⟨o, c, rfl, h0, hb⟩
  have HB := Lib.hid hb
  have H0 := Lib.hid h0
  clear hb h0
  go_wp2_with fail
  refine (frames_nil _).mono ?_
  rintro e w2 ⟨rfl, rfl⟩
  go_wp2_with fail
  refine (EqualFunc_lens _ _ _ _ _ _ (by have := H0.out; omega) _ _).mono ?_
  rintro e w2 ⟨rfl, rfl⟩
  go_wp2
  go_ret
  exact ⟨rfl, HB.out⟩
theorem Same_right {w : World} {S : Nat} {l : List Int} {F : Nat → Prop} (h : Fr w S l F) : Calls Try.prog 26 #[.pointer none, .pointer (some ⟨S, 0, none⟩)] w fun e w' => e = .returned (.bool false) ∧ Below w.heap.size w w' := by
  have H := Lib.hid (frames_any h)
  clear h
  go_enter Try.func26, Try.ntmps26
  go_wp2_with fail
  refine (frames_nil _).mono ?_
  rintro e w2 ⟨rfl, rfl⟩
  go_wp2_with fail
  refine H.out.mono ?_
  rintro e w1 ⟨o, c, rfl, h0, hb⟩
  have HB := Lib.hid hb
  have H0 := Lib.hid h0
  clear hb h0
  go_wp2_with fail
  refine (EqualFunc_lens _ _ _ _ _ _ (by have := H0.out; omega) _ _).mono ?_
  rintro e w2 ⟨rfl, rfl⟩
  go_wp2
  go_ret
  exact ⟨rfl, HB.out⟩
theorem Same_any {w : World} {S1 S2 : Nat} {l m : List Int} {F1 F2 : Nat → Prop} (h1 : Fr w S1 l F1) (h2 : Fr w S2 m F2) : Calls Try.prog 26 #[.pointer (some ⟨S1, 0, none⟩), .pointer (some ⟨S2, 0, none⟩)] w fun e w' => e = .returned (.bool (decide (l = m))) ∧ Below w.heap.size w w' := by
  obtain ⟨g1, c1, rfl, h1⟩ := h1
  obtain ⟨g2, c2, rfl, h2⟩ := h2
  have I1 := Lib.hid h1
  have I2 := Lib.hid h2
  clear h1 h2
  go_enter Try.func26, Try.ntmps26
  go_wp2_with fail
  refine (frames_is I1.out).mono ?_
  rintro e w1 ⟨v1, rfl, r1, b1⟩
  have R1 := Lib.hid (pagesIn_of_own r1)
  have B1 := Lib.hid b1
  clear r1 b1
  go_wp2_with fail
  refine (frames_is (I2.out.below B1.out)).mono ?_
  rintro e w2 ⟨v2, rfl, r2, b2⟩
  have R2 := Lib.hid (pagesIn_of_own r2)
  have B2 := Lib.hid (B1.out.trans (b2.mono B1.out.size))
  have R1' := Lib.hid (R1.out.below b2)
  clear r2 b2
  have HE : Hid (Calls Try.prog 37 #[v1, v2, .func (.func 38) #[] #[]] w2 fun e w' => e = .returned (.bool (decide (l = m))) ∧ Below w2.heap.size w2 w') := by
    have j1 := I1.out.below B2.out
    have j2 := I2.out.below B2.out
    have a1 := j1.lo; have a2 := j1.pg; have a3 := j1.hi
    have a4 := j2.lo; have a5 := j2.pg; have a6 := j2.hi
    by_cases hne : l.length / 64 = m.length / 64
    · rcases R1'.out with ⟨_, h0⟩ | ⟨q1, d1, rfl, hd1, k1⟩
      · omega
      · rcases R2.out with ⟨_, h0⟩ | ⟨q2, d2, rfl, hd2, k2⟩
        · omega
        · rw [← hne] at hd2 k2 ⊢
          exact EqualFunc_any j1.row j2.row (n := l.length / 64) (by omega) (by omega) (by omega) q1 q2 d1 d2 k1 k2 hd1 hd2
    · obtain ⟨o1, d1, rfl⟩ := R1'.out.form
      obtain ⟨o2, d2, rfl⟩ := R2.out.form
      have hlm : ¬ l = m := fun e => hne (by rw [e])
      rw [decide_eq_false hlm]
      refine (EqualFunc_lens _ _ _ _ _ _ hne _ _).mono ?_
      rintro e w' ⟨h1, rfl⟩
      exact ⟨h1, Below.refl _ _⟩
  go_wp2_with fail
  refine HE.out.mono ?_
  rintro e w3 ⟨rfl, b3⟩
  have B3 := Lib.hid (B2.out.trans (b3.mono B2.out.size))
  clear b3
  go_wp2
  go_ret
  exact ⟨rfl, B3.out⟩
end Go.Proofs.Ythcipnmcmcihgaa
