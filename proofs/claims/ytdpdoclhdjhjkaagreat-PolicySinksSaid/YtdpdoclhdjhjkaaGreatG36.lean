/-
  Layer 13: broad and known of the statements: walks.
-/
import Derived.Test.YtdpdoclhdjhjkaaGreatG30
import Derived.Test.YtdpdoclhdjhjkaaGreatG06
import Derived.Test.YtdpdoclhdjhjkaaGreatG28
set_option linter.unusedVariables false
set_option linter.unusedSimpArgs false
namespace Go.Proofs.YtdpdoclhdjhjkaaGreat
open Go.RowKit
set_option maxHeartbeats 8000000
set_option maxRecDepth 100000
set_option linter.unusedVariables false
set_option linter.unusedSimpArgs false

/-- More than is done. -/
def brd (n : Nat) (l : List T.Tc) : Bool := decide (30 < n) || broadS l
theorem brd_no {n : Nat} {l : List T.Tc} (h : brd n l = false) : n ≤ 30 ∧ l.length ≤ 20 ∧ ∀ t ∈ l, t.2.length ≤ 20 := by
  unfold brd broadS at h
  simp only [Bool.or_eq_false_iff, decide_eq_false_iff_not] at h
  refine ⟨by omega, by omega, fun t ht => ?_⟩
  have := List.any_eq_false.1 h.2.2 t ht
  simpa using this
theorem broad13_any {w : World} {om : Option Addr} {n cm : Nat} (hn : n ≤ maxLen) {v : Value} {l : List T.Tc} (h : TsIn w v l) : Calls Tryz.prog 23 #[.slice om n cm, v] w fun e w' => e = .returned (.bool (brd n l)) ∧ Below w.heap.size w w' := by
  obtain ⟨q, hq⟩ : ∃ q, Hid (q = brd n l) := ⟨_, rfl⟩
  rw [← hq.out]
  have HA := Lib.hid (fun W (hb : Below w.heap.size w W) => (show TsIn W v l from h.below hb))
  obtain ⟨oa, ca, rfl, _, hla⟩ := h.shape
  unfold maxLen at hla hn
  clear h
  by_cases h30 : 30 < n
  · have h30' : (30 : Int) < (n : Int) := by omega
    have hq2 : q = true := by rw [hq.out]; simp [brd, h30]
    subst hq2
    go_enter Tryz.func23, Tryz.ntmps23
    go_wp2
    go_ret
    exact ⟨rfl, Below.refl _ _⟩
  have h30' : (n : Int) ≤ 30 := by omega
  by_cases h20 : 20 < l.length
  · have h20' : (20 : Int) < (l.length : Int) := by omega
    have hq2 : q = true := by rw [hq.out]; simp [brd, broadS, h20]
    subst hq2
    go_enter Tryz.func23, Tryz.ntmps23
    go_wp2
    go_ret
    exact ⟨rfl, Below.refl _ _⟩
  · have h20' : (l.length : Int) ≤ 20 := by omega
    go_enter Tryz.func23, Tryz.ntmps23
    go_wp2
    go_loopw [5] (fun i wr => ∃ k : Nat, k ≤ l.length ∧ i = .int .i64 (k : Int) ∧ Hid (Below w.heap.size w wr) ∧ Hid ((l.take k).any (fun t => decide (20 < t.2.length)) = false)) (fun i _ => l.length + 1 - natI i)
    case atStart => exact ⟨0, by omega, rfl, Below.refl _ _, Lib.hid (by rw [List.take_zero]; rfl)⟩
    case round =>
      obtain ⟨k, hk, rfl, HBl, HN⟩ := hrel
      by_cases hlt : k < l.length
      · have hi : (k : Int) < (l.length : Int) := by omega
        obtain ⟨g1, o1, c1, tc, fv, e1, l1, _, hpl, r1⟩ := (HA.out _ HBl.out).at_ hlt
        obtain ⟨oc, cc, rfl, _, hlm⟩ := hpl.shape
        unfold maxLen at hlm
        obtain ⟨q1, q2, q3⟩ := rng3 r1
        simp at e1
        obtain ⟨rfl, rfl⟩ := e1
        have HL := Lib.hid l1
        clear r1 hpl l1
        by_cases hb : 20 < tc.2.length
        · have hb' : (20 : Int) < (tc.2.length : Int) := by omega
          have hq2 : q = true := by
            rw [hq.out]; unfold brd broadS
            rw [any_hit HL.out (by simpa using hb)]; simp
          subst hq2
          go_wp2
          go_ret
          exact ⟨rfl, HBl.out⟩
        · have hb' : (tc.2.length : Int) ≤ 20 := by omega
          go_wp2
          refine ⟨⟨k + 1, by omega, by go_num, HBl, Lib.hid (any_false_succ _ l k tc HL.out HN.out (by simpa using hb))⟩, ?_⟩
          simp [natI]; omega
      · obtain rfl : k = l.length := by omega
        have hn := HN.out
        rw [List.take_length] at hn
        have hq2 : q = false := by rw [hq.out]; simp only [brd, broadS, hn, h20, h30, decide_false, Bool.or_self]
        subst hq2
        go_wp2
        go_ret
        exact ⟨rfl, HBl.out⟩
/-! ### known -/
theorem kp1 : (T.Fl.mk 1 1 4 [0] []).mark (13, 0) 1 1 = (⟨1, 1, 4, [0, 1], [((13, 0), 1)]⟩, 0) := by rfl
theorem kp2 : (T.Fl.mk 1 1 4 [0, 1] [((13, 0), 1)]).decides [((0, 0), [(13, 0)])] = (1, 0) := by rfl
theorem kp3 : (T.Fl.mk 1 1 4 [0, 1] [((13, 0), 1)]).decides [((13, 0), [(13, 0)])] = (0, 0) := by rfl
theorem kr10 : Ru.turn ru0 (decide ((1 : Int) < 65536)) 10 1 10 = 1 := by rfl
theorem kru : RuW (Ru.turn ru0 (decide ((1 : Int) < 65536)) 10 1) := fun i _ => by
  show W32 (if i = 10 then 1 else 0)
  split <;> exact ⟨by decide, by decide⟩
theorem ks1 : stopB (Ru.turn ru0 (decide ((1 : Int) < 65536)) 10 1) (T.Fl.mk 1 1 4 [0, 1] [((13, 0), 1)]) [((0, 0), [(13, 0)])] = true := by
  unfold stopB; rw [kp2, kr10]; rfl
theorem ks2 : stopB (Ru.turn ru0 (decide ((1 : Int) < 65536)) 10 1) (T.Fl.mk 1 1 4 [0, 1] [((13, 0), 1)]) [((13, 0), [(13, 0)])] = false := by
  unfold stopB; rw [kp3, kr10]; rfl
theorem known13_any (w : World) : Calls Tryz.prog 24 #[] w fun e w' => e = .returned (.bool true) ∧ Below w.heap.size w w' := by
  go_enter Tryz.func24, Tryz.ntmps24
  go_wp2_with fail
  refine (pNew_any w).mono ?_
  rintro e w1 ⟨rfl, hp, hb⟩
  have HP := Lib.hid hp
  have HB := Lib.hid hb
  clear hp hb
  go_wp2_with fail
  refine (Strict_any HP.out 1 ⟨by decide, by decide⟩).mono ?_
  rintro e w2 ⟨rfl, hp, ht⟩
  have HP2 := Lib.hid hp
  have HB2 := Lib.hid (HB.out.trans (ht.below HB.out.size (fun k e => by omega)))
  have he : refE true 1 = 0 := rfl
  rw [he]
  have hKU := kru
  have hK1 := ks1
  have hK2 := ks2
  generalize Ru.turn ru0 (decide ((1 : Int) < 65536)) 10 1 = r at HP2 hKU hK1 hK2
  have HKU := Lib.hid hKU
  have HK1 := Lib.hid hK1
  have HK2 := Lib.hid hK2
  clear hp ht HP HB he hKU hK1 hK2
  go_wp2_with fail
  refine (New_any 1 1 4 (by omega) _).mono ?_
  rintro e w3 ⟨S, F, rfl, hat, hF, hb⟩
  have HA3 := Lib.hid hat
  have HP3 := Lib.hid (HP2.out.below hb)
  have HB3 := Lib.hid (HB2.out.trans (hb.mono HB2.out.size))
  have HF3 : Hid (∀ k, F k → w.heap.size ≤ k ∧ k ≠ w.heap.size ∧ k < w3.heap.size) := fun k hk => ⟨by have := hF k hk; have := HB2.out.size; omega, by have := hF k hk; have := HP2.out.lt; omega, hat.lt hk⟩
  have hbk := blk_new w3 #[.int .i64 13, .int .i64 0] 35
  have HBk := Lib.hid hbk
  have x0 := hbk.cell 0
  have x1 := hbk.cell 1
  have HB4 := Lib.hid (bel1 w3 (.cells #[.int .i64 13, .int .i64 0] 35))
  clear hat hF hb hbk HP2 HB2
  go_wp2_with fail
  refine (Mark_any (HA3.out.below HB4.out) (13, 0) ⟨⟨by decide, by decide⟩, by decide, by decide⟩ 1 1 ⟨by decide, by decide⟩ ⟨by decide, by decide⟩).mono ?_
  rintro e w5 ⟨rfl, hch⟩
  rw [kp1] at hch ⊢
  obtain ⟨F5, hat5, hF5, hb5, ht5, hn5⟩ := hch.below (HB3.out.trans (HB4.out.mono HB3.out.size)) (fun k hk => (HF3.out k hk).1)
  have HA5 := Lib.hid hat5
  have HB5 := Lib.hid hb5
  have HP5 := Lib.hid ((HP3.out.below HB4.out).turned ht5 (fun e => (HF3.out _ e).2.1 rfl))
  have HK5 := Lib.hid (HBk.out.turned ht5 (fun e => by have := (HF3.out _ e).2.2; omega))
  have y0 := HK5.out.cell 0
  have y1 := HK5.out.cell 1
  clear hch hat5 hF5 hb5 ht5 hn5 x0 x1 HA3 HP3 HB3 HBk HB4
  have r1 := (blk_new w5 #[.int .i64 13, .int .i64 0] 35).alloc (.cells #[.int .i64 0, .int .i64 0, .slice (some ⟨w5.heap.size, 0, none⟩) 1 1] 90)
  have r2 := blk_new (w5.alloc (.cells #[.int .i64 13, .int .i64 0] 35)) #[.int .i64 0, .int .i64 0, .slice (some ⟨w5.heap.size, 0, none⟩) 1 1] 90
  rw [World.size_alloc] at r2
  have HTs := Lib.hid (TsIn.lit (l := [((0, 0), [(13, 0)])]) (cs := [.int .i64 0, .int .i64 0, .slice (some ⟨w5.heap.size, 0, none⟩) 1 1]) r2 ⟨_, [], rfl, PlsIn.lit (l := [(13, 0)]) r1 (by simp [maxLen]) (by simp [Pi, I64]), rfl⟩ rfl (by simp [maxLen]) (by simp [Pi, I64]))
  have HB6 := Lib.hid (bel2 w5 (.cells #[.int .i64 13, .int .i64 0] 35) (.cells #[.int .i64 0, .int .i64 0, .slice (some ⟨w5.heap.size, 0, none⟩) 1 1] 90))
  clear r1 r2
  go_wp2_with fail
  refine (Stops_any (HP5.out.below HB6.out) HKU.out (HA5.out.below HB6.out) HTs.out).mono ?_
  rintro e w7 ⟨rfl, hb⟩
  rw [HK1.out, kp2]
  have hb7 := HB6.out.trans (hb.mono HB6.out.size)
  have HA7 := Lib.hid (HA5.out.below hb7)
  have HP7 := Lib.hid (HP5.out.below hb7)
  have HK7 := Lib.hid (HK5.out.below hb7)
  have HB7 := Lib.hid (HB5.out.trans (hb7.mono HB5.out.size))
  clear hb hb7 y0 y1 HTs HB6 HA5 HP5 HK5 HB5
  have y0 := HK7.out.cell 0
  have y1 := HK7.out.cell 1
  have r1 := (blk_new w7 #[.int .i64 13, .int .i64 0] 35).alloc (.cells #[.int .i64 13, .int .i64 0, .slice (some ⟨w7.heap.size, 0, none⟩) 1 1] 90)
  have r2 := blk_new (w7.alloc (.cells #[.int .i64 13, .int .i64 0] 35)) #[.int .i64 13, .int .i64 0, .slice (some ⟨w7.heap.size, 0, none⟩) 1 1] 90
  rw [World.size_alloc] at r2
  have HTs := Lib.hid (TsIn.lit (l := [((13, 0), [(13, 0)])]) (cs := [.int .i64 13, .int .i64 0, .slice (some ⟨w7.heap.size, 0, none⟩) 1 1]) r2 ⟨_, [], rfl, PlsIn.lit (l := [(13, 0)]) r1 (by simp [maxLen]) (by simp [Pi, I64]), rfl⟩ rfl (by simp [maxLen]) (by simp [Pi, I64]))
  have HB8 := Lib.hid (bel2 w7 (.cells #[.int .i64 13, .int .i64 0] 35) (.cells #[.int .i64 13, .int .i64 0, .slice (some ⟨w7.heap.size, 0, none⟩) 1 1] 90))
  clear r1 r2
  go_wp2_with fail
  refine (Stops_any (HP7.out.below HB8.out) HKU.out (HA7.out.below HB8.out) HTs.out).mono ?_
  rintro e w9 ⟨rfl, hb⟩
  rw [HK2.out, kp3]
  have HB9 := Lib.hid (HB7.out.trans ((HB8.out.trans (hb.mono HB8.out.size)).mono HB7.out.size))
  clear hb y0 y1 HTs
  go_wp2
  go_ret
  exact ⟨rfl, HB9.out⟩
end Go.Proofs.YtdpdoclhdjhjkaaGreat
