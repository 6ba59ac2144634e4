/-
  Layer 2: the walk of LabelsJoins.
-/
import Derived.Test.YtafnclkkncokpaaDoorWalkPlay
namespace Go.Proofs.YtafnclkkncokpaaDoor
open Go.RowKit
set_option maxHeartbeats 1000000

theorem orI_w32 {x y : Int} (hx : W32 x) (hy : W32 y) : W32 (orI x y) := by
  unfold W32 at *
  unfold orI
  have h : x.toNat ||| y.toNat < 2 ^ 32 := Nat.or_lt_two_pow (by omega) (by omega)
  omega
theorem and_left {x y : Int} (hx : W32 x) (hy : W32 y) : bits .and .u32 (orI x y) x = x := by
  have hz := orI_w32 hx hy
  rw [u32_and _ _ hz.1 hz.2 hx.1 hx.2]
  unfold orI
  rw [Int.toNat_natCast]
  have : (x.toNat ||| y.toNat) &&& x.toNat = x.toNat := by
    apply Nat.eq_of_testBit_eq
    intro i
    rw [Nat.testBit_and, Nat.testBit_or]
    cases x.toNat.testBit i <;> cases y.toNat.testBit i <;> rfl
  rw [this]
  have := hx.1
  omega
theorem and_right {x y : Int} (hx : W32 x) (hy : W32 y) : bits .and .u32 (orI x y) y = y := by
  rw [orI_comm]; exact and_left hy hx
theorem andNot_both {x y : Int} (hx : W32 x) (hy : W32 y) : bits .andNot .u32 (bits .andNot .u32 (orI x y) x) y = 0 := by
  have hz := orI_w32 hx hy
  rw [u32_andNot _ _ hz.1 hz.2 hx.1 hx.2]
  have hx2 : x.toNat < 2 ^ 32 := by have := hx.2; have := hx.1; omega
  have hy2 : y.toNat < 2 ^ 32 := by have := hy.2; have := hy.1; omega
  have hlt : (orI x y).toNat &&& (4294967295 - x.toNat) < 2 ^ 32 := Nat.and_lt_two_pow _ (by omega)
  rw [u32_andNot _ _ (by omega) (by omega) hy.1 hy.2]
  unfold orI
  rw [Int.toNat_natCast, Int.toNat_natCast]
  have e1 : 4294967295 - x.toNat = 2 ^ 32 - (x.toNat + 1) := by omega
  have e2 : 4294967295 - y.toNat = 2 ^ 32 - (y.toNat + 1) := by omega
  have : ((x.toNat ||| y.toNat) &&& (4294967295 - x.toNat)) &&& (4294967295 - y.toNat) = 0 := by
    apply Nat.eq_of_testBit_eq
    intro i
    rw [e1, e2, Nat.testBit_and, Nat.testBit_and, Nat.testBit_or, Nat.testBit_two_pow_sub_succ hx2, Nat.testBit_two_pow_sub_succ hy2, Nat.zero_testBit]
    cases x.toNat.testBit i <;> cases y.toNat.testBit i <;> cases decide (i < 32) <;> rfl
  rw [this]
  rfl

/-- The table, far from what was there. -/
def JInv (w : World) (T : Nat) (m n : Nat) (wr : World) : Prop := ∃ ss F, Tab wr T 65536 ss m F ∧ (∀ k ∈ F, w.heap.size ≤ k) ∧ Below w.heap.size w wr ∧ ss.length ≤ n
theorem keep_len (most : Int) (ss : List Int) (x : Int) : (keepR most ss x).1.length ≤ ss.length + 1 := by
  unfold keepR
  split
  · simp
  · split
    · simp
    · split <;> simp
/-- Keep, whatever it answers. -/
theorem Keep_j (T : Nat) (m n : Nat) (x : Int) (hx : W32 x) (w wr : World) (h : JInv w T m n wr) :
    Calls Tryd.prog 14 #[.pointer (some ⟨T, 0, none⟩), .int .u32 x] wr fun r w' => (∃ v, r = .returned v) ∧ Hid (JInv w T m (n + 1) w') := by
  obtain ⟨ss, F, hT, hF, hb, hl⟩ := h
  refine (Keep_far T 65536 ss (keepR 65536 ss x).1 m F x hx w.heap.size w wr hb.size hF hb (keepR 65536 ss x).2.1 (keepR 65536 ss x).2.2 rfl hT).mono fun r w' ⟨h1, F', h2⟩ => ⟨⟨_, h1⟩, _, F', h2.out.1, h2.out.2.1, h2.out.2.2, ?_⟩
  have := keep_len 65536 ss x
  omega
/-- Join, at a table far from B. -/
theorem Join_far (T : Nat) (most : Int) (ss ss' : List Int) (m : Nat) (hm : m < 65536) (F : List Nat) (a b : Int) (B : Nat) (w0 w : World) (hB : B ≤ w.heap.size) (hF : ∀ k ∈ F, B ≤ k) (hb : Below B w0 w) (n e : Int) (hk : joinR most ss a b = (ss', n, e)) (h : Tab w T most ss m F) :
    Calls Tryd.prog 16 #[.pointer (some ⟨T, 0, none⟩), .int .i64 a, .int .i64 b] w fun r w' => r = .returned (.tuple #[.int .i64 n, .int .i64 e]) ∧ ∃ F', Hid (Tab w' T most ss' (m + 1) F' ∧ (∀ k ∈ F', B ≤ k) ∧ Below B w0 w') := by
  have := Join_any T most ss m hm F a b w h
  rw [hk] at this
  exact this.mono fun r w' ⟨h1, h2⟩ => ⟨h1, h2.far hB hF hb⟩
theorem setX_some {ss : List Int} {i : Nat} (h : i < ss.length) : setX ss (i : Int) = ss[i]?.getD 0 := by unfold setX; rw [if_pos (by omega)]; simp
theorem setE_some {ss : List Int} {i : Nat} (h : i < ss.length) : setE ss (i : Int) = 0 := by unfold setE; rw [if_pos (by omega)]
theorem setE_none {ss : List Int} {a : Int} (h : ¬ (0 ≤ a ∧ a < (ss.length : Int))) : setE ss a = 5 := by unfold setE; rw [if_neg h]
/-- Two joins, one behind the other. -/
theorem join_twice {ss : List Int} (hs : Sets 65536 ss) (hl : ss.length < 60000) {i j : Nat} (hi : i < ss.length) (hj : j < ss.length) :
    ∃ (ss' : List Int) (p : Nat), joinR 65536 ss (i : Int) (j : Int) = (ss', (p : Int), 0) ∧ joinR 65536 ss' (j : Int) (i : Int) = (ss', (p : Int), 0) ∧ p < ss'.length ∧ setX ss' (p : Int) = orI (setX ss i) (setX ss j) ∧ setE ss' (p : Int) = 0 ∧ ss'.length ≤ ss.length + 1 := by
  have hx := orI_s16 (hs.at_ hi) (hs.at_ hj)
  have e0 := joinR_some (most := 65536) hi hj
  have hok : (keepR 65536 ss (orI (ss[i]?.getD 0) (ss[j]?.getD 0))).2.2 = 0 := by
    by_cases hm : orI (ss[i]?.getD 0) (ss[j]?.getD 0) ∈ ss
    · rw [keepR_old hx.2 hm]
    · rw [keepR_new hx.2 hm (by omega)]
  obtain ⟨p, h1, h2, h3, h4, h5⟩ := keepR_ok hs hx hok
  have hkl := keep_len 65536 ss (orI (ss[i]?.getD 0) (ss[j]?.getD 0))
  have hs' := hs.keep hx.1
  rw [setX_some hi, setX_some hj]
  generalize hz : orI (ss[i]?.getD 0) (ss[j]?.getD 0) = z at *
  generalize hR : keepR 65536 ss z = R at *
  have hm' : z ∈ R.1 := List.mem_of_getElem? h3
  refine ⟨R.1, p, by rw [e0, ← h1, ← hok], ?_, h2, by rw [setX_some h2, h3]; rfl, setE_some h2, hkl⟩
  rw [joinR_some (by omega) (by omega), h5 j hj, h5 i hi, orI_comm, hz, keepR_old hx.2 hm', pos_of_get hs'.apart h3]

set_option maxRecDepth 100000 in
theorem LabelsJoins_walk (v0 : Value) (xs : List Int) (v1 : Value) (ls : List Step4) (w : World) (h0 : NumsIn .u32 w v0 xs) (h1 : StepsIn w v1 ls) :
    Calls Tryd.prog 4 #[v0, v1] w fun e w' => e = .returned (.bool true) ∧ Below w.heap.size w w' := by
  obtain ⟨o0, c0, rfl, hcap0, hl0, hc0⟩ := h0.form
  obtain ⟨o1, c1, rfl, hcap1, hl1, hc1⟩ := h1.form
  have HC0 := Lib.hid hc0
  have HC1 := Lib.hid hc1
  clear h0 h1 hc0 hc1
  by_cases hbad : 20 < (xs.length : Int) ∨ 30 < (ls.length : Int)
  · clear HC0 HC1
    go_enter Tryd.func4, Tryd.ntmps4
    by_cases h1 : 20 < (xs.length : Int)
    all_goals
      go_wp2_with (go_at_call 9; (with_reducible refine (known_any _).mono ?_); rintro e w3 ⟨rfl, hb3⟩)
      go_ret
      exact ⟨rfl, hb3⟩
  · have b1 : (xs.length : Int) ≤ 20 := by omega
    have b2 : (ls.length : Int) ≤ 30 := by omega
    go_enter Tryd.func4, Tryd.ntmps4
    go_wp2_with (go_at_call 10; (with_reducible refine (New_good 65536 (by decide) (by decide) _).mono ?_); rintro e w1 ⟨rfl, hT, hb1⟩; have HJ : Hid (JInv w (w.heap.size + 3) 0 1 w1) := ⟨_, _, hT, fun k hk => by simp at hk; omega, hb1, by simp⟩; clear hT hb1)
    generalize hTT : w.heap.size + 3 = T at *
    clear hTT
    go_loopw [7] (fun i wr => ∃ k : Nat, k ≤ xs.length ∧ i = .int .i64 k ∧ Hid (JInv w T 0 (1 + k) wr)) (fun i _ => xs.length - (intOf i).toNat)
    case atStart => exact ⟨0, by omega, rfl, HJ.out⟩
    case round =>
      clear HJ
      obtain ⟨k, hk, rfl, HI⟩ := hrel
      by_cases hlt : k < xs.length
      · obtain ⟨y, hy⟩ : ∃ y, xs[k]? = some y := ⟨_, List.getElem?_eq_getElem hlt⟩
        obtain ⟨a, rfl, hca, hwf⟩ := HC0.out k y hy
        have hbel : Below w.heap.size w wr := by obtain ⟨_, _, _, _, h, _⟩ := HI.out; exact h
        have hcw := below_cell hbel hca (World.block_lt_of_cell? _ _ hca)
        have hy0 : W32 y := w32_of_wf hwf
        have hx16 : S16 (y.tmod 65536) := by
          rw [Int.tmod_eq_emod_of_nonneg hy0.1]
          exact ⟨by have := hy0.1; omega, by omega⟩
        have hw32 := Lib.hid hx16.w32
        clear hca hwf hy hx16 hbel
        go_wp2_with (go_at_call 14; (with_reducible refine (Keep_j _ _ _ _ hw32.out _ _ HI.out).mono ?_); rintro e w2 ⟨⟨vv, rfl⟩, HI2⟩)
        go_roundw
        case rel => exact ⟨k + 1, by omega, by go_num, HI2⟩
        case measure => simp [intOf]; omega
      · have hkx : k = xs.length := by omega
        subst hkx
        go_wp2_with fail
        clear hlt hk HC0
        go_loopw [8] (fun i wr => ∃ k : Nat, k ≤ ls.length ∧ i = .int .i64 k ∧ Hid (JInv w T (2 * k) (1 + xs.length + k) wr)) (fun i _ => ls.length - (intOf i).toNat)
        case atStart => exact ⟨0, by omega, rfl, HI.out⟩
        case round =>
          clear HI
          obtain ⟨k, hk, rfl, HI⟩ := hrel
          obtain ⟨ss, F, HI⟩ : ∃ ss F, Hid (Tab wr T 65536 ss (2 * k) F ∧ (∀ k ∈ F, w.heap.size ≤ k) ∧ Below w.heap.size w wr ∧ ss.length ≤ 1 + xs.length + k) := HI.out
          have HJ := fun q => Lib.hid (show Tab (wr.drewN q) T 65536 ss (2 * k) F ∧ (∀ k ∈ F, w.heap.size ≤ k) ∧ Below w.heap.size w (wr.drewN q) ∧ ss.length ≤ 1 + xs.length + k from ⟨HI.out.1.below (below_drewN _ wr q), HI.out.2.1, HI.out.2.2.1.trans (below_drewN _ wr q), HI.out.2.2.2⟩)
          have HJ' := Lib.hid HJ
          clear HJ
          by_cases hlt : k < ls.length
          · obtain ⟨s, hs⟩ : ∃ s, ls[k]? = some s := ⟨_, List.getElem?_eq_getElem hlt⟩
            obtain ⟨hx, a, rfl, ha0, ha1, ha2, ha3⟩ := HC1.out k s hs
            have hw := HI.out.2.2.1
            have a1 := at_add (by decide) (below_cell hw ha1 (World.block_lt_of_cell? _ _ ha1))
            have a2 := at_add (by decide) (below_cell hw ha2 (World.block_lt_of_cell? _ _ ha2))
            have hse := Lib.hid HI.out.1.sets
            have hln := HI.out.2.2.2
            have hm1 : 2 * k < 65536 := by omega
            have hm2 : 2 * k + 1 < 65536 := by omega
            obtain ⟨sk, sa, sb, sx⟩ := s
            dsimp only at a1 a2
            clear hs ha0 ha1 ha2 ha3 hw hx
            by_cases hr : (0 ≤ sa ∧ sa < (ss.length : Int)) ∧ (0 ≤ sb ∧ sb < (ss.length : Int))
            · obtain ⟨i, rfl⟩ := Int.eq_ofNat_of_zero_le hr.1.1
              obtain ⟨j, rfl⟩ := Int.eq_ofNat_of_zero_le hr.2.1
              have hi : i < ss.length := by omega
              have hj : j < ss.length := by omega
              obtain ⟨ss', p, hJ1, hJ2, hp, hX, hE, hln'⟩ := join_twice hse.out (by omega) hi hj
              have hxi : W32 (setX ss (i : Int)) := by rw [setX_some hi]; exact (hse.out.at_ hi).w32
              have hxj : W32 (setX ss (j : Int)) := by rw [setX_some hj]; exact (hse.out.at_ hj).w32
              have t1 := and_left hxi hxj
              have t2 := and_right hxi hxj
              have t3 := andNot_both hxi hxj
              have HS1 : Hid (∀ (W : World), Tab W T 65536 ss (2 * k) F → Calls Tryd.prog 15 #[.pointer (some ⟨T, 0, none⟩), .int .i64 (i : Int)] W fun e w' => e = .returned (.tuple #[.int .u32 (setX ss (i : Int)), .int .i64 0]) ∧ W = w') := fun W hW => by
                have := Set_any T 65536 ss (2 * k) F (i : Int) W hW
                rwa [setE_some hi] at this
              have HS2 : Hid (∀ (W : World), Tab W T 65536 ss (2 * k) F → Calls Tryd.prog 15 #[.pointer (some ⟨T, 0, none⟩), .int .i64 (j : Int)] W fun e w' => e = .returned (.tuple #[.int .u32 (setX ss (j : Int)), .int .i64 0]) ∧ W = w') := fun W hW => by
                have := Set_any T 65536 ss (2 * k) F (j : Int) W hW
                rwa [setE_some hj] at this
              have HS3 : Hid (∀ (W : World) (F' : List Nat), Tab W T 65536 ss' (2 * k + 1 + 1) F' → Calls Tryd.prog 15 #[.pointer (some ⟨T, 0, none⟩), .int .i64 (p : Int)] W fun e w' => e = .returned (.tuple #[.int .u32 (orI (setX ss (i : Int)) (setX ss (j : Int))), .int .i64 0]) ∧ W = w') := fun W F' hW => by
                have := Set_any T 65536 ss' (2 * k + 1 + 1) F' (p : Int) W hW
                rwa [hE, hX] at this
              generalize setX ss (i : Int) = x at *
              generalize setX ss (j : Int) = y at *
              generalize orI x y = z at *
              have HJ1 := Lib.hid hJ1
              have HJ2 := Lib.hid hJ2
              clear hr hJ1 hJ2 hX hE hxi hxj
              go_wp2_with fail
              go_quiet (fail)
              go_wp2_with fail
              refine (HS1.out _ (HJ'.out _).out.1).mono ?_
              rintro e w2 ⟨rfl, rfl⟩
              go_wp2_with fail
              refine (HS2.out _ (HJ'.out _).out.1).mono ?_
              rintro e w2 ⟨rfl, rfl⟩
              go_wp2_with fail
              refine (Join_far _ _ _ _ _ hm1 _ _ _ _ _ _ (HJ'.out _).out.2.2.1.size HI.out.2.1 (HJ'.out _).out.2.2.1 _ _ HJ1.out (HJ'.out _).out.1).mono ?_
              rintro e w2 ⟨rfl, F2, HI2⟩
              go_wp2_with fail
              refine (Join_far _ _ _ _ _ hm2 _ _ _ _ _ _ HI2.out.2.2.size HI2.out.2.1 HI2.out.2.2 _ _ HJ2.out HI2.out.1).mono ?_
              rintro e w3 ⟨rfl, F3, HI3⟩
              go_wp2_with fail
              refine (HS3.out _ _ HI3.out.1).mono ?_
              rintro e w4 ⟨rfl, rfl⟩
              go_wp2_with fail
              go_roundw
              case rel => exact ⟨k + 1, by omega, by go_num, ss', F3, HI3.out.1, HI3.out.2.1, HI3.out.2.2, by omega⟩
              case measure => simp [intOf]; omega
            · have hab : sa < 0 ∨ (ss.length : Int) ≤ sa ∨ sb < 0 ∨ (ss.length : Int) ≤ sb := by omega
              have HJ1 := Lib.hid (joinR_none (most := 65536) hab)
              have HJ2 := Lib.hid (joinR_none (most := 65536) (ss := ss) (a := sb) (b := sa) (by omega))
              have HS1 : Hid (∀ (W : World) (c : Int), Tab W T 65536 ss (2 * k) F → Calls Tryd.prog 15 #[.pointer (some ⟨T, 0, none⟩), .int .i64 c] W fun e w' => e = .returned (.tuple #[.int .u32 (setX ss c), .int .i64 (setE ss c)]) ∧ W = w') := fun W c hW => Set_any T 65536 ss (2 * k) F c W hW
              by_cases hra : 0 ≤ sa ∧ sa < (ss.length : Int)
              · have ea : setE ss sa = 0 := by unfold setE; rw [if_pos hra]
                have eb : setE ss sb = 5 := setE_none (by omega)
                clear hr hab hra
                go_wp2_with fail
                go_quiet (fail)
                go_wp2_with fail
                refine (HS1.out _ _ (HJ'.out _).out.1).mono ?_
                rw [ea]
                rintro e w2 ⟨rfl, rfl⟩
                go_wp2_with fail
                refine (HS1.out _ _ (HJ'.out _).out.1).mono ?_
                rw [eb]
                rintro e w2 ⟨rfl, rfl⟩
                go_wp2_with fail
                refine (Join_far _ _ _ _ _ hm1 _ _ _ _ _ _ (HJ'.out _).out.2.2.1.size HI.out.2.1 (HJ'.out _).out.2.2.1 _ _ HJ1.out (HJ'.out _).out.1).mono ?_
                rintro e w2 ⟨rfl, F2, HI2⟩
                go_wp2_with fail
                refine (Join_far _ _ _ _ _ hm2 _ _ _ _ _ _ HI2.out.2.2.size HI2.out.2.1 HI2.out.2.2 _ _ HJ2.out HI2.out.1).mono ?_
                rintro e w3 ⟨rfl, F3, HI3⟩
                go_wp2_with fail
                go_roundw
                case rel => exact ⟨k + 1, by omega, by go_num, ss, F3, HI3.out.1, HI3.out.2.1, HI3.out.2.2, by omega⟩
                case measure => simp [intOf]; omega
              · have ea : setE ss sa = 5 := setE_none hra
                generalize hec : setE ss sb = eb
                clear hr hab hra
                go_wp2_with fail
                go_quiet (fail)
                go_wp2_with fail
                refine (HS1.out _ _ (HJ'.out _).out.1).mono ?_
                rw [ea]
                rintro e w2 ⟨rfl, rfl⟩
                go_wp2_with fail
                refine (HS1.out _ _ (HJ'.out _).out.1).mono ?_
                rw [hec]
                rintro e w2 ⟨rfl, rfl⟩
                go_wp2_with fail
                refine (Join_far _ _ _ _ _ hm1 _ _ _ _ _ _ (HJ'.out _).out.2.2.1.size HI.out.2.1 (HJ'.out _).out.2.2.1 _ _ HJ1.out (HJ'.out _).out.1).mono ?_
                rintro e w2 ⟨rfl, F2, HI2⟩
                go_wp2_with fail
                refine (Join_far _ _ _ _ _ hm2 _ _ _ _ _ _ HI2.out.2.2.size HI2.out.2.1 HI2.out.2.2 _ _ HJ2.out HI2.out.1).mono ?_
                rintro e w3 ⟨rfl, F3, HI3⟩
                go_wp2_with fail
                go_roundw
                case rel => exact ⟨k + 1, by omega, by go_num, ss, F3, HI3.out.1, HI3.out.2.1, HI3.out.2.2, by omega⟩
                case measure => simp [intOf]; omega
          · have HA := Lib.hid (All_any T 65536 ss (2 * k) F wr HI.out.1)
            have hln := HI.out.2.2.2
            go_wp2_with fail
            refine HA.out.mono ?_
            rintro e w2 ⟨g', c', rfl, hrow, hb2⟩
            have HT2 := Lib.hid (HI.out.1.below hb2)
            have hcap2 := row_cap hrow
            have k1 : Hid (∀ k, k < ss.length → w2.cell? ⟨g', k, none⟩ = some (.int .u32 (ss[k]?.getD 0))) := fun k hk => row_at rfl hrow hk
            have HB2 := Lib.hid (HI.out.2.2.1.trans (hb2.mono HI.out.2.2.1.size))
            clear hrow hb2 HC1 HA
            go_wp2_with fail
            go_loop [22] (fun i => ∃ k : Nat, k ≤ ss.length ∧ i = .int .i64 k) (fun i => ss.length - (intOf i).toNat)
            case atStart => exact ⟨0, by omega, rfl⟩
            case round =>
              obtain ⟨q, hq, rfl⟩ := hrel
              by_cases hltq : q < ss.length
              · have m1 := k1.out q hltq
                have hs := HT2.out.sets
                have hget : ss[q]? = some (ss[q]?.getD 0) := by rw [List.getElem?_eq_getElem hltq]; rfl
                have hpos := pos_of_get hs.apart hget
                have hmem : ss[q]?.getD 0 ∈ ss := List.mem_of_getElem? hget
                have hw := (hs.at_ hltq).w32
                generalize ss[q]?.getD 0 = z at m1 hpos hmem hw
                have HH := Lib.hid (Has_yes T 65536 ss _ F z hw hmem w2 HT2.out)
                rw [hpos] at HH
                clear hs hget hpos hmem hw
                go_wp2_with fail
                refine HH.out.mono ?_
                rintro e w3 ⟨rfl, rfl⟩
                go_wp2_with fail
                go_round
                case rel => exact ⟨q + 1, by omega, by go_num⟩
                case measure => simp [intOf]; omega
              · go_wp2_with (go_at_call 9; (with_reducible refine (known_any _).mono ?_); rintro e w3 ⟨rfl, hb3⟩)
                go_ret
                exact ⟨rfl, HB2.out.trans (hb3.mono HB2.out.size)⟩
end Go.Proofs.YtafnclkkncokpaaDoor
