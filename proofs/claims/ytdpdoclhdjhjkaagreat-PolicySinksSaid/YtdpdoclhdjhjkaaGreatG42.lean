/-
  Layer 13: the statement PolicySinks: a walk.
-/
import Derived.Test.YtdpdoclhdjhjkaaGreatG41
set_option linter.unusedVariables false
set_option linter.unusedSimpArgs false
namespace Go.Proofs.YtdpdoclhdjhjkaaGreat
open Go.RowKit
set_option maxHeartbeats 8000000
set_option maxRecDepth 100000
set_option linter.unusedVariables false
set_option linter.unusedSimpArgs false

/-- A round of the first loop. -/
def SnA (w : World) (f : Nat → Int) (k : Nat) (W : World) : Prop := Below w.heap.size w W ∧ Blk W w.heap.size #[.int .u32 (f 0), .int .u32 (f 1), .int .u32 (f 2), .int .u32 (f 3)] 87 ∧ Rf 67 11 W (w.heap.size + 1) (ruC (snR f k))
theorem SnA.cells {w : World} {f : Nat → Int} {k : Nat} {W : World} (h : SnA w f k W) : W.cell? ⟨w.heap.size, 0, none⟩ = some (.int .u32 (f 0)) ∧ W.cell? ⟨w.heap.size, 1, none⟩ = some (.int .u32 (f 1)) ∧ W.cell? ⟨w.heap.size, 2, none⟩ = some (.int .u32 (f 2)) ∧ W.cell? ⟨w.heap.size, 3, none⟩ = some (.int .u32 (f 3)) :=
  ⟨h.2.1.cell 0, h.2.1.cell 1, h.2.1.cell 2, h.2.1.cell 3⟩
theorem SnA.next {w : World} {f : Nat → Int} {k : Nat} {W : World} (h : SnA w f k W) (hk : k < 4) : (∃ u, W.cell? ⟨w.heap.size + 1, 6 + k, none⟩ = some (.int .u32 u)) ∧ W.frozen? ⟨w.heap.size + 1, 6 + k, none⟩ = false ∧ SnA w f (k + 1) (W.setCell ⟨w.heap.size + 1, 6 + k, none⟩ (.int .u32 (f k % 65536))) := by
  have tt : Turned (fun b => b = w.heap.size + 1) W (W.setCell ⟨w.heap.size + 1, 6 + k, none⟩ (.int .u32 (f k % 65536))) := (Turned.refl (fun b => b = w.heap.size + 1) W).setCell (.inl rfl) _
  refine ⟨⟨snR f k (6 + k), (h.2.2.blk.cell (6 + k)).trans (ruC_atR (snR f k) (by omega))⟩, h.2.2.blk.frozen _, h.1.trans (tt.below h.1.size (fun k e => by omega)), h.2.1.turned tt (by omega), ?_⟩
  have := h.2.2.blk.setCell (6 + k) (.int .u32 (f k % 65536))
  rw [ruC_setS _ (by omega), snR_succ] at this
  exact ⟨this, (ruC_ok _).1, (ruC_ok _).2⟩
theorem sn_mks {W : World} {A : Nat} {y : Int} (h : Blk W A #[.int .i64 1, .int .i64 1, .int .u32 y] 92) (hy : W32 y) : MksIn W (.slice (some ⟨A, 0, none⟩) 1 1) [((1, 1), y)] := by
  refine ⟨⟨rfl, _, _, rfl, Nat.le_refl _, by simp [maxLen], fun _ => ⟨A, 0, rfl, fun j u hj => ?_⟩⟩, fun x hx => ?_⟩
  · rw [h.cell, Nat.zero_add]
    simpa [prc] using hj
  · simp only [List.mem_cons, List.not_mem_nil, or_false] at hx
    subst hx
    exact ⟨show Pi (1, 1) by simp [Pi, I64], hy⟩
theorem PolicySinks_walk (f : Nat → Int) (x n : Int) {w : World} (hf : ∀ i, i < 4 → W32 (f i)) (hx : W32 x) (hn : I64 n) : Calls Tryz.prog 7 #[.agg #[.int .u32 (f 0), .int .u32 (f 1), .int .u32 (f 2), .int .u32 (f 3)], .int .u32 x, .int .i64 n] w fun e w' => e = .returned (.bool true) ∧ Below w.heap.size w w' := by
  by_cases hq : n < 0 ∨ 100 < n
  · exact Sinks_few f x n hq
  have n0 : 0 ≤ n := by omega
  have n1 : n ≤ 100 := by omega
  have hb0 := bel2 w (.cells #[.int .u32 (f 0), .int .u32 (f 1), .int .u32 (f 2), .int .u32 (f 3)] 87) (.cells (ruC (snR f 0)) 67)
  have hk0 := (blk_new w #[.int .u32 (f 0), .int .u32 (f 1), .int .u32 (f 2), .int .u32 (f 3)] 87).alloc (.cells (ruC (snR f 0)) 67)
  have hr0 := (ruC_ok (snR f 0)).new 67 (w.alloc (.cells #[.int .u32 (f 0), .int .u32 (f 1), .int .u32 (f 2), .int .u32 (f 3)] 87))
  rw [World.size_alloc] at hr0
  have H0 := Lib.hid (And.intro hb0 (And.intro hk0 hr0))
  have HOk := Lib.hid (ruC_ok (snR f 0))
  have HF := Lib.hid hf
  have HX := Lib.hid hx
  clear hb0 hk0 hr0 hf hx hq
  go_enter Tryz.func7, Tryz.ntmps7
  go_wp2_with ((with_reducible refine wp_store_Vn (ruC (snR f 0)) rvRules ⟨?_, HOk.out⟩ ?_ ?_ ?_); (rfl); (rfl); (rfl))
  have HA0 : Hid (SnA w f 0 ((w.alloc (.cells #[.int .u32 (f 0), .int .u32 (f 1), .int .u32 (f 2), .int .u32 (f 3)] 87)).alloc (.cells (ruC (snR f 0)) 67))) := H0.out
  clear H0
  go_loopw [8] (fun i wr => ∃ k : Nat, k ≤ 4 ∧ i = .int .i64 (k : Int) ∧ Hid (SnA w f k wr)) (fun i _ => 5 - natI i)
  case atStart => exact ⟨0, by omega, rfl, HA0.out⟩
  case round =>
    obtain ⟨k, hk, rfl, HA⟩ := hrel
    by_cases hlt : k < 4
    · obtain ⟨⟨u, cu⟩, fu, hnx⟩ := HA.out.next hlt
      have HNx := Lib.hid hnx
      obtain ⟨d0, d1, d2, d3⟩ := HA.out.cells
      clear hnx
      rcases (show k = 0 ∨ k = 1 ∨ k = 2 ∨ k = 3 by omega) with rfl | rfl | rfl | rfl
      · have hf0 := (HF.out 0 (by omega)).1
        have hm : (f 0).tmod 65536 = f 0 % 65536 := Int.tmod_eq_emod_of_nonneg hf0
        simp only [Nat.reduceAdd] at cu fu
        go_wp2
        exact ⟨⟨1, by omega, rfl, HNx.out⟩, by simp [natI]⟩
      · have hf0 := (HF.out 1 (by omega)).1
        have hm : (f 1).tmod 65536 = f 1 % 65536 := Int.tmod_eq_emod_of_nonneg hf0
        simp only [Nat.reduceAdd] at cu fu
        go_wp2
        exact ⟨⟨2, by omega, rfl, HNx.out⟩, by simp [natI]⟩
      · have hf0 := (HF.out 2 (by omega)).1
        have hm : (f 2).tmod 65536 = f 2 % 65536 := Int.tmod_eq_emod_of_nonneg hf0
        simp only [Nat.reduceAdd] at cu fu
        go_wp2
        exact ⟨⟨3, by omega, rfl, HNx.out⟩, by simp [natI]⟩
      · have hf0 := (HF.out 3 (by omega)).1
        have hm : (f 3).tmod 65536 = f 3 % 65536 := Int.tmod_eq_emod_of_nonneg hf0
        simp only [Nat.reduceAdd] at cu fu
        go_wp2
        exact ⟨⟨4, by omega, rfl, HNx.out⟩, by simp [natI]⟩
    · obtain rfl : k = 4 := by omega
      have hp9 := blk_new wr #[.int .i64 1, .int .i64 1] 35
      have hb9 := bel1 wr (.cells #[.int .i64 1, .int .i64 1] 35)
      have hB9 : w.heap.size + 2 ≤ wr.heap.size := by have := HA.out.2.2.lt; omega
      have HI0 : Hid (SnI w wr.heap.size (snR f 4) n 0 (.slice none 0 0) [] (wr.alloc (.cells #[.int .i64 1, .int .i64 1] 35))) := ⟨HA.out.1.trans (hb9.mono HA.out.1.size), HA.out.2.2.below hb9, hp9, hB9, Gs.nil _ _ _, ⟨fun _ => False, fun V _ => rfl, fun b hb => hb.elim⟩, fun b hb => by simp [blkOf] at hb⟩
      clear hp9 hb9 hB9 HA HA0
      go_wp2
      generalize wr.alloc (.cells #[.int .i64 1, .int .i64 1] 35) = w9 at HI0 ⊢
      generalize wr.heap.size = B at HI0 ⊢
      go_loopw [10, 11] (fun a i wr => ∃ (k : Nat) (av : Value) (cs : List Value), k ≤ 18 ∧ av = a ∧ i = .int .i64 (k : Int) ∧ Hid (SnI w B (snR f 4) n k av cs wr)) (fun _ i _ => 19 - natI i)
      case atStart => exact ⟨0, _, [], by omega, rfl, rfl, HI0.out⟩
      case round =>
        obtain ⟨k, av, cs, hk, rfl, rfl, HI⟩ := hrel
        clear HI0
        by_cases hlt : k < 18
        · have hi : (k : Int) < 18 := by omega
          rcases (show k = 0 ∨ k = 1 ∨ k = 2 ∨ k = 3 ∨ k = 4 ∨ k = 5 ∨ k = 6 ∨ k = 7 ∨ k = 8 ∨ k = 9 ∨ k = 10 ∨ k = 11 ∨ k = 12 ∨ k = 13 ∨ k = 14 ∨ k = 15 ∨ k = 16 ∨ k = 17 by omega) with rfl | rfl | rfl | rfl | rfl | rfl | rfl | rfl | rfl | rfl | rfl | rfl | rfl | rfl | rfl | rfl | rfl | rfl
          · skip
            obtain ⟨h1, h2, h3⟩ : Below wr.heap.size wr (wr.alloc (.cells #[.int .i64 0, .int .i64 0] 35)) ∧ Blk (wr.alloc (.cells #[.int .i64 0, .int .i64 0] 35)) wr.heap.size #[.int .i64 0, .int .i64 0] 35 ∧ snN n 0 = 0 := ⟨bel1 wr _, blk_new wr _ _, rfl⟩
            have HI2 := Lib.hid (HI.out.after h1)
            have H3 := Lib.hid h3
            have x0 := h2.cell 0
            have x1 := h2.cell 1
            have c0 := HI2.out.p.cell 0
            have c1 := HI2.out.p.cell 1
            have h4 := h2.alloc (.cells #[.int .i64 1, .int .i64 1] 35)
            have y0 := h4.cell 0
            have y1 := h4.cell 1
            simp only [List.getElem?_toArray, List.getElem?_cons_zero, List.getElem?_cons_succ] at x0 x1 c0 c1 y0 y1
            have hz : (wr.alloc (.cells #[.int .i64 0, .int .i64 0] 35)).heap.size = wr.heap.size + 1 := by simp
            have hp := blk_new (wr.alloc (.cells #[.int .i64 0, .int .i64 0] 35)) #[.int .i64 1, .int .i64 1] 35
            rw [hz] at hp
            have hsrc := ts_src2 ((wr.alloc (.cells #[.int .i64 0, .int .i64 0] 35)).alloc (.cells #[.int .i64 1, .int .i64 1] 35)) 0 0 (wr.heap.size + 1)
            rw [World.size_alloc, hz] at hsrc
            have HP := Lib.hid hp
            have HSr := Lib.hid hsrc
            have HRw := Lib.hid (HI2.out.row.below (bel2 _ (.cells #[.int .i64 1, .int .i64 1] 35) (.cells #[.int .i64 0, .int .i64 0, .slice (some ⟨wr.heap.size + 1, 0, none⟩) 1 1, .int .i64 0, .int .i64 0, .slice none 0 0] 90)))
            clear h1 h2 h3 h4 hp hsrc hz
            go_wp2_with (refine wp_append_g rfl _ _ rfl Tryz.underlying36 infoTouchS rfl (by omega) (by omega) rfl rfl HRw.out HSr.out (by omega) ?_; intro v6 w6 hg6 ht6 hn6)
            have hap := (HI2.out.after (bel2 _ (.cells #[.int .i64 1, .int .i64 1] 35) (.cells #[.int .i64 0, .int .i64 0, .slice (some ⟨wr.heap.size + 1, 0, none⟩) 1 1, .int .i64 0, .int .i64 0, .slice none 0 0] 90))).app (HP.out.alloc _) (by rw [H3.out]; exact hg6) ht6 hn6
            have HAp := Lib.hid hap
            clear hap hg6 ht6 hn6 x0 x1 c0 c1 y0 y1
            go_roundw
            case rel =>
              first
                | exact ⟨0 + 1, v6, _, by omega, rfl, by first | rfl | go_num, HAp.out⟩
                | ((repeat apply Exists.intro); refine ⟨?_, rfl⟩; exact ⟨0 + 1, v6, _, by omega, rfl, by first | rfl | go_num, HAp.out⟩)
            case measure => simp [natI]; try omega
          · skip
            obtain ⟨h1, h2, h3⟩ : Below wr.heap.size wr (wr.alloc (.cells #[.int .i64 1, .int .i64 0] 35)) ∧ Blk (wr.alloc (.cells #[.int .i64 1, .int .i64 0] 35)) wr.heap.size #[.int .i64 1, .int .i64 0] 35 ∧ snN n 1 = 0 := ⟨bel1 wr _, blk_new wr _ _, rfl⟩
            have HI2 := Lib.hid (HI.out.after h1)
            have H3 := Lib.hid h3
            have x0 := h2.cell 0
            have x1 := h2.cell 1
            have c0 := HI2.out.p.cell 0
            have c1 := HI2.out.p.cell 1
            have h4 := h2.alloc (.cells #[.int .i64 1, .int .i64 1] 35)
            have y0 := h4.cell 0
            have y1 := h4.cell 1
            simp only [List.getElem?_toArray, List.getElem?_cons_zero, List.getElem?_cons_succ] at x0 x1 c0 c1 y0 y1
            have hz : (wr.alloc (.cells #[.int .i64 1, .int .i64 0] 35)).heap.size = wr.heap.size + 1 := by simp
            have hp := blk_new (wr.alloc (.cells #[.int .i64 1, .int .i64 0] 35)) #[.int .i64 1, .int .i64 1] 35
            rw [hz] at hp
            have hsrc := ts_src2 ((wr.alloc (.cells #[.int .i64 1, .int .i64 0] 35)).alloc (.cells #[.int .i64 1, .int .i64 1] 35)) 1 0 (wr.heap.size + 1)
            rw [World.size_alloc, hz] at hsrc
            have HP := Lib.hid hp
            have HSr := Lib.hid hsrc
            have HRw := Lib.hid (HI2.out.row.below (bel2 _ (.cells #[.int .i64 1, .int .i64 1] 35) (.cells #[.int .i64 1, .int .i64 0, .slice (some ⟨wr.heap.size + 1, 0, none⟩) 1 1, .int .i64 1, .int .i64 0, .slice none 0 0] 90)))
            clear h1 h2 h3 h4 hp hsrc hz
            go_wp2_with (refine wp_append_g rfl _ _ rfl Tryz.underlying36 infoTouchS rfl (by omega) (by omega) rfl rfl HRw.out HSr.out (by omega) ?_; intro v6 w6 hg6 ht6 hn6)
            have hap := (HI2.out.after (bel2 _ (.cells #[.int .i64 1, .int .i64 1] 35) (.cells #[.int .i64 1, .int .i64 0, .slice (some ⟨wr.heap.size + 1, 0, none⟩) 1 1, .int .i64 1, .int .i64 0, .slice none 0 0] 90))).app (HP.out.alloc _) (by rw [H3.out]; exact hg6) ht6 hn6
            have HAp := Lib.hid hap
            clear hap hg6 ht6 hn6 x0 x1 c0 c1 y0 y1
            go_roundw
            case rel =>
              first
                | exact ⟨1 + 1, v6, _, by omega, rfl, by first | rfl | go_num, HAp.out⟩
                | ((repeat apply Exists.intro); refine ⟨?_, rfl⟩; exact ⟨1 + 1, v6, _, by omega, rfl, by first | rfl | go_num, HAp.out⟩)
            case measure => simp [natI]; try omega
          · skip
            obtain ⟨h1, h2, h3⟩ : Below wr.heap.size wr (wr.alloc (.cells #[.int .i64 2, .int .i64 0] 35)) ∧ Blk (wr.alloc (.cells #[.int .i64 2, .int .i64 0] 35)) wr.heap.size #[.int .i64 2, .int .i64 0] 35 ∧ snN n 2 = 0 := ⟨bel1 wr _, blk_new wr _ _, rfl⟩
            have HI2 := Lib.hid (HI.out.after h1)
            have H3 := Lib.hid h3
            have x0 := h2.cell 0
            have x1 := h2.cell 1
            have c0 := HI2.out.p.cell 0
            have c1 := HI2.out.p.cell 1
            have h4 := h2.alloc (.cells #[.int .i64 1, .int .i64 1] 35)
            have y0 := h4.cell 0
            have y1 := h4.cell 1
            simp only [List.getElem?_toArray, List.getElem?_cons_zero, List.getElem?_cons_succ] at x0 x1 c0 c1 y0 y1
            have hz : (wr.alloc (.cells #[.int .i64 2, .int .i64 0] 35)).heap.size = wr.heap.size + 1 := by simp
            have hp := blk_new (wr.alloc (.cells #[.int .i64 2, .int .i64 0] 35)) #[.int .i64 1, .int .i64 1] 35
            rw [hz] at hp
            have hsrc := ts_src2 ((wr.alloc (.cells #[.int .i64 2, .int .i64 0] 35)).alloc (.cells #[.int .i64 1, .int .i64 1] 35)) 2 0 (wr.heap.size + 1)
            rw [World.size_alloc, hz] at hsrc
            have HP := Lib.hid hp
            have HSr := Lib.hid hsrc
            have HRw := Lib.hid (HI2.out.row.below (bel2 _ (.cells #[.int .i64 1, .int .i64 1] 35) (.cells #[.int .i64 2, .int .i64 0, .slice (some ⟨wr.heap.size + 1, 0, none⟩) 1 1, .int .i64 2, .int .i64 0, .slice none 0 0] 90)))
            clear h1 h2 h3 h4 hp hsrc hz
            go_wp2_with (refine wp_append_g rfl _ _ rfl Tryz.underlying36 infoTouchS rfl (by omega) (by omega) rfl rfl HRw.out HSr.out (by omega) ?_; intro v6 w6 hg6 ht6 hn6)
            have hap := (HI2.out.after (bel2 _ (.cells #[.int .i64 1, .int .i64 1] 35) (.cells #[.int .i64 2, .int .i64 0, .slice (some ⟨wr.heap.size + 1, 0, none⟩) 1 1, .int .i64 2, .int .i64 0, .slice none 0 0] 90))).app (HP.out.alloc _) (by rw [H3.out]; exact hg6) ht6 hn6
            have HAp := Lib.hid hap
            clear hap hg6 ht6 hn6 x0 x1 c0 c1 y0 y1
            go_roundw
            case rel =>
              first
                | exact ⟨2 + 1, v6, _, by omega, rfl, by first | rfl | go_num, HAp.out⟩
                | ((repeat apply Exists.intro); refine ⟨?_, rfl⟩; exact ⟨2 + 1, v6, _, by omega, rfl, by first | rfl | go_num, HAp.out⟩)
            case measure => simp [natI]; try omega
          · skip
            obtain ⟨h1, h2, h3⟩ : Below wr.heap.size wr (wr.alloc (.cells #[.int .i64 3, .int .i64 0] 35)) ∧ Blk (wr.alloc (.cells #[.int .i64 3, .int .i64 0] 35)) wr.heap.size #[.int .i64 3, .int .i64 0] 35 ∧ snN n 3 = 0 := ⟨bel1 wr _, blk_new wr _ _, rfl⟩
            have HI2 := Lib.hid (HI.out.after h1)
            have H3 := Lib.hid h3
            have x0 := h2.cell 0
            have x1 := h2.cell 1
            have c0 := HI2.out.p.cell 0
            have c1 := HI2.out.p.cell 1
            have h4 := h2.alloc (.cells #[.int .i64 1, .int .i64 1] 35)
            have y0 := h4.cell 0
            have y1 := h4.cell 1
            simp only [List.getElem?_toArray, List.getElem?_cons_zero, List.getElem?_cons_succ] at x0 x1 c0 c1 y0 y1
            have hz : (wr.alloc (.cells #[.int .i64 3, .int .i64 0] 35)).heap.size = wr.heap.size + 1 := by simp
            have hp := blk_new (wr.alloc (.cells #[.int .i64 3, .int .i64 0] 35)) #[.int .i64 1, .int .i64 1] 35
            rw [hz] at hp
            have hsrc := ts_src2 ((wr.alloc (.cells #[.int .i64 3, .int .i64 0] 35)).alloc (.cells #[.int .i64 1, .int .i64 1] 35)) 3 0 (wr.heap.size + 1)
            rw [World.size_alloc, hz] at hsrc
            have HP := Lib.hid hp
            have HSr := Lib.hid hsrc
            have HRw := Lib.hid (HI2.out.row.below (bel2 _ (.cells #[.int .i64 1, .int .i64 1] 35) (.cells #[.int .i64 3, .int .i64 0, .slice (some ⟨wr.heap.size + 1, 0, none⟩) 1 1, .int .i64 3, .int .i64 0, .slice none 0 0] 90)))
            clear h1 h2 h3 h4 hp hsrc hz
            go_wp2_with (refine wp_append_g rfl _ _ rfl Tryz.underlying36 infoTouchS rfl (by omega) (by omega) rfl rfl HRw.out HSr.out (by omega) ?_; intro v6 w6 hg6 ht6 hn6)
            have hap := (HI2.out.after (bel2 _ (.cells #[.int .i64 1, .int .i64 1] 35) (.cells #[.int .i64 3, .int .i64 0, .slice (some ⟨wr.heap.size + 1, 0, none⟩) 1 1, .int .i64 3, .int .i64 0, .slice none 0 0] 90))).app (HP.out.alloc _) (by rw [H3.out]; exact hg6) ht6 hn6
            have HAp := Lib.hid hap
            clear hap hg6 ht6 hn6 x0 x1 c0 c1 y0 y1
            go_roundw
            case rel =>
              first
                | exact ⟨3 + 1, v6, _, by omega, rfl, by first | rfl | go_num, HAp.out⟩
                | ((repeat apply Exists.intro); refine ⟨?_, rfl⟩; exact ⟨3 + 1, v6, _, by omega, rfl, by first | rfl | go_num, HAp.out⟩)
            case measure => simp [natI]; try omega
          · skip
            obtain ⟨h1, h2, h3⟩ : Below wr.heap.size wr (wr.alloc (.cells #[.int .i64 4, .int .i64 0] 35)) ∧ Blk (wr.alloc (.cells #[.int .i64 4, .int .i64 0] 35)) wr.heap.size #[.int .i64 4, .int .i64 0] 35 ∧ snN n 4 = 0 := ⟨bel1 wr _, blk_new wr _ _, rfl⟩
            have HI2 := Lib.hid (HI.out.after h1)
            have H3 := Lib.hid h3
            have x0 := h2.cell 0
            have x1 := h2.cell 1
            have c0 := HI2.out.p.cell 0
            have c1 := HI2.out.p.cell 1
            have h4 := h2.alloc (.cells #[.int .i64 1, .int .i64 1] 35)
            have y0 := h4.cell 0
            have y1 := h4.cell 1
            simp only [List.getElem?_toArray, List.getElem?_cons_zero, List.getElem?_cons_succ] at x0 x1 c0 c1 y0 y1
            have hz : (wr.alloc (.cells #[.int .i64 4, .int .i64 0] 35)).heap.size = wr.heap.size + 1 := by simp
            have hp := blk_new (wr.alloc (.cells #[.int .i64 4, .int .i64 0] 35)) #[.int .i64 1, .int .i64 1] 35
            rw [hz] at hp
            have hsrc := ts_src2 ((wr.alloc (.cells #[.int .i64 4, .int .i64 0] 35)).alloc (.cells #[.int .i64 1, .int .i64 1] 35)) 4 0 (wr.heap.size + 1)
            rw [World.size_alloc, hz] at hsrc
            have HP := Lib.hid hp
            have HSr := Lib.hid hsrc
            have HRw := Lib.hid (HI2.out.row.below (bel2 _ (.cells #[.int .i64 1, .int .i64 1] 35) (.cells #[.int .i64 4, .int .i64 0, .slice (some ⟨wr.heap.size + 1, 0, none⟩) 1 1, .int .i64 4, .int .i64 0, .slice none 0 0] 90)))
            clear h1 h2 h3 h4 hp hsrc hz
            go_wp2_with (refine wp_append_g rfl _ _ rfl Tryz.underlying36 infoTouchS rfl (by omega) (by omega) rfl rfl HRw.out HSr.out (by omega) ?_; intro v6 w6 hg6 ht6 hn6)
            have hap := (HI2.out.after (bel2 _ (.cells #[.int .i64 1, .int .i64 1] 35) (.cells #[.int .i64 4, .int .i64 0, .slice (some ⟨wr.heap.size + 1, 0, none⟩) 1 1, .int .i64 4, .int .i64 0, .slice none 0 0] 90))).app (HP.out.alloc _) (by rw [H3.out]; exact hg6) ht6 hn6
            have HAp := Lib.hid hap
            clear hap hg6 ht6 hn6 x0 x1 c0 c1 y0 y1
            go_roundw
            case rel =>
              first
                | exact ⟨4 + 1, v6, _, by omega, rfl, by first | rfl | go_num, HAp.out⟩
                | ((repeat apply Exists.intro); refine ⟨?_, rfl⟩; exact ⟨4 + 1, v6, _, by omega, rfl, by first | rfl | go_num, HAp.out⟩)
            case measure => simp [natI]; try omega
          · skip
            obtain ⟨h1, h2, h3⟩ : Below wr.heap.size wr (wr.alloc (.cells #[.int .i64 5, .int .i64 0] 35)) ∧ Blk (wr.alloc (.cells #[.int .i64 5, .int .i64 0] 35)) wr.heap.size #[.int .i64 5, .int .i64 0] 35 ∧ snN n 5 = 0 := ⟨bel1 wr _, blk_new wr _ _, rfl⟩
            have HI2 := Lib.hid (HI.out.after h1)
            have H3 := Lib.hid h3
            have x0 := h2.cell 0
            have x1 := h2.cell 1
            have c0 := HI2.out.p.cell 0
            have c1 := HI2.out.p.cell 1
            have h4 := h2.alloc (.cells #[.int .i64 1, .int .i64 1] 35)
            have y0 := h4.cell 0
            have y1 := h4.cell 1
            simp only [List.getElem?_toArray, List.getElem?_cons_zero, List.getElem?_cons_succ] at x0 x1 c0 c1 y0 y1
            have hz : (wr.alloc (.cells #[.int .i64 5, .int .i64 0] 35)).heap.size = wr.heap.size + 1 := by simp
            have hp := blk_new (wr.alloc (.cells #[.int .i64 5, .int .i64 0] 35)) #[.int .i64 1, .int .i64 1] 35
            rw [hz] at hp
            have hsrc := ts_src2 ((wr.alloc (.cells #[.int .i64 5, .int .i64 0] 35)).alloc (.cells #[.int .i64 1, .int .i64 1] 35)) 5 0 (wr.heap.size + 1)
            rw [World.size_alloc, hz] at hsrc
            have HP := Lib.hid hp
            have HSr := Lib.hid hsrc
            have HRw := Lib.hid (HI2.out.row.below (bel2 _ (.cells #[.int .i64 1, .int .i64 1] 35) (.cells #[.int .i64 5, .int .i64 0, .slice (some ⟨wr.heap.size + 1, 0, none⟩) 1 1, .int .i64 5, .int .i64 0, .slice none 0 0] 90)))
            clear h1 h2 h3 h4 hp hsrc hz
            go_wp2_with (refine wp_append_g rfl _ _ rfl Tryz.underlying36 infoTouchS rfl (by omega) (by omega) rfl rfl HRw.out HSr.out (by omega) ?_; intro v6 w6 hg6 ht6 hn6)
            have hap := (HI2.out.after (bel2 _ (.cells #[.int .i64 1, .int .i64 1] 35) (.cells #[.int .i64 5, .int .i64 0, .slice (some ⟨wr.heap.size + 1, 0, none⟩) 1 1, .int .i64 5, .int .i64 0, .slice none 0 0] 90))).app (HP.out.alloc _) (by rw [H3.out]; exact hg6) ht6 hn6
            have HAp := Lib.hid hap
            clear hap hg6 ht6 hn6 x0 x1 c0 c1 y0 y1
            go_roundw
            case rel =>
              first
                | exact ⟨5 + 1, v6, _, by omega, rfl, by first | rfl | go_num, HAp.out⟩
                | ((repeat apply Exists.intro); refine ⟨?_, rfl⟩; exact ⟨5 + 1, v6, _, by omega, rfl, by first | rfl | go_num, HAp.out⟩)
            case measure => simp [natI]; try omega
          · skip
            obtain ⟨h1, h2, h3⟩ : Below wr.heap.size wr (wr.alloc (.cells #[.int .i64 6, .int .i64 0] 35)) ∧ Blk (wr.alloc (.cells #[.int .i64 6, .int .i64 0] 35)) wr.heap.size #[.int .i64 6, .int .i64 0] 35 ∧ snN n 6 = 0 := ⟨bel1 wr _, blk_new wr _ _, rfl⟩
            have HI2 := Lib.hid (HI.out.after h1)
            have H3 := Lib.hid h3
            have x0 := h2.cell 0
            have x1 := h2.cell 1
            have c0 := HI2.out.p.cell 0
            have c1 := HI2.out.p.cell 1
            have h4 := h2.alloc (.cells #[.int .i64 1, .int .i64 1] 35)
            have y0 := h4.cell 0
            have y1 := h4.cell 1
            simp only [List.getElem?_toArray, List.getElem?_cons_zero, List.getElem?_cons_succ] at x0 x1 c0 c1 y0 y1
            have hz : (wr.alloc (.cells #[.int .i64 6, .int .i64 0] 35)).heap.size = wr.heap.size + 1 := by simp
            have hp := blk_new (wr.alloc (.cells #[.int .i64 6, .int .i64 0] 35)) #[.int .i64 1, .int .i64 1] 35
            rw [hz] at hp
            have hsrc := ts_src2 ((wr.alloc (.cells #[.int .i64 6, .int .i64 0] 35)).alloc (.cells #[.int .i64 1, .int .i64 1] 35)) 6 0 (wr.heap.size + 1)
            rw [World.size_alloc, hz] at hsrc
            have HP := Lib.hid hp
            have HSr := Lib.hid hsrc
            have HRw := Lib.hid (HI2.out.row.below (bel2 _ (.cells #[.int .i64 1, .int .i64 1] 35) (.cells #[.int .i64 6, .int .i64 0, .slice (some ⟨wr.heap.size + 1, 0, none⟩) 1 1, .int .i64 6, .int .i64 0, .slice none 0 0] 90)))
            clear h1 h2 h3 h4 hp hsrc hz
            go_wp2_with (refine wp_append_g rfl _ _ rfl Tryz.underlying36 infoTouchS rfl (by omega) (by omega) rfl rfl HRw.out HSr.out (by omega) ?_; intro v6 w6 hg6 ht6 hn6)
            have hap := (HI2.out.after (bel2 _ (.cells #[.int .i64 1, .int .i64 1] 35) (.cells #[.int .i64 6, .int .i64 0, .slice (some ⟨wr.heap.size + 1, 0, none⟩) 1 1, .int .i64 6, .int .i64 0, .slice none 0 0] 90))).app (HP.out.alloc _) (by rw [H3.out]; exact hg6) ht6 hn6
            have HAp := Lib.hid hap
            clear hap hg6 ht6 hn6 x0 x1 c0 c1 y0 y1
            go_roundw
            case rel =>
              first
                | exact ⟨6 + 1, v6, _, by omega, rfl, by first | rfl | go_num, HAp.out⟩
                | ((repeat apply Exists.intro); refine ⟨?_, rfl⟩; exact ⟨6 + 1, v6, _, by omega, rfl, by first | rfl | go_num, HAp.out⟩)
            case measure => simp [natI]; try omega
          · skip
            obtain ⟨h1, h2, h3⟩ : Below wr.heap.size wr (wr.alloc (.cells #[.int .i64 7, .int .i64 0] 35)) ∧ Blk (wr.alloc (.cells #[.int .i64 7, .int .i64 0] 35)) wr.heap.size #[.int .i64 7, .int .i64 0] 35 ∧ snN n 7 = 0 := ⟨bel1 wr _, blk_new wr _ _, rfl⟩
            have HI2 := Lib.hid (HI.out.after h1)
            have H3 := Lib.hid h3
            have x0 := h2.cell 0
            have x1 := h2.cell 1
            have c0 := HI2.out.p.cell 0
            have c1 := HI2.out.p.cell 1
            have h4 := h2.alloc (.cells #[.int .i64 1, .int .i64 1] 35)
            have y0 := h4.cell 0
            have y1 := h4.cell 1
            simp only [List.getElem?_toArray, List.getElem?_cons_zero, List.getElem?_cons_succ] at x0 x1 c0 c1 y0 y1
            have hz : (wr.alloc (.cells #[.int .i64 7, .int .i64 0] 35)).heap.size = wr.heap.size + 1 := by simp
            have hp := blk_new (wr.alloc (.cells #[.int .i64 7, .int .i64 0] 35)) #[.int .i64 1, .int .i64 1] 35
            rw [hz] at hp
            have hsrc := ts_src2 ((wr.alloc (.cells #[.int .i64 7, .int .i64 0] 35)).alloc (.cells #[.int .i64 1, .int .i64 1] 35)) 7 0 (wr.heap.size + 1)
            rw [World.size_alloc, hz] at hsrc
            have HP := Lib.hid hp
            have HSr := Lib.hid hsrc
            have HRw := Lib.hid (HI2.out.row.below (bel2 _ (.cells #[.int .i64 1, .int .i64 1] 35) (.cells #[.int .i64 7, .int .i64 0, .slice (some ⟨wr.heap.size + 1, 0, none⟩) 1 1, .int .i64 7, .int .i64 0, .slice none 0 0] 90)))
            clear h1 h2 h3 h4 hp hsrc hz
            go_wp2_with (refine wp_append_g rfl _ _ rfl Tryz.underlying36 infoTouchS rfl (by omega) (by omega) rfl rfl HRw.out HSr.out (by omega) ?_; intro v6 w6 hg6 ht6 hn6)
            have hap := (HI2.out.after (bel2 _ (.cells #[.int .i64 1, .int .i64 1] 35) (.cells #[.int .i64 7, .int .i64 0, .slice (some ⟨wr.heap.size + 1, 0, none⟩) 1 1, .int .i64 7, .int .i64 0, .slice none 0 0] 90))).app (HP.out.alloc _) (by rw [H3.out]; exact hg6) ht6 hn6
            have HAp := Lib.hid hap
            clear hap hg6 ht6 hn6 x0 x1 c0 c1 y0 y1
            go_roundw
            case rel =>
              first
                | exact ⟨7 + 1, v6, _, by omega, rfl, by first | rfl | go_num, HAp.out⟩
                | ((repeat apply Exists.intro); refine ⟨?_, rfl⟩; exact ⟨7 + 1, v6, _, by omega, rfl, by first | rfl | go_num, HAp.out⟩)
            case measure => simp [natI]; try omega
          · skip
            obtain ⟨h1, h2, h3⟩ : Below wr.heap.size wr (wr.alloc (.cells #[.int .i64 8, .int .i64 0] 35)) ∧ Blk (wr.alloc (.cells #[.int .i64 8, .int .i64 0] 35)) wr.heap.size #[.int .i64 8, .int .i64 0] 35 ∧ snN n 8 = 0 := ⟨bel1 wr _, blk_new wr _ _, rfl⟩
            have HI2 := Lib.hid (HI.out.after h1)
            have H3 := Lib.hid h3
            have x0 := h2.cell 0
            have x1 := h2.cell 1
            have c0 := HI2.out.p.cell 0
            have c1 := HI2.out.p.cell 1
            have h4 := h2.alloc (.cells #[.int .i64 1, .int .i64 1] 35)
            have y0 := h4.cell 0
            have y1 := h4.cell 1
            simp only [List.getElem?_toArray, List.getElem?_cons_zero, List.getElem?_cons_succ] at x0 x1 c0 c1 y0 y1
            have hz : (wr.alloc (.cells #[.int .i64 8, .int .i64 0] 35)).heap.size = wr.heap.size + 1 := by simp
            have hp := blk_new (wr.alloc (.cells #[.int .i64 8, .int .i64 0] 35)) #[.int .i64 1, .int .i64 1] 35
            rw [hz] at hp
            have hsrc := ts_src2 ((wr.alloc (.cells #[.int .i64 8, .int .i64 0] 35)).alloc (.cells #[.int .i64 1, .int .i64 1] 35)) 8 0 (wr.heap.size + 1)
            rw [World.size_alloc, hz] at hsrc
            have HP := Lib.hid hp
            have HSr := Lib.hid hsrc
            have HRw := Lib.hid (HI2.out.row.below (bel2 _ (.cells #[.int .i64 1, .int .i64 1] 35) (.cells #[.int .i64 8, .int .i64 0, .slice (some ⟨wr.heap.size + 1, 0, none⟩) 1 1, .int .i64 8, .int .i64 0, .slice none 0 0] 90)))
            clear h1 h2 h3 h4 hp hsrc hz
            go_wp2_with (refine wp_append_g rfl _ _ rfl Tryz.underlying36 infoTouchS rfl (by omega) (by omega) rfl rfl HRw.out HSr.out (by omega) ?_; intro v6 w6 hg6 ht6 hn6)
            have hap := (HI2.out.after (bel2 _ (.cells #[.int .i64 1, .int .i64 1] 35) (.cells #[.int .i64 8, .int .i64 0, .slice (some ⟨wr.heap.size + 1, 0, none⟩) 1 1, .int .i64 8, .int .i64 0, .slice none 0 0] 90))).app (HP.out.alloc _) (by rw [H3.out]; exact hg6) ht6 hn6
            have HAp := Lib.hid hap
            clear hap hg6 ht6 hn6 x0 x1 c0 c1 y0 y1
            go_roundw
            case rel =>
              first
                | exact ⟨8 + 1, v6, _, by omega, rfl, by first | rfl | go_num, HAp.out⟩
                | ((repeat apply Exists.intro); refine ⟨?_, rfl⟩; exact ⟨8 + 1, v6, _, by omega, rfl, by first | rfl | go_num, HAp.out⟩)
            case measure => simp [natI]; try omega
          · skip
            obtain ⟨h1, h2, h3⟩ : Below wr.heap.size wr (wr.alloc (.cells #[.int .i64 9, .int .i64 0] 35)) ∧ Blk (wr.alloc (.cells #[.int .i64 9, .int .i64 0] 35)) wr.heap.size #[.int .i64 9, .int .i64 0] 35 ∧ snN n 9 = 0 := ⟨bel1 wr _, blk_new wr _ _, rfl⟩
            have HI2 := Lib.hid (HI.out.after h1)
            have H3 := Lib.hid h3
            have x0 := h2.cell 0
            have x1 := h2.cell 1
            have c0 := HI2.out.p.cell 0
            have c1 := HI2.out.p.cell 1
            have h4 := h2.alloc (.cells #[.int .i64 1, .int .i64 1] 35)
            have y0 := h4.cell 0
            have y1 := h4.cell 1
            simp only [List.getElem?_toArray, List.getElem?_cons_zero, List.getElem?_cons_succ] at x0 x1 c0 c1 y0 y1
            have hz : (wr.alloc (.cells #[.int .i64 9, .int .i64 0] 35)).heap.size = wr.heap.size + 1 := by simp
            have hp := blk_new (wr.alloc (.cells #[.int .i64 9, .int .i64 0] 35)) #[.int .i64 1, .int .i64 1] 35
            rw [hz] at hp
            have hsrc := ts_src2 ((wr.alloc (.cells #[.int .i64 9, .int .i64 0] 35)).alloc (.cells #[.int .i64 1, .int .i64 1] 35)) 9 0 (wr.heap.size + 1)
            rw [World.size_alloc, hz] at hsrc
            have HP := Lib.hid hp
            have HSr := Lib.hid hsrc
            have HRw := Lib.hid (HI2.out.row.below (bel2 _ (.cells #[.int .i64 1, .int .i64 1] 35) (.cells #[.int .i64 9, .int .i64 0, .slice (some ⟨wr.heap.size + 1, 0, none⟩) 1 1, .int .i64 9, .int .i64 0, .slice none 0 0] 90)))
            clear h1 h2 h3 h4 hp hsrc hz
            go_wp2_with (refine wp_append_g rfl _ _ rfl Tryz.underlying36 infoTouchS rfl (by omega) (by omega) rfl rfl HRw.out HSr.out (by omega) ?_; intro v6 w6 hg6 ht6 hn6)
            have hap := (HI2.out.after (bel2 _ (.cells #[.int .i64 1, .int .i64 1] 35) (.cells #[.int .i64 9, .int .i64 0, .slice (some ⟨wr.heap.size + 1, 0, none⟩) 1 1, .int .i64 9, .int .i64 0, .slice none 0 0] 90))).app (HP.out.alloc _) (by rw [H3.out]; exact hg6) ht6 hn6
            have HAp := Lib.hid hap
            clear hap hg6 ht6 hn6 x0 x1 c0 c1 y0 y1
            go_roundw
            case rel =>
              first
                | exact ⟨9 + 1, v6, _, by omega, rfl, by first | rfl | go_num, HAp.out⟩
                | ((repeat apply Exists.intro); refine ⟨?_, rfl⟩; exact ⟨9 + 1, v6, _, by omega, rfl, by first | rfl | go_num, HAp.out⟩)
            case measure => simp [natI]; try omega
          · skip
            obtain ⟨h1, h2, h3⟩ : Below wr.heap.size wr (wr.alloc (.cells #[.int .i64 10, .int .i64 0] 35)) ∧ Blk (wr.alloc (.cells #[.int .i64 10, .int .i64 0] 35)) wr.heap.size #[.int .i64 10, .int .i64 0] 35 ∧ snN n 10 = 0 := ⟨bel1 wr _, blk_new wr _ _, rfl⟩
            have HI2 := Lib.hid (HI.out.after h1)
            have H3 := Lib.hid h3
            have x0 := h2.cell 0
            have x1 := h2.cell 1
            have c0 := HI2.out.p.cell 0
            have c1 := HI2.out.p.cell 1
            have h4 := h2.alloc (.cells #[.int .i64 1, .int .i64 1] 35)
            have y0 := h4.cell 0
            have y1 := h4.cell 1
            simp only [List.getElem?_toArray, List.getElem?_cons_zero, List.getElem?_cons_succ] at x0 x1 c0 c1 y0 y1
            have hz : (wr.alloc (.cells #[.int .i64 10, .int .i64 0] 35)).heap.size = wr.heap.size + 1 := by simp
            have hp := blk_new (wr.alloc (.cells #[.int .i64 10, .int .i64 0] 35)) #[.int .i64 1, .int .i64 1] 35
            rw [hz] at hp
            have hsrc := ts_src2 ((wr.alloc (.cells #[.int .i64 10, .int .i64 0] 35)).alloc (.cells #[.int .i64 1, .int .i64 1] 35)) 10 0 (wr.heap.size + 1)
            rw [World.size_alloc, hz] at hsrc
            have HP := Lib.hid hp
            have HSr := Lib.hid hsrc
            have HRw := Lib.hid (HI2.out.row.below (bel2 _ (.cells #[.int .i64 1, .int .i64 1] 35) (.cells #[.int .i64 10, .int .i64 0, .slice (some ⟨wr.heap.size + 1, 0, none⟩) 1 1, .int .i64 10, .int .i64 0, .slice none 0 0] 90)))
            clear h1 h2 h3 h4 hp hsrc hz
            go_wp2_with (refine wp_append_g rfl _ _ rfl Tryz.underlying36 infoTouchS rfl (by omega) (by omega) rfl rfl HRw.out HSr.out (by omega) ?_; intro v6 w6 hg6 ht6 hn6)
            have hap := (HI2.out.after (bel2 _ (.cells #[.int .i64 1, .int .i64 1] 35) (.cells #[.int .i64 10, .int .i64 0, .slice (some ⟨wr.heap.size + 1, 0, none⟩) 1 1, .int .i64 10, .int .i64 0, .slice none 0 0] 90))).app (HP.out.alloc _) (by rw [H3.out]; exact hg6) ht6 hn6
            have HAp := Lib.hid hap
            clear hap hg6 ht6 hn6 x0 x1 c0 c1 y0 y1
            go_roundw
            case rel =>
              first
                | exact ⟨10 + 1, v6, _, by omega, rfl, by first | rfl | go_num, HAp.out⟩
                | ((repeat apply Exists.intro); refine ⟨?_, rfl⟩; exact ⟨10 + 1, v6, _, by omega, rfl, by first | rfl | go_num, HAp.out⟩)
            case measure => simp [natI]; try omega
          · skip
            obtain ⟨h1, h2, h3⟩ : Below wr.heap.size wr (wr.alloc (.cells #[.int .i64 11, .int .i64 0] 35)) ∧ Blk (wr.alloc (.cells #[.int .i64 11, .int .i64 0] 35)) wr.heap.size #[.int .i64 11, .int .i64 0] 35 ∧ snN n 11 = 0 := ⟨bel1 wr _, blk_new wr _ _, rfl⟩
            have HI2 := Lib.hid (HI.out.after h1)
            have H3 := Lib.hid h3
            have x0 := h2.cell 0
            have x1 := h2.cell 1
            have c0 := HI2.out.p.cell 0
            have c1 := HI2.out.p.cell 1
            have h4 := h2.alloc (.cells #[.int .i64 1, .int .i64 1] 35)
            have y0 := h4.cell 0
            have y1 := h4.cell 1
            simp only [List.getElem?_toArray, List.getElem?_cons_zero, List.getElem?_cons_succ] at x0 x1 c0 c1 y0 y1
            have hz : (wr.alloc (.cells #[.int .i64 11, .int .i64 0] 35)).heap.size = wr.heap.size + 1 := by simp
            have hp := blk_new (wr.alloc (.cells #[.int .i64 11, .int .i64 0] 35)) #[.int .i64 1, .int .i64 1] 35
            rw [hz] at hp
            have hsrc := ts_src2 ((wr.alloc (.cells #[.int .i64 11, .int .i64 0] 35)).alloc (.cells #[.int .i64 1, .int .i64 1] 35)) 11 0 (wr.heap.size + 1)
            rw [World.size_alloc, hz] at hsrc
            have HP := Lib.hid hp
            have HSr := Lib.hid hsrc
            have HRw := Lib.hid (HI2.out.row.below (bel2 _ (.cells #[.int .i64 1, .int .i64 1] 35) (.cells #[.int .i64 11, .int .i64 0, .slice (some ⟨wr.heap.size + 1, 0, none⟩) 1 1, .int .i64 11, .int .i64 0, .slice none 0 0] 90)))
            clear h1 h2 h3 h4 hp hsrc hz
            go_wp2_with (refine wp_append_g rfl _ _ rfl Tryz.underlying36 infoTouchS rfl (by omega) (by omega) rfl rfl HRw.out HSr.out (by omega) ?_; intro v6 w6 hg6 ht6 hn6)
            have hap := (HI2.out.after (bel2 _ (.cells #[.int .i64 1, .int .i64 1] 35) (.cells #[.int .i64 11, .int .i64 0, .slice (some ⟨wr.heap.size + 1, 0, none⟩) 1 1, .int .i64 11, .int .i64 0, .slice none 0 0] 90))).app (HP.out.alloc _) (by rw [H3.out]; exact hg6) ht6 hn6
            have HAp := Lib.hid hap
            clear hap hg6 ht6 hn6 x0 x1 c0 c1 y0 y1
            go_roundw
            case rel =>
              first
                | exact ⟨11 + 1, v6, _, by omega, rfl, by first | rfl | go_num, HAp.out⟩
                | ((repeat apply Exists.intro); refine ⟨?_, rfl⟩; exact ⟨11 + 1, v6, _, by omega, rfl, by first | rfl | go_num, HAp.out⟩)
            case measure => simp [natI]; try omega
          · skip
            obtain ⟨h1, h2, h3⟩ : Below wr.heap.size wr (wr.alloc (.cells #[.int .i64 12, .int .i64 n] 35)) ∧ Blk (wr.alloc (.cells #[.int .i64 12, .int .i64 n] 35)) wr.heap.size #[.int .i64 12, .int .i64 n] 35 ∧ snN n 12 = n := ⟨bel1 wr _, blk_new wr _ _, rfl⟩
            have HI2 := Lib.hid (HI.out.after h1)
            have H3 := Lib.hid h3
            have x0 := h2.cell 0
            have x1 := h2.cell 1
            have c0 := HI2.out.p.cell 0
            have c1 := HI2.out.p.cell 1
            have h4 := h2.alloc (.cells #[.int .i64 1, .int .i64 1] 35)
            have y0 := h4.cell 0
            have y1 := h4.cell 1
            simp only [List.getElem?_toArray, List.getElem?_cons_zero, List.getElem?_cons_succ] at x0 x1 c0 c1 y0 y1
            have hz : (wr.alloc (.cells #[.int .i64 12, .int .i64 n] 35)).heap.size = wr.heap.size + 1 := by simp
            have hp := blk_new (wr.alloc (.cells #[.int .i64 12, .int .i64 n] 35)) #[.int .i64 1, .int .i64 1] 35
            rw [hz] at hp
            have hsrc := ts_src2 ((wr.alloc (.cells #[.int .i64 12, .int .i64 n] 35)).alloc (.cells #[.int .i64 1, .int .i64 1] 35)) 12 n (wr.heap.size + 1)
            rw [World.size_alloc, hz] at hsrc
            have HP := Lib.hid hp
            have HSr := Lib.hid hsrc
            have HRw := Lib.hid (HI2.out.row.below (bel2 _ (.cells #[.int .i64 1, .int .i64 1] 35) (.cells #[.int .i64 12, .int .i64 n, .slice (some ⟨wr.heap.size + 1, 0, none⟩) 1 1, .int .i64 12, .int .i64 n, .slice none 0 0] 90)))
            clear h1 h2 h3 h4 hp hsrc hz
            go_wp2_with (refine wp_append_g rfl _ _ rfl Tryz.underlying36 infoTouchS rfl (by omega) (by omega) rfl rfl HRw.out HSr.out (by omega) ?_; intro v6 w6 hg6 ht6 hn6)
            have hap := (HI2.out.after (bel2 _ (.cells #[.int .i64 1, .int .i64 1] 35) (.cells #[.int .i64 12, .int .i64 n, .slice (some ⟨wr.heap.size + 1, 0, none⟩) 1 1, .int .i64 12, .int .i64 n, .slice none 0 0] 90))).app (HP.out.alloc _) (by rw [H3.out]; exact hg6) ht6 hn6
            have HAp := Lib.hid hap
            clear hap hg6 ht6 hn6 x0 x1 c0 c1 y0 y1
            go_roundw
            case rel =>
              first
                | exact ⟨12 + 1, v6, _, by omega, rfl, by first | rfl | go_num, HAp.out⟩
                | ((repeat apply Exists.intro); refine ⟨?_, rfl⟩; exact ⟨12 + 1, v6, _, by omega, rfl, by first | rfl | go_num, HAp.out⟩)
            case measure => simp [natI]; try omega
          · skip
            obtain ⟨h1, h2, h3⟩ : Below wr.heap.size wr (wr.alloc (.cells #[.int .i64 13, .int .i64 0] 35)) ∧ Blk (wr.alloc (.cells #[.int .i64 13, .int .i64 0] 35)) wr.heap.size #[.int .i64 13, .int .i64 0] 35 ∧ snN n 13 = 0 := ⟨bel1 wr _, blk_new wr _ _, rfl⟩
            have HI2 := Lib.hid (HI.out.after h1)
            have H3 := Lib.hid h3
            have x0 := h2.cell 0
            have x1 := h2.cell 1
            have c0 := HI2.out.p.cell 0
            have c1 := HI2.out.p.cell 1
            have h4 := h2.alloc (.cells #[.int .i64 1, .int .i64 1] 35)
            have y0 := h4.cell 0
            have y1 := h4.cell 1
            simp only [List.getElem?_toArray, List.getElem?_cons_zero, List.getElem?_cons_succ] at x0 x1 c0 c1 y0 y1
            have hz : (wr.alloc (.cells #[.int .i64 13, .int .i64 0] 35)).heap.size = wr.heap.size + 1 := by simp
            have hp := blk_new (wr.alloc (.cells #[.int .i64 13, .int .i64 0] 35)) #[.int .i64 1, .int .i64 1] 35
            rw [hz] at hp
            have hsrc := ts_src2 ((wr.alloc (.cells #[.int .i64 13, .int .i64 0] 35)).alloc (.cells #[.int .i64 1, .int .i64 1] 35)) 13 0 (wr.heap.size + 1)
            rw [World.size_alloc, hz] at hsrc
            have HP := Lib.hid hp
            have HSr := Lib.hid hsrc
            have HRw := Lib.hid (HI2.out.row.below (bel2 _ (.cells #[.int .i64 1, .int .i64 1] 35) (.cells #[.int .i64 13, .int .i64 0, .slice (some ⟨wr.heap.size + 1, 0, none⟩) 1 1, .int .i64 13, .int .i64 0, .slice none 0 0] 90)))
            clear h1 h2 h3 h4 hp hsrc hz
            go_wp2_with (refine wp_append_g rfl _ _ rfl Tryz.underlying36 infoTouchS rfl (by omega) (by omega) rfl rfl HRw.out HSr.out (by omega) ?_; intro v6 w6 hg6 ht6 hn6)
            have hap := (HI2.out.after (bel2 _ (.cells #[.int .i64 1, .int .i64 1] 35) (.cells #[.int .i64 13, .int .i64 0, .slice (some ⟨wr.heap.size + 1, 0, none⟩) 1 1, .int .i64 13, .int .i64 0, .slice none 0 0] 90))).app (HP.out.alloc _) (by rw [H3.out]; exact hg6) ht6 hn6
            have HAp := Lib.hid hap
            clear hap hg6 ht6 hn6 x0 x1 c0 c1 y0 y1
            go_roundw
            case rel =>
              first
                | exact ⟨13 + 1, v6, _, by omega, rfl, by first | rfl | go_num, HAp.out⟩
                | ((repeat apply Exists.intro); refine ⟨?_, rfl⟩; exact ⟨13 + 1, v6, _, by omega, rfl, by first | rfl | go_num, HAp.out⟩)
            case measure => simp [natI]; try omega
          · skip
            obtain ⟨h1, h2, h3⟩ : Below wr.heap.size wr (wr.alloc (.cells #[.int .i64 14, .int .i64 n] 35)) ∧ Blk (wr.alloc (.cells #[.int .i64 14, .int .i64 n] 35)) wr.heap.size #[.int .i64 14, .int .i64 n] 35 ∧ snN n 14 = n := ⟨bel1 wr _, blk_new wr _ _, rfl⟩
            have HI2 := Lib.hid (HI.out.after h1)
            have H3 := Lib.hid h3
            have x0 := h2.cell 0
            have x1 := h2.cell 1
            have c0 := HI2.out.p.cell 0
            have c1 := HI2.out.p.cell 1
            have h4 := h2.alloc (.cells #[.int .i64 1, .int .i64 1] 35)
            have y0 := h4.cell 0
            have y1 := h4.cell 1
            simp only [List.getElem?_toArray, List.getElem?_cons_zero, List.getElem?_cons_succ] at x0 x1 c0 c1 y0 y1
            have hz : (wr.alloc (.cells #[.int .i64 14, .int .i64 n] 35)).heap.size = wr.heap.size + 1 := by simp
            have hp := blk_new (wr.alloc (.cells #[.int .i64 14, .int .i64 n] 35)) #[.int .i64 1, .int .i64 1] 35
            rw [hz] at hp
            have hsrc := ts_src2 ((wr.alloc (.cells #[.int .i64 14, .int .i64 n] 35)).alloc (.cells #[.int .i64 1, .int .i64 1] 35)) 14 n (wr.heap.size + 1)
            rw [World.size_alloc, hz] at hsrc
            have HP := Lib.hid hp
            have HSr := Lib.hid hsrc
            have HRw := Lib.hid (HI2.out.row.below (bel2 _ (.cells #[.int .i64 1, .int .i64 1] 35) (.cells #[.int .i64 14, .int .i64 n, .slice (some ⟨wr.heap.size + 1, 0, none⟩) 1 1, .int .i64 14, .int .i64 n, .slice none 0 0] 90)))
            clear h1 h2 h3 h4 hp hsrc hz
            go_wp2_with (refine wp_append_g rfl _ _ rfl Tryz.underlying36 infoTouchS rfl (by omega) (by omega) rfl rfl HRw.out HSr.out (by omega) ?_; intro v6 w6 hg6 ht6 hn6)
            have hap := (HI2.out.after (bel2 _ (.cells #[.int .i64 1, .int .i64 1] 35) (.cells #[.int .i64 14, .int .i64 n, .slice (some ⟨wr.heap.size + 1, 0, none⟩) 1 1, .int .i64 14, .int .i64 n, .slice none 0 0] 90))).app (HP.out.alloc _) (by rw [H3.out]; exact hg6) ht6 hn6
            have HAp := Lib.hid hap
            clear hap hg6 ht6 hn6 x0 x1 c0 c1 y0 y1
            go_roundw
            case rel =>
              first
                | exact ⟨14 + 1, v6, _, by omega, rfl, by first | rfl | go_num, HAp.out⟩
                | ((repeat apply Exists.intro); refine ⟨?_, rfl⟩; exact ⟨14 + 1, v6, _, by omega, rfl, by first | rfl | go_num, HAp.out⟩)
            case measure => simp [natI]; try omega
          · skip
            obtain ⟨h1, h2, h3⟩ : Below wr.heap.size wr (wr.alloc (.cells #[.int .i64 15, .int .i64 0] 35)) ∧ Blk (wr.alloc (.cells #[.int .i64 15, .int .i64 0] 35)) wr.heap.size #[.int .i64 15, .int .i64 0] 35 ∧ snN n 15 = 0 := ⟨bel1 wr _, blk_new wr _ _, rfl⟩
            have HI2 := Lib.hid (HI.out.after h1)
            have H3 := Lib.hid h3
            have x0 := h2.cell 0
            have x1 := h2.cell 1
            have c0 := HI2.out.p.cell 0
            have c1 := HI2.out.p.cell 1
            have h4 := h2.alloc (.cells #[.int .i64 1, .int .i64 1] 35)
            have y0 := h4.cell 0
            have y1 := h4.cell 1
            simp only [List.getElem?_toArray, List.getElem?_cons_zero, List.getElem?_cons_succ] at x0 x1 c0 c1 y0 y1
            have hz : (wr.alloc (.cells #[.int .i64 15, .int .i64 0] 35)).heap.size = wr.heap.size + 1 := by simp
            have hp := blk_new (wr.alloc (.cells #[.int .i64 15, .int .i64 0] 35)) #[.int .i64 1, .int .i64 1] 35
            rw [hz] at hp
            have hsrc := ts_src2 ((wr.alloc (.cells #[.int .i64 15, .int .i64 0] 35)).alloc (.cells #[.int .i64 1, .int .i64 1] 35)) 15 0 (wr.heap.size + 1)
            rw [World.size_alloc, hz] at hsrc
            have HP := Lib.hid hp
            have HSr := Lib.hid hsrc
            have HRw := Lib.hid (HI2.out.row.below (bel2 _ (.cells #[.int .i64 1, .int .i64 1] 35) (.cells #[.int .i64 15, .int .i64 0, .slice (some ⟨wr.heap.size + 1, 0, none⟩) 1 1, .int .i64 15, .int .i64 0, .slice none 0 0] 90)))
            clear h1 h2 h3 h4 hp hsrc hz
            go_wp2_with (refine wp_append_g rfl _ _ rfl Tryz.underlying36 infoTouchS rfl (by omega) (by omega) rfl rfl HRw.out HSr.out (by omega) ?_; intro v6 w6 hg6 ht6 hn6)
            have hap := (HI2.out.after (bel2 _ (.cells #[.int .i64 1, .int .i64 1] 35) (.cells #[.int .i64 15, .int .i64 0, .slice (some ⟨wr.heap.size + 1, 0, none⟩) 1 1, .int .i64 15, .int .i64 0, .slice none 0 0] 90))).app (HP.out.alloc _) (by rw [H3.out]; exact hg6) ht6 hn6
            have HAp := Lib.hid hap
            clear hap hg6 ht6 hn6 x0 x1 c0 c1 y0 y1
            go_roundw
            case rel =>
              first
                | exact ⟨15 + 1, v6, _, by omega, rfl, by first | rfl | go_num, HAp.out⟩
                | ((repeat apply Exists.intro); refine ⟨?_, rfl⟩; exact ⟨15 + 1, v6, _, by omega, rfl, by first | rfl | go_num, HAp.out⟩)
            case measure => simp [natI]; try omega
          · skip
            obtain ⟨h1, h2, h3⟩ : Below wr.heap.size wr (wr.alloc (.cells #[.int .i64 16, .int .i64 n] 35)) ∧ Blk (wr.alloc (.cells #[.int .i64 16, .int .i64 n] 35)) wr.heap.size #[.int .i64 16, .int .i64 n] 35 ∧ snN n 16 = n := ⟨bel1 wr _, blk_new wr _ _, rfl⟩
            have HI2 := Lib.hid (HI.out.after h1)
            have H3 := Lib.hid h3
            have x0 := h2.cell 0
            have x1 := h2.cell 1
            have c0 := HI2.out.p.cell 0
            have c1 := HI2.out.p.cell 1
            have h4 := h2.alloc (.cells #[.int .i64 1, .int .i64 1] 35)
            have y0 := h4.cell 0
            have y1 := h4.cell 1
            simp only [List.getElem?_toArray, List.getElem?_cons_zero, List.getElem?_cons_succ] at x0 x1 c0 c1 y0 y1
            have hz : (wr.alloc (.cells #[.int .i64 16, .int .i64 n] 35)).heap.size = wr.heap.size + 1 := by simp
            have hp := blk_new (wr.alloc (.cells #[.int .i64 16, .int .i64 n] 35)) #[.int .i64 1, .int .i64 1] 35
            rw [hz] at hp
            have hsrc := ts_src2 ((wr.alloc (.cells #[.int .i64 16, .int .i64 n] 35)).alloc (.cells #[.int .i64 1, .int .i64 1] 35)) 16 n (wr.heap.size + 1)
            rw [World.size_alloc, hz] at hsrc
            have HP := Lib.hid hp
            have HSr := Lib.hid hsrc
            have HRw := Lib.hid (HI2.out.row.below (bel2 _ (.cells #[.int .i64 1, .int .i64 1] 35) (.cells #[.int .i64 16, .int .i64 n, .slice (some ⟨wr.heap.size + 1, 0, none⟩) 1 1, .int .i64 16, .int .i64 n, .slice none 0 0] 90)))
            clear h1 h2 h3 h4 hp hsrc hz
            go_wp2_with (refine wp_append_g rfl _ _ rfl Tryz.underlying36 infoTouchS rfl (by omega) (by omega) rfl rfl HRw.out HSr.out (by omega) ?_; intro v6 w6 hg6 ht6 hn6)
            have hap := (HI2.out.after (bel2 _ (.cells #[.int .i64 1, .int .i64 1] 35) (.cells #[.int .i64 16, .int .i64 n, .slice (some ⟨wr.heap.size + 1, 0, none⟩) 1 1, .int .i64 16, .int .i64 n, .slice none 0 0] 90))).app (HP.out.alloc _) (by rw [H3.out]; exact hg6) ht6 hn6
            have HAp := Lib.hid hap
            clear hap hg6 ht6 hn6 x0 x1 c0 c1 y0 y1
            go_roundw
            case rel =>
              first
                | exact ⟨16 + 1, v6, _, by omega, rfl, by first | rfl | go_num, HAp.out⟩
                | ((repeat apply Exists.intro); refine ⟨?_, rfl⟩; exact ⟨16 + 1, v6, _, by omega, rfl, by first | rfl | go_num, HAp.out⟩)
            case measure => simp [natI]; try omega
          · skip
            obtain ⟨h1, h2, h3⟩ : Below wr.heap.size wr (wr.alloc (.cells #[.int .i64 17, .int .i64 0] 35)) ∧ Blk (wr.alloc (.cells #[.int .i64 17, .int .i64 0] 35)) wr.heap.size #[.int .i64 17, .int .i64 0] 35 ∧ snN n 17 = 0 := ⟨bel1 wr _, blk_new wr _ _, rfl⟩
            have HI2 := Lib.hid (HI.out.after h1)
            have H3 := Lib.hid h3
            have x0 := h2.cell 0
            have x1 := h2.cell 1
            have c0 := HI2.out.p.cell 0
            have c1 := HI2.out.p.cell 1
            have h4 := h2.alloc (.cells #[.int .i64 1, .int .i64 1] 35)
            have y0 := h4.cell 0
            have y1 := h4.cell 1
            simp only [List.getElem?_toArray, List.getElem?_cons_zero, List.getElem?_cons_succ] at x0 x1 c0 c1 y0 y1
            have hz : (wr.alloc (.cells #[.int .i64 17, .int .i64 0] 35)).heap.size = wr.heap.size + 1 := by simp
            have hp := blk_new (wr.alloc (.cells #[.int .i64 17, .int .i64 0] 35)) #[.int .i64 1, .int .i64 1] 35
            rw [hz] at hp
            have hsrc := ts_src2 ((wr.alloc (.cells #[.int .i64 17, .int .i64 0] 35)).alloc (.cells #[.int .i64 1, .int .i64 1] 35)) 17 0 (wr.heap.size + 1)
            rw [World.size_alloc, hz] at hsrc
            have HP := Lib.hid hp
            have HSr := Lib.hid hsrc
            have HRw := Lib.hid (HI2.out.row.below (bel2 _ (.cells #[.int .i64 1, .int .i64 1] 35) (.cells #[.int .i64 17, .int .i64 0, .slice (some ⟨wr.heap.size + 1, 0, none⟩) 1 1, .int .i64 17, .int .i64 0, .slice none 0 0] 90)))
            clear h1 h2 h3 h4 hp hsrc hz
            go_wp2_with (refine wp_append_g rfl _ _ rfl Tryz.underlying36 infoTouchS rfl (by omega) (by omega) rfl rfl HRw.out HSr.out (by omega) ?_; intro v6 w6 hg6 ht6 hn6)
            have hap := (HI2.out.after (bel2 _ (.cells #[.int .i64 1, .int .i64 1] 35) (.cells #[.int .i64 17, .int .i64 0, .slice (some ⟨wr.heap.size + 1, 0, none⟩) 1 1, .int .i64 17, .int .i64 0, .slice none 0 0] 90))).app (HP.out.alloc _) (by rw [H3.out]; exact hg6) ht6 hn6
            have HAp := Lib.hid hap
            clear hap hg6 ht6 hn6 x0 x1 c0 c1 y0 y1
            go_roundw
            case rel =>
              first
                | exact ⟨17 + 1, v6, _, by omega, rfl, by first | rfl | go_num, HAp.out⟩
                | ((repeat apply Exists.intro); refine ⟨?_, rfl⟩; exact ⟨17 + 1, v6, _, by omega, rfl, by first | rfl | go_num, HAp.out⟩)
            case measure => simp [natI]; try omega
        · obtain rfl : k = 18 := by omega
          have hts := HI.out.ts ⟨n0, n1⟩
          obtain ⟨g1, o1, c1, _, _, e1, _⟩ := hts.at_ (k := 0) (by rw [snT_len]; omega)
          obtain rfl := e1
          have hcap : 36 ≤ c1 := by
            obtain ⟨_, _, e2, h2, _⟩ := hts.shape
            simp only [Value.slice.injEq] at e2
            obtain ⟨_, _, rfl⟩ := e2
            rw [snT_len] at h2; omega
          have hc20 : ¬ (c1 : Int) < 20 := by omega
          have hcn : ¬ c1 = 20 := by omega
          have hm := Int.tmod_eq_emod_of_nonneg (a := x) (b := 65536) HX.out.1
          have hx16 : W32 (x % 65536) := ⟨by omega, by omega⟩
          have HX16 := Lib.hid hx16
          have hlen := snT_len n 18
          have HTk := Lib.hid (fun W (h : TsIn W (.slice (some ⟨g1, o1, none⟩) (snT n 18).length c1) (snT n 18)) => TsIn.cut h (k := 20) (by rw [snT_len]; omega))
          have HS : Hid ((fun W : World => Below w.heap.size w W ∧ Rf 67 11 W (w.heap.size + 1) (ruC (snR f 4)) ∧ Blk W B #[.int .i64 1, .int .i64 1] 35 ∧ TsIn W (.slice (some ⟨g1, o1, none⟩) (snT n 18).length c1) (snT n 18)) wr.drew) := ⟨HI.out.b.drew, HI.out.x.drew, HI.out.p.drew, hts.below (Below.refl _ _).drew⟩
          rw [hlen] at HTk HS ⊢
          clear hts HI hx16
          go_wp2
          refine Free.any (fun W : World => Below w.heap.size w W ∧ Rf 67 11 W (w.heap.size + 1) (ruC (snR f 4)) ∧ Blk W B #[.int .i64 1, .int .i64 1] 35 ∧ TsIn W (.slice (some ⟨g1, o1, none⟩) (2 * 18) c1) (snT n 18)) (fun W W' h hb => ⟨h.1.trans (hb.mono h.1.size), h.2.1.below hb, h.2.2.1.below hb, h.2.2.2.below hb⟩) HS.out (fun st => ?_)
          refine Free.tk 0 (some 61) (v := .agg (ruC (snR f 4))) ?_ (hy := by intro W hW; exact x_load_RR rvRules rfl rfl hW.2.1)
          refine Free.tk 1 (some 62) (v := .agg #[.int .i64 1, .int .i64 1]) ?_ (hy := by intro W hW; have d0 := hW.2.2.1.cell 0; have d1 := hW.2.2.1.cell 1; simp only [List.getElem?_toArray, List.getElem?_cons_zero, List.getElem?_cons_succ] at d0 d1; go_simp; try with_reducible rfl)
          refine Free.tk 2 (some 63) ?_
          refine Free.tk 3 (some 64) (v := .int .u32 (x % 65536)) ?_ (hy := by intro W hW; go_simp; try simp [hm])
          refine Free.tk 4 (some 65) (v := .agg #[.int .i64 1, .int .i64 1, .int .u32 (x % 65536)]) ?_ (hy := by intro W hW; kernel_rfl)
          refine Free.tk 6 (some 67) ?_
          refine Free.tk 7 (some 68) (v := .slice (some ⟨g1, o1, none⟩) 20 c1) ?_ (hy := by intro W hW; go_simp; try rfl)
          refine Free.one 5 (fun W hb hW => ?_)
          refine o_okb (some 66) (.slice (some ⟨W.heap.size, 0, none⟩) 1 1) (W.alloc (.cells #[.int .i64 1, .int .i64 1, .int .u32 (x % 65536)] 92)) (by go_simp; try rfl) ⟨st _ _ hW (bel1 W _), ?_⟩
          refine Free.one 8 (fun W2 hb2 hW2 => ?_)
          refine o_callb (some 69) (by go_simp; first | exact ⟨rfl, rfl⟩ | rfl) ?_
          have hmk : MksIn W2 (.slice (some ⟨W.heap.size, 0, none⟩) 1 1) [((1, 1), x % 65536)] := sn_mks ((blk_new W _ _).below hb2) HX16.out
          refine (PolicyJudges_walk (snR f 4) (snR_w f 4) hmk (HTk.out W2 hW2.2.2.2).1).mono ?_
          rintro e V ⟨rfl, hb3⟩
          refine ⟨_, rfl, st _ _ hW2 hb3, ?_⟩
          clear hb hW hb2 hW2 hmk hb3
          refine Free.tk 9 (some 70) ?_
          refine Free.tk 10 (some 71) (v := .agg (ruC (snR f 4))) ?_ (hy := by intro W hW; exact x_load_RR rvRules rfl rfl hW.2.1)
          refine Free.tk 11 (some 72) (v := .agg #[.int .i64 1, .int .i64 1]) ?_ (hy := by intro W hW; have d0 := hW.2.2.1.cell 0; have d1 := hW.2.2.1.cell 1; simp only [List.getElem?_toArray, List.getElem?_cons_zero, List.getElem?_cons_succ] at d0 d1; go_simp; try with_reducible rfl)
          refine Free.tk 12 (some 73) ?_
          refine Free.tk 13 (some 74) (v := .int .u32 (x % 65536)) ?_ (hy := by intro W hW; go_simp; try simp [hm])
          refine Free.tk 14 (some 75) (v := .agg #[.int .i64 1, .int .i64 1, .int .u32 (x % 65536)]) ?_ (hy := by intro W hW; kernel_rfl)
          refine Free.tk 16 (some 77) ?_
          refine Free.tk 17 (some 78) (v := .slice (some ⟨g1, o1 + 20 * 3, none⟩) (2 * 18 - 20) (c1 - 20)) ?_ (hy := by intro W hW; go_simp; try rfl)
          refine Free.one 15 (fun W hb hW => ?_)
          refine o_okb (some 76) (.slice (some ⟨W.heap.size, 0, none⟩) 1 1) (W.alloc (.cells #[.int .i64 1, .int .i64 1, .int .u32 (x % 65536)] 92)) (by go_simp; try rfl) ⟨st _ _ hW (bel1 W _), ?_⟩
          refine Free.one 18 (fun W2 hb2 hW2 => ?_)
          refine o_callb (some 79) (by go_simp; first | exact ⟨rfl, rfl⟩ | rfl) ?_
          have hmk : MksIn W2 (.slice (some ⟨W.heap.size, 0, none⟩) 1 1) [((1, 1), x % 65536)] := sn_mks ((blk_new W _ _).below hb2) HX16.out
          refine (PolicyJudges_walk (snR f 4) (snR_w f 4) hmk (HTk.out W2 hW2.2.2.2).2).mono ?_
          rintro e V ⟨rfl, hb3⟩
          refine ⟨_, rfl, st _ _ hW2 hb3, ?_⟩
          clear hb hW hb2 hW2 hmk hb3
          refine Free.tk 19 (some 80) ?_
          refine Free.tk 20 (some 6) ?_
          refine Free.done (fun W9 hb9 hW9 => ?_)
          have HB9 := Lib.hid hW9.1
          clear hb9 hW9
          go_wp2
          go_ret
          exact ⟨rfl, HB9.out⟩
end Go.Proofs.YtdpdoclhdjhjkaaGreat
