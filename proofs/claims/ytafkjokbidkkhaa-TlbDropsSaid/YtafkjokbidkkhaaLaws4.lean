/-
  Layer 6: the walk of TlbDrops. Written by gen_drops.py out of XLaws4.part.
-/
import Derived.Test.YtafkjokbidkkhaaLaws3
namespace Go.Proofs.Ytafkjokbidkkhaa
open Go.RowKit
set_option maxHeartbeats 1000000
set_option linter.unusedVariables false
set_option linter.unusedSimpArgs false

set_option maxRecDepth 100000 in
theorem TlbDrops_walk (v : Value) (pages : List Int) (gone more : Int) (w : World) (h : NumsIn .u32 w v pages) : Calls Try.prog 7 #[v, .int .u32 gone, .int .u32 more] w fun e w' => e = .returned (.bool true) ∧ Below w.heap.size w w' := by
  obtain ⟨o, c, rfl, hc, hm, hcell⟩ := h.form
  unfold maxLen at hm
  have HC := Lib.hid hcell
  clear h hcell
  by_cases hlen : (20 : Int) < pages.length
  · go_enter Try.func7, Try.ntmps7
    go_wp2_with (go_at_call 9; refine (works_any _).mono ?_; rintro e w' ⟨rfl, hb⟩)
    go_ret
    exact ⟨rfl, hb⟩
  · have H0 : Hid (Fl w w.heap.size (w.heap.size + 1) T0 ((w.alloc (.cells (pc T0) 62)).alloc (.cells (rc T0) 30))) := by
      refine ⟨(Own.new w).after ((Below.refl _ _).alloc (Nat.le_refl _) _), ?_, by omega, by omega⟩
      have := blk_new (w.alloc (.cells (pc T0) 62)) (rc T0) 30
      rw [World.size_alloc] at this
      exact this
    go_enter Try.func7, Try.ntmps7
    go_wp2_with fail
    refine (New_any _).mono ?_
    rintro e w1 ⟨rfl, rfl⟩
    go_wp2_with fail
    show Code.wp Try.prog _ _ _ ((w.alloc (.cells (pc T0) 62)).alloc (.cells (rc T0) 30))
    generalize (w.alloc (.cells (pc T0) 62)).alloc (.cells (rc T0) 30) = W0 at H0 ⊢
    obtain ⟨fn, hfn⟩ : ∃ fn : Nat → Int, fn = fun (n : Nat) => (n : Int) := ⟨_, rfl⟩
    obtain ⟨bn, hbn⟩ : ∃ bn : Nat → Bool, bn = fun (n : Nat) => decide (n % 2 = 0) := ⟨_, rfl⟩
    go_loopw [9] (fun q wr => ∃ k : Nat, k ≤ pages.length ∧ q = .int .i64 (k : Int) ∧ Hid (Fl w w.heap.size (w.heap.size + 1) (flT pages fn bn k) wr)) (fun q _ => pages.length + 1 - (intOf q).toNat)
    case atStart => exact ⟨0, by omega, rfl, H0.out⟩
    case round =>
      obtain ⟨k, hk, rfl, HF⟩ := hrel
      by_cases hlt : k < pages.length
      · have hi : (k : Int) < (pages.length : Int) := by omega
        obtain ⟨a, rfl, hca⟩ := HC.out k hlt
        have hcw := keep_cell HF.out.own.below hca
        have hok := ok_flT pages fn bn k
        have hR := HF.out.box.drew
        have HT : Hid (flT pages fn bn (k + 1) = (flT pages fn bn k).fil (at0 pages k) (k : Int) (bn k)) := by
          show (flT pages fn bn k).fil (at0 pages k) (fn k) (bn k) = _
          rw [hfn]
        have hbk : ((k : Int).tmod 2 == 0) = bn k := by
          rw [hbn, Int.tmod_eq_emod_of_nonneg (by omega)]
          by_cases e : k % 2 = 0
          · have e' : (k : Int) % 2 = 0 := by omega
            simp [e, e']
          · have e' : ¬ (k : Int) % 2 = 0 := by omega
            simp [e, e']
        have hbk2 : ((k : Int) % 2 == 0) = bn k := by rw [← hbk, Int.tmod_eq_emod_of_nonneg (by omega)]
        have HCA := Lib.hid hca
        have HFD := Lib.hid (HF.out.after (Below.refl _ _).drew)
        have HOK := Lib.hid hok
        have hk5 : IntKind.u32.wrap (k : Int) = (k : Int) := by rw [IntKind.wrap_u32]; omega
        clear hca HF hok hfn hbn
        generalize flT pages fn bn k = t at HT HFD HOK hR ⊢
        generalize hp : at0 pages k = p at HT HCA hcw ⊢
        generalize bn k = bb at HT hbk hbk2 ⊢
        clear hp
        go_wp2
        refine wp_region_call_rest 10 #[true, true, true, true, true, true, true, true, true, true, false, false, false, false, false] (by kernel_rfl) rfl (by kernel_rfl) ?_
        simp only [List.take_succ_cons, List.take_zero]
        repeat (first | ((with_reducible apply st_load_R); (exact hR); (rfl)) | still_step)
        refine wpStill_nil ?_
        go_wp2_with fail
        refine (RFill_any t HOK.out p (k : Int) bb _).mono ?_
        rintro e w5 ⟨rfl, hb⟩
        have HF5 := Lib.hid (HFD.out.after hb)
        clear hb HFD hR hcw
        go_wp2_with fail
        simp only [RestAny]
        refine wpAny_take (i := 11) (v := .tuple #[.agg (rc (t.fil p (k : Int) bb)), .int .i64 (t.slt p : Int)]) rfl (by kernel_rfl) (by kernel_rfl) (by kernel_rfl) (fun _ _ _ h => h) (.inl ⟨by rfl, fun W => by go_simp⟩) ?_
        try simp only [Act.put, List.setIfInBounds_toArray, List.set_cons_zero, List.set_cons_succ]
        refine wpAny_take (i := 12) (v := .agg (rc (t.fil p (k : Int) bb))) rfl (by kernel_rfl) (by kernel_rfl) (by kernel_rfl) (fun _ _ _ h => h) (.inl ⟨by rfl, fun W => by go_simp⟩) ?_
        try simp only [Act.put, List.setIfInBounds_toArray, List.set_cons_zero, List.set_cons_succ]
        refine wpAny_take (i := 13) (v := .int .i64 (t.slt p : Int)) rfl (by kernel_rfl) (by kernel_rfl) (by kernel_rfl) (fun _ _ _ h => h) (.inl ⟨by rfl, fun W => by go_simp⟩) ?_
        try simp only [Act.put, List.setIfInBounds_toArray, List.set_cons_zero, List.set_cons_succ]
        refine wpAny_ready (rs := [14]) (by kernel_rfl) (by simp) (AllReady.cons rfl (fun K hK => ?_) AllReady.nil)
        rw [if_pos (by kernel_rfl)]
        refine o_store_R (t.fil p (k : Int) bb) HF5.out.box rfl rfl rfl ?_
        refine hK _ _ ?_
        clear hK K
        try simp only [Act.put, List.setIfInBounds_toArray, List.set_cons_zero, List.set_cons_succ]
        refine wpAny_done (by kernel_rfl) ?_ _
        have hO6 : Own w w.heap.size t (w5.setRow (w.heap.size + 1) (rc (t.fil p (k : Int) bb))) := ⟨HF5.out.own.lo, Blk.setOther HF5.out.own.at_ (by omega) _, below_setRow HF5.out.own.below (by omega) _⟩
        have hB6 : Rf (w5.setRow (w.heap.size + 1) (rc (t.fil p (k : Int) bb))) (w.heap.size + 1) (t.fil p (k : Int) bb) := HF5.out.box.set _
        have hcw := keep_cell hO6.below HCA.out
        generalize w5.setRow (w.heap.size + 1) (rc (t.fil p (k : Int) bb)) = w6 at hO6 hB6 hcw ⊢
        have HO6 := Lib.hid hO6
        have HB6 := Lib.hid hB6
        clear hO6 hB6 HF5
        go_wp2_with fail
        refine (Fill_any HO6.out.at_ HOK.out false p (k : Int) bb).mono ?_
        rintro e w7 ⟨rfl, ha, ht⟩
        have hlt6 := HB6.out.lt
        have HF7 : Hid (Fl w w.heap.size (w.heap.size + 1) (t.fil p (k : Int) bb) w7) := ⟨HO6.out.turned ha ht, HB6.out.turned ht (by omega), by omega, by omega⟩
        clear ha ht HO6 HB6 hcw
        go_wp2
        go_roundw
        case rel => exact ⟨k + 1, by omega, by go_num, by rw [HT.out]; exact HF7.out⟩
        case measure => simp [intOf]; omega
      · obtain rfl : k = pages.length := by omega
        have hlt' : ¬ ((pages.length : Nat) : Int) < (pages.length : Int) := by omega
        have hok := ok_flT pages fn bn pages.length
        generalize flT pages fn bn pages.length = t at HF hok
        go_wp2_with ((with_reducible apply wp_load_R); (exact HF.out.box); (rfl))
        refine (HF.out.own.act hok 1 gone 0 false false).mono ?_
        rintro e w2 ⟨⟨rfl, hO⟩, ht⟩
        have HOK2 := Lib.hid (ok_act hok 1 gone 0 false)
        generalize actT t 1 gone 0 false = t2 at hO HOK2 ⊢
        have HO2 := Lib.hid (hO.after ((Below.refl _ _).alloc (Nat.le_refl _) (.cells (rc t2) 30)))
        have HB2 := Lib.hid (show Rf (w2.alloc (.cells (rc t2) 30)) w2.heap.size t2 from blk_new _ _ _)
        have hz2 := hO.at_.lt
        clear hO ht HF
        go_wp2_with (first | ((with_reducible apply wp_store_Rn t2); (rfl); (rfl); (rfl)) | ((with_reducible apply wp_load_R); (exact HB2.out); (rfl)))
        refine (is_any HO2.out.at_).mono ?_
        rintro e w3 ⟨rfl, hb⟩
        have HO3 := Lib.hid (HO2.out.after hb)
        have HB3 := Lib.hid (show Rf w3 w2.heap.size t2 from Blk.below HB2.out hb)
        clear hb HO2 HB2
        go_wp2_with ((with_reducible apply wp_load_R); (exact HB3.out); (rfl))
        refine (HO3.out.act HOK2.out 0 more 9 false false).mono ?_
        rintro e w4 ⟨⟨rfl, hO⟩, ht⟩
        generalize actT t2 0 more 9 false = t3 at hO ⊢
        have HO4 := Lib.hid (hO.after ((Below.refl _ _).alloc (Nat.le_refl _) (.cells (rc t3) 30)))
        have HB4 := Lib.hid (show Rf (w4.alloc (.cells (rc t3) 30)) w4.heap.size t3 from blk_new _ _ _)
        clear hO ht HO3 HB3
        go_wp2_with (first | ((with_reducible apply wp_store_Rn t3); (rfl); (rfl); (rfl)) | ((with_reducible apply wp_load_Rg); (kernel_rfl); (exact HB4.out); (rfl)))
        refine HO4.out.is.mono ?_
        rintro e w5 ⟨rfl, hO⟩
        have HO5 := Lib.hid hO
        clear hO HO4 HB4
        go_wp2_with fail
        refine (works_any _).mono ?_
        rintro e w7 ⟨rfl, hb⟩
        have H7 := Lib.hid (HO5.out.after hb)
        clear hb HO5
        go_wp2
        go_ret
        exact ⟨rfl, H7.out.below⟩
end Go.Proofs.Ytafkjokbidkkhaa
