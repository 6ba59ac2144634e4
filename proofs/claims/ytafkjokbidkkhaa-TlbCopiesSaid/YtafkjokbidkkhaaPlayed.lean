/-
  Layer 6: played of the statements: walk. Written by gen_played.py out of XPlayed.part.
-/
import Derived.Test.YtafkjokbidkkhaaAct
import Derived.Test.YtafkjokbidkkhaaNums
import Derived.Test.YtafkjokbidkkhaaWorks
import Derived.RegionTactic
namespace Go.Proofs.Ytafkjokbidkkhaa
open Go.RowKit
set_option maxHeartbeats 1000000
set_option linter.unusedVariables false
set_option linter.unusedSimpArgs false

theorem Own.act {w W : World} {S : Nat} {t : Tl} (h : Own w S t W) (hok : Ok t) (k p f : Int) (wr th : Bool) : Calls Try.prog 13 #[.pointer (some ⟨S, 0, none⟩), .agg (rc t), .agg #[.int .i64 k, .int .u32 p, .int .u32 f, .bool wr, .bool th]] W fun e w' =>
    (e = .returned (.tuple #[.agg (rc (actT t k p f wr)), .bool true]) ∧ Own w S (actT t k p f wr) w') ∧ Turned (fun j => j = S) W w' :=
  (act_any h.at_ hok k p f wr th).mono fun e w' hq => ⟨⟨hq.1, h.turned hq.2.1 hq.2.2⟩, hq.2.2⟩
structure At5 (W : World) (q : Addr) (s : Act5) : Prop where
  k : W.cell? q = some (.int .i64 s.k)
  p : W.cell? ⟨q.block, q.off + 1, none⟩ = some (.int .u32 s.p)
  f : W.cell? ⟨q.block, q.off + 2, none⟩ = some (.int .u32 s.f)
  wr : W.cell? ⟨q.block, q.off + 3, none⟩ = some (.bool s.wr)
  th : W.cell? ⟨q.block, q.off + 4, none⟩ = some (.bool s.th)
theorem add_add1 (a : Addr) (n j : Nat) (hj : 0 < j) : a.add (n + j) = ⟨(a.add n).block, (a.add n).off + j, none⟩ := by
  unfold Addr.add
  rw [if_neg (by omega)]
  split
  · subst_vars; simp
  · simp [Nat.add_assoc]
theorem ActsIn.at5 {w : World} {v : Value} {xs : List Act5} (h : ActsIn w v xs) {k : Nat} (hk : k < xs.length) : ∃ (a : Addr) (c : Nat) (s : Act5), v = .slice (some a) xs.length c ∧ xs[k]? = some s ∧ At5 w (a.add (k * 5)) s := by
  rcases h with ⟨rfl, rfl⟩ | ⟨a, c, h1, h2, h3, h4⟩
  · simp at hk
  · obtain ⟨m0, m1, m2, m3, m4⟩ := h4 k _ (List.getElem?_eq_getElem hk)
    rw [add_add1 _ _ _ (by omega)] at m1 m2 m3 m4
    exact ⟨a, c, _, h1, List.getElem?_eq_getElem hk, m0, m1, m2, m3, m4⟩
structure Pl (w : World) (v : Value) (xs : List Act5) (t : Tl) (W : World) : Prop where
  own : Own w (w.heap.size + 1) t W
  res : Rf W w.heap.size T0
  box : Rf W (w.heap.size + 1 + 1) t
theorem res_sRs {fn : Func} {p q u : Tmp} (h : fn.results = #[.tmp p, .cell q 30, .tmp u]) (tmps : Array Value) {W : World} {R : Nat} {t : Tl} (hr : Rf W R t) (hp : tmps.getD q undef = .pointer (some ⟨R, 0, none⟩)) :
    (results fn tmps).run Try.prog W = .ok (.tuple #[tmps.getD p undef, .agg (rc t), tmps.getD u undef]) W := by
  have hp' : tmps[q]?.getD undef = .pointer (some ⟨R, 0, none⟩) := by simpa using hp
  have hl := run_loadVar_row (P := Try.prog) W R 30 30 (rc t) (0, 0) _ hr Try.underlying30 rfl infoR
  simp [results, h, hp', asAddr, hl]
theorem ActsIn.below' {w w' : World} {v : Value} {xs : List Act5} (h : ActsIn w v xs) (hb : Below w.heap.size w w') : ActsIn w' v xs := h.below hb
set_option maxRecDepth 100000 in
theorem played_any (w : World) (v : Value) (xs : List Act5) (h : ActsIn w v xs) : Calls Try.prog 10 #[v] w fun e w' =>
    ∃ S, e = .returned (.tuple #[.pointer (some ⟨S, 0, none⟩), .agg (rc (plT xs)), .bool true]) ∧ Own w S (plT xs) w' := by
  obtain ⟨o, c, rfl, hc, hm⟩ := h.form
  unfold maxLen at hm
  have r0 : Rf (w.alloc (.cells (rc T0) 30)) w.heap.size T0 := blk_new w _ _
  have hB := (Below.refl w.heap.size w).alloc (Nat.le_refl _) (.cells (rc T0) 30)
  have o1 := Own.new (w.alloc (.cells (rc T0) 30))
  have H0 : Hid (Pl w (.slice o xs.length c) xs T0 (((w.alloc (.cells (rc T0) 30)).alloc (.cells (pc T0) 62)).alloc (.cells (rc T0) 30))) := by
    refine ⟨⟨by omega, ?_, ?_⟩, ?_, ?_⟩
    · have := o1.at_
      rw [World.size_alloc] at this
      exact this.alloc _
    · exact (hB.trans (o1.below.mono (by simp))).alloc (by simp <;> omega) _
    · exact (r0.alloc _).alloc _
    · have := blk_new ((w.alloc (.cells (rc T0) 30)).alloc (.cells (pc T0) 62)) (rc T0) 30
      simp only [World.size_alloc] at this
      exact this
  have HI := Lib.hid h
  clear r0 hB o1 h
  go_enter Try.func10, Try.ntmps10
  go_wp2_with fail
  refine (New_any _).mono ?_
  rintro e w1 ⟨rfl, rfl⟩
  go_wp2_with fail
  show Code.wp Try.prog _ _ _ (((w.alloc (.cells (rc T0) 30)).alloc (.cells (pc T0) 62)).alloc (.cells (rc T0) 30))
  generalize ((w.alloc (.cells (rc T0) 30)).alloc (.cells (pc T0) 62)).alloc (.cells (rc T0) 30) = W0 at H0 ⊢
  go_loopw [7, 8] (fun f q wr => ∃ k : Nat, k ≤ xs.length ∧ f = .bool true ∧ q = .int .i64 (k : Int) ∧ Hid (Pl w (.slice o xs.length c) xs (plT (xs.take k)) wr)) (fun _ q _ => xs.length + 1 - (intOf q).toNat)
  case atStart => exact ⟨0, by omega, rfl, rfl, H0.out⟩
  case round =>
    obtain ⟨k, hk, rfl, rfl, HP⟩ := hrel
    by_cases hlt : k < xs.length
    · have hi : (k : Int) < (xs.length : Int) := by omega
      obtain ⟨a, c', s, he, hs, h5⟩ := (HI.out.below' HP.out.own.below).at5 hlt
      simp at he
      obtain ⟨rfl, rfl⟩ := he
      obtain ⟨a0, a1, a2, a3, a4⟩ := h5
      have HT := Lib.hid (plT_step hs)
      have hok := ok_plT (xs.take k)
      have hR := HP.out.box.drew
      clear hs
      go_wp2
      refine wp_region_call_rest 6 #[true, true, true, true, true, true, false, false, false, false, false, false] (by kernel_rfl) rfl (by kernel_rfl) ?_
      simp only [List.take_succ_cons, List.take_zero]
      repeat (first | ((with_reducible apply st_load_R); (exact hR); (rfl)) | still_step)
      refine wpStill_nil ?_
      go_wp2_with fail
      refine (Own.act (HP.out.own.after (Below.refl _ _).drew) hok s.k s.p s.f s.wr s.th).mono ?_
      rintro e w5 ⟨⟨rfl, hO⟩, ht⟩
      have hz := HP.out.box.lt
      have HO := Lib.hid hO
      have HB := Lib.hid (show Rf w5 (w.heap.size + 1 + 1) (plT (xs.take k)) from (HP.out.box.drew).turned ht (by omega))
      have HZ := Lib.hid (show Rf w5 w.heap.size T0 from (HP.out.res.drew).turned ht (by omega))
      clear hO ht a0 a1 a2 a3 a4 HP hR
      generalize actT (plT (xs.take k)) s.k s.p s.f s.wr = t' at HO HT ⊢
      go_wp2_with fail
      simp only [RestAny]
      refine wpAny_take (i := 7) (v := .tuple #[.agg (rc t'), .bool true]) rfl (by kernel_rfl) (by kernel_rfl) (by kernel_rfl) (fun _ _ _ h => h) (.inl ⟨by rfl, fun W => by go_simp⟩) ?_
      try simp only [Act.put, List.setIfInBounds_toArray, List.set_cons_zero, List.set_cons_succ]
      refine wpAny_take (i := 8) (v := .agg (rc t')) rfl (by kernel_rfl) (by kernel_rfl) (by kernel_rfl) (fun _ _ _ h => h) (.inl ⟨by rfl, fun W => by go_simp⟩) ?_
      try simp only [Act.put, List.setIfInBounds_toArray, List.set_cons_zero, List.set_cons_succ]
      refine wpAny_take (i := 9) (v := .bool true) rfl (by kernel_rfl) (by kernel_rfl) (by kernel_rfl) (fun _ _ _ h => h) (.inl ⟨by rfl, fun W => by go_simp⟩) ?_
      try simp only [Act.put, List.setIfInBounds_toArray, List.set_cons_zero, List.set_cons_succ]
      refine wpAny_ready (rs := [10]) (by kernel_rfl) (by simp) (AllReady.cons rfl (fun K hK => ?_) AllReady.nil)
      rw [if_pos (by kernel_rfl)]
      refine o_store_R t' HB.out rfl rfl rfl ?_
      refine hK _ _ ?_
      clear hK K
      try simp only [Act.put, List.setIfInBounds_toArray, List.set_cons_zero, List.set_cons_succ]
      refine wpAny_take (i := 11) (v := .bool true) rfl (by kernel_rfl) (by kernel_rfl) (by kernel_rfl) (fun _ _ _ h => h) (.inl ⟨by rfl, fun W => by go_simp⟩) ?_
      try simp only [Act.put, List.setIfInBounds_toArray, List.set_cons_zero, List.set_cons_succ]
      refine wpAny_done (by kernel_rfl) ?_ _
      have HP2 : Hid (Pl w (.slice (some a) xs.length c) xs t' (w5.setRow (w.heap.size + 1 + 1) (rc t'))) :=
        ⟨⟨HO.out.lo, HO.out.at_.setOther (by omega) _, below_setRow HO.out.below (by omega) _⟩, HZ.out.setOther (by omega) _, HB.out.set _⟩
      clear HO HB HZ
      go_wp2
      go_roundw
      case rel => exact ⟨k + 1, by omega, rfl, by go_num, by rw [HT.out]; exact HP2.out⟩
      case measure => simp [intOf]; omega
    · obtain rfl : k = xs.length := by omega
      have hlt' : ¬ ((xs.length : Nat) : Int) < (xs.length : Int) := by omega
      have e1 : xs.take xs.length = xs := List.take_length
      rw [e1] at HP
      have hR := HP.out.box.drew
      go_wp2
      have HZ := Lib.hid (show Rf wr.drew w.heap.size T0 from HP.out.res.drew)
      have hK0 : (fun W => Rf W (w.heap.size + 1 + 1) (plT xs)) wr.drew := hR
      refine wp_region_held_drew (S := (fun W => Rf W (w.heap.size + 1 + 1) (plT xs))) (by kernel_rfl) hK0 (fun _ => ?_)
      have hS := hK0
      refine take_d (i := 0) (d := some 30) (v := .pointer (some ⟨w.heap.size + 1, 0, none⟩)) rfl rfl (by kernel_rfl) (by kernel_rfl) (by kernel_rfl) (fun _ _ _ h => h) (.inl ⟨by rfl, fun W hW => by go_simp⟩) hS ?_
      try simp only [Act.put, List.setIfInBounds_toArray, List.set_cons_zero, List.set_cons_succ]
      refine take_d (i := 1) (d := some 31) (v := .agg (rc (plT xs))) rfl rfl (by kernel_rfl) (by kernel_rfl) (by kernel_rfl) (fun _ _ _ h => h) (y_R (by kernel_rfl) rfl rfl (fun W hW => hW)) hS ?_
      try simp only [Act.put, List.setIfInBounds_toArray, List.set_cons_zero, List.set_cons_succ]
      refine take_d (i := 2) (d := some 32) (v := .bool true) rfl rfl (by kernel_rfl) (by kernel_rfl) (by kernel_rfl) (fun _ _ _ h => h) (.inl ⟨by rfl, fun W hW => by go_simp⟩) hS ?_
      try simp only [Act.put, List.setIfInBounds_toArray, List.set_cons_zero, List.set_cons_succ]
      refine take_d (i := 3) (d := some 2) (v := .pointer (some ⟨w.heap.size + 1, 0, none⟩)) rfl rfl (by kernel_rfl) (by kernel_rfl) (by kernel_rfl) (fun _ _ _ h => h) (.inl ⟨by rfl, fun W hW => by go_simp⟩) hS ?_
      try simp only [Act.put, List.setIfInBounds_toArray, List.set_cons_zero, List.set_cons_succ]
      refine wpAnyH_all (rs := [4]) (by kernel_rfl) (by simp) (fun i hi => ?_)
      simp only [List.mem_cons, List.not_mem_nil, or_false] at hi
      subst hi
      refine .inl ?_
      refine o_store_R (plT xs) HZ.out rfl rfl rfl ?_
      have hS : (fun W => Rf W (w.heap.size + 1 + 1) (plT xs)) (wr.drew.setRow w.heap.size (rc (plT xs))) := Blk.setOther hR (by omega) _
      refine ⟨hS, ?_⟩
      try simp only [Act.put, List.setIfInBounds_toArray, List.set_cons_zero, List.set_cons_succ]
      refine take_d (i := 5) (d := some 4) (v := .bool true) rfl rfl (by kernel_rfl) (by kernel_rfl) (by kernel_rfl) (fun _ _ _ h => h) (.inl ⟨by rfl, fun W hW => by go_simp⟩) hS ?_
      try simp only [Act.put, List.setIfInBounds_toArray, List.set_cons_zero, List.set_cons_succ]
      refine wpAnyH_done (by kernel_rfl) ?_ _
      clear hS hK0 hR
      go_wp2
      refine bodyPost_ret (res_sRs (fn := Try.f10) rfl _ (HZ.out.set _) rfl) rfl ⟨_, rfl, HP.out.own.lo, (HP.out.own.at_.drew).setOther (by omega) _, below_setRow (HP.out.own.below.drew) (Nat.le_refl _) _⟩
end Go.Proofs.Ytafkjokbidkkhaa
