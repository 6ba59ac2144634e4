/-
  Layer 9: the small functions of package net: none, New, Waits, Count, refusal, Clone, Equal, anew, copied and like of a packet, each: walks. Written by gen_leaf.py.
-/
import Derived.Test.YtepimbebodmajaaRegion
import Derived.Laws.Cover3
import Derived.Laws.CopyOwn
namespace Go.Proofs.Ytepimbebodmajaa
open Go.RowKit
set_option maxHeartbeats 1000000
set_option linter.unusedVariables false
set_option linter.unusedSimpArgs false

theorem num_any (x : Int) (w : World) : Calls Try.prog 16 #[.int .i64 x] w fun e w' => e = .returned (.int .i64 x) ∧ w = w' := by
  go_enter Try.func16, Try.ntmps16
  go_wp2
  go_ret
  exact ⟨rfl, rfl⟩
theorem none_nil (w : World) : Calls Try.prog 37 #[.pointer none] w fun e w' => e = .returned (.bool true) ∧ w = w' := by
  go_enter Try.func37, Try.ntmps37
  go_wp2
  go_ret
  exact ⟨rfl, rfl⟩
theorem none_at {w : World} {S : Nat} (hc : w.cell? ⟨S, 0, none⟩ = some (.bool true)) : Calls Try.prog 37 #[.pointer (some ⟨S, 0, none⟩)] w fun e w' => e = .returned (.bool false) ∧ w = w' := by
  go_enter Try.func37, Try.ntmps37
  go_wp2
  go_ret
  exact ⟨rfl, rfl⟩
theorem New_any (w : World) : Calls Try.prog 12 #[] w fun e w' => e = .returned (.pointer (some ⟨w.heap.size, 0, none⟩)) ∧ w' = w.alloc (.cells (ncL N0 (.slice none 0 0) (.slice none 0 0)) 61) := by
  go_enter Try.func12, Try.ntmps12
  go_wp2
  go_ret
  exact ⟨rfl, rfl⟩
theorem at_new (w : World) : At (w.alloc (.cells (ncL N0 (.slice none 0 0) (.slice none 0 0)) 61)) w.heap.size N0 (atF w.heap.size (.slice none 0 0) (.slice none 0 0) [] []) :=
  ⟨_, _, _, _, rfl, blk_new _ _ _, PsIs.nil _, PsIs.nil _, rfl, rfl, trivial, fun k hk => by simp [blkOf] at hk⟩
theorem Waits_nil (w : World) : Calls Try.prog 18 #[.pointer none] w fun e w' => e = .returned (.int .i64 0) ∧ w = w' := by
  go_enter Try.func18, Try.ntmps18
  go_wp2_with (go_at_call 37; refine (none_nil _).mono ?_; rintro e w' ⟨rfl, rfl⟩)
  go_ret
  exact ⟨rfl, rfl⟩
theorem Waits_any {w : World} {S : Nat} {n : Nt} {F : Nat → Prop} (h : At w S n F) : Calls Try.prog 18 #[.pointer (some ⟨S, 0, none⟩)] w fun e w' => e = .returned (.int .i64 (n.wt.length : Int)) ∧ w = w' := by
  obtain ⟨cv, sv, cl, sl, rfl, h⟩ := h
  obtain ⟨c0, c1, _, _, _⟩ := h.cells
  obtain ⟨ao, c, rfl, hc, _⟩ := h.c.g.shape
  have HN := Lib.hid (none_at c0)
  have HE := Lib.hid h.clen
  clear h c0
  go_enter Try.func18, Try.ntmps18
  go_wp2_with (go_at_call 37; refine HN.out.mono ?_; rintro e w' ⟨rfl, rfl⟩)
  go_ret
  exact ⟨by rw [← HE.out]; rfl, rfl⟩
theorem Count_nil (w : World) : Calls Try.prog 26 #[.pointer none] w fun e w' => e = .returned (.tuple #[.int .i64 0, .int .i64 0]) ∧ w = w' := by
  go_enter Try.func26, Try.ntmps26
  go_wp2_with (go_at_call 37; refine (none_nil _).mono ?_; rintro e w' ⟨rfl, rfl⟩)
  go_ret2
  exact ⟨rfl, rfl⟩
theorem Count_any {w : World} {S : Nat} {n : Nt} {F : Nat → Prop} (h : At w S n F) : Calls Try.prog 26 #[.pointer (some ⟨S, 0, none⟩)] w fun e w' => e = .returned (.tuple #[.int .i64 (tot n.cm : Int), .int .i64 (tot n.sn : Int)]) ∧ Below w.heap.size w w' := by
  obtain ⟨cv, sv, cl, sl, rfl, h⟩ := h
  obtain ⟨c0, _, c2, _, c4⟩ := h.cells
  have HN := Lib.hid (none_at c0)
  clear h c0
  go_enter Try.func26, Try.ntmps26
  go_wp2_with (go_at_call 37; refine HN.out.mono ?_; rintro e w' ⟨rfl, rfl⟩)
  go_region
  go_wp2
  go_ret2
  exact ⟨rfl, (Below.refl _ _).drew⟩
theorem refusal_nil (to : Int) (v : Value) (xs : List Int) (w : World) (h : NumsIn .u8 w v xs) : Calls Try.prog 34 #[.pointer none, .int .i64 to, v] w fun e w' => e = .returned (.int .i64 1) ∧ w = w' := by
  obtain ⟨o, c, rfl, _⟩ := h.form
  go_enter Try.func34, Try.ntmps34
  go_wp2_with (go_at_call 37; refine (none_nil _).mono ?_; rintro e w' ⟨rfl, rfl⟩)
  go_ret
  exact ⟨rfl, rfl⟩
set_option maxRecDepth 100000 in
theorem refusal_come {w : World} {S : Nat} {n : Nt} {F : Nat → Prop} (h : At w S n F) (v : Value) (xs : List Int) (hx : NumsIn .u8 w v xs) : Calls Try.prog 34 #[.pointer (some ⟨S, 0, none⟩), .int .i64 0, v] w fun e w' => e = .returned (.int .i64 (n.pushE xs)) ∧ w = w' := by
  have HW := Lib.hid (Waits_any h)
  obtain ⟨cv, sv, cl, sl, rfl, h⟩ := h
  obtain ⟨c0, _⟩ := h.cells
  have HN := Lib.hid (none_at c0)
  obtain ⟨o, c, rfl, _, hm, _⟩ := hx.form
  clear h c0 hx
  by_cases h1 : n.wt.length < 256
  · have h1' : ¬ (256 : Int) ≤ (n.wt.length : Int) := by omega
    by_cases h2 : xs.length ≤ 64
    · have h2' : ¬ (64 : Int) < (xs.length : Int) := by omega
      have HE : Hid (n.pushE xs = 0) := if_pos ⟨h2, h1⟩
      clear h1 h2
      generalize n.pushE xs = E at HE
      go_enter Try.func34, Try.ntmps34
      go_wp2_with (first | (go_at_call 37; refine HN.out.mono ?_; rintro e w' ⟨rfl, rfl⟩) | (go_at_call 18; refine HW.out.mono ?_; rintro e w' ⟨rfl, rfl⟩))
      go_ret
      exact ⟨by rw [HE.out]; rfl, rfl⟩
    · have h2' : (64 : Int) < (xs.length : Int) := by omega
      have HE : Hid (n.pushE xs = 3) := if_neg (fun e => h2 e.1)
      clear h1 h2
      generalize n.pushE xs = E at HE
      go_enter Try.func34, Try.ntmps34
      go_wp2_with (first | (go_at_call 37; refine HN.out.mono ?_; rintro e w' ⟨rfl, rfl⟩) | (go_at_call 18; refine HW.out.mono ?_; rintro e w' ⟨rfl, rfl⟩))
      go_ret
      exact ⟨by rw [HE.out]; rfl, rfl⟩
  · have h1' : (256 : Int) ≤ (n.wt.length : Int) := by omega
    have HE : Hid (n.pushE xs = 3) := if_neg (fun e => h1 e.2)
    clear h1
    generalize n.pushE xs = E at HE
    go_enter Try.func34, Try.ntmps34
    go_wp2_with (first | (go_at_call 37; refine HN.out.mono ?_; rintro e w' ⟨rfl, rfl⟩) | (go_at_call 18; refine HW.out.mono ?_; rintro e w' ⟨rfl, rfl⟩))
    go_ret
    exact ⟨by rw [HE.out]; rfl, rfl⟩
set_option maxRecDepth 100000 in
theorem refusal_go {w : World} {S : Nat} {n : Nt} {F : Nat → Prop} (h : At w S n F) (v : Value) (xs : List Int) (hx : NumsIn .u8 w v xs) : Calls Try.prog 34 #[.pointer (some ⟨S, 0, none⟩), .int .i64 1, v] w fun e w' => e = .returned (.int .i64 (Nt.sendE xs)) ∧ w = w' := by
  obtain ⟨cv, sv, cl, sl, rfl, h⟩ := h
  obtain ⟨c0, _⟩ := h.cells
  have HN := Lib.hid (none_at c0)
  obtain ⟨o, c, rfl, _, hm, _⟩ := hx.form
  clear h c0 hx
  by_cases h2 : xs.length ≤ 64
  · have h2' : ¬ (64 : Int) < (xs.length : Int) := by omega
    have HE : Hid (Nt.sendE xs = 0) := if_pos h2
    clear h2
    generalize Nt.sendE xs = E at HE
    go_enter Try.func34, Try.ntmps34
    go_wp2_with (first | (go_at_call 37; refine HN.out.mono ?_; rintro e w' ⟨rfl, rfl⟩))
    go_ret
    exact ⟨by rw [HE.out]; rfl, rfl⟩
  · have h2' : (64 : Int) < (xs.length : Int) := by omega
    have HE : Hid (Nt.sendE xs = 3) := if_neg h2
    clear h2
    generalize Nt.sendE xs = E at HE
    go_enter Try.func34, Try.ntmps34
    go_wp2_with (first | (go_at_call 37; refine HN.out.mono ?_; rintro e w' ⟨rfl, rfl⟩))
    go_ret
    exact ⟨by rw [HE.out]; rfl, rfl⟩

/-! ### copies of bytes -/
/-- A slice of bytes that the call made. -/
structure Cl (w : World) (v : Value) (xs : List Int) (w' : World) : Prop where
  q : Qs w' v xs
  lo : ∀ k, blkOf v = some k → w.heap.size ≤ k
  below : Below w.heap.size w w'
theorem slice_nil (W : World) (a : Option Addr) (l c : Nat) : (binOp .eql 32 (.slice a l c) (.slice none 0 0)).run Try.prog W = .ok (.bool a.isNone) W := by
  simp [binOp, run_equal_slice_nil W 32 5 a l c Try.underlying32]
theorem Clone_any (v : Value) (xs : List Int) (w : World) (h : NumsIn .u8 w v xs) (hm : xs.length ≤ 900000) : Calls Try.prog 47 #[v] w fun e w' => ∃ v', e = .returned v' ∧ Cl w v' xs w' := by
  rcases h with ⟨rfl, rfl⟩ | ⟨a, c, rfl, h2, h3, h4, h5⟩
  · have hsn := slice_nil
    go_enter Try.func47, Try.ntmps47
    go_wp2
    go_ret
    exact ⟨_, rfl, Qs.nil _, fun k hk => by simp [blkOf] at hk, Below.refl _ _⟩
  · have h : NumsIn .u8 w (.slice (some a) xs.length c) xs := .inr ⟨a, c, rfl, h2, h3, h4, h5⟩
    have HB := Lib.hid h.byt
    have HX := Lib.hid (NumsIn.src (h.below ((Below.refl w.heap.size w).alloc (Nat.le_refl _) (.cells #[] 5))))
    have HG := Lib.hid (Gs.empty 5 1 (w.alloc (.cells #[] 5)) (some ⟨w.heap.size, 0, none⟩))
    clear h h4 h5
    have hsn := slice_nil
    go_enter Try.func47, Try.ntmps47
    go_wp2_with (at_builtin; refine wp_append_g rfl _ _ rfl Try.underlying32 infoU8 rfl (by omega) (by omega) rfl rfl HG.out HX.out (by omega) ?_)
    intro v' w1 hq ht hn
    have hq' : Cl w v' xs w1 := by
      refine ⟨⟨HB.out, ?_⟩, fun k hk => ?_, ?_⟩
      · simpa using hq
      · rcases hn k hk with e | e
        · simp [blkOf] at e
        · first | omega | (simp at e; omega)
      · exact ((Below.refl w.heap.size w).alloc (Nat.le_refl _) (.cells #[] 5)).trans (ht.below (by simp) (fun k e => by simp [blkOf] at e))
    have HQ := Lib.hid hq'
    obtain ⟨ao, c', rfl, _⟩ := hq'.q.shape
    clear hq ht hn hq' HX HG HB
    go_wp2
    go_ret
    exact ⟨_, rfl, HQ.out⟩
theorem anew_any (v : Value) (xs : List Int) (w : World) (h : NumsIn .u8 w v xs) (hm : xs.length ≤ 900000) : Calls Try.prog 40 #[v] w fun e w' => ∃ v', e = .returned v' ∧ Cl w v' xs w' := by
  have HC := Lib.hid (Clone_any v xs w h hm)
  obtain ⟨o, c, rfl, _⟩ := h.form
  clear h
  go_enter Try.func40, Try.ntmps40
  go_wp2_with fail
  refine HC.out.mono ?_
  rintro e w1 ⟨v', rfl, hq⟩
  have HQ := Lib.hid hq
  obtain ⟨ao, c', rfl, _⟩ := hq.q.shape
  clear hq HC
  go_wp2
  go_ret
  exact ⟨_, rfl, HQ.out⟩
theorem BEqual_any (va vb : Value) (xs ys : List Int) (w : World) (ha : NumsIn .u8 w va xs) (hb : NumsIn .u8 w vb ys) : Calls Try.prog 50 #[va, vb] w fun e w' => e = .returned (.bool (decide (xs = ys))) ∧ w = w' := by
  have h1 := str_conv ha
  have h2 := str_conv hb
  have h3 := str_eq ha.byt hb.byt
  obtain ⟨o, c, rfl, _⟩ := ha.form
  obtain ⟨o2, c2, rfl, _⟩ := hb.form
  clear ha hb
  go_enter Try.func50, Try.ntmps50
  go_wp2
  go_ret
  exact ⟨by first | rfl | rw [h3] | simp [h3], rfl⟩
theorem plike_any (va vb : Value) (fa fb : Int) (xs ys : List Int) (w : World) (ha : NumsIn .u8 w va xs) (hb : NumsIn .u8 w vb ys) : Calls Try.prog 46 #[.agg #[va, .int .i64 fa], .agg #[vb, .int .i64 fb]] w fun e w' => e = .returned (.bool (decide (xs = ys))) ∧ Below w.heap.size w w' := by
  have HB := Lib.hid (((Below.refl w.heap.size w).alloc (Nat.le_refl _) (.cells #[va, .int .i64 fa] 71)).alloc (by simp) (.cells #[vb, .int .i64 fb] 71))
  have HC := Lib.hid (BEqual_any va vb xs ys _ (ha.below HB.out) (hb.below HB.out))
  obtain ⟨o, c, rfl, _⟩ := ha.form
  obtain ⟨o2, c2, rfl, _⟩ := hb.form
  clear ha hb
  go_enter Try.func46, Try.ntmps46
  go_wp2_with fail
  refine HC.out.mono ?_
  rintro e w1 ⟨rfl, rfl⟩
  clear HC
  go_wp2
  go_ret
  exact ⟨rfl, HB.out⟩
/-- copied, of a packet: its two boxes. -/
structure PcI (w : World) (v : Value) (f : Int) (W : World) : Prop where
  a : Rf 71 2 W w.heap.size #[v, .int .i64 f]
  r : ∃ c, Rf 71 2 W (w.heap.size + 1) c
  below : Below w.heap.size w W
set_option maxRecDepth 100000 in
theorem pcopied_any (v : Value) (f : Int) (xs : List Int) (w : World) (h : NumsIn .u8 w v xs) (hm : xs.length ≤ 900000) : Calls Try.prog 44 #[.agg #[v, .int .i64 f]] w fun e w' => ∃ v', e = .returned (.agg #[v', .int .i64 f]) ∧ Cl w v' xs w' := by
  have hK : PcI w v f (((w.alloc (.cells #[v, .int .i64 f] 71)).alloc (.cells #[.slice none 0 0, .int .i64 0] 71)).drew) := by
    refine ⟨⟨((blk_new _ _ _).alloc _).drew, rfl, by simp [h.one]; rfl⟩, ⟨#[.slice none 0 0, .int .i64 0], ?_⟩, (((Below.refl _ _).alloc (Nat.le_refl _) _).alloc (by simp) _).drew⟩
    have := blk_new (w.alloc (.cells #[v, .int .i64 f] 71)) #[.slice none 0 0, .int .i64 0] 71
    rw [World.size_alloc] at this
    exact ⟨this.drew, rfl, by simp; exact ⟨rfl, rfl⟩⟩
  have HK := Lib.hid hK
  have HX := Lib.hid h
  obtain ⟨o, c, rfl, _⟩ := h.form
  clear h hK
  go_enter Try.func44, Try.ntmps44
  go_wp2
  have hK0 := HK.out
  refine wp_region_held_drew (S := PcI w (.slice o xs.length c) f) (by kernel_rfl) hK0 (fun _ => ?_)
  have hS := hK0
  have hS0 := hK0
  refine take_d (i := 0) (d := some 3) (v := ?_) rfl rfl (by kernel_rfl) (by kernel_rfl) (by kernel_rfl) (fun _ _ _ h => h) (.inl ⟨by rfl, ?_⟩) hS ?_
  rotate_left
  · intro W hW
    go_simp
    try with_reducible rfl
  try simp only [Act.put, List.setIfInBounds_toArray, List.set_cons_zero, List.set_cons_succ]
  refine take_d (i := 1) (d := some 4) (v := ?_) rfl rfl (by kernel_rfl) (by kernel_rfl) (by kernel_rfl) (fun _ _ _ h => h) (.inl ⟨by rfl, ?_⟩) hS ?_
  rotate_left
  · intro W hW
    have q1 := hW.a.cell 0; have q2 := hW.a.cell 1; simp only [List.getElem?_toArray, List.getElem?_cons_zero, List.getElem?_cons_succ] at q1 q2
    go_simp
    try with_reducible rfl
  try simp only [Act.put, List.setIfInBounds_toArray, List.set_cons_zero, List.set_cons_succ]
  refine take_d (i := 3) (d := some 6) (v := ?_) rfl rfl (by kernel_rfl) (by kernel_rfl) (by kernel_rfl) (fun _ _ _ h => h) (.inl ⟨by rfl, ?_⟩) hS ?_
  rotate_left
  · intro W hW
    go_simp
    try with_reducible rfl
  try simp only [Act.put, List.setIfInBounds_toArray, List.set_cons_zero, List.set_cons_succ]
  refine take_d (i := 4) (d := some 7) (v := ?_) rfl rfl (by kernel_rfl) (by kernel_rfl) (by kernel_rfl) (fun _ _ _ h => h) (.inl ⟨by rfl, ?_⟩) hS ?_
  rotate_left
  · intro W hW
    have q1 := hW.a.cell 0; have q2 := hW.a.cell 1; simp only [List.getElem?_toArray, List.getElem?_cons_zero, List.getElem?_cons_succ] at q1 q2
    go_simp
    try with_reducible rfl
  try simp only [Act.put, List.setIfInBounds_toArray, List.set_cons_zero, List.set_cons_succ]
  refine wpAnyH_all (rs := [2]) (by kernel_rfl) (by simp) (fun i hi => ?_)
  simp only [List.mem_cons, List.not_mem_nil, or_false] at hi
  subst hi
  refine .inl ?_
  go_simp
  refine (anew_any _ xs _ (HX.out.below hS.below) hm).mono ?_
  rintro e wc ⟨v1, rfl, hc⟩
  have hS : PcI w (.slice o xs.length c) f wc := ⟨hS.a.below hc.below, by obtain ⟨c0, hr⟩ := hS.r; exact ⟨c0, hr.below hc.below⟩, hS.below.trans (hc.below.mono hS.below.size)⟩
  obtain ⟨ao, c1, rfl, _⟩ := hc.q.shape
  have HCL := Lib.hid (show Cl w (.slice ao xs.length c1) xs wc from ⟨hc.q, fun k hk => by have := hc.lo k hk; have := hS0.below.size; omega, hS.below⟩)
  have hnr : ∀ k, blkOf (.slice ao xs.length c1) = some k → k ≠ w.heap.size + 1 := fun k hk => by have := hc.lo k hk; obtain ⟨c0, hr⟩ := hS0.r; have := hr.lt; omega
  clear hc
  refine ⟨hS, ?_⟩
  try simp only [Act.put, List.setIfInBounds_toArray, List.set_cons_zero, List.set_cons_succ]
  refine take_d (i := 5) (d := some 8) (v := ?_) rfl rfl (by kernel_rfl) (by kernel_rfl) (by kernel_rfl) (fun _ _ _ h => h) (.inl ⟨by rfl, ?_⟩) hS ?_
  rotate_left
  · intro W hW
    go_simp
    try with_reducible rfl
  try simp only [Act.put, List.setIfInBounds_toArray, List.set_cons_zero, List.set_cons_succ]
  refine wpAnyH_all (rs := [6]) (by kernel_rfl) (by simp) (fun i hi => ?_)
  simp only [List.mem_cons, List.not_mem_nil, or_false] at hi
  subst hi
  refine .inl ?_
  obtain ⟨c0, hr⟩ := hS.r
  refine o_store_R (d := none) rfl (#[.slice ao xs.length c1, .int .i64 f]) rowP hr ⟨rfl, by simp; exact ⟨rfl, rfl⟩⟩ rfl rfl rfl ?_
  have HR := Lib.hid (hr.set (c' := #[.slice ao xs.length c1, .int .i64 f]) ⟨rfl, by simp; exact ⟨rfl, rfl⟩⟩)
  have HE := Lib.hid (show Cl w (.slice ao xs.length c1) xs (wc.setRow (w.heap.size + 1) #[.slice ao xs.length c1, .int .i64 f]) from ⟨HCL.out.q.turned (turned_setRow _ _ _) hnr, HCL.out.lo, below_setRow HCL.out.below (by omega) _⟩)
  have hS : PcI w (.slice o xs.length c) f (wc.setRow (w.heap.size + 1) #[.slice ao xs.length c1, .int .i64 f]) := ⟨hS.a.setOther (by omega) _, ⟨_, HR.out⟩, below_setRow hS.below (by omega) _⟩
  refine ⟨hS, ?_⟩
  try simp only [Act.put, List.setIfInBounds_toArray, List.set_cons_zero, List.set_cons_succ]
  refine wpAnyH_done (by kernel_rfl) ?_ _
  go_wp2
  refine bodyPost_ret (res_R rowP (fn := Try.f44) rfl _ HR.out rfl) rfl ⟨_, rfl, HE.out⟩
theorem each_any (v : Value) (nx : Int) (w : World) : Calls Try.prog 43 #[.agg #[v, .int .i64 nx]] w fun e w' => e = .returned (.func (.func 49) #[] #[.pointer (some ⟨w.heap.size, 0, none⟩)]) ∧ w' = w.alloc (.cells #[v, .int .i64 nx] 59) := by
  have hmf : ∀ (fn : Fn) (first cap : Array Value) (w : World), (Instr.makeFunc fn first cap).run Try.prog w = .ok (.func fn first cap) w := fun _ _ _ _ => rfl
  go_enter Try.func43, Try.ntmps43
  go_wp2
  go_ret
  exact ⟨rfl, rfl⟩
end Go.Proofs.Ytepimbebodmajaa
