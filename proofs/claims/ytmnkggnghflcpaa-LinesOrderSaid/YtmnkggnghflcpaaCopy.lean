/-
  Layer 7: alike, Copy, Same: walks. Written by gen_copy.py.
-/
import Derived.Test.YtmnkggnghflcpaaRegion
namespace Go.Proofs.Ytmnkggnghflcpaa
open Go.RowKit
set_option maxHeartbeats 1000000
set_option linter.unusedVariables false
set_option linter.unusedSimpArgs false

theorem alike_any (va vb : Value) (xs ys : List Int) (w : World) (ha : NumsIn .u8 w va xs) (hb : NumsIn .u8 w vb ys) : Calls Try.prog 48 #[va, vb] w fun e w' => e = .returned (.bool (decide (xs = ys))) ∧ w = w' := by
  obtain ⟨oa, ca, rfl, _, hla, A⟩ := ha.form
  obtain ⟨ob, cb, rfl, _, hlb, B⟩ := hb.form
  have hba := ha.byt
  unfold maxLen at hla hlb
  have HA := Lib.hid A
  have HB := Lib.hid B
  clear ha hb A B
  by_cases hl : xs.length = ys.length
  · have hl' : (xs.length : Int) = (ys.length : Int) := by omega
    have HL := Lib.hid hl
    rw [← hl]
    clear hl hl' hlb
    go_enter Try.func48, Try.ntmps48
    go_wp2
    go_loopw [14] (fun q wr => ∃ k : Nat, k ≤ xs.length ∧ q = .int .i64 (k : Int) ∧ wr = w ∧ Hid (∀ j, j < k → at0 xs j = at0 ys j)) (fun q _ => xs.length + 1 - (intOf q).toNat)
    case atStart => exact ⟨0, by omega, rfl, rfl, fun j hj => by omega⟩
    case round =>
      obtain ⟨k, hk, rfl, rfl, HE⟩ := hrel
      by_cases hlt : k < xs.length
      · obtain ⟨a1, rfl, h1⟩ := HA.out k hlt
        obtain ⟨a2, rfl, h2⟩ := HB.out k (by rw [← HL.out]; exact hlt)
        have hi : (k : Int) < (xs.length : Int) := by omega
        generalize hx : at0 xs k = x at h1
        generalize hy : at0 ys k = y at h2
        by_cases he : x = y
        · have HE2 : Hid (∀ j, j < k + 1 → at0 xs j = at0 ys j) := fun j hj => by
            by_cases e : j = k
            · subst e; rw [hx, hy, he]
            · exact HE.out j (by omega)
          clear hx hy
          subst he
          go_wp2
          go_roundw
          case rel => exact ⟨k + 1, by omega, by go_num, trivial, HE2⟩
          case measure => simp [intOf]; omega
        · have HD : Hid (decide (xs = ys) = false) := decide_eq_false (by intro e; apply he; rw [← hx, ← hy, e])
          clear hx hy
          go_wp2
          go_ret
          exact ⟨by rw [HD.out]; rfl, rfl⟩
      · obtain rfl : k = xs.length := by omega
        have HD : Hid (decide (xs = ys) = true) := decide_eq_true (list_ext0 HL.out HE.out)
        go_wp2
        go_ret
        exact ⟨by rw [HD.out]; rfl, rfl⟩
  · have hne : ¬ (xs.length : Int) = (ys.length : Int) := by omega
    have HD : Hid (decide (xs = ys) = false) := decide_eq_false (by intro e; apply hl; rw [e])
    clear hl
    go_enter Try.func48, Try.ntmps48
    go_wp2
    go_ret
    exact ⟨by rw [HD.out]; rfl, rfl⟩

/-! ### copies -/
theorem o_store_bytes {op : Oper} {a : Act} {w : World} {K : Act → World → Prop} {Q : Exit → Act → World → Prop} {x y : Operand} {b j : Nat} {u v : Value} (hv : ∃ ao n c, v = .slice ao n c) (hc : w.cell? ⟨b, j, none⟩ = some u) (hf : w.frozen? ⟨b, j, none⟩ = false) (ho : op.op = .store 28 x y) (hx : a.eval x = .pointer (some ⟨b, j, none⟩)) (hy : a.eval y = v)
    (h : K (a.put op.dst undef) (w.setCell ⟨b, j, none⟩ v)) : op.wp Try.prog a w K Q := by
  obtain ⟨ao, n, c, rfl⟩ := hv
  unfold Oper.wp execOp
  simp only [ho, hx, hy]
  go_simp
  exact h
theorem Qs.sl {w : World} {v : Value} {xs : List Int} (h : Qs w v xs) : ∃ ao n c, v = .slice ao n c := by
  obtain ⟨ao, c, h1, _⟩ := h.shape
  exact ⟨ao, _, c, h1⟩
theorem Copy_nil (w : World) : Calls Try.prog 21 #[.pointer none] w fun e w' => e = .returned (.pointer none) ∧ w = w' := by
  go_enter Try.func21, Try.ntmps21
  go_wp2_with (go_at_call 45; refine (none_nil _).mono ?_; rintro e w' ⟨rfl, rfl⟩)
  go_ret
  exact ⟨rfl, rfl⟩
structure CpI (w : World) (S : Nat) (l : Ls) (wv tv : Value) (W : World) : Prop where
  at_ : AtIs W S l wv tv
  below : Below w.heap.size w W
theorem CpI.after {w : World} {S : Nat} {l : Ls} {wv tv : Value} {W W' : World} (h : CpI w S l wv tv W) (hb : Below W.heap.size W W') : CpI w S l wv tv W' :=
  ⟨h.at_.keep fun k hk => hb.block k (h.at_.lt k hk), h.below.trans (hb.mono h.below.size)⟩
theorem CpI.put {w : World} {S : Nat} {l : Ls} {wv tv : Value} {W : World} (h : CpI w S l wv tv W) {N : Nat} (hN : w.heap.size ≤ N) (hA : ∀ k, atF S wv tv k → k ≠ N) (j : Nat) (v : Value) : CpI w S l wv tv (W.setCell ⟨N, j, none⟩ v) :=
  ⟨h.at_.keep fun k hk => Below.heap_setCell _ _ _ _ (hA k hk), h.below.setCell hN v⟩
set_option maxRecDepth 100000 in
theorem Copy_any {w : World} {S : Nat} {l : Ls} {F : Nat → Prop} (h : At w S l F) (hm : l.wt.length ≤ 1000000) (hm2 : l.td.length ≤ 1000000) : Calls Try.prog 21 #[.pointer (some ⟨S, 0, none⟩)] w fun e w' =>
    ∃ S' F', e = .returned (.pointer (some ⟨S', 0, none⟩)) ∧ At w' S' l F' ∧ (∀ k, F' k → w.heap.size ≤ k) ∧ Below w.heap.size w w' := by
  obtain ⟨wv, tv, rfl, h⟩ := h
  have hlt : ∀ k, atF S wv tv k → k ≠ w.heap.size := fun k hk => Nat.ne_of_lt (h.lt k hk)
  obtain ⟨c0, _⟩ := h.cells
  have HN := Lib.hid (none_at c0)
  have h10 : Blk w S (pcL l wv tv) 71 ∧ (pcL l wv tv).size = 10 := ⟨h.blk, rfl⟩
  obtain ⟨aw, nw, cw, ew⟩ := h.q.sl
  obtain ⟨at_, nt, ct, et⟩ := h.t.sl
  have hone : (pcL l wv tv).size = 10 ∧ (pcL l wv tv).all (·.oneCell') = true := by
    subst ew et
    exact ⟨rfl, by simp [pcL]; exact ⟨rfl, rfl, rfl, rfl, rfl, rfl, rfl, rfl, rfl⟩⟩
  have H10 := Lib.hid h10
  have HO := Lib.hid hone
  have hK : CpI w S l wv tv (w.alloc (.cells (pcL l wv tv) 71)).drew := ⟨h.keep fun k hk => Below.heap_alloc _ _ _ (h.lt k hk), ((Below.refl _ _).alloc (Nat.le_refl _) _).drew⟩
  have HK := Lib.hid hK
  have HB0 := Lib.hid (show Blk (w.alloc (.cells (pcL l wv tv) 71)).drew w.heap.size (pcL l wv tv) 71 from blk_new _ _ _)
  have HLT := Lib.hid hlt
  have HM := Lib.hid hm
  have HM2 := Lib.hid hm2
  clear h c0 h10 hone hK hlt hm hm2 ew et
  go_enter Try.func21, Try.ntmps21
  go_wp2_with (first | (go_at_call 45; refine HN.out.mono ?_; rintro e w' ⟨rfl, rfl⟩) | ((with_reducible apply wp_load_L); (exact H10.out); (rfl)) | ((with_reducible apply wp_store_Ln (pcL l wv tv)); (exact HO.out); (rfl); (rfl); (rfl)))
  have hK0 := HK.out
  refine wp_region_held_drew (S := _) (by kernel_rfl) hK0 (fun _ => ?_)
  have hS := hK0
  refine take_d (i := 0) (d := some 9) (v := ?_) rfl rfl (by kernel_rfl) (by kernel_rfl) (by kernel_rfl) (fun _ _ _ h => h) (.inl ⟨by rfl, ?_⟩) hS ?_
  rotate_left
  · intro W hW
    go_simp
    try with_reducible rfl
  try simp only [Act.put, List.setIfInBounds_toArray, List.set_cons_zero, List.set_cons_succ]
  refine take_d (i := 1) (d := some 10) (v := ?_) rfl rfl (by kernel_rfl) (by kernel_rfl) (by kernel_rfl) (fun _ _ _ h => h) (.inl ⟨by rfl, ?_⟩) hS ?_
  rotate_left
  · intro W hW
    go_simp
    try with_reducible rfl
  try simp only [Act.put, List.setIfInBounds_toArray, List.set_cons_zero, List.set_cons_succ]
  refine take_d (i := 2) (d := some 11) (v := ?_) rfl rfl (by kernel_rfl) (by kernel_rfl) (by kernel_rfl) (fun _ _ _ h => h) (.inl ⟨by rfl, ?_⟩) hS ?_
  rotate_left
  · intro W hW
    go_simp
    try with_reducible rfl
  try simp only [Act.put, List.setIfInBounds_toArray, List.set_cons_zero, List.set_cons_succ]
  refine take_d (i := 3) (d := some 12) (v := ?_) rfl rfl (by kernel_rfl) (by kernel_rfl) (by kernel_rfl) (fun _ _ _ h => h) (.inl ⟨by rfl, ?_⟩) hS ?_
  rotate_left
  · intro W hW
    have q := hW.at_.cells
    go_simp
    try with_reducible rfl
  try simp only [Act.put, List.setIfInBounds_toArray, List.set_cons_zero, List.set_cons_succ]
  refine take_d (i := 5) (d := some 14) (v := ?_) rfl rfl (by kernel_rfl) (by kernel_rfl) (by kernel_rfl) (fun _ _ _ h => h) (.inl ⟨by rfl, ?_⟩) hS ?_
  rotate_left
  · intro W hW
    go_simp
    try with_reducible rfl
  try simp only [Act.put, List.setIfInBounds_toArray, List.set_cons_zero, List.set_cons_succ]
  refine take_d (i := 6) (d := some 15) (v := ?_) rfl rfl (by kernel_rfl) (by kernel_rfl) (by kernel_rfl) (fun _ _ _ h => h) (.inl ⟨by rfl, ?_⟩) hS ?_
  rotate_left
  · intro W hW
    go_simp
    try with_reducible rfl
  try simp only [Act.put, List.setIfInBounds_toArray, List.set_cons_zero, List.set_cons_succ]
  refine take_d (i := 7) (d := some 16) (v := ?_) rfl rfl (by kernel_rfl) (by kernel_rfl) (by kernel_rfl) (fun _ _ _ h => h) (.inl ⟨by rfl, ?_⟩) hS ?_
  rotate_left
  · intro W hW
    go_simp
    try with_reducible rfl
  try simp only [Act.put, List.setIfInBounds_toArray, List.set_cons_zero, List.set_cons_succ]
  refine take_d (i := 8) (d := some 17) (v := ?_) rfl rfl (by kernel_rfl) (by kernel_rfl) (by kernel_rfl) (fun _ _ _ h => h) (.inl ⟨by rfl, ?_⟩) hS ?_
  rotate_left
  · intro W hW
    have q := hW.at_.cells
    go_simp
    try with_reducible rfl
  try simp only [Act.put, List.setIfInBounds_toArray, List.set_cons_zero, List.set_cons_succ]
  refine wpAnyH_all (rs := [4]) (by kernel_rfl) (by simp) (fun i hi => ?_)
  simp only [List.mem_cons, List.not_mem_nil, or_false] at hi
  subst hi
  refine .inl ?_
  go_simp
  refine (Clone_any _ l.wt _ hS.at_.q.nums HM.out).mono ?_
  rintro e wc ⟨v1, rfl, hM⟩
  have b1 := hM.below
  have m1 := hM.q
  have r1 := hM.new
  have hN1 := HB0.out.below b1
  have hS := hS.after b1
  clear hM
  have hL1 : ∀ k, blkOf v1 = some k → k < wc.heap.size := fun k e => m1.lt e
  refine ⟨hS, ?_⟩
  try simp only [Act.put, List.setIfInBounds_toArray, List.set_cons_zero, List.set_cons_succ]
  refine wpAnyH_all (rs := [9]) (by kernel_rfl) (by simp) (fun i hi => ?_)
  simp only [List.mem_cons, List.not_mem_nil, or_false] at hi
  subst hi
  refine .inl ?_
  go_simp
  refine (Clone_any _ l.td _ hS.at_.t.nums HM2.out).mono ?_
  rintro e wc ⟨v2, rfl, hM⟩
  rename_i wc1 wc2
  have b2 := hM.below
  have m2 := hM.q
  have r2 := hM.new
  have hN2 := hN1.below b2
  have hS := hS.after b2
  have m1 := m1.below b2
  clear hM
  refine ⟨hS, ?_⟩
  try simp only [Act.put, List.setIfInBounds_toArray, List.set_cons_zero, List.set_cons_succ]
  refine take_d (i := 10) (d := some 19) (v := ?_) rfl rfl (by kernel_rfl) (by kernel_rfl) (by kernel_rfl) (fun _ _ _ h => h) (.inl ⟨by rfl, ?_⟩) hS ?_
  rotate_left
  · intro W hW
    go_simp
    try with_reducible rfl
  try simp only [Act.put, List.setIfInBounds_toArray, List.set_cons_zero, List.set_cons_succ]
  refine wpAnyH_all (rs := [11]) (by kernel_rfl) (by simp) (fun i hi => ?_)
  simp only [List.mem_cons, List.not_mem_nil, or_false] at hi
  subst hi
  refine .inl ?_
  have n7 := hN2.cell 7
  have f7 := hN2.frozen 7
  refine o_store_bytes m1.sl n7 f7 rfl rfl rfl ?_
  have hN3 := hN2.setCell 7 v1
  have hS := hS.put (Nat.le_refl _) HLT.out 7 v1
  have q1 := m1.setCell hN2 7 v1
  have q2 := m2.setCell hN2 7 v1
  refine ⟨hS, ?_⟩
  try simp only [Act.put, List.setIfInBounds_toArray, List.set_cons_zero, List.set_cons_succ]
  refine take_d (i := 12) (d := some 20) (v := ?_) rfl rfl (by kernel_rfl) (by kernel_rfl) (by kernel_rfl) (fun _ _ _ h => h) (.inl ⟨by rfl, ?_⟩) hS ?_
  rotate_left
  · intro W hW
    go_simp
    try with_reducible rfl
  try simp only [Act.put, List.setIfInBounds_toArray, List.set_cons_zero, List.set_cons_succ]
  refine wpAnyH_all (rs := [13]) (by kernel_rfl) (by simp) (fun i hi => ?_)
  simp only [List.mem_cons, List.not_mem_nil, or_false] at hi
  subst hi
  refine .inl ?_
  have n9 := hN3.cell 9
  have f9 := hN3.frozen 9
  refine o_store_bytes q2.sl n9 f9 rfl rfl rfl ?_
  have hN4 := hN3.setCell 9 v2
  have hS := hS.put (Nat.le_refl _) HLT.out 9 v2
  have q1 := q1.setCell hN3 9 v2
  have q2 := q2.setCell hN3 9 v2
  refine ⟨hS, ?_⟩
  try simp only [Act.put, List.setIfInBounds_toArray, List.set_cons_zero, List.set_cons_succ]
  refine wpAnyH_done (by kernel_rfl) ?_ _
  go_wp2
  go_ret
  have hsz := ((Below.refl w.heap.size w).alloc (Nat.le_refl _) (.cells (pcL l wv tv) 71)).drew.size
  have hs1 := b1.size
  refine ⟨_, _, rfl, ⟨v1, v2, rfl, ?_, q1, q2, ?_⟩, ?_, hS.below⟩
  · refine Eq.trans hN4 ?_
    simp [pcL]
  · intro k e1 e2
    have := r1 k e1
    have := r2 k e2
    have := hL1 k e1
    omega
  · rintro k (rfl | e | e)
    · exact Nat.le_refl _
    · have := r1 k e; omega
    · have := r2 k e; omega

/-! ### which are the same -/
def Ls.same (a b : Ls) : Bool := decide (a.al = b.al) && (decide (a.ms = b.ms) && ((a.d == b.d && a.n == b.n) && (decide (a.ps.length = b.ps.length) && (decide (a.wt = b.wt) && decide (a.td = b.td)))))
theorem Ls.same_self (a : Ls) : a.same a = true := by simp [Ls.same]
theorem Ls.same_comm (a b : Ls) : a.same b = b.same a := by
  unfold Ls.same
  rw [show decide (a.al = b.al) = decide (b.al = a.al) by simp [eq_comm], show decide (a.ms = b.ms) = decide (b.ms = a.ms) by simp [eq_comm], show (a.d == b.d) = (b.d == a.d) by cases a.d <;> cases b.d <;> rfl, show (a.n == b.n) = (b.n == a.n) by cases a.n <;> cases b.n <;> rfl,
    show decide (a.ps.length = b.ps.length) = decide (b.ps.length = a.ps.length) by simp [eq_comm], show decide (a.wt = b.wt) = decide (b.wt = a.wt) by simp [eq_comm], show decide (a.td = b.td) = decide (b.td = a.td) by simp [eq_comm]]
theorem eqB4 (d n d' n' : Bool) (w : World) : (Op.equalIn 10000 27 (.agg #[.bool false, .bool false, .bool d, .bool n]) (.agg #[.bool false, .bool false, .bool d', .bool n'])).run Try.prog w = .ok (d == d' && n == n') w := by
  cases d <;> cases n <;> cases d' <;> cases n' <;> kernel_rfl
theorem Same_nils (w : World) : Calls Try.prog 22 #[.pointer none, .pointer none] w fun e w' => e = .returned (.bool true) ∧ w = w' := by
  go_enter Try.func22, Try.ntmps22
  go_wp2_with (go_at_call 45; refine (none_nil _).mono ?_; rintro e w' ⟨rfl, rfl⟩)
  go_ret
  exact ⟨rfl, rfl⟩
theorem Same_left {w : World} {S : Nat} {l : Ls} {F : Nat → Prop} (h : At w S l F) : Calls Try.prog 22 #[.pointer none, .pointer (some ⟨S, 0, none⟩)] w fun e w' => e = .returned (.bool false) ∧ w = w' := by
  obtain ⟨wv, tv, rfl, h⟩ := h
  obtain ⟨c0, _⟩ := h.cells
  have HN := Lib.hid (none_at c0)
  clear h c0
  go_enter Try.func22, Try.ntmps22
  go_wp2_with (first | (go_at_call 45; (with_reducible refine (none_nil _).mono ?_); rintro e w' ⟨rfl, rfl⟩) | (go_at_call 45; refine HN.out.mono ?_; rintro e w' ⟨rfl, rfl⟩))
  go_ret
  exact ⟨rfl, rfl⟩
theorem Same_right {w : World} {S : Nat} {l : Ls} {F : Nat → Prop} (h : At w S l F) : Calls Try.prog 22 #[.pointer (some ⟨S, 0, none⟩), .pointer none] w fun e w' => e = .returned (.bool false) ∧ w = w' := by
  obtain ⟨wv, tv, rfl, h⟩ := h
  obtain ⟨c0, _⟩ := h.cells
  have HN := Lib.hid (none_at c0)
  clear h c0
  go_enter Try.func22, Try.ntmps22
  go_wp2_with (first | (go_at_call 45; (with_reducible refine (none_nil _).mono ?_); rintro e w' ⟨rfl, rfl⟩) | (go_at_call 45; refine HN.out.mono ?_; rintro e w' ⟨rfl, rfl⟩))
  go_ret
  exact ⟨rfl, rfl⟩
end Go.Proofs.Ytmnkggnghflcpaa
