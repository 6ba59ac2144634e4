/-
  Layer 3: the walk of ShadowAlls.
-/
import Derived.Test.YtepmndadbikijaaCopies
import Derived.Test.YtepmndadbikijaaAll2
namespace Go.Proofs.Ytepmndadbikijaa
open Go.RowKit Go.Shelf
set_option maxHeartbeats 1000000
set_option linter.unusedSimpArgs false
set_option linter.unusedVariables false
attribute [local go_sem] Oper.semAt_some

theorem Sh.norec {w : World} {S P : Nat} {l : List Int} {F : Nat → Prop} (h : Sh w S P l F) {k : Nat} (hk : F k) {o : Obj} (hd : w.heap[k]? = some o) (hr : isRec o = true) : False := by
  obtain ⟨mb, G, D, rfl, h⟩ := h
  rcases hk with rfl | rfl | ⟨p, hp, rfl⟩
  · rw [h.blk] at hd; cases hd; cases hr
  · obtain ⟨es, c, hb⟩ := h.mapBlk; rw [hb] at hd; cases hd; cases hr
  · rw [h.page p hp] at hd; cases hd; cases hr
theorem els_below {l : List Int} {n : Nat} {pre rest : List Nat} {y : Nat} (h : els l n = pre ++ y :: rest) : ∀ x ∈ pre, x < y := by
  have h1 : (els l n).Pairwise (· < ·) := List.Pairwise.filter _ List.pairwise_lt_range
  rw [h, List.pairwise_append] at h1
  exact fun x hx => h1.2.2 x hx y (by simp)
theorem els_len (l : List Int) (n : Nat) : (els l n).length ≤ n := Nat.le_trans (List.length_filter_le _ _) (by simp)
/-- The variables of the first loop. -/
structure Al (W1 : World) (v : Value) (q n : Int) (W : World) : Prop where
  lb : W.heap[W1.heap.size]? = some (.cells #[v] 42 (0, 0))
  la : W.heap[W1.heap.size + 1]? = some (.cells #[.int .i64 q] 3 (0, 0))
  nb : W.heap[W1.heap.size + 1 + 1]? = some (.cells #[.int .i64 n] 3 (0, 0))
  below : Below W1.heap.size W1 W
section
variable {W1 W W' : World} {v : Value} {q n : Int}
theorem Al.after (h : Al W1 v q n W) (hb : Below W.heap.size W W') : Al W1 v q n W' := by
  have up : ∀ {k : Nat} {o : Obj}, W.heap[k]? = some o → W'.heap[k]? = some o := fun {k o} e => (hb.block _ (Array.getElem?_eq_some_iff.1 e).1).trans e
  exact ⟨up h.lb, up h.la, up h.nb, h.below.trans (hb.mono h.below.size)⟩
theorem Al.step (h : Al W1 v q n W) (x m : Int) : Al W1 v x m ((W.setCell ⟨W1.heap.size + 1, 0, none⟩ (.int .i64 x)).setCell ⟨W1.heap.size + 1 + 1, 0, none⟩ (.int .i64 m)) := by
  have e1 := boxed_set h.la (.int .i64 x)
  have e2 : (W.setCell ⟨W1.heap.size + 1, 0, none⟩ (.int .i64 x)).heap[W1.heap.size + 1 + 1]? = some (.cells #[.int .i64 n] 3 (0, 0)) := (Below.heap_setCell _ _ _ _ (show W1.heap.size + 1 + 1 ≠ W1.heap.size + 1 by omega)).trans h.nb
  have e3 : (W.setCell ⟨W1.heap.size + 1, 0, none⟩ (.int .i64 x)).heap[W1.heap.size]? = some (.cells #[v] 42 (0, 0)) := (Below.heap_setCell _ _ _ _ (show W1.heap.size ≠ W1.heap.size + 1 by omega)).trans h.lb
  exact ⟨(Below.heap_setCell _ _ _ _ (show W1.heap.size ≠ W1.heap.size + 1 + 1 by omega)).trans e3, (Below.heap_setCell _ _ _ _ (show W1.heap.size + 1 ≠ W1.heap.size + 1 + 1 by omega)).trans e1, boxed_set e2 _,
    (h.below.setCell (p := ⟨W1.heap.size + 1, 0, none⟩) (by simp) _).setCell (p := ⟨W1.heap.size + 1 + 1, 0, none⟩) (by simp; omega) _⟩
theorem al_start (W1 : World) (v : Value) : Al W1 v (-1) 0 (((W1.alloc (.cells #[v] 42)).alloc (.cells #[.int .i64 (-1)] 3)).alloc (.cells #[.int .i64 0] 3)) := by
  have e0 := heap_alloc_new W1 (.cells #[v] 42)
  have e1 := heap_alloc_new (W1.alloc (.cells #[v] 42)) (.cells #[.int .i64 (-1)] 3)
  have e2 := heap_alloc_new ((W1.alloc (.cells #[v] 42)).alloc (.cells #[.int .i64 (-1)] 3)) (.cells #[.int .i64 0] 3)
  simp only [World.size_alloc] at e1 e2
  refine ⟨?_, ?_, e2, (((Below.refl _ _).alloc (Nat.le_refl _) _).alloc (by simp) _).alloc (by simp; omega) _⟩
  · rw [Below.heap_alloc _ _ _ (by simp; omega), Below.heap_alloc _ _ _ (by simp)]; exact e0
  · rw [Below.heap_alloc _ _ _ (by simp)]; exact e1
theorem al_own {β : Type} (f : β → Int → Int → Prop) {B : Nat} (hB : W1.heap.size + 1 + 1 < B) : OwnFrom B (fun (s : β) W => ∃ q n, f s q n ∧ Al W1 v q n W) := by
  rintro s W W' row ⟨q, n, hf, h⟩ hg hr
  have up : ∀ {k : Nat} {o : Obj}, k < B → W.heap[k]? = some o → W'.heap[k]? = some o := fun {k o} hk e => (hg.block _ (Array.getElem?_eq_some_iff.1 e).1 (fun e' => by have := (hr _ e'.symm).1; omega)).trans e
  exact ⟨q, n, hf, up (by omega) h.lb, up (by omega) h.la, up hB h.nb, h.below.grown hg h.below.size (fun k e => by have := (hr k e).1; omega)⟩
end
theorem soFar_fill {P : Nat} {l lc : List Int} {pre : List Nat} (hs : SoFar P l lc pre) (hb : Bytes P lc) {x : Nat} (hx : x < 64 * P) (hv : at0 l x < 65536) : SoFar P l (fillR P lc (x : Int) 1 (at0 l x)) (pre ++ [x]) := by
  have hi : insB P (x : Int) 1 = true := by rw [insB_one]; simp [hx]
  have hr : refR P (x : Int) 1 (at0 l x) = 0 := by unfold refR; rw [if_neg (by omega), if_pos hi]
  intro j hj
  unfold fillR
  rw [if_pos hr]
  have := at_fill lc x (at0 l x) j 1 (by rw [hb.len]; omega)
  simp only [Int.toNat_natCast, show Int.toNat 1 = 1 from rfl]
  rw [this]
  by_cases e : j = x
  · subst e; simp
  · rw [if_neg (by omega), hs j hj]; simp [e]
/-- The copy that is filled from All. -/
structure Fil (W5 : World) (C P cb : Nat) (l : List Int) (pre : List Nat) (N : Nat → Prop) (W : World) : Prop where
  ex : ∃ lc, Sh W C P lc N ∧ SoFar P l lc pre
  far : ∀ k, N k → W5.heap.size ≤ k ∧ k ≠ cb
  bx : W.heap[cb]? = some (.cells #[.pointer (some ⟨C, 0, none⟩)] 22 (0, 0))
  below : Below W5.heap.size W5 W
theorem fil_own (W5 : World) (C P cb : Nat) (l : List Int) (N : Nat → Prop) {B : Nat} (hB : cb < B) (hB5 : W5.heap.size ≤ B) : OwnL B (fun pre W => Fil W5 C P cb l pre N W) := fun pre W W' row hs hg hr => by
  obtain ⟨⟨lc, h1, h2⟩, h3, h4, h5⟩ := hs
  refine ⟨⟨lc, h1.kept' fun k hk => hg.block k (h1.lt k hk) (fun e => ?_), h2⟩, h3, (hg.block _ (Array.getElem?_eq_some_iff.1 h4).1 (fun e => by have := (hr _ e.symm).1; omega)).trans h4, h5.grown hg h5.size (fun k e => by have := (hr k e).1; omega)⟩
  obtain ⟨_, o, ho, hk'⟩ := hr k e.symm
  exact h1.norec hk ho hk'
theorem four_after {w W W' : World} {D0 D1 : Nat} (h : W.heap[w.heap.size + 1]? = some (.cells #[.bool false] 4 (0, 0)) ∧ W.heap[D0]? = some (.deferred (some [])) ∧ W.heap[D1]? = some (.deferred (some [])) ∧ Below w.heap.size w W) (hb : Below W.heap.size W W') :
    W'.heap[w.heap.size + 1]? = some (.cells #[.bool false] 4 (0, 0)) ∧ W'.heap[D0]? = some (.deferred (some [])) ∧ W'.heap[D1]? = some (.deferred (some [])) ∧ Below w.heap.size w W' := by
  have up : ∀ {k : Nat} {o : Obj}, W.heap[k]? = some o → W'.heap[k]? = some o := fun {k o} e => (hb.block _ (Array.getElem?_eq_some_iff.1 e).1).trans e
  exact ⟨up h.1, up h.2.1, up h.2.2.1, h.2.2.2.trans (hb.mono h.2.2.2.size)⟩
theorem alls_fin {w W : World} {D0 D1 : Nat} (hr : W.heap[w.heap.size + 1]? = some (.cells #[.bool false] 4 (0, 0))) (h0 : W.heap[D0]? = some (.deferred (some []))) (h1 : W.heap[D1]? = some (.deferred (some []))) (n0 : w.heap.size + 1 < D0) (n1 : w.heap.size + 1 < D1) (n01 : D0 ≠ D1) (hb : Below w.heap.size w W) :
    (W.setCell ⟨w.heap.size + 1, 0, none⟩ (.bool true)).heap[D1]? = some (.deferred (some [])) ∧
    ((W.setCell ⟨w.heap.size + 1, 0, none⟩ (.bool true)).putObj D1 (.deferred none)).heap[D0]? = some (.deferred (some [])) ∧
    (((W.setCell ⟨w.heap.size + 1, 0, none⟩ (.bool true)).putObj D1 (.deferred none)).putObj D0 (.deferred none)).cell? ⟨w.heap.size + 1, 0, none⟩ = some (.bool true) ∧
    Below w.heap.size w (((W.setCell ⟨w.heap.size + 1, 0, none⟩ (.bool true)).putObj D1 (.deferred none)).putObj D0 (.deferred none)) := by
  have q1 := boxed_set hr (.bool true)
  have e1 : (W.setCell ⟨w.heap.size + 1, 0, none⟩ (.bool true)).heap[D1]? = some (.deferred (some [])) := (Below.heap_setCell _ _ _ _ (show D1 ≠ w.heap.size + 1 by omega)).trans h1
  have e0 : (W.setCell ⟨w.heap.size + 1, 0, none⟩ (.bool true)).heap[D0]? = some (.deferred (some [])) := (Below.heap_setCell _ _ _ _ (show D0 ≠ w.heap.size + 1 by omega)).trans h0
  have e0' : ((W.setCell ⟨w.heap.size + 1, 0, none⟩ (.bool true)).putObj D1 (.deferred none)).heap[D0]? = some (.deferred (some [])) := (World.putObj_heap_other n01).trans e0
  refine ⟨e1, e0', ?_, ?_⟩
  · rw [cell_putObj (show w.heap.size + 1 ≠ D0 by omega), cell_putObj (show w.heap.size + 1 ≠ D1 by omega)]; exact (boxed_cell q1).1
  · exact ((hb.setCell (p := ⟨w.heap.size + 1, 0, none⟩) (by simp) _).trans (belowK_b (w := w) (Nat.le_refl _) _ D1 _ _ (by omega) e1 rfl rfl)).trans (belowK_b (w := w) (Nat.le_refl _) _ D0 _ _ (by omega) e0' rfl rfl)
set_option maxRecDepth 100000 in
set_option maxHeartbeats 40000000 in
theorem ShadowAlls_walk (a : Int) (_ha : (Lit.int .i64 a).wf = true) (v : Value) (xs : List Step4) (many : Int) (_hm : (Lit.int .i64 many).wf = true) (w : World) (hin : StepsIn w v xs) :
    Calls Try.prog 9 #[.int .i64 a, v, .int .i64 many] w fun e w' => e = .returned (.bool true) ∧ Below w.heap.size w w' := by
  have hfn := fun_nil
  have HIN := Lib.hid hin
  obtain ⟨o, cap, rfl, hcap, hlen, _⟩ := hin.form
  clear hin
  by_cases hbad : a < 1 ∨ 32 < a ∨ 40 < (xs.length : Int)
  · refine (callsIn_wide (n := 5)).1 ?_
    refine callsIn_of_wp_marks Try.func9 rfl trivial ?_ rfl
    refine wpIn_wide.2 ?_
    simp only [Try.ntmps9, List.size_toArray, List.length_cons, List.length_nil, Nat.reduceAdd, Nat.reduceSub, Array.replicate_succ, Array.replicate_zero, List.push_toArray, List.append_toArray, List.nil_append, List.cons_append]
    have e1 := heap_alloc_new (w.alloc (.cells #[.int .i64 many] 3)) (.cells #[.bool false] 4)
    rw [World.size_alloc] at e1
    have hb0 : Below w.heap.size w ((w.alloc (.cells #[.int .i64 many] 3)).alloc (.cells #[.bool false] 4)) := ((Below.refl _ _).alloc (Nat.le_refl _) _).alloc (by simp) _
    have hz0 := hb0.size
    simp at hz0
    have E1 := Lib.hid e1
    have HB0 := Lib.hid hb0
    clear e1 hb0 HIN
    have hor : a < 1 ∨ (¬ a < 1 ∧ 32 < a) ∨ (¬ a < 1 ∧ ¬ 32 < a ∧ 40 < (xs.length : Int)) := by omega
    clear hbad
    rcases hor with q1 | ⟨q1, q2⟩ | ⟨q1, q2, q3⟩
    all_goals
      go_wp2_with (go_at_call 23; refine (works_any _).mono ?_; rintro e W1 ⟨rfl, hb⟩; have E2 := Lib.hid ((hb.block _ (by simp)).trans E1.out); have HB2 := Lib.hid (HB0.out.trans (hb.mono HB0.out.size)); clear hb; obtain ⟨cb, fb⟩ := boxed_cell E2.out)
      have hc := (boxed_cell (boxed_set E2.out (.bool true))).1
      refine ⟨.bool true, by simp [results, Try.results9, go_sem, hc], rfl, ?_⟩
      exact HB2.out.setCell (p := ⟨w.heap.size + 1, 0, none⟩) (by simp) _
  · obtain ⟨P, rfl⟩ := Int.eq_ofNat_of_zero_le (show 0 ≤ a by omega)
    have h1 : ¬ (P : Int) < 1 := by omega
    have h2 : ¬ 32 < (P : Int) := by omega
    have h3 : ¬ 40 < (xs.length : Int) := by omega
    clear hbad
    refine (callsIn_wide (n := 5)).1 ?_
    refine callsIn_of_wp_marks Try.func9 rfl trivial ?_ rfl
    refine wpIn_wide.2 ?_
    simp only [Try.ntmps9, List.size_toArray, List.length_cons, List.length_nil, Nat.reduceAdd, Nat.reduceSub, Array.replicate_succ, Array.replicate_zero, List.push_toArray, List.append_toArray, List.nil_append, List.cons_append]
    go_wp2_with fail
    refine (played_any P (by omega) (by omega) _ _ xs (HIN.out.after (((Below.refl _ _).alloc (Nat.le_refl _) _).alloc (by simp) _))).mono ?_; rintro e W1 ⟨S, g, c, rfl, hB⟩
    generalize plays P xs = l at *
    have HB := Lib.hid hB
    have e1 := heap_alloc_new (w.alloc (.cells #[.int .i64 many] 3)) (.cells #[.bool false] 4)
    rw [World.size_alloc] at e1
    have e0 := (Below.heap_alloc (w.alloc (.cells #[.int .i64 many] 3)) (.cells #[.bool false] 4) w.heap.size (by simp)).trans (heap_alloc_new w (.cells #[.int .i64 many] 3))
    have hw := hB.w
    have hbA : Below w.heap.size w ((w.alloc (.cells #[.int .i64 many] 3)).alloc (.cells #[.bool false] 4)) := ((Below.refl _ _).alloc (Nat.le_refl _) _).alloc (by simp) _
    have HW : Hid (Below w.heap.size w W1) := hbA.trans (hw.mono hbA.size)
    have HMB : Hid (W1.heap[w.heap.size]? = some (.cells #[.int .i64 many] 3 (0, 0))) := (hw.block _ (by simp; omega)).trans e0
    have HRS : Hid (W1.heap[w.heap.size + 1]? = some (.cells #[.bool false] 4 (0, 0))) := (hw.block _ (by simp)).trans e1
    have hz1 : w.heap.size + 2 ≤ W1.heap.size := by have := hw.size; simpa using this
    have hll := hB.bytes.len
    have HALL : Hid (∀ W, Below W1.heap.size W1 W → Calls Try.prog 14 #[.pointer (some ⟨S, 0, none⟩)] W fun e w' => ∃ v, e = .returned v ∧ AllPost W P l v w') := fun W hW => by obtain ⟨F, h, _⟩ := HB.out; exact All_any (h.below hW)
    clear hB e1 e0 hw hbA HIN
    go_wp2_with fail
    have HA0 := Lib.hid (al_start W1 (.slice (some ⟨g, 0, none⟩) (64 * P) c))
    refine (HALL.out _ HA0.out.below).mono ?_; rintro e W3 ⟨v, rfl, b1, S1, F1, rfl, _, _, _, _, hb1⟩
    have HA3 := Lib.hid (HA0.out.after hb1)
    clear hb1 HA0
    go_wp2_with fail
    refine (HALL.out _ HA3.out.below).mono ?_; rintro e W4 ⟨v, rfl, b2, S2, F2, rfl, k1, k2, k3, k4, hb2⟩
    have hA4 := HA3.out.after hb2
    have hz3 := (Array.getElem?_eq_some_iff.1 HA3.out.nb).1
    have hz4 := hb2.size
    go_wp2_with fail
    refine (wpIn_wide (n := 5)).1 (wp_over_b (id := 0) (gf := 37) (lb := #[.pointer (some ⟨b2, 0, none⟩)]) rfl (enters_of Try.func37 (by kernel_rfl) rfl)
      (All1_gives k2 b2 k1 (fun k => k = W1.heap.size + 1 ∨ k = W1.heap.size + 1 + 1) (by rintro k (rfl | rfl) <;> omega) (by rintro k hk (rfl | rfl) <;> (have := k3 _ hk; omega)))
      (by rintro k (rfl | rfl) <;> omega) (fun _ => rfl)
      (fun (pre : List Nat) W => ∃ q n : Int, ((∀ (y : Nat) (rest : List Nat), els l (64 * P) = pre ++ y :: rest → q < (y : Int)) ∧ n = (pre.length : Int)) ∧ Al W1 (.slice (some ⟨g, 0, none⟩) (64 * P) c) q n W)
      (fun cc (pre : List Nat) W => ∃ q n : Int, cc = .exit 0 ∧ Al W1 (.slice (some ⟨g, 0, none⟩) (64 * P) c) q n W)
      (al_own (fun (pre : List Nat) q n => (∀ (y : Nat) (rest : List Nat), els l (64 * P) = pre ++ y :: rest → q < (y : Int)) ∧ n = (pre.length : Int)) (by omega)) (fun cc => al_own (fun (pre : List Nat) q n => cc = .exit 0) (by omega)) ⟨-1, 0, ⟨fun y rest _ => by omega, rfl⟩, hA4⟩
      (fun t x => (((t.setIfInBounds 42 (.int .i64 (x : Int))).setIfInBounds 43 (.int .u32 (at0 l x))).setIfInBounds 12 (.int .i64 (x : Int))).setIfInBounds 13 (.int .u32 (at0 l x)))
      ?assign ?body (fun _ _ h => h) (fun cc pre W h => by obtain ⟨_, _, h, _⟩ := h; exact h) ?rest)
    case assign =>
      intro ll mm x W5 K hK
      gi_wp2
      simp only [List.setIfInBounds_toArray, List.set_cons_zero, List.set_cons_succ] at hK
      exact hK
    case body =>
      rintro ll mm pre x rest W hf ⟨q, n, ⟨hq, rfl⟩, hAl⟩
      obtain ⟨hx64, hxz⟩ := mem_els.1 (mem_mid hf)
      simp only [List.setIfInBounds_toArray, List.set_cons_zero, List.set_cons_succ]
      have hqx : ¬ (x : Int) ≤ q := by have := hq x rest hf; omega
      have h0x : (0 : Int) ≤ (x : Int) := by omega
      have hxl : (x : Int) < 64 * (P : Int) := by omega
      have hzz : ¬ at0 l x = 0 := by simpa [nz] using hxz
      have hzb : (at0 l x == 0) = false := by simpa using hzz
      have hnn : (pre.length : Int) + 1 ≤ 2048 := by
        have h1 := els_len l (64 * P)
        have h2 := congrArg List.length hf
        simp at h2
        omega
      have hR : Rw W g c l := by obtain ⟨_, _, _, _, h, _⟩ := HB.out; exact h.below hAl.below
      have cg := hR.cells (k := x) (by omega)
      have cm := (boxed_cell ((hAl.below.block _ (Array.getElem?_eq_some_iff.1 HMB.out).1).trans HMB.out)).1
      obtain ⟨c1, _⟩ := boxed_cell hAl.lb
      obtain ⟨c2, f2⟩ := boxed_cell hAl.la
      obtain ⟨c3, f3⟩ := boxed_cell hAl.nb
      have HNX : Hid (∀ (y : Nat) (r : List Nat), els l (64 * P) = (pre ++ [x]) ++ y :: r → (x : Int) < (y : Int)) := fun y r h => by have := els_below h x (by simp); omega
      have HAl := Lib.hid hAl
      clear hAl hR hq hf k1 k2 k3 k4 hb2 hA4 HA3 HALL hfn hll
      by_cases hmn : many ≤ (pre.length : Int) + 1
      · gi_wp2
        exact ⟨(KeptBut.cell _ (p := ⟨W1.heap.size + 1, 0, none⟩) _ (.inl rfl)).trans (KeptBut.cell _ (p := ⟨W1.heap.size + 1 + 1, 0, none⟩) _ (.inr rfl)), rfl, _, _, HAl.out.step _ _⟩
      · gi_wp2
        refine ⟨(KeptBut.cell _ (p := ⟨W1.heap.size + 1, 0, none⟩) _ (.inl rfl)).trans (KeptBut.cell _ (p := ⟨W1.heap.size + 1 + 1, 0, none⟩) _ (.inr rfl)), _, _, ⟨HNX.out, ?_⟩, HAl.out.step _ _⟩
        first | (simp; done) | go_num
    rintro D0 W5 hD0 hends hK
    have hends' : ∃ q n, Al W1 (.slice (some ⟨g, 0, none⟩) (64 * P) c) q n W5 := by
      rcases hends with ⟨q, n, _, h⟩ | ⟨cc, pre, rest, _, q, n, _, h⟩
      · exact ⟨q, n, h⟩
      · exact ⟨q, n, h⟩
    obtain ⟨q, n, hAl⟩ := hends'
    have HA5 := Lib.hid hAl
    have HK := Lib.hid hK
    have hz15 := hAl.below.size
    clear hends hAl hK k1 k2 k3 k4 hb2 hA4 HA3
    go_wp2_with fail
    refine (New_any P (by omega) (by omega) _).mono ?_; rintro e W6 ⟨Fc, rfl, hC, hCn, hb6⟩
    generalize W5.heap.size + 1 = C at *
    have hz6 := hb6.size
    have hW17 : Below W1.heap.size W1 (W6.alloc (.cells #[.pointer (some ⟨C, 0, none⟩)] 22)) := (HA5.out.below.trans (hb6.mono HA5.out.below.size)).alloc (by omega) _
    go_wp2_with fail
    refine (HALL.out _ hW17).mono ?_; rintro e W8 ⟨v, rfl, b3, S3, F3, rfl, k1, k2, k3, k4, hb3⟩
    have hz8 := hb3.size
    have hCx : W8.heap[W6.heap.size]? = some (.cells #[.pointer (some ⟨C, 0, none⟩)] 22 (0, 0)) := (hb3.block _ (by simp)).trans (heap_alloc_new _ _)
    have hC8 : Sh W8 C P (List.replicate (64 * P) 0) Fc := (hC.alloc _).below hb3
    have hClt := hC.lt
    have hb58 : Below W5.heap.size W5 W8 := (hb6.alloc hb6.size _).trans (hb3.mono (by simp; omega))
    simp only [World.size_alloc] at hz8 k3 k4
    have hn0 : w.heap.size + 1 < D0 := by omega
    go_wp2_with fail
    refine (wpIn_wide (n := 5)).1 (wp_over2 (gf := 37) (lb := #[.pointer (some ⟨b3, 0, none⟩)]) rfl (enters_of Try.func37 (by kernel_rfl) rfl)
      (All1_gives2 k2 b3 k1) (fun _ => rfl)
      (fun pre N W => Fil W5 C P W6.heap.size l pre N W) (fun _ _ _ _ => False)
      (fun N => fil_own W5 C P W6.heap.size l N (by omega) (by omega)) (fun _ _ _ _ _ _ hs _ _ => hs)
      (fun pre N A hs k hk => by obtain ⟨lc, h, _⟩ := hs.ex; exact h.lt k hk)
      Fc (fun k hk => ⟨by have := hClt k hk; omega, fun hf => by have := hClt k hk; have := k3 k hf; omega⟩)
      ⟨⟨_, hC8, fun j hj => by simp [at0, hj]⟩, fun k hk => ⟨hCn k hk, by have := hClt k hk; omega⟩, hCx, hb58⟩
      (fun t x => (((t.setIfInBounds 78 (.int .i64 (x : Int))).setIfInBounds 79 (.int .u32 (at0 l x))).setIfInBounds 16 (.int .i64 (x : Int))).setIfInBounds 17 (.int .u32 (at0 l x)))
      ?assign2 ?body2 ?done2 ?stop2)
    case assign2 =>
      intro ll mm x W9 K hK
      gi_wp2
      simp only [List.setIfInBounds_toArray, List.set_cons_zero, List.set_cons_succ] at hK
      exact hK
    case body2 =>
      rintro ll mm pre x rest N W hf hFil
      obtain ⟨hx64, hxz⟩ := mem_els.1 (mem_mid hf)
      simp only [List.setIfInBounds_toArray, List.set_cons_zero, List.set_cons_succ]
      obtain ⟨lc, hS, hso⟩ := hFil.ex
      have hbl : Bytes P l := HB.out.bytes
      have hv := hbl.at_ x
      have hv2 : at0 l x < 65536 := hv.2
      have HS := Lib.hid (Set_any hS (x : Int) (at0 l x) (by have := hv.1; unfold W32; omega))
      have HSO := Lib.hid (soFar_fill hso hS.bytes hx64 hv2)
      obtain ⟨cb, _⟩ := boxed_cell hFil.bx
      have hzW := (Array.getElem?_eq_some_iff.1 hFil.bx).1
      have HFil := Lib.hid hFil
      have hzB := hFil.below.size
      clear hFil hS hso hf k1 k2 k3 k4 hb3 hC8 hC hCx hCn hClt hb58 hb6 hW17 HALL hfn
      generalize hfl : fillR P lc (x : Int) 1 (at0 l x) = lc' at *
      clear hfl
      gi_wp2_with (refine ⟨trivial, fun hd => (by cases hd), ?_⟩; gi_at_call 16; refine (callsIn_wide.2 HS.out).mono ?_; rintro e W9 ⟨rfl, hp⟩; have HP := Lib.hid hp; clear hp)
      obtain ⟨N', p1, p2, p3⟩ := HP.out
      exact ⟨⟨p2.size, fun k hk hn => p2.block k hk hn⟩, N', ⟨⟨lc', p1, HSO.out⟩, fun k hk => (p3 k hk).elim (HFil.out.far k) (fun h => ⟨by omega, by omega⟩), p2.keep HFil.out.bx (fun hn => (HFil.out.far _ hn).2 rfl), HFil.out.below.trans (p2.below hzB (fun k hk => (HFil.out.far k hk).1))⟩, p3⟩
    case done2 =>
      rintro D1 N W9 hD1 hFil hK1
      obtain ⟨lc, hS, hso⟩ := hFil.ex
      obtain rfl := hso.all hS.bytes.len hll
      have h0 : W9.heap[D0]? = some (.deferred (some [])) := (hFil.below.block _ (Array.getElem?_eq_some_iff.1 HK.out).1).trans HK.out
      have hD01 := (Array.getElem?_eq_some_iff.1 HK.out).1
      have hb19 : Below W1.heap.size W1 W9 := HA5.out.below.trans (hFil.below.mono HA5.out.below.size)
      have hr : W9.heap[w.heap.size + 1]? = some (.cells #[.bool false] 4 (0, 0)) := (hb19.block _ (by omega)).trans HRS.out
      have HSM : Hid (Calls Try.prog 22 #[.pointer (some ⟨C, 0, none⟩), .pointer (some ⟨S, 0, none⟩)] W9 fun e w' => e = .returned (.bool true) ∧ Below W9.heap.size W9 w') := by
        obtain ⟨F, h, _⟩ := HB.out
        have := Same_any hS (h.below hb19)
        rw [decide_eq_true rfl] at this
        exact this
      have HH : Hid (W9.heap[w.heap.size + 1]? = some (.cells #[.bool false] 4 (0, 0)) ∧ W9.heap[D0]? = some (.deferred (some [])) ∧ W9.heap[D1]? = some (.deferred (some [])) ∧ Below w.heap.size w W9) := ⟨hr, h0, hK1, HW.out.trans (hb19.mono HW.out.size)⟩
      obtain ⟨cb, _⟩ := boxed_cell hFil.bx
      clear hFil hS hso h0 hr hK1 hb19 k1 k2 k3 k4 hb3 hC8 hC hCx hCn hClt hb58 hb6 hW17 HALL hfn
      go_wp2_with (first
        | (go_at_call 15; refine (num_any _ _).mono ?_; rintro e w' ⟨rfl, rfl⟩)
        | (go_at_call 22; refine HSM.out.mono ?_; rintro e W10 ⟨rfl, hb⟩; have HG := Lib.hid (four_after HH.out hb); clear hb)
        | (go_at_call 23; refine (works_any _).mono ?_; rintro e W11 ⟨rfl, hb⟩; have HG2 := Lib.hid (four_after HG.out hb); clear hb; obtain ⟨cr, fr⟩ := boxed_cell HG2.out.1))
      obtain ⟨f1, f2, f3, f4⟩ := alls_fin HG2.out.1 HG2.out.2.1 HG2.out.2.2.1 (by omega) (by omega) (by omega) HG2.out.2.2.2
      refine ⟨by simp, .inl ⟨_, _, rfl, run_takeDeferred f1, ?_⟩⟩
      refine ⟨by simp, .inl ⟨_, _, rfl, run_takeDeferred f2, ?_⟩⟩
      exact ⟨.bool true, by simp [results, Try.results9, go_sem, f3], rfl, f4⟩
    case stop2 =>
      rintro D0 cc pre rest N W1 _ _ hx _
      exact hx.elim
end Go.Proofs.Ytepmndadbikijaa
