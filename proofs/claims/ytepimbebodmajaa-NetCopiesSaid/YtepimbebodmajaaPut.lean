/-
  Layer 9: put, cut of package net: a packet laid behind the others, the first one left out: walks. Written by gen_put.py.
-/
import Derived.Test.YtepimbebodmajaaLeaf
namespace Go.Proofs.Ytepimbebodmajaa
open Go.RowKit
set_option maxHeartbeats 4000000
set_option linter.unusedVariables false
set_option linter.unusedSimpArgs false

theorem cell_below {w w' : World} {q : Addr} {u : Value} (h : w.cell? q = some u) (hb : Below w.heap.size w w') : w'.cell? q = some u := by
  have hl := World.block_lt_of_cell? _ _ h
  unfold World.cell? at h ⊢
  rw [hb.block _ hl]; exact h
/-- A net that stands so behind a call; only its own blocks have turned. -/
def Chg (w : World) (S : Nat) (n : Nt) (F : Nat → Prop) (w' : World) : Prop := ∃ F', At w' S n F' ∧ (∀ k, F' k → F k ∨ w.heap.size ≤ k) ∧ Turned F w w'
theorem At.same {w : World} {S : Nat} {n : Nt} {F : Nat → Prop} (h : At w S n F) : Chg w S n F w := ⟨F, h, fun k hk => .inl hk, Turned.refl _ _⟩
theorem Chg.drew {w w' : World} {S : Nat} {n : Nt} {F : Nat → Prop} (h : Chg w S n F w') : Chg w S n F w'.drew := by
  obtain ⟨F', h1, h2, h3⟩ := h
  exact ⟨F', h1.keep fun _ _ => rfl, h2, h3.drew⟩
/-- A row of one packet. -/
theorem pk_src (w : World) (v : Value) (f : Nat) (hv : v.oneCell' = true) : Src Try.prog 2 57 (.slice (some ⟨w.heap.size, 0, none⟩) 1 1) 1 [v, .int .i64 (f : Int)] (w.alloc (.cells #[v, .int .i64 (f : Int)] 71)) := by
  refine Src.ofSlice _ Try.underlying57 _ 1 1 _ rfl (fun j u hj => ?_) (fun u hu => ?_)
  · rw [add_lit, (blk_new w _ _).cell, Nat.zero_add]
    simpa using hj
  · simp at hu
    rcases hu with rfl | rfl
    · exact hv
    · rfl
section
variable {w W W2 : World} {S : Nat} {n : Nt} {cv sv v1 v2 : Value} {cl sl : List Pk} {p : List Int}
theorem AtIs.ne_S (h : AtIs W S n cv sv cl sl) : (∀ k, psB cv cl k → k ≠ S) ∧ ∀ k, psB sv sl k → k ≠ S := by
  refine ⟨?_, ?_⟩
  · rintro k (e | ⟨q, hq, e⟩)
    · exact h.c.g.ne h.blk (by decide) e
    · exact (h.c.q q hq).2.ne h.blk (by decide) e
  · rintro k (e | ⟨q, hq, e⟩)
    · exact h.s.g.ne h.blk (by decide) e
    · exact (h.s.q q hq).2.ne h.blk (by decide) e
theorem PsIs.ne_row {v : Value} {l : List Pk} (h : PsIs W v l) {g : Nat} {cur : Array Value} (hg : Blk W g cur 71) : ∀ q ∈ l, ∀ k, blkOf q.v = some k → k ≠ g := fun q hq k hk => (h.q q hq).2.ne hg (by decide) hk
/-- A packet was appended to those that came: what holds, and what holds behind the stores. -/
theorem c_step (h : AtIs W S n cv sv cl sl) (hq : Qs W v1 p) (hlo : ∀ k, blkOf v1 = some k → k ≠ S) (hok : n.Ok)
    (hg : Gs 71 2 W2 v2 (cl.length + 1) (pcs cl ++ [v1, .int .i64 (tot n.cm : Int)])) (ht : Turned (fun k => blkOf cv = some k) W W2) (hn : ∀ k, blkOf v2 = some k → blkOf cv = some k ∨ W.heap.size ≤ k) :
    W2.cell? ⟨S, 1, none⟩ = some cv ∧ W2.frozen? ⟨S, 1, none⟩ = false ∧ (W2.setCell ⟨S, 1, none⟩ v2).cell? ⟨S, 2, none⟩ = some (.int .i64 (tot n.cm : Int)) ∧ (W2.setCell ⟨S, 1, none⟩ v2).frozen? ⟨S, 2, none⟩ = false ∧
    ∀ w, AtIs w S n cv sv cl sl → Below w.heap.size w W → (∀ k, blkOf v1 = some k → w.heap.size ≤ k) → Chg w S { n with cm := n.cm ++ [p] } (atF S cv sv cl sl) ((W2.setCell ⟨S, 1, none⟩ v2).setCell ⟨S, 2, none⟩ (.int .i64 ((tot n.cm : Int) + (p.length : Int)))) := by
  have hbk : Blk W2 S (ncL n cv sv) 61 := h.blk.turned ht (fun e => h.ne_S.1 S (.inl e) rfl)
  have hb2 := hbk.setCell 1 v2
  refine ⟨by rw [hbk.cell]; rfl, hbk.frozen 1, by rw [hb2.cell]; rfl, hb2.frozen 2, fun w h0 hb hlow => ?_⟩
  have nS : ∀ k, k ≠ S → ((W2.setCell ⟨S, 1, none⟩ v2).setCell ⟨S, 2, none⟩ (.int .i64 ((tot n.cm : Int) + (p.length : Int)))).heap[k]? = W2.heap[k]? := fun k hk => (Below.heap_setCell _ _ _ _ hk).trans (Below.heap_setCell _ _ _ _ hk)
  have v2S : ∀ k, blkOf v2 = some k → k ≠ S := fun k hk => hg.ne hbk (by decide) hk
  have sne : ∀ k, psB sv sl k → ¬ blkOf cv = some k := by
    rintro k (e | ⟨q, hq, e⟩) e2
    · exact h.ne k e2 e
    · obtain ⟨cur, hc⟩ := h.c.g.in_ e2
      exact h.s.ne_row hc q hq k e rfl
  have hbl : ∀ q : Pk, q ∈ cl ++ [⟨v1, tot n.cm, p⟩] → Qs W q.v q.x := fun q hq' => by
    rcases List.mem_append.1 hq' with e | e
    · exact h.c.q q e
    · simp at e; subst e; exact hq
  have hbn : ∀ q : Pk, q ∈ cl ++ [⟨v1, tot n.cm, p⟩] → ∀ k, blkOf q.v = some k → ¬ blkOf cv = some k ∧ k ≠ S := fun q hq' k hk => by
    refine ⟨fun e2 => ?_, ?_⟩
    · obtain ⟨cur, hc⟩ := h.c.g.in_ e2
      exact (hbl q hq').2.ne hc (by decide) hk rfl
    · exact (hbl q hq').2.ne h.blk (by decide) hk
  have hat : AtIs ((W2.setCell ⟨S, 1, none⟩ v2).setCell ⟨S, 2, none⟩ (.int .i64 ((tot n.cm : Int) + (p.length : Int)))) S { n with cm := n.cm ++ [p] } v2 sv (cl ++ [⟨v1, tot n.cm, p⟩]) sl := by
    refine ⟨?_, ⟨?_, fun q hq' => ?_⟩, (h.s.turned ht sne).keep fun k hk => nS k (h.ne_S.2 k hk), ?_, h.sx, ?_, fun k hk e => ?_⟩
    · have := hb2.setCell 2 (.int .i64 ((tot n.cm : Int) + (p.length : Int)))
      refine Eq.trans this ?_
      simp [ncL, tot_snoc]
    · have : Gs 71 2 W2 v2 (cl ++ [(⟨v1, tot n.cm, p⟩ : Pk)]).length (pcs (cl ++ [⟨v1, tot n.cm, p⟩])) := by
        rw [pcs_append, List.length_append]; exact hg
      exact this.keep fun k hk => nS k (v2S k hk)
    · exact ((hbl q hq').turned ht (fun k hk => (hbn q hq' k hk).1)).keep fun k hk => nS k (hbn q hq' k hk).2
    · rw [List.map_append, h.cx, Nt.wt_push hok]; rfl
    · show Firsts (tot ((n.cm ++ [p]).take n.tk)) _
      rw [List.take_append_of_le_length hok.tk]
      exact h.cf.snoc _ (by rw [h.cx]; exact n.tot_wt)
    · rcases hn k hk with e' | e'
      · exact h.ne k e' e
      · have := h.s.g.lt e; omega
  refine ⟨_, ⟨_, _, _, _, rfl, hat⟩, ?_, ?_⟩
  · rintro k (e | (e | ⟨q, hq', e⟩) | e)
    · exact .inl (.inl e)
    · rcases hn k e with e' | e'
      · exact .inl (.inr (.inl (.inl e')))
      · right; have := hb.size; omega
    · rcases List.mem_append.1 hq' with e' | e'
      · exact .inl (.inr (.inl (.inr ⟨q, e', e⟩)))
      · simp at e'; subst e'; exact .inr (hlow k e)
    · exact .inl (.inr (.inr e))
  · have t1 : Turned (atF S cv sv cl sl) w W := Turned.of_below hb _
    exact ((t1.trans ht (fun x hx => .inl (.inr (.inl (.inl hx))))).setCell (.inl (.inl rfl)) _).setCell (.inl (.inl rfl)) _
theorem s_step (h : AtIs W S n cv sv cl sl) (hq : Qs W v1 p) (hlo : ∀ k, blkOf v1 = some k → k ≠ S) (hok : n.Ok)
    (hg : Gs 71 2 W2 v2 (sl.length + 1) (pcs sl ++ [v1, .int .i64 (tot n.sn : Int)])) (ht : Turned (fun k => blkOf sv = some k) W W2) (hn : ∀ k, blkOf v2 = some k → blkOf sv = some k ∨ W.heap.size ≤ k) :
    W2.cell? ⟨S, 3, none⟩ = some sv ∧ W2.frozen? ⟨S, 3, none⟩ = false ∧ (W2.setCell ⟨S, 3, none⟩ v2).cell? ⟨S, 4, none⟩ = some (.int .i64 (tot n.sn : Int)) ∧ (W2.setCell ⟨S, 3, none⟩ v2).frozen? ⟨S, 4, none⟩ = false ∧
    ∀ w, AtIs w S n cv sv cl sl → Below w.heap.size w W → (∀ k, blkOf v1 = some k → w.heap.size ≤ k) → Chg w S { n with sn := n.sn ++ [p] } (atF S cv sv cl sl) ((W2.setCell ⟨S, 3, none⟩ v2).setCell ⟨S, 4, none⟩ (.int .i64 ((tot n.sn : Int) + (p.length : Int)))) := by
  have hbk : Blk W2 S (ncL n cv sv) 61 := h.blk.turned ht (fun e => h.ne_S.2 S (.inl e) rfl)
  have hb2 := hbk.setCell 3 v2
  refine ⟨by rw [hbk.cell]; rfl, hbk.frozen 3, by rw [hb2.cell]; rfl, hb2.frozen 4, fun w h0 hb hlow => ?_⟩
  have nS : ∀ k, k ≠ S → ((W2.setCell ⟨S, 3, none⟩ v2).setCell ⟨S, 4, none⟩ (.int .i64 ((tot n.sn : Int) + (p.length : Int)))).heap[k]? = W2.heap[k]? := fun k hk => (Below.heap_setCell _ _ _ _ hk).trans (Below.heap_setCell _ _ _ _ hk)
  have v2S : ∀ k, blkOf v2 = some k → k ≠ S := fun k hk => hg.ne hbk (by decide) hk
  have cne : ∀ k, psB cv cl k → ¬ blkOf sv = some k := by
    rintro k (e | ⟨q, hq, e⟩) e2
    · exact h.ne k e e2
    · obtain ⟨cur, hc⟩ := h.s.g.in_ e2
      exact h.c.ne_row hc q hq k e rfl
  have hbl : ∀ q : Pk, q ∈ sl ++ [⟨v1, tot n.sn, p⟩] → Qs W q.v q.x := fun q hq' => by
    rcases List.mem_append.1 hq' with e | e
    · exact h.s.q q e
    · simp at e; subst e; exact hq
  have hbn : ∀ q : Pk, q ∈ sl ++ [⟨v1, tot n.sn, p⟩] → ∀ k, blkOf q.v = some k → ¬ blkOf sv = some k ∧ k ≠ S := fun q hq' k hk => by
    refine ⟨fun e2 => ?_, ?_⟩
    · obtain ⟨cur, hc⟩ := h.s.g.in_ e2
      exact (hbl q hq').2.ne hc (by decide) hk rfl
    · exact (hbl q hq').2.ne h.blk (by decide) hk
  have hat : AtIs ((W2.setCell ⟨S, 3, none⟩ v2).setCell ⟨S, 4, none⟩ (.int .i64 ((tot n.sn : Int) + (p.length : Int)))) S { n with sn := n.sn ++ [p] } cv v2 cl (sl ++ [⟨v1, tot n.sn, p⟩]) := by
    refine ⟨?_, (h.c.turned ht cne).keep fun k hk => nS k (h.ne_S.1 k hk), ⟨?_, fun q hq' => ?_⟩, h.cx, ?_, h.cf, fun k hk e => ?_⟩
    · have := hb2.setCell 4 (.int .i64 ((tot n.sn : Int) + (p.length : Int)))
      refine Eq.trans this ?_
      simp [ncL, tot_snoc]
    · have : Gs 71 2 W2 v2 (sl ++ [(⟨v1, tot n.sn, p⟩ : Pk)]).length (pcs (sl ++ [⟨v1, tot n.sn, p⟩])) := by
        rw [pcs_append, List.length_append]; exact hg
      exact this.keep fun k hk => nS k (v2S k hk)
    · exact ((hbl q hq').turned ht (fun k hk => (hbn q hq' k hk).1)).keep fun k hk => nS k (hbn q hq' k hk).2
    · rw [List.map_append, h.sx]; rfl
    · rcases hn k e with e' | e'
      · exact h.ne k hk e'
      · have := h.c.g.lt hk; omega
  refine ⟨_, ⟨_, _, _, _, rfl, hat⟩, ?_, ?_⟩
  · rintro k (e | e | (e | ⟨q, hq', e⟩))
    · exact .inl (.inl e)
    · exact .inl (.inr (.inl e))
    · rcases hn k e with e' | e'
      · exact .inl (.inr (.inr (.inl e')))
      · right; have := hb.size; omega
    · rcases List.mem_append.1 hq' with e' | e'
      · exact .inl (.inr (.inr (.inr ⟨q, e', e⟩)))
      · simp at e'; subst e'; exact .inr (hlow k e)
  · have t1 : Turned (atF S cv sv cl sl) w W := Turned.of_below hb _
    exact ((t1.trans ht (fun x hx => .inl (.inr (.inr (.inl hx))))).setCell (.inl (.inl rfl)) _).setCell (.inl (.inl rfl)) _
end
set_option maxRecDepth 100000 in
theorem put1_any {w : World} {S : Nat} {n : Nt} {cv sv : Value} {cl sl : List Pk} (h : AtIs w S n cv sv cl sl) (hok : n.Ok) (hb : tot n.cm ≤ 1000000000) (hw : n.wt.length < 256) (pv : Value) (p : List Int) (hp : NumsIn .u8 w pv p) (hp64 : p.length ≤ 64) :
    Calls Try.prog 35 #[.pointer (some ⟨S, 1, none⟩), pv] w fun e w' => e = .returned (.int .i64 (tot n.cm : Int)) ∧ Chg w S { n with cm := n.cm ++ [p] } (atF S cv sv cl sl) w' := by
  obtain ⟨c0, c1, c2, c3, c4⟩ := h.cells
  obtain ⟨ao, c, e, hc, hcm⟩ := h.c.g.shape
  subst e
  have HP := Lib.hid hp
  obtain ⟨po, pc, rfl, hpc, hpm, _⟩ := hp.form
  have HA := Lib.hid h
  have HOK := Lib.hid hok
  have hlen := h.clen
  have hll : cl.length < 100000 := by omega
  have hS0 := h.blk.lt
  unfold maxLen at hpm hcm
  clear h hp hok hpc hc c0 hlen
  go_enter Try.func35, Try.ntmps35
  go_wp2
  have hK0 : Tr w.drew := tr _
  refine wp_region_held_drew (S := Tr) (by kernel_rfl) hK0 (fun _ => ?_)
  have hS := hK0
  refine take_d (i := 0) (d := some 10) (v := ?_) rfl rfl (by kernel_rfl) (by kernel_rfl) (by kernel_rfl) (fun _ _ _ h => h) (.inl ⟨by rfl, ?_⟩) hS ?_
  rotate_left
  · intro W hW
    go_simp
    try with_reducible rfl
  try simp only [Act.put, List.setIfInBounds_toArray, List.set_cons_zero, List.set_cons_succ]
  refine take_d (i := 1) (d := some 11) (v := ?_) rfl rfl (by kernel_rfl) (by kernel_rfl) (by kernel_rfl) (fun _ _ _ h => h) (.inl ⟨by rfl, ?_⟩) hS ?_
  rotate_left
  · intro W hW
    go_simp
    try with_reducible rfl
  try simp only [Act.put, List.setIfInBounds_toArray, List.set_cons_zero, List.set_cons_succ]
  refine take_d (i := 2) (d := some 12) (v := ?_) rfl rfl (by kernel_rfl) (by kernel_rfl) (by kernel_rfl) (fun _ _ _ h => h) (.inl ⟨by rfl, ?_⟩) hS ?_
  rotate_left
  · intro W hW
    go_simp
    try with_reducible rfl
  try simp only [Act.put, List.setIfInBounds_toArray, List.set_cons_zero, List.set_cons_succ]
  refine take_d (i := 3) (d := some 13) (v := ?_) rfl rfl (by kernel_rfl) (by kernel_rfl) (by kernel_rfl) (fun _ _ _ h => h) (.inl ⟨by rfl, ?_⟩) hS ?_
  rotate_left
  · intro W hW
    go_simp
    try with_reducible rfl
  try simp only [Act.put, List.setIfInBounds_toArray, List.set_cons_zero, List.set_cons_succ]
  refine take_d (i := 5) (d := some 15) (v := ?_) rfl rfl (by kernel_rfl) (by kernel_rfl) (by kernel_rfl) (fun _ _ _ h => h) (.inl ⟨by rfl, ?_⟩) hS ?_
  rotate_left
  · intro W hW
    go_simp
    try with_reducible rfl
  try simp only [Act.put, List.setIfInBounds_toArray, List.set_cons_zero, List.set_cons_succ]
  refine take_d (i := 7) (d := some 17) (v := ?_) rfl rfl (by kernel_rfl) (by kernel_rfl) (by kernel_rfl) (fun _ _ _ h => h) (.inl ⟨by rfl, ?_⟩) hS ?_
  rotate_left
  · intro W hW
    go_simp
    try with_reducible rfl
  try simp only [Act.put, List.setIfInBounds_toArray, List.set_cons_zero, List.set_cons_succ]
  refine wpAnyH_all (rs := [4,6]) (by kernel_rfl) (by simp) (fun i hi => ?_)
  simp only [List.mem_cons, List.not_mem_nil, or_false] at hi
  rcases hi with rfl | rfl
  · refine .inl ?_
    refine o_load_Ps (d := some 14) rfl c1 rfl rfl ⟨tr _, ?_⟩
    try simp only [Act.put, List.setIfInBounds_toArray, List.set_cons_zero, List.set_cons_succ]
    refine wpAnyH_all (rs := [6]) (by kernel_rfl) (by simp) (fun i hi => ?_)
    simp only [List.mem_cons, List.not_mem_nil, or_false] at hi
    subst hi
    refine .inl ?_
    go_simp
    refine (anew_any _ p _ (HP.out.below (Below.refl _ _).drew) (by omega)).mono ?_
    rintro e w1 ⟨v1, rfl, hc1⟩
    have hc1 : Cl w v1 p w1 := ⟨hc1.q, hc1.lo, (Below.refl _ _).drew.trans hc1.below⟩
    have HC := Lib.hid hc1
    obtain ⟨ao1, c1', rfl, _⟩ := hc1.q.shape
    have HB1 := Lib.hid (show Below w.heap.size w w1 from hc1.below)
    clear hc1
    refine ⟨tr _, ?_⟩
    try simp only [Act.put, List.setIfInBounds_toArray, List.set_cons_zero, List.set_cons_succ]
    refine take_d (i := 8) (d := some 18) (v := ?_) rfl rfl (by kernel_rfl) (by kernel_rfl) (by kernel_rfl) (fun _ _ _ h => h) (.inl ⟨by rfl, ?_⟩) hS ?_
    rotate_left
    · intro W hW
      go_simp
      try with_reducible rfl
    try simp only [Act.put, List.setIfInBounds_toArray, List.set_cons_zero, List.set_cons_succ]
    refine wpAnyH_all (rs := [9]) (by kernel_rfl) (by simp) (fun i hi => ?_)
    simp only [List.mem_cons, List.not_mem_nil, or_false] at hi
    subst hi
    refine .inl ?_
    refine o_ok (d := some 19) rfl (.slice (some ⟨w1.heap.size, 0, none⟩) 1 1) (w1.alloc (.cells #[.slice ao1 p.length c1', .int .i64 (tot n.cm : Int)] 71)) (by go_simp) ⟨tr _, ?_⟩
    try simp only [Act.put, List.setIfInBounds_toArray, List.set_cons_zero, List.set_cons_succ]
    have hb2 : Below w1.heap.size w1 (w1.alloc (.cells #[.slice ao1 p.length c1', .int .i64 (tot n.cm : Int)] 71)) := (Below.refl _ _).alloc (Nat.le_refl _) _
    have HA1 := Lib.hid ((HA.out.below HB1.out).below hb2)
    have HC1 := Lib.hid (HC.out.q.below hb2)
    have HBr := Lib.hid (HB1.out.trans (hb2.mono HB1.out.size))
    have hzr : w1.heap.size < (w1.alloc (.cells #[.slice ao1 p.length c1', .int .i64 (tot n.cm : Int)] 71)).heap.size := by simp
    have hlo1 := HC.out.lo
    simp only [World.size_alloc] at hzr
    refine wpAnyH_all (rs := [10]) (by kernel_rfl) (by simp) (fun i hi => ?_)
    simp only [List.mem_cons, List.not_mem_nil, or_false] at hi
    subst hi
    refine .inl ?_
    refine o_append_g (d := some 20) _ _ rfl rfl Try.underlying57 infoP rfl (by omega) (by omega) rfl rfl HA1.out.c.g (pk_src w1 (.slice ao1 p.length c1') (tot n.cm) rfl) (by omega) ?_
    intro v2 w2 hg ht hn
    obtain ⟨hcell, hfz, hcell2, hfz2, hend⟩ := c_step HA1.out HC1.out (fun k hk => by have := hlo1 k hk; have := HA.out.lt; omega) HOK.out hg ht hn
    have hend2 := hend w HA.out HBr.out (fun k hk => by have := hlo1 k hk; simpa using this)
    have HE := Lib.hid hend2
    obtain ⟨ao2, c2', rfl, _⟩ := hg.shape
    clear hg ht hn hend hend2 HA1 HC1 HBr
    refine ⟨tr _, ?_⟩
    try simp only [Act.put, List.setIfInBounds_toArray, List.set_cons_zero, List.set_cons_succ]
    refine take_d (i := 11) (d := some 21) (v := ?_) rfl rfl (by kernel_rfl) (by kernel_rfl) (by kernel_rfl) (fun _ _ _ h => h) (.inl ⟨by rfl, ?_⟩) hS ?_
    rotate_left
    · intro W hW
      go_simp
      try with_reducible rfl
    try simp only [Act.put, List.setIfInBounds_toArray, List.set_cons_zero, List.set_cons_succ]
    refine take_d (i := 12) (d := some 22) (v := ?_) rfl rfl (by kernel_rfl) (by kernel_rfl) (by kernel_rfl) (fun _ _ _ h => h) (.inl ⟨by rfl, ?_⟩) hS ?_
    rotate_left
    · intro W hW
      go_simp
      try with_reducible rfl
    try simp only [Act.put, List.setIfInBounds_toArray, List.set_cons_zero, List.set_cons_succ]
    refine wpAnyH_all (rs := [13]) (by kernel_rfl) (by simp) (fun i hi => ?_)
    simp only [List.mem_cons, List.not_mem_nil, or_false] at hi
    subst hi
    refine .inl ?_
    refine o_store_Ps (d := none) rfl hcell hfz rfl rfl rfl ⟨tr _, ?_⟩
    try simp only [Act.put, List.setIfInBounds_toArray, List.set_cons_zero, List.set_cons_succ]
    refine wpAnyH_done (by kernel_rfl) ?_ _
    clear hS HC HB1 hcell hfz HA hzr hb2 hlo1 c1 c2 c3 c4
    go_wp2
    go_ret
    refine ⟨by first | (simp; done) | rfl, ?_⟩
    exact HE.out
  · refine .inl ?_
    go_simp
    refine (anew_any _ p _ (HP.out.below (Below.refl _ _).drew) (by omega)).mono ?_
    rintro e w1 ⟨v1, rfl, hc1⟩
    have hc1 : Cl w v1 p w1 := ⟨hc1.q, hc1.lo, (Below.refl _ _).drew.trans hc1.below⟩
    have HC := Lib.hid hc1
    obtain ⟨ao1, c1', rfl, _⟩ := hc1.q.shape
    have HB1 := Lib.hid (show Below w.heap.size w w1 from hc1.below)
    clear hc1
    refine ⟨tr _, ?_⟩
    try simp only [Act.put, List.setIfInBounds_toArray, List.set_cons_zero, List.set_cons_succ]
    refine take_d (i := 8) (d := some 18) (v := ?_) rfl rfl (by kernel_rfl) (by kernel_rfl) (by kernel_rfl) (fun _ _ _ h => h) (.inl ⟨by rfl, ?_⟩) hS ?_
    rotate_left
    · intro W hW
      go_simp
      try with_reducible rfl
    try simp only [Act.put, List.setIfInBounds_toArray, List.set_cons_zero, List.set_cons_succ]
    refine wpAnyH_all (rs := [4,9]) (by kernel_rfl) (by simp) (fun i hi => ?_)
    simp only [List.mem_cons, List.not_mem_nil, or_false] at hi
    rcases hi with rfl | rfl
    · refine .inl ?_
      have q := cell_below c1 (Below.mono HB1.out (Nat.le_refl _))
      refine o_load_Ps (d := some 14) rfl q rfl rfl ⟨tr _, ?_⟩
      try simp only [Act.put, List.setIfInBounds_toArray, List.set_cons_zero, List.set_cons_succ]
      clear q
      refine wpAnyH_all (rs := [9]) (by kernel_rfl) (by simp) (fun i hi => ?_)
      simp only [List.mem_cons, List.not_mem_nil, or_false] at hi
      subst hi
      refine .inl ?_
      refine o_ok (d := some 19) rfl (.slice (some ⟨w1.heap.size, 0, none⟩) 1 1) (w1.alloc (.cells #[.slice ao1 p.length c1', .int .i64 (tot n.cm : Int)] 71)) (by go_simp) ⟨tr _, ?_⟩
      try simp only [Act.put, List.setIfInBounds_toArray, List.set_cons_zero, List.set_cons_succ]
      have hb2 : Below w1.heap.size w1 (w1.alloc (.cells #[.slice ao1 p.length c1', .int .i64 (tot n.cm : Int)] 71)) := (Below.refl _ _).alloc (Nat.le_refl _) _
      have HA1 := Lib.hid ((HA.out.below HB1.out).below hb2)
      have HC1 := Lib.hid (HC.out.q.below hb2)
      have HBr := Lib.hid (HB1.out.trans (hb2.mono HB1.out.size))
      have hzr : w1.heap.size < (w1.alloc (.cells #[.slice ao1 p.length c1', .int .i64 (tot n.cm : Int)] 71)).heap.size := by simp
      have hlo1 := HC.out.lo
      simp only [World.size_alloc] at hzr
      refine wpAnyH_all (rs := [10]) (by kernel_rfl) (by simp) (fun i hi => ?_)
      simp only [List.mem_cons, List.not_mem_nil, or_false] at hi
      subst hi
      refine .inl ?_
      refine o_append_g (d := some 20) _ _ rfl rfl Try.underlying57 infoP rfl (by omega) (by omega) rfl rfl HA1.out.c.g (pk_src w1 (.slice ao1 p.length c1') (tot n.cm) rfl) (by omega) ?_
      intro v2 w2 hg ht hn
      obtain ⟨hcell, hfz, hcell2, hfz2, hend⟩ := c_step HA1.out HC1.out (fun k hk => by have := hlo1 k hk; have := HA.out.lt; omega) HOK.out hg ht hn
      have hend2 := hend w HA.out HBr.out (fun k hk => by have := hlo1 k hk; simpa using this)
      have HE := Lib.hid hend2
      obtain ⟨ao2, c2', rfl, _⟩ := hg.shape
      clear hg ht hn hend hend2 HA1 HC1 HBr
      refine ⟨tr _, ?_⟩
      try simp only [Act.put, List.setIfInBounds_toArray, List.set_cons_zero, List.set_cons_succ]
      refine take_d (i := 11) (d := some 21) (v := ?_) rfl rfl (by kernel_rfl) (by kernel_rfl) (by kernel_rfl) (fun _ _ _ h => h) (.inl ⟨by rfl, ?_⟩) hS ?_
      rotate_left
      · intro W hW
        go_simp
        try with_reducible rfl
      try simp only [Act.put, List.setIfInBounds_toArray, List.set_cons_zero, List.set_cons_succ]
      refine take_d (i := 12) (d := some 22) (v := ?_) rfl rfl (by kernel_rfl) (by kernel_rfl) (by kernel_rfl) (fun _ _ _ h => h) (.inl ⟨by rfl, ?_⟩) hS ?_
      rotate_left
      · intro W hW
        go_simp
        try with_reducible rfl
      try simp only [Act.put, List.setIfInBounds_toArray, List.set_cons_zero, List.set_cons_succ]
      refine wpAnyH_all (rs := [13]) (by kernel_rfl) (by simp) (fun i hi => ?_)
      simp only [List.mem_cons, List.not_mem_nil, or_false] at hi
      subst hi
      refine .inl ?_
      refine o_store_Ps (d := none) rfl hcell hfz rfl rfl rfl ⟨tr _, ?_⟩
      try simp only [Act.put, List.setIfInBounds_toArray, List.set_cons_zero, List.set_cons_succ]
      refine wpAnyH_done (by kernel_rfl) ?_ _
      clear hS HC HB1 hcell hfz HA hzr hb2 hlo1 c1 c2 c3 c4
      go_wp2
      go_ret
      refine ⟨by first | (simp; done) | rfl, ?_⟩
      exact HE.out
    · refine .inl ?_
      refine o_ok (d := some 19) rfl (.slice (some ⟨w1.heap.size, 0, none⟩) 1 1) (w1.alloc (.cells #[.slice ao1 p.length c1', .int .i64 (tot n.cm : Int)] 71)) (by go_simp) ⟨tr _, ?_⟩
      try simp only [Act.put, List.setIfInBounds_toArray, List.set_cons_zero, List.set_cons_succ]
      refine wpAnyH_all (rs := [4]) (by kernel_rfl) (by simp) (fun i hi => ?_)
      simp only [List.mem_cons, List.not_mem_nil, or_false] at hi
      subst hi
      refine .inl ?_
      have q := cell_below (cell_below c1 (Below.mono HB1.out (Nat.le_refl _))) ((Below.refl w1.heap.size w1).alloc (Nat.le_refl _) (.cells #[.slice ao1 p.length c1', .int .i64 (tot n.cm : Int)] 71))
      refine o_load_Ps (d := some 14) rfl q rfl rfl ⟨tr _, ?_⟩
      try simp only [Act.put, List.setIfInBounds_toArray, List.set_cons_zero, List.set_cons_succ]
      clear q
      have hb2 : Below w1.heap.size w1 (w1.alloc (.cells #[.slice ao1 p.length c1', .int .i64 (tot n.cm : Int)] 71)) := (Below.refl _ _).alloc (Nat.le_refl _) _
      have HA1 := Lib.hid ((HA.out.below HB1.out).below hb2)
      have HC1 := Lib.hid (HC.out.q.below hb2)
      have HBr := Lib.hid (HB1.out.trans (hb2.mono HB1.out.size))
      have hzr : w1.heap.size < (w1.alloc (.cells #[.slice ao1 p.length c1', .int .i64 (tot n.cm : Int)] 71)).heap.size := by simp
      have hlo1 := HC.out.lo
      simp only [World.size_alloc] at hzr
      refine wpAnyH_all (rs := [10]) (by kernel_rfl) (by simp) (fun i hi => ?_)
      simp only [List.mem_cons, List.not_mem_nil, or_false] at hi
      subst hi
      refine .inl ?_
      refine o_append_g (d := some 20) _ _ rfl rfl Try.underlying57 infoP rfl (by omega) (by omega) rfl rfl HA1.out.c.g (pk_src w1 (.slice ao1 p.length c1') (tot n.cm) rfl) (by omega) ?_
      intro v2 w2 hg ht hn
      obtain ⟨hcell, hfz, hcell2, hfz2, hend⟩ := c_step HA1.out HC1.out (fun k hk => by have := hlo1 k hk; have := HA.out.lt; omega) HOK.out hg ht hn
      have hend2 := hend w HA.out HBr.out (fun k hk => by have := hlo1 k hk; simpa using this)
      have HE := Lib.hid hend2
      obtain ⟨ao2, c2', rfl, _⟩ := hg.shape
      clear hg ht hn hend hend2 HA1 HC1 HBr
      refine ⟨tr _, ?_⟩
      try simp only [Act.put, List.setIfInBounds_toArray, List.set_cons_zero, List.set_cons_succ]
      refine take_d (i := 11) (d := some 21) (v := ?_) rfl rfl (by kernel_rfl) (by kernel_rfl) (by kernel_rfl) (fun _ _ _ h => h) (.inl ⟨by rfl, ?_⟩) hS ?_
      rotate_left
      · intro W hW
        go_simp
        try with_reducible rfl
      try simp only [Act.put, List.setIfInBounds_toArray, List.set_cons_zero, List.set_cons_succ]
      refine take_d (i := 12) (d := some 22) (v := ?_) rfl rfl (by kernel_rfl) (by kernel_rfl) (by kernel_rfl) (fun _ _ _ h => h) (.inl ⟨by rfl, ?_⟩) hS ?_
      rotate_left
      · intro W hW
        go_simp
        try with_reducible rfl
      try simp only [Act.put, List.setIfInBounds_toArray, List.set_cons_zero, List.set_cons_succ]
      refine wpAnyH_all (rs := [13]) (by kernel_rfl) (by simp) (fun i hi => ?_)
      simp only [List.mem_cons, List.not_mem_nil, or_false] at hi
      subst hi
      refine .inl ?_
      refine o_store_Ps (d := none) rfl hcell hfz rfl rfl rfl ⟨tr _, ?_⟩
      try simp only [Act.put, List.setIfInBounds_toArray, List.set_cons_zero, List.set_cons_succ]
      refine wpAnyH_done (by kernel_rfl) ?_ _
      clear hS HC HB1 hcell hfz HA hzr hb2 hlo1 c1 c2 c3 c4
      go_wp2
      go_ret
      refine ⟨by first | (simp; done) | rfl, ?_⟩
      exact HE.out
set_option maxRecDepth 100000 in
theorem put3_any {w : World} {S : Nat} {n : Nt} {cv sv : Value} {cl sl : List Pk} (h : AtIs w S n cv sv cl sl) (hok : n.Ok) (hb : tot n.sn ≤ 1000000000) (hw : n.sn.length < 100000) (pv : Value) (p : List Int) (hp : NumsIn .u8 w pv p) (hp64 : p.length ≤ 64) :
    Calls Try.prog 35 #[.pointer (some ⟨S, 3, none⟩), pv] w fun e w' => e = .returned (.int .i64 (tot n.sn : Int)) ∧ Chg w S { n with sn := n.sn ++ [p] } (atF S cv sv cl sl) w' := by
  obtain ⟨c0, c1, c2, c3, c4⟩ := h.cells
  obtain ⟨ao, c, e, hc, hcm⟩ := h.s.g.shape
  subst e
  have HP := Lib.hid hp
  obtain ⟨po, pc, rfl, hpc, hpm, _⟩ := hp.form
  have HA := Lib.hid h
  have HOK := Lib.hid hok
  have hlen := h.slen
  have hll : sl.length < 100000 := by omega
  have hS0 := h.blk.lt
  unfold maxLen at hpm hcm
  clear h hp hok hpc hc c0 hlen
  go_enter Try.func35, Try.ntmps35
  go_wp2
  have hK0 : Tr w.drew := tr _
  refine wp_region_held_drew (S := Tr) (by kernel_rfl) hK0 (fun _ => ?_)
  have hS := hK0
  refine take_d (i := 0) (d := some 10) (v := ?_) rfl rfl (by kernel_rfl) (by kernel_rfl) (by kernel_rfl) (fun _ _ _ h => h) (.inl ⟨by rfl, ?_⟩) hS ?_
  rotate_left
  · intro W hW
    go_simp
    try with_reducible rfl
  try simp only [Act.put, List.setIfInBounds_toArray, List.set_cons_zero, List.set_cons_succ]
  refine take_d (i := 1) (d := some 11) (v := ?_) rfl rfl (by kernel_rfl) (by kernel_rfl) (by kernel_rfl) (fun _ _ _ h => h) (.inl ⟨by rfl, ?_⟩) hS ?_
  rotate_left
  · intro W hW
    go_simp
    try with_reducible rfl
  try simp only [Act.put, List.setIfInBounds_toArray, List.set_cons_zero, List.set_cons_succ]
  refine take_d (i := 2) (d := some 12) (v := ?_) rfl rfl (by kernel_rfl) (by kernel_rfl) (by kernel_rfl) (fun _ _ _ h => h) (.inl ⟨by rfl, ?_⟩) hS ?_
  rotate_left
  · intro W hW
    go_simp
    try with_reducible rfl
  try simp only [Act.put, List.setIfInBounds_toArray, List.set_cons_zero, List.set_cons_succ]
  refine take_d (i := 3) (d := some 13) (v := ?_) rfl rfl (by kernel_rfl) (by kernel_rfl) (by kernel_rfl) (fun _ _ _ h => h) (.inl ⟨by rfl, ?_⟩) hS ?_
  rotate_left
  · intro W hW
    go_simp
    try with_reducible rfl
  try simp only [Act.put, List.setIfInBounds_toArray, List.set_cons_zero, List.set_cons_succ]
  refine take_d (i := 5) (d := some 15) (v := ?_) rfl rfl (by kernel_rfl) (by kernel_rfl) (by kernel_rfl) (fun _ _ _ h => h) (.inl ⟨by rfl, ?_⟩) hS ?_
  rotate_left
  · intro W hW
    go_simp
    try with_reducible rfl
  try simp only [Act.put, List.setIfInBounds_toArray, List.set_cons_zero, List.set_cons_succ]
  refine take_d (i := 7) (d := some 17) (v := ?_) rfl rfl (by kernel_rfl) (by kernel_rfl) (by kernel_rfl) (fun _ _ _ h => h) (.inl ⟨by rfl, ?_⟩) hS ?_
  rotate_left
  · intro W hW
    go_simp
    try with_reducible rfl
  try simp only [Act.put, List.setIfInBounds_toArray, List.set_cons_zero, List.set_cons_succ]
  refine wpAnyH_all (rs := [4,6]) (by kernel_rfl) (by simp) (fun i hi => ?_)
  simp only [List.mem_cons, List.not_mem_nil, or_false] at hi
  rcases hi with rfl | rfl
  · refine .inl ?_
    refine o_load_Ps (d := some 14) rfl c3 rfl rfl ⟨tr _, ?_⟩
    try simp only [Act.put, List.setIfInBounds_toArray, List.set_cons_zero, List.set_cons_succ]
    refine wpAnyH_all (rs := [6]) (by kernel_rfl) (by simp) (fun i hi => ?_)
    simp only [List.mem_cons, List.not_mem_nil, or_false] at hi
    subst hi
    refine .inl ?_
    go_simp
    refine (anew_any _ p _ (HP.out.below (Below.refl _ _).drew) (by omega)).mono ?_
    rintro e w1 ⟨v1, rfl, hc1⟩
    have hc1 : Cl w v1 p w1 := ⟨hc1.q, hc1.lo, (Below.refl _ _).drew.trans hc1.below⟩
    have HC := Lib.hid hc1
    obtain ⟨ao1, c1', rfl, _⟩ := hc1.q.shape
    have HB1 := Lib.hid (show Below w.heap.size w w1 from hc1.below)
    clear hc1
    refine ⟨tr _, ?_⟩
    try simp only [Act.put, List.setIfInBounds_toArray, List.set_cons_zero, List.set_cons_succ]
    refine take_d (i := 8) (d := some 18) (v := ?_) rfl rfl (by kernel_rfl) (by kernel_rfl) (by kernel_rfl) (fun _ _ _ h => h) (.inl ⟨by rfl, ?_⟩) hS ?_
    rotate_left
    · intro W hW
      go_simp
      try with_reducible rfl
    try simp only [Act.put, List.setIfInBounds_toArray, List.set_cons_zero, List.set_cons_succ]
    refine wpAnyH_all (rs := [9]) (by kernel_rfl) (by simp) (fun i hi => ?_)
    simp only [List.mem_cons, List.not_mem_nil, or_false] at hi
    subst hi
    refine .inl ?_
    refine o_ok (d := some 19) rfl (.slice (some ⟨w1.heap.size, 0, none⟩) 1 1) (w1.alloc (.cells #[.slice ao1 p.length c1', .int .i64 (tot n.sn : Int)] 71)) (by go_simp) ⟨tr _, ?_⟩
    try simp only [Act.put, List.setIfInBounds_toArray, List.set_cons_zero, List.set_cons_succ]
    have hb2 : Below w1.heap.size w1 (w1.alloc (.cells #[.slice ao1 p.length c1', .int .i64 (tot n.sn : Int)] 71)) := (Below.refl _ _).alloc (Nat.le_refl _) _
    have HA1 := Lib.hid ((HA.out.below HB1.out).below hb2)
    have HC1 := Lib.hid (HC.out.q.below hb2)
    have HBr := Lib.hid (HB1.out.trans (hb2.mono HB1.out.size))
    have hzr : w1.heap.size < (w1.alloc (.cells #[.slice ao1 p.length c1', .int .i64 (tot n.sn : Int)] 71)).heap.size := by simp
    have hlo1 := HC.out.lo
    simp only [World.size_alloc] at hzr
    refine wpAnyH_all (rs := [10]) (by kernel_rfl) (by simp) (fun i hi => ?_)
    simp only [List.mem_cons, List.not_mem_nil, or_false] at hi
    subst hi
    refine .inl ?_
    refine o_append_g (d := some 20) _ _ rfl rfl Try.underlying57 infoP rfl (by omega) (by omega) rfl rfl HA1.out.s.g (pk_src w1 (.slice ao1 p.length c1') (tot n.sn) rfl) (by omega) ?_
    intro v2 w2 hg ht hn
    obtain ⟨hcell, hfz, hcell2, hfz2, hend⟩ := s_step HA1.out HC1.out (fun k hk => by have := hlo1 k hk; have := HA.out.lt; omega) HOK.out hg ht hn
    have hend2 := hend w HA.out HBr.out (fun k hk => by have := hlo1 k hk; simpa using this)
    have HE := Lib.hid hend2
    obtain ⟨ao2, c2', rfl, _⟩ := hg.shape
    clear hg ht hn hend hend2 HA1 HC1 HBr
    refine ⟨tr _, ?_⟩
    try simp only [Act.put, List.setIfInBounds_toArray, List.set_cons_zero, List.set_cons_succ]
    refine take_d (i := 11) (d := some 21) (v := ?_) rfl rfl (by kernel_rfl) (by kernel_rfl) (by kernel_rfl) (fun _ _ _ h => h) (.inl ⟨by rfl, ?_⟩) hS ?_
    rotate_left
    · intro W hW
      go_simp
      try with_reducible rfl
    try simp only [Act.put, List.setIfInBounds_toArray, List.set_cons_zero, List.set_cons_succ]
    refine take_d (i := 12) (d := some 22) (v := ?_) rfl rfl (by kernel_rfl) (by kernel_rfl) (by kernel_rfl) (fun _ _ _ h => h) (.inl ⟨by rfl, ?_⟩) hS ?_
    rotate_left
    · intro W hW
      go_simp
      try with_reducible rfl
    try simp only [Act.put, List.setIfInBounds_toArray, List.set_cons_zero, List.set_cons_succ]
    refine wpAnyH_all (rs := [13]) (by kernel_rfl) (by simp) (fun i hi => ?_)
    simp only [List.mem_cons, List.not_mem_nil, or_false] at hi
    subst hi
    refine .inl ?_
    refine o_store_Ps (d := none) rfl hcell hfz rfl rfl rfl ⟨tr _, ?_⟩
    try simp only [Act.put, List.setIfInBounds_toArray, List.set_cons_zero, List.set_cons_succ]
    refine wpAnyH_done (by kernel_rfl) ?_ _
    clear hS HC HB1 hcell hfz HA hzr hb2 hlo1 c1 c2 c3 c4
    go_wp2
    go_ret
    refine ⟨by first | (simp; done) | rfl, ?_⟩
    exact HE.out
  · refine .inl ?_
    go_simp
    refine (anew_any _ p _ (HP.out.below (Below.refl _ _).drew) (by omega)).mono ?_
    rintro e w1 ⟨v1, rfl, hc1⟩
    have hc1 : Cl w v1 p w1 := ⟨hc1.q, hc1.lo, (Below.refl _ _).drew.trans hc1.below⟩
    have HC := Lib.hid hc1
    obtain ⟨ao1, c1', rfl, _⟩ := hc1.q.shape
    have HB1 := Lib.hid (show Below w.heap.size w w1 from hc1.below)
    clear hc1
    refine ⟨tr _, ?_⟩
    try simp only [Act.put, List.setIfInBounds_toArray, List.set_cons_zero, List.set_cons_succ]
    refine take_d (i := 8) (d := some 18) (v := ?_) rfl rfl (by kernel_rfl) (by kernel_rfl) (by kernel_rfl) (fun _ _ _ h => h) (.inl ⟨by rfl, ?_⟩) hS ?_
    rotate_left
    · intro W hW
      go_simp
      try with_reducible rfl
    try simp only [Act.put, List.setIfInBounds_toArray, List.set_cons_zero, List.set_cons_succ]
    refine wpAnyH_all (rs := [4,9]) (by kernel_rfl) (by simp) (fun i hi => ?_)
    simp only [List.mem_cons, List.not_mem_nil, or_false] at hi
    rcases hi with rfl | rfl
    · refine .inl ?_
      have q := cell_below c3 (Below.mono HB1.out (Nat.le_refl _))
      refine o_load_Ps (d := some 14) rfl q rfl rfl ⟨tr _, ?_⟩
      try simp only [Act.put, List.setIfInBounds_toArray, List.set_cons_zero, List.set_cons_succ]
      clear q
      refine wpAnyH_all (rs := [9]) (by kernel_rfl) (by simp) (fun i hi => ?_)
      simp only [List.mem_cons, List.not_mem_nil, or_false] at hi
      subst hi
      refine .inl ?_
      refine o_ok (d := some 19) rfl (.slice (some ⟨w1.heap.size, 0, none⟩) 1 1) (w1.alloc (.cells #[.slice ao1 p.length c1', .int .i64 (tot n.sn : Int)] 71)) (by go_simp) ⟨tr _, ?_⟩
      try simp only [Act.put, List.setIfInBounds_toArray, List.set_cons_zero, List.set_cons_succ]
      have hb2 : Below w1.heap.size w1 (w1.alloc (.cells #[.slice ao1 p.length c1', .int .i64 (tot n.sn : Int)] 71)) := (Below.refl _ _).alloc (Nat.le_refl _) _
      have HA1 := Lib.hid ((HA.out.below HB1.out).below hb2)
      have HC1 := Lib.hid (HC.out.q.below hb2)
      have HBr := Lib.hid (HB1.out.trans (hb2.mono HB1.out.size))
      have hzr : w1.heap.size < (w1.alloc (.cells #[.slice ao1 p.length c1', .int .i64 (tot n.sn : Int)] 71)).heap.size := by simp
      have hlo1 := HC.out.lo
      simp only [World.size_alloc] at hzr
      refine wpAnyH_all (rs := [10]) (by kernel_rfl) (by simp) (fun i hi => ?_)
      simp only [List.mem_cons, List.not_mem_nil, or_false] at hi
      subst hi
      refine .inl ?_
      refine o_append_g (d := some 20) _ _ rfl rfl Try.underlying57 infoP rfl (by omega) (by omega) rfl rfl HA1.out.s.g (pk_src w1 (.slice ao1 p.length c1') (tot n.sn) rfl) (by omega) ?_
      intro v2 w2 hg ht hn
      obtain ⟨hcell, hfz, hcell2, hfz2, hend⟩ := s_step HA1.out HC1.out (fun k hk => by have := hlo1 k hk; have := HA.out.lt; omega) HOK.out hg ht hn
      have hend2 := hend w HA.out HBr.out (fun k hk => by have := hlo1 k hk; simpa using this)
      have HE := Lib.hid hend2
      obtain ⟨ao2, c2', rfl, _⟩ := hg.shape
      clear hg ht hn hend hend2 HA1 HC1 HBr
      refine ⟨tr _, ?_⟩
      try simp only [Act.put, List.setIfInBounds_toArray, List.set_cons_zero, List.set_cons_succ]
      refine take_d (i := 11) (d := some 21) (v := ?_) rfl rfl (by kernel_rfl) (by kernel_rfl) (by kernel_rfl) (fun _ _ _ h => h) (.inl ⟨by rfl, ?_⟩) hS ?_
      rotate_left
      · intro W hW
        go_simp
        try with_reducible rfl
      try simp only [Act.put, List.setIfInBounds_toArray, List.set_cons_zero, List.set_cons_succ]
      refine take_d (i := 12) (d := some 22) (v := ?_) rfl rfl (by kernel_rfl) (by kernel_rfl) (by kernel_rfl) (fun _ _ _ h => h) (.inl ⟨by rfl, ?_⟩) hS ?_
      rotate_left
      · intro W hW
        go_simp
        try with_reducible rfl
      try simp only [Act.put, List.setIfInBounds_toArray, List.set_cons_zero, List.set_cons_succ]
      refine wpAnyH_all (rs := [13]) (by kernel_rfl) (by simp) (fun i hi => ?_)
      simp only [List.mem_cons, List.not_mem_nil, or_false] at hi
      subst hi
      refine .inl ?_
      refine o_store_Ps (d := none) rfl hcell hfz rfl rfl rfl ⟨tr _, ?_⟩
      try simp only [Act.put, List.setIfInBounds_toArray, List.set_cons_zero, List.set_cons_succ]
      refine wpAnyH_done (by kernel_rfl) ?_ _
      clear hS HC HB1 hcell hfz HA hzr hb2 hlo1 c1 c2 c3 c4
      go_wp2
      go_ret
      refine ⟨by first | (simp; done) | rfl, ?_⟩
      exact HE.out
    · refine .inl ?_
      refine o_ok (d := some 19) rfl (.slice (some ⟨w1.heap.size, 0, none⟩) 1 1) (w1.alloc (.cells #[.slice ao1 p.length c1', .int .i64 (tot n.sn : Int)] 71)) (by go_simp) ⟨tr _, ?_⟩
      try simp only [Act.put, List.setIfInBounds_toArray, List.set_cons_zero, List.set_cons_succ]
      refine wpAnyH_all (rs := [4]) (by kernel_rfl) (by simp) (fun i hi => ?_)
      simp only [List.mem_cons, List.not_mem_nil, or_false] at hi
      subst hi
      refine .inl ?_
      have q := cell_below (cell_below c3 (Below.mono HB1.out (Nat.le_refl _))) ((Below.refl w1.heap.size w1).alloc (Nat.le_refl _) (.cells #[.slice ao1 p.length c1', .int .i64 (tot n.sn : Int)] 71))
      refine o_load_Ps (d := some 14) rfl q rfl rfl ⟨tr _, ?_⟩
      try simp only [Act.put, List.setIfInBounds_toArray, List.set_cons_zero, List.set_cons_succ]
      clear q
      have hb2 : Below w1.heap.size w1 (w1.alloc (.cells #[.slice ao1 p.length c1', .int .i64 (tot n.sn : Int)] 71)) := (Below.refl _ _).alloc (Nat.le_refl _) _
      have HA1 := Lib.hid ((HA.out.below HB1.out).below hb2)
      have HC1 := Lib.hid (HC.out.q.below hb2)
      have HBr := Lib.hid (HB1.out.trans (hb2.mono HB1.out.size))
      have hzr : w1.heap.size < (w1.alloc (.cells #[.slice ao1 p.length c1', .int .i64 (tot n.sn : Int)] 71)).heap.size := by simp
      have hlo1 := HC.out.lo
      simp only [World.size_alloc] at hzr
      refine wpAnyH_all (rs := [10]) (by kernel_rfl) (by simp) (fun i hi => ?_)
      simp only [List.mem_cons, List.not_mem_nil, or_false] at hi
      subst hi
      refine .inl ?_
      refine o_append_g (d := some 20) _ _ rfl rfl Try.underlying57 infoP rfl (by omega) (by omega) rfl rfl HA1.out.s.g (pk_src w1 (.slice ao1 p.length c1') (tot n.sn) rfl) (by omega) ?_
      intro v2 w2 hg ht hn
      obtain ⟨hcell, hfz, hcell2, hfz2, hend⟩ := s_step HA1.out HC1.out (fun k hk => by have := hlo1 k hk; have := HA.out.lt; omega) HOK.out hg ht hn
      have hend2 := hend w HA.out HBr.out (fun k hk => by have := hlo1 k hk; simpa using this)
      have HE := Lib.hid hend2
      obtain ⟨ao2, c2', rfl, _⟩ := hg.shape
      clear hg ht hn hend hend2 HA1 HC1 HBr
      refine ⟨tr _, ?_⟩
      try simp only [Act.put, List.setIfInBounds_toArray, List.set_cons_zero, List.set_cons_succ]
      refine take_d (i := 11) (d := some 21) (v := ?_) rfl rfl (by kernel_rfl) (by kernel_rfl) (by kernel_rfl) (fun _ _ _ h => h) (.inl ⟨by rfl, ?_⟩) hS ?_
      rotate_left
      · intro W hW
        go_simp
        try with_reducible rfl
      try simp only [Act.put, List.setIfInBounds_toArray, List.set_cons_zero, List.set_cons_succ]
      refine take_d (i := 12) (d := some 22) (v := ?_) rfl rfl (by kernel_rfl) (by kernel_rfl) (by kernel_rfl) (fun _ _ _ h => h) (.inl ⟨by rfl, ?_⟩) hS ?_
      rotate_left
      · intro W hW
        go_simp
        try with_reducible rfl
      try simp only [Act.put, List.setIfInBounds_toArray, List.set_cons_zero, List.set_cons_succ]
      refine wpAnyH_all (rs := [13]) (by kernel_rfl) (by simp) (fun i hi => ?_)
      simp only [List.mem_cons, List.not_mem_nil, or_false] at hi
      subst hi
      refine .inl ?_
      refine o_store_Ps (d := none) rfl hcell hfz rfl rfl rfl ⟨tr _, ?_⟩
      try simp only [Act.put, List.setIfInBounds_toArray, List.set_cons_zero, List.set_cons_succ]
      refine wpAnyH_done (by kernel_rfl) ?_ _
      clear hS HC HB1 hcell hfz HA hzr hb2 hlo1 c1 c2 c3 c4
      go_wp2
      go_ret
      refine ⟨by first | (simp; done) | rfl, ?_⟩
      exact HE.out
end Go.Proofs.Ytepimbebodmajaa
