/-
  Layer 12: count of the statements: how many pages of a kind have a byte with a set: a walk.
-/
import Derived.Test.YtdpdoclhdjhjkaaGreatG27
import Derived.Test.YtdpdoclhdjhjkaaGreatG23
set_option linter.unusedVariables false
set_option linter.unusedSimpArgs false
namespace Go.Proofs.YtdpdoclhdjhjkaaGreat
open Go.RowKit Go.Shelf
set_option maxHeartbeats 8000000
set_option maxRecDepth 100000
set_option linter.unusedVariables false
set_option linter.unusedSimpArgs false
attribute [local go_sem] Oper.semAt_some

theorem fun_nilC (w : World) (f : Nat) (cap : Array Value) : (binOp .eql 42 (.func (.func f) #[] cap) .nilFunc).run Tryz.prog w = .ok (.bool false) w := by
  have h1 : (Op.equalIn 10000 42 (.func (.func f) #[] cap) .nilFunc).run Tryz.prog w = .ok false w := by
    rw [show (10000 : Nat) = 9999 + 1 from rfl, Op.equalIn]
    simp [Sem.run_bind, run_underlying Tryz.underlying42, Result.andThen_ok]
  simp [binOp, Op.equal, Op.maxDepth, h1, Sem.run_bind, Result.andThen]
theorem may_pi0 {fr se : Int} {p : T.Pl} (h : Bd fr se) (hm : T.may fr se p = true) : Pi p ∧ 0 ≤ p.2 := by
  obtain ⟨h1, h2⟩ := T.may_iff.1 hm
  have h3 : T.most fr se p.1 ≤ 2147483648 ∧ (0 < T.most fr se p.1 → 1 ≤ p.1 ∧ p.1 ≤ 17) := by
    obtain ⟨⟨a, b⟩, c, d⟩ := h
    unfold T.most
    refine ⟨?_, fun h => ?_⟩
    · repeat' split
      all_goals omega
    · split at h
      · omega
      · omega
  have := h3.2 (by omega)
  exact ⟨⟨⟨by omega, by omega⟩, by omega, by omega⟩, h1⟩
/-- The boxes of count: the kind, the number, what was last. -/
abbrev cnL (S0 : Nat) (x : Int × Int) (k : Int) : List Bx := [(S0 + 1 + 1, #[.int .i64 x.2], 3), (S0 + 1, #[.int .i64 x.1], 3), (S0, #[.int .i64 k], 33)]
theorem cn_facts {w W : World} {x : Int × Int} {k : Int} (h : Bxs w (cnL w.heap.size x k) W) : Blk W (w.heap.size + 1 + 1) #[.int .i64 x.2] 3 ∧ Blk W (w.heap.size + 1) #[.int .i64 x.1] 3 ∧ Blk W w.heap.size #[.int .i64 k] 33 :=
  ⟨h.get _ (by simp), h.get _ (by simp), h.get _ (by simp)⟩
theorem cn_start (w : World) (k : Int) : Bxs w (cnL w.heap.size (0, -1) k) (((w.alloc (.cells #[.int .i64 k] 33)).alloc (.cells #[.int .i64 0] 3)).alloc (.cells #[.int .i64 (-1)] 3)) := by
  have := (((Bxs.nil w).alloc #[.int .i64 k] 33).alloc #[.int .i64 0] 3).alloc #[.int .i64 (-1)] 3
  simp only [World.size_alloc] at this
  exact this
theorem cn_set {w W : World} {x : Int × Int} {k : Int} (h : Bxs w (cnL w.heap.size x k) W) (b n : Int) : Bxs w (cnL w.heap.size (n, b) k) ((W.setCell ⟨w.heap.size + 1 + 1, 0, none⟩ (.int .i64 b)).setCell ⟨w.heap.size + 1, 0, none⟩ (.int .i64 n)) ∧ Turned (fun k => k = w.heap.size + 1 ∨ k = w.heap.size + 1 + 1) W ((W.setCell ⟨w.heap.size + 1 + 1, 0, none⟩ (.int .i64 b)).setCell ⟨w.heap.size + 1, 0, none⟩ (.int .i64 n)) := by
  obtain ⟨a0, a1, a2⟩ := cn_facts h
  refine ⟨⟨(h.below.setCell (p := ⟨w.heap.size + 1 + 1, 0, none⟩) (by simp; omega) _).setCell (p := ⟨w.heap.size + 1, 0, none⟩) (by simp) _, fun p hp => ?_⟩, ((Turned.refl _ W).setCell (.inl (.inr rfl)) _).setCell (.inl (.inl rfl)) _⟩
  simp only [List.mem_cons, List.not_mem_nil, or_false] at hp
  rcases hp with rfl | rfl | rfl
  · exact (a0.setCell 0 _).off (by omega) _
  · exact (a1.off (by omega) _).setCell 0 _
  · exact (Blk.off a2 (by omega) _).off (by omega) _
theorem count_any {w : World} {S : Nat} {f : T.Fl} {F : Nat → Prop} (h : At w S f F) (k : Int) (hk : I64 k) (hl : f.ps.length ≤ 900000) : Calls Tryz.prog 19 #[.pointer (some ⟨S, 0, none⟩), .int .i64 k] w fun e w' => e = .returned (.int .i64 (T.pgs k (-1) 0 f.ps)) ∧ Below w.heap.size w w' := by
  obtain ⟨q, hq⟩ : ∃ q, Hid (q = T.pgs k (-1) 0 f.ps) := ⟨_, rfl⟩
  rw [← hq.out]
  have hok := h.ok
  have HAt := Lib.hid (fun W (hb : Below w.heap.size w W) => (show At W S f F from h.below hb))
  have H0 := Lib.hid (cn_start w k)
  have hfn := fun_nilC
  clear h
  refine (callsIn_wide (n := 5)).1 ?_
  refine callsIn_of_wp_marks Tryz.func19 rfl trivial ?_ rfl
  refine wpIn_wide.2 ?_
  simp only [Tryz.ntmps19, List.size_toArray, List.length_cons, List.length_nil, Nat.reduceAdd, Nat.reduceSub, Array.replicate_succ, Array.replicate_zero, List.push_toArray, List.append_toArray, List.nil_append, List.cons_append]
  go_wp2_with fail
  refine (All_any (HAt.out _ H0.out.below)).mono ?_; rintro e W1 ⟨v1, rfl, fn1, lb1, rfl, _, _, hb1⟩
  have H1 := Lib.hid (H0.out.after hb1)
  clear hb1 H0
  go_wp2_with fail
  refine (All_any (HAt.out _ H1.out.below)).mono ?_; rintro e W2 ⟨v2, rfl, fn, lb, rfl, heg, hgv, hb2⟩
  have HX := Lib.hid (H1.out.after hb2)
  have hz1 := hb2.size
  have hz0 := (cn_facts H1.out).1.lt
  have hgv2 := hgv (fun k => k = w.heap.size + 1 ∨ k = w.heap.size + 1 + 1) (fun k hk => by omega) W2 (Below.refl _ _)
  clear hb2 H1 hfn hgv
  go_wp2_with fail
  refine (wpIn_wide (n := 5)).1 (wp_over_a (gf := fn) (lb := lb) rfl heg
    hgv2
    (fun k hk => by omega) (fun _ => rfl)
    (fun pre W => ∃ x : Int × Int, (0 ≤ x.1 ∧ x.1 ≤ (pre.length : Int) ∧ ∀ rest, f.ps = pre ++ rest → q = T.pgs k x.2 x.1 rest) ∧ Bxs w (cnL w.heap.size x k) W)
    (fun c pre W => ∃ _x : Unit, False ∧ Bxs w [] W)
    (bxs_own w _ _ (by omega)) (fun c => bxs_own w _ _ (by omega)) ⟨(0, -1), ⟨by omega, by omega, fun rest hr => by rw [hq.out, hr]; rfl⟩, HX.out⟩
    (fun x => .cells #[.int .i64 x.1.1, .int .i64 x.1.2] 35)
    (fun tm x b => ((tm.setIfInBounds 13 (.agg #[.int .i64 x.1.1, .int .i64 x.1.2])).setIfInBounds 14 (.int .u32 x.2)).setIfInBounds 7 (.pointer (some ⟨b, 0, none⟩)))
    ?assign ?body ?done (fun _ _ _ _ _ _ _ hx _ => by obtain ⟨_, h, _⟩ := hx; exact h.elim))
  case assign =>
    intro ll mm x W1 K hK
    gi_wp2
    simp only [List.setIfInBounds_toArray, List.set_cons_zero, List.set_cons_succ] at hK
    exact hK
  case body =>
    rintro ll mm pre x rest W b hf ⟨⟨nn, bb⟩, ⟨h0, h1, hr⟩, hX⟩ hob hb2 hbl
    simp only [List.setIfInBounds_toArray, List.set_cons_zero, List.set_cons_succ]
    have hpx : f.ps[pre.length]? = some x := by rw [hf]; simp
    have hlt : pre.length < f.ps.length := (List.getElem?_eq_some_iff.1 hpx).1
    obtain ⟨⟨_, x0, x1⟩, x2⟩ := (may_pi0 hok.bd (hok.may x (List.mem_of_getElem? hpx)))
    have hd : x.1.2 / 64 = x.1.2.tdiv 64 := (Int.tdiv_eq_ediv_of_nonneg x2).symm
    have hq2 := hr (x :: rest) hf
    have hst : T.pgs k bb nn (x :: rest) = if x.1.1 = k ∧ x.1.2 / 64 ≠ bb then T.pgs k (x.1.2 / 64) (nn + 1) rest else T.pgs k bb nn rest := rfl
    rw [hst] at hq2
    have HQ2 := Lib.hid hq2
    have HF := Lib.hid hf
    have HX9 := Lib.hid hX
    have HD := Lib.hid hd
    obtain ⟨k0, k1, k2⟩ := cn_facts hX
    have hbk : Blk W b #[.int .i64 x.1.1, .int .i64 x.1.2] 35 := hob
    have y0 := hbk.cell 0
    have y1 := hbk.cell 1
    have z0 := k0.cell 0
    have z1 := k1.cell 0
    have z2 := k2.cell 0
    have f0 := k0.frozen 0
    have f1 := k1.frozen 0
    simp only [List.getElem?_toArray, List.getElem?_cons_zero, List.getElem?_cons_succ] at y0 y1 z0 z1 z2
    clear hf hX hob hbk k0 k1 k2 hb2 hpx hq2 hst hr
    have same : x.1.1 ≠ k ∨ x.1.2 / 64 = bb → KeptBut (fun k => k = w.heap.size + 1 ∨ k = w.heap.size + 1 + 1) W W ∧ ∃ y : Int × Int, (0 ≤ y.1 ∧ y.1 ≤ ((pre ++ [x]).length : Int) ∧ ∀ rest, f.ps = (pre ++ [x]) ++ rest → q = T.pgs k y.2 y.1 rest) ∧ Bxs w (cnL w.heap.size y k) W := fun hno => by
      refine ⟨KeptBut.refl _ _, (nn, bb), ⟨h0, by simp; omega, fun r2 h2 => ?_⟩, HX9.out⟩
      have e : r2 = rest := by
        have h3 := HF.out.symm.trans h2
        rw [List.append_assoc] at h3
        simpa using (List.append_cancel_left h3).symm
      have h4 := HQ2.out
      rw [if_neg (by rcases hno with h | h <;> simp [h])] at h4
      rw [e]; exact h4
    have HSame := Lib.hid same
    clear same
    by_cases hc : x.1.1 = k
    · by_cases hb : x.1.2 / 64 = bb
      · have hb' : x.1.2.tdiv 64 = bb := by rw [← HD.out]; exact hb
        gi_wp2
        obtain ⟨s1, ⟨n1, b1⟩, s3, s4⟩ := HSame.out (.inr hb)
        exact ⟨s1, n1, b1, s3, s4⟩
      · have hb' : ¬ x.1.2.tdiv 64 = bb := by rw [← HD.out]; exact hb
        have HC := Lib.hid hc
        have HBn := Lib.hid hb
        gi_wp2
        obtain ⟨hB, hT⟩ := cn_set HX9.out (x.1.2.tdiv 64) (nn + 1)
        refine ⟨KeptBut.ofTurned hT, nn + 1, x.1.2.tdiv 64, ⟨by omega, by simp; omega, fun r2 h2 => ?_⟩, hB⟩
        have e : r2 = rest := by
          have h3 := HF.out.symm.trans h2
          rw [List.append_assoc] at h3
          simpa using (List.append_cancel_left h3).symm
        have h4 := HQ2.out
        rw [if_pos ⟨HC.out, HBn.out⟩, HD.out] at h4
        rw [e]; exact h4
    · gi_wp2
      obtain ⟨s1, ⟨n1, b1⟩, s3, s4⟩ := HSame.out (.inl hc)
      exact ⟨s1, n1, b1, s3, s4⟩
  case done =>
    rintro D0 W9 hD0 ⟨⟨nn, bb⟩, ⟨_, _, hr⟩, hX9⟩ hK
    have hq3 : q = nn := hr [] (by simp)
    have HX9 := Lib.hid hX9
    have HK := Lib.hid hK
    obtain ⟨k0, k1, k2⟩ := cn_facts hX9
    have z1 := k1.cell 0
    simp only [List.getElem?_toArray, List.getElem?_cons_zero] at z1
    subst hq3
    clear hX9 hK k0 k1 k2 hr HX hgv2 heg
    go_wp2
    refine ⟨by simp, .inl ⟨_, _, rfl, run_takeDeferred HK.out, ?_⟩⟩
    have hbl : Below w.heap.size w (W9.putObj D0 (.deferred none)) := HX9.out.below.trans (belowK_b (w := w) (Nat.le_refl _) _ D0 _ _ (by omega) HK.out rfl rfl)
    refine ⟨.int .i64 q, by simp [results, Tryz.results19, go_sem], by first | rfl | trivial, ?_⟩
    first | exact hbl | exact ⟨rfl, hbl⟩
end Go.Proofs.YtdpdoclhdjhjkaaGreat
