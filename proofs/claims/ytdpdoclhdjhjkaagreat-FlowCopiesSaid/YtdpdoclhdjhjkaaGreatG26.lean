/-
  Layer 12: same of the statements: has a flow just the document's sets: a walk. Written by gen_ref.py.
-/
import Derived.Test.YtdpdoclhdjhjkaaGreatG25
import Derived.Test.YtdpdoclhdjhjkaaGreatG23
set_option linter.unusedVariables false
set_option linter.unusedSimpArgs false
namespace Go.Proofs.YtdpdoclhdjhjkaaGreat
open Go.RowKit
set_option maxHeartbeats 8000000
set_option maxRecDepth 100000
set_option linter.unusedVariables false
set_option linter.unusedSimpArgs false

attribute [local go_sem] Oper.semAt_some
theorem fun_nil (w : World) (f : Nat) (cap : Array Value) : (binOp .eql 42 (.func (.func f) #[] cap) .nilFunc).run Tryz.prog w = .ok (.bool false) w := by
  have h1 : (Op.equalIn 10000 42 (.func (.func f) #[] cap) .nilFunc).run Tryz.prog w = .ok false w := by
    rw [show (10000 : Nat) = 9999 + 1 from rfl, Op.equalIn]
    simp [Sem.run_bind, run_underlying Tryz.underlying42, Result.andThen_ok]
  simp [binOp, Op.equal, Op.maxDepth, h1, Sem.run_bind, Result.andThen]
/-- The boxes of same: the flow's, the answer's, the number's. -/
abbrev smL (S0 : Nat) (c : Array Value) (r : Bool) (n : Nat) : List Bx := [(S0 + 1 + 1, #[.int .i64 (n : Int)], 3), (S0 + 1, #[.bool r], 4), (S0, c, 59)]
theorem sm_facts {w W : World} {c : Array Value} {r : Bool} {n : Nat} (h : Bxs w (smL w.heap.size c r n) W) : Blk W (w.heap.size + 1 + 1) #[.int .i64 (n : Int)] 3 ∧ Blk W (w.heap.size + 1) #[.bool r] 4 ∧ Blk W w.heap.size c 59 :=
  ⟨h.get _ (by simp), h.get _ (by simp), h.get _ (by simp)⟩
theorem sm_start (w : World) (c : Array Value) : Bxs w (smL w.heap.size c false 0) (((w.alloc (.cells c 59)).alloc (.cells #[.bool false] 4)).alloc (.cells #[.int .i64 0] 3)) := by
  have := (((Bxs.nil w).alloc c 59).alloc #[.bool false] 4).alloc #[.int .i64 0] 3
  simp only [World.size_alloc] at this
  exact this
theorem sm_n {w W : World} {c : Array Value} {r : Bool} {n : Nat} (h : Bxs w (smL w.heap.size c r n) W) (m : Nat) : Bxs w (smL w.heap.size c r m) (W.setCell ⟨w.heap.size + 1 + 1, 0, none⟩ (.int .i64 (m : Int))) := by
  obtain ⟨a0, a1, a2⟩ := sm_facts h
  refine ⟨h.below.setCell (p := ⟨w.heap.size + 1 + 1, 0, none⟩) (by simp; omega) _, fun p hp => ?_⟩
  simp only [List.mem_cons, List.not_mem_nil, or_false] at hp
  rcases hp with rfl | rfl | rfl
  · exact a0.setCell 0 _
  · exact a1.off (by omega) _
  · exact Blk.off a2 (by omega) _
theorem sm_res {w W : World} {c : Array Value} {r : Bool} {n : Nat} (h : Bxs w (smL w.heap.size c r n) W) (q : Bool) : Bxs w (smL w.heap.size c q n) (W.setCell ⟨w.heap.size + 1, 0, none⟩ (.bool q)) := by
  obtain ⟨a0, a1, a2⟩ := sm_facts h
  refine ⟨h.below.setCell (p := ⟨w.heap.size + 1, 0, none⟩) (by simp) _, fun p hp => ?_⟩
  simp only [List.mem_cons, List.not_mem_nil, or_false] at hp
  rcases hp with rfl | rfl | rfl
  · exact a0.off (by omega) _
  · exact a1.setCell 0 _
  · exact Blk.off a2 (by omega) _
/-- What is held over the last region of same. -/
structure SmH (w : World) (S : Nat) (f : T.Fl) (F : Nat → Prop) (g ct : Nat) (oa : Option Addr) (ca D0 : Nat) (W : World) : Prop where
  x : ∃ r, Bxs w (smL w.heap.size (rfc f.fr f.se f.mo (tbV g f.ss.length ct) (.slice oa f.ps.length ca)) r f.ps.length) W
  at_ : At W S f F
  rv : RvI W f g ct (.slice oa f.ps.length ca)
  d : W.heap[D0]? = some (.deferred (some []))
section
variable {w W W' : World} {S : Nat} {f : T.Fl} {F : Nat → Prop} {g ct : Nat} {oa : Option Addr} {ca D0 : Nat}
theorem SmH.after (h : SmH w S f F g ct oa ca D0 W) (hb : Below W.heap.size W W') : SmH w S f F g ct oa ca D0 W' := by
  obtain ⟨r, hx⟩ := h.x
  exact ⟨⟨r, hx.after hb⟩, h.at_.below hb, h.rv.below hb, (hb.block _ (Array.getElem?_eq_some_iff.1 h.d).1).trans h.d⟩
theorem SmH.fa (h : SmH w S f F g ct oa ca D0 W) (hok : FOk f) : Fa W (tbV g f.ss.length ct) (.slice oa f.ps.length ca) f.ps := ⟨rfl, h.rv.p, hok.small⟩
theorem SmH.res (h : SmH w S f F g ct oa ca D0 W) : ∃ r, Blk W (w.heap.size + 1) #[.bool r] 4 := by
  obtain ⟨r, hx⟩ := h.x
  exact ⟨r, (sm_facts hx).2.1⟩
theorem SmH.nc (h : SmH w S f F g ct oa ca D0 W) : W.cell? ⟨w.heap.size + 1 + 1, 0, none⟩ = some (.int .i64 (f.ps.length : Int)) := by
  obtain ⟨r, hx⟩ := h.x
  exact (sm_facts hx).1.cell 0
theorem SmH.fb (h : SmH w S f F g ct oa ca D0 W) : Rf 59 5 W w.heap.size (rfc f.fr f.se f.mo (tbV g f.ss.length ct) (.slice oa f.ps.length ca)) := by
  obtain ⟨r, hx⟩ := h.x
  exact ⟨(sm_facts hx).2.2, rfl, (rfc_ok _ _ _ rfl rfl).2⟩
theorem SmH.set (h : SmH w S f F g ct oa ca D0 W) (hF : ∀ k, F k → k < w.heap.size) (hr : ∀ k, rvB g (.slice oa f.ps.length ca) k → k < w.heap.size) (q : Bool) (hD : w.heap.size + 1 ≠ D0) : SmH w S f F g ct oa ca D0 (W.setCell ⟨w.heap.size + 1, 0, none⟩ (.bool q)) := by
  obtain ⟨r, hx⟩ := h.x
  have tt : Turned (fun k => k = w.heap.size + 1) W (W.setCell ⟨w.heap.size + 1, 0, none⟩ (.bool q)) := (Turned.refl (fun k => k = w.heap.size + 1) W).setCell (.inl rfl) _
  exact ⟨⟨q, sm_res hx q⟩, h.at_.turned tt (fun k hk e => by have := hF k hk; omega), h.rv.stay (fun k hk => tt.block k (h.rv.lt hk) (by have := hr k hk; omega)), (Below.heap_setCell _ _ _ _ (by simp; omega)).trans h.d⟩
theorem st_i11 (w : World) (S : Nat) (f : T.Fl) (F : Nat → Prop) (g ct : Nat) (oa : Option Addr) (ca D0 : Nat) : Stable (fun W => W.cell? ⟨w.heap.size + 1 + 1, 0, none⟩ = some (.int .i64 (f.ps.length : Int)) ∧ W.cell? ⟨w.heap.size, 4, none⟩ = some (.slice oa f.ps.length ca) ∧ W.cell? ⟨w.heap.size, 3, none⟩ = some (tbV g f.ss.length ct) ∧ Rf 59 5 W w.heap.size (rfc f.fr f.se f.mo (tbV g f.ss.length ct) (.slice oa f.ps.length ca)) ∧ SmH w S f F g ct oa ca D0 W) :=
  (st_cell _ _).and ((st_cell _ _).and ((st_cell _ _).and ((st_rf _ _ _ _).and (fun _ _ h hb => SmH.after h hb))))
end
theorem rt_cap {w : World} {g c : Nat} {l : List Int} (h : L2.RT w g c l) : l.length ≤ c ∧ l.length ≤ maxLen := by
  rcases h.2 with hnil | ⟨g', cap, cur, e, hb, hgg, h5, h6, rest⟩
  · simp at hnil
  · simp at e
    obtain ⟨rfl, rfl⟩ := e
    exact ⟨h5, by omega⟩
theorem most_nat {fr se k : Int} (h : Bd fr se) : T.most fr se k ≤ 2147483648 ∧ (0 < T.most fr se k → 1 ≤ k ∧ k ≤ 17) := by
  obtain ⟨⟨a, b⟩, c, d⟩ := h
  unfold T.most
  refine ⟨?_, fun h => ?_⟩
  · repeat' split
    all_goals omega
  · split at h
    · omega
    · omega
theorem may_pi {fr se : Int} {p : T.Pl} (h : Bd fr se) (hm : T.may fr se p = true) : Pi p ∧ 0 ≤ p.2 := by
  obtain ⟨h1, h2⟩ := T.may_iff.1 hm
  obtain ⟨m1, m2⟩ := most_nat (k := p.1) h
  have := m2 (by omega)
  exact ⟨⟨⟨by omega, by omega⟩, by omega, by omega⟩, h1⟩
theorem pos_ok {f : T.Fl} (h : FOk f) : Pos f.ps := fun x hx => may_pi h.bd (h.may x hx)
theorem o_store_bool {op : Oper} {a : Act} {w : World} {K : Act → World → Prop} {Q : Exit → Act → World → Prop} {x y : Operand} {b : Nat} {u : Value} {v : Bool} (hc : w.cell? ⟨b, 0, none⟩ = some u) (hf : w.frozen? ⟨b, 0, none⟩ = false) (ho : op.op = .store 4 x y) (hx : a.eval x = .pointer (some ⟨b, 0, none⟩)) (hy : a.eval y = .bool v)
    (h : K (a.put op.dst undef) (w.setCell ⟨b, 0, none⟩ (.bool v))) : op.wp Tryz.prog a w K Q := by
  unfold Oper.wp execOp
  simp only [ho, hx, hy]
  go_simp
  exact h
theorem same_any {X Z : Nat → Prop} {w0 w : World} {S : Nat} {f : T.Fl} {c : Array Value} (h : Two X Z w0 S f c w) (hl : f.ps.length ≤ 900000) : Calls Tryz.prog 22 #[.pointer (some ⟨S, 0, none⟩), .agg c] w fun e w' => e = .returned (.bool true) ∧ Below w.heap.size w w' := by
  obtain ⟨hc1, hok⟩ := h.ok
  obtain ⟨g, ct, pv, F, rfl, hat, hrv, hsep, hlo, hbw, _, _⟩ := id h
  obtain ⟨oa, ca, rfl, _, hla⟩ := hrv.p.shape
  have HTw := Lib.hid (fun W (hb : Below w.heap.size w W) => (show Two X Z w0 S f (rfc f.fr f.se f.mo (tbV g f.ss.length ct) (.slice oa f.ps.length ca)) W from h.after hb))
  have HAt := Lib.hid (fun W (hb : Below w.heap.size w W) => (show At W S f F from hat.below hb))
  have HRv := Lib.hid (fun W (hb : Below w.heap.size w W) => (show RvI W f g ct (.slice oa f.ps.length ca) from hrv.below hb))
  have H0 := Lib.hid (sm_start w (rfc f.fr f.se f.mo (tbV g f.ss.length ct) (.slice oa f.ps.length ca)))
  have hfn := fun_nil
  clear h hat hrv hsep hlo hbw
  refine (callsIn_wide (n := 5)).1 ?_
  refine callsIn_of_wp_marks Tryz.func22 rfl trivial ?_ rfl
  refine wpIn_wide.2 ?_
  simp only [Tryz.ntmps22, List.size_toArray, List.length_cons, List.length_nil, Nat.reduceAdd, Nat.reduceSub, Array.replicate_succ, Array.replicate_zero, List.push_toArray, List.append_toArray, List.nil_append, List.cons_append]
  go_wp2_with fail
  refine (All_any (HAt.out _ H0.out.below)).mono ?_; rintro e W1 ⟨v1, rfl, fn1, lb1, rfl, _, _, hb1⟩
  have H1 := Lib.hid (H0.out.after hb1)
  clear hb1 H0
  go_wp2_with fail
  refine (All_any (HAt.out _ H1.out.below)).mono ?_; rintro e W2 ⟨v2, rfl, fn, lb, rfl, heg, hgv, hb2⟩
  have HX := Lib.hid (H1.out.after hb2)
  have hz1 := hb2.size
  have hz0 := (sm_facts H1.out).1.lt
  have hgv2 := hgv (fun k => k = w.heap.size + 1 + 1) (fun k hk => by omega) W2 (Below.refl _ _)
  clear hb2 H1 hfn hgv
  go_wp2_with fail
  refine (wpIn_wide (n := 5)).1 (wp_over_a (gf := fn) (lb := lb) rfl heg
    hgv2
    (fun k hk => by omega) (fun _ => rfl)
    (fun pre W => ∃ _x : Unit, True ∧ Bxs w (smL w.heap.size (rfc f.fr f.se f.mo (tbV g f.ss.length ct) (.slice oa f.ps.length ca)) false pre.length) W)
    (fun c pre W => ∃ _x : Unit, False ∧ Bxs w [] W)
    (bxs_own w _ _ (by omega)) (fun c => bxs_own w _ _ (by omega)) ⟨(), trivial, HX.out⟩
    (fun x => .cells #[.int .i64 x.1.1, .int .i64 x.1.2] 35)
    (fun tm x b => ((((tm.setIfInBounds 15 (.agg #[.int .i64 x.1.1, .int .i64 x.1.2])).setIfInBounds 16 (.int .u32 x.2)).setIfInBounds 6 (.pointer (some ⟨b, 0, none⟩))).setIfInBounds 7 (.int .u32 x.2)))
    ?assign ?body ?done (fun _ _ _ _ _ _ _ hx _ => by obtain ⟨_, h, _⟩ := hx; exact h.elim))
  case assign =>
    intro ll mm x W1 K hK
    gi_wp2
    simp only [List.setIfInBounds_toArray, List.set_cons_zero, List.set_cons_succ] at hK
    exact hK
  case body =>
    rintro ll mm pre x rest W b hf ⟨_, _, hX⟩ hob hb2 hbl
    simp only [List.setIfInBounds_toArray, List.set_cons_zero, List.set_cons_succ]
    have hpx : f.ps[pre.length]? = some x := by rw [hf]; simp
    have hlt : pre.length < f.ps.length := (List.getElem?_eq_some_iff.1 hpx).1
    have hi : (pre.length : Int) < (f.ps.length : Int) := by omega
    have hle : ((f.ps.length : Int) ≤ (pre.length : Int)) = False := by simp; omega
    obtain ⟨g1, o1, c1, y, e1, l1, r1⟩ := (HRv.out _ hX.below).p.at_ hlt
    rw [hpx] at l1
    cases l1
    obtain ⟨q1, q2, q3⟩ := rng3 r1
    simp at e1
    obtain ⟨rfl, rfl⟩ := e1
    have HX9 := Lib.hid hX
    obtain ⟨k0, k1, k2⟩ := sm_facts hX
    have hbk : Blk W b #[.int .i64 x.1.1, .int .i64 x.1.2] 35 := hob
    have hne := neq_place x.1 x.1
    rw [decide_eq_true rfl] at hne
    simp only [Bool.not_true] at hne
    have hnu : (x.2 != x.2) = false := by simp
    have q9 := k0.cell 0
    have f9 := k0.frozen 0
    simp only [List.getElem?_toArray, List.getElem?_cons_zero] at q9
    have q9' : W.drew.cell? ⟨w.heap.size + 1 + 1, 0, none⟩ = some (.int .i64 (pre.length : Int)) := q9
    have f9' : W.drew.frozen? ⟨w.heap.size + 1 + 1, 0, none⟩ = false := f9
    have hS0 : Hl (fun W => W.cell? ⟨w.heap.size + 1 + 1, 0, none⟩ = some (.int .i64 (pre.length : Int)) ∧ W.cell? ⟨w.heap.size, 4, none⟩ = some (.slice (some ⟨g1, o1, none⟩) f.ps.length ca) ∧ W.cell? ⟨g1, o1 + pre.length * 3, none⟩ = some (.int .i64 x.1.1) ∧ W.cell? ⟨g1, o1 + pre.length * 3 + 1, none⟩ = some (.int .i64 x.1.2) ∧ W.cell? ⟨g1, o1 + pre.length * 3 + 2, none⟩ = some (.int .u32 x.2) ∧ W.cell? ⟨b, 0, none⟩ = some (.int .i64 x.1.1) ∧ W.cell? ⟨b, 1, none⟩ = some (.int .i64 x.1.2)) W W.drew := Hl.start ((st_cell _ _).and ((st_cell _ _).and ((st_cell _ _).and ((st_cell _ _).and ((st_cell _ _).and ((st_cell _ _).and (st_cell _ _))))))) ⟨q9, k2.cell 4, q1, q2, q3, hbk.cell 0, hbk.cell 1⟩
    clear hf hX hob hbk k0 k1 k2 hb2 q1 q2 q3 r1 hpx
    gi_wp2
    refine wpIn_region_round (S := (fun W => W.cell? ⟨w.heap.size + 1 + 1, 0, none⟩ = some (.int .i64 (pre.length : Int)) ∧ W.cell? ⟨w.heap.size, 4, none⟩ = some (.slice (some ⟨g1, o1, none⟩) f.ps.length ca) ∧ W.cell? ⟨g1, o1 + pre.length * 3, none⟩ = some (.int .i64 x.1.1) ∧ W.cell? ⟨g1, o1 + pre.length * 3 + 1, none⟩ = some (.int .i64 x.1.2) ∧ W.cell? ⟨g1, o1 + pre.length * 3 + 2, none⟩ = some (.int .u32 x.2) ∧ W.cell? ⟨b, 0, none⟩ = some (.int .i64 x.1.1) ∧ W.cell? ⟨b, 1, none⟩ = some (.int .i64 x.1.2))) (by kernel_rfl) (by kernel_rfl) (fun _ _ h => h) ?_
    have hS := hS0
    refine Dense.tk 0 (some 17) hS.i ?_ (hy := by intro W hW; obtain ⟨p1, p2, p3, p4, p5, p6, p7⟩ := hW; go_simp; try with_reducible rfl)
    refine Dense.tk 1 (some 18) hS.i ?_ (hy := by intro W hW; obtain ⟨p1, p2, p3, p4, p5, p6, p7⟩ := hW; go_simp; try with_reducible rfl)
    refine Dense.tk 2 (some 19) hS.i ?_ (hy := by intro W hW; obtain ⟨p1, p2, p3, p4, p5, p6, p7⟩ := hW; go_simp; try with_reducible rfl)
    refine Dense.tk 3 (some 20) hS.i ?_ (hy := by intro W hW; obtain ⟨p1, p2, p3, p4, p5, p6, p7⟩ := hW; go_simp; try with_reducible rfl)
    refine Dense.tk 4 (some 21) hS.i ?_ (hy := by intro W hW; obtain ⟨p1, p2, p3, p4, p5, p6, p7⟩ := hW; go_simp; try with_reducible rfl)
    refine Dense.tk 5 (some 22) hS.i ?_
    refine Dense.tk 6 (some 23) hS.i ?_ (hy := by intro W hW; obtain ⟨p1, p2, p3, p4, p5, p6, p7⟩ := hW; go_simp; try with_reducible rfl)
    refine Dense.tk 7 (some 24) hS.i ?_ (hy := by intro W hW; obtain ⟨p1, p2, p3, p4, p5, p6, p7⟩ := hW; go_simp; try with_reducible rfl)
    refine Dense.tk 8 (some 25) hS.i ?_ (hy := by intro W hW; obtain ⟨p1, p2, p3, p4, p5, p6, p7⟩ := hW; go_simp; try with_reducible rfl)
    refine Dense.tk 9 (some 26) hS.i ?_ (hy := by intro W hW; obtain ⟨p1, p2, p3, p4, p5, p6, p7⟩ := hW; go_simp; try with_reducible rfl)
    refine Dense.tk 10 (some 27) hS.i ?_ (hy := by intro W hW; obtain ⟨p1, p2, p3, p4, p5, p6, p7⟩ := hW; go_simp; try with_reducible rfl)
    refine Dense.tk 11 (some 28) hS.i ?_ (hy := by intro W hW; obtain ⟨p1, p2, p3, p4, p5, p6, p7⟩ := hW; go_simp; try with_reducible rfl)
    refine Dense.tk 12 (some 29) hS.i ?_ (hy := by intro W hW; obtain ⟨p1, p2, p3, p4, p5, p6, p7⟩ := hW; go_simp; try with_reducible rfl)
    refine Dense.tk 13 (some 30) hS.i ?_ (hy := by intro W hW; obtain ⟨p1, p2, p3, p4, p5, p6, p7⟩ := hW; go_simp; try with_reducible rfl)
    refine Dense.tk 14 (some 31) hS.i ?_
    refine Dense.tk 15 (some 32) hS.i ?_
    refine Dense.tk 16 (some 33) hS.i ?_ (hy := by intro W hW; obtain ⟨p1, p2, p3, p4, p5, p6, p7⟩ := hW; go_simp; try with_reducible rfl)
    refine Dense.tk 17 (some 34) hS.i ?_ (hy := by intro W hW; obtain ⟨p1, p2, p3, p4, p5, p6, p7⟩ := hW; go_simp; try with_reducible rfl)
    refine Dense.tk 18 (some 35) hS.i ?_ (hy := by intro W hW; obtain ⟨p1, p2, p3, p4, p5, p6, p7⟩ := hW; go_simp; try with_reducible rfl)
    refine Dense.tk 19 (some 36) hS.i ?_ (hy := by intro W hW; obtain ⟨p1, p2, p3, p4, p5, p6, p7⟩ := hW; go_simp; try with_reducible rfl)
    refine Dense.tk 20 (some 37) hS.i ?_ (hy := by intro W hW; obtain ⟨p1, p2, p3, p4, p5, p6, p7⟩ := hW; go_simp; try with_reducible rfl)
    refine Dense.tk 21 (some 38) hS.i ?_ (hy := by intro W hW; obtain ⟨p1, p2, p3, p4, p5, p6, p7⟩ := hW; go_simp; try with_reducible rfl)
    refine Dense.tk 22 (some 39) hS.i ?_
    refine Dense.tk 23 (some 40) hS.i ?_ (hy := by intro W hW; obtain ⟨p1, p2, p3, p4, p5, p6, p7⟩ := hW; go_simp; try with_reducible rfl)
    refine Dense.tk 24 (some 41) hS.i ?_
    refine wpAnyH_done (by kernel_rfl) ?_ _
    clear hS hS0
    gi_wp2
    have hn2 : ((pre.length : Int) + 1) = ((pre.length + 1 : Nat) : Int) := by simp
    rw [hn2]
    refine ⟨KeptBut.ofTurned (((Turned.refl (fun k => k = w.heap.size + 1 + 1) W).drew).setCell (p := ⟨w.heap.size + 1 + 1, 0, none⟩) (.inl rfl) _), (), trivial, ?_⟩
    rw [List.length_append, List.length_singleton]
    exact sm_n HX9.out.drew (pre.length + 1)
  case done =>
    rintro D0 W9 hD0 ⟨_, _, hX9⟩ hK
    have HX9 := Lib.hid hX9
    have HK := Lib.hid hK
    have hD1 : w.heap.size + 1 ≠ D0 := by omega
    have hpos := pos_ok hok
    have hFl : ∀ k, F k → k < w.heap.size := fun k hk => (HAt.out w (Below.refl _ _)).lt hk
    have hrl : ∀ k, rvB g (.slice oa f.ps.length ca) k → k < w.heap.size := fun k hk => (HRv.out w (Below.refl _ _)).lt hk
    clear hX9 hK HX hgv2 heg
    go_wp2_with fail
    refine (Pages_any (HAt.out _ HX9.out.below)).mono ?_
    rintro e W3 ⟨rfl, hb3⟩
    have hX3 := HX9.out.after hb3
    have hH : SmH w S f F g ct oa ca D0 W3 := ⟨⟨_, hX3⟩, HAt.out _ hX3.below, HRv.out _ hX3.below, (hb3.block _ (Array.getElem?_eq_some_iff.1 HK.out).1).trans HK.out⟩
    have hS : Hl (fun W => W.cell? ⟨w.heap.size + 1 + 1, 0, none⟩ = some (.int .i64 (f.ps.length : Int)) ∧ W.cell? ⟨w.heap.size, 4, none⟩ = some (.slice oa f.ps.length ca) ∧ W.cell? ⟨w.heap.size, 3, none⟩ = some (tbV g f.ss.length ct) ∧ Rf 59 5 W w.heap.size (rfc f.fr f.se f.mo (tbV g f.ss.length ct) (.slice oa f.ps.length ca)) ∧ SmH w S f F g ct oa ca D0 W) W3 W3.drew := Hl.start (st_i11 _ _ _ _ _ _ _ _ _) ⟨hH.nc, hH.fb.cell 4, hH.fb.cell 3, hH.fb, hH⟩
    obtain ⟨P1, hP1⟩ : ∃ P1, Hid (P1 = T.pgs 10 (-1) 0 f.ps) := ⟨_, rfl⟩
    obtain ⟨P2, hP2⟩ : ∃ P2, Hid (P2 = T.pgs 12 (-1) 0 f.ps) := ⟨_, rfl⟩
    rw [← hP1.out, ← hP2.out]
    clear hX3 hH hb3
    go_wp2
    refine wp_region_noPanic ?_
    refine wp_region_held_drew (S := fun W => W.cell? ⟨w.heap.size + 1 + 1, 0, none⟩ = some (.int .i64 (f.ps.length : Int)) ∧ W.cell? ⟨w.heap.size, 4, none⟩ = some (.slice oa f.ps.length ca) ∧ W.cell? ⟨w.heap.size, 3, none⟩ = some (tbV g f.ss.length ct) ∧ Rf 59 5 W w.heap.size (rfc f.fr f.se f.mo (tbV g f.ss.length ct) (.slice oa f.ps.length ca)) ∧ SmH w S f F g ct oa ca D0 W) (by kernel_rfl) hS.i (fun _ => ?_)
    refine Dense.tk 0 (some 49) hS.i ?_ (hy := by intro W hW; obtain ⟨p1, p2, p3, p4, _⟩ := hW; go_simp; try with_reducible rfl)
    refine Dense.tk 1 (some 50) hS.i ?_ (hy := by intro W hW; obtain ⟨p1, p2, p3, p4, _⟩ := hW; go_simp; try with_reducible rfl)
    refine Dense.tk 2 (some 51) hS.i ?_ (hy := by intro W hW; obtain ⟨p1, p2, p3, p4, _⟩ := hW; go_simp; try with_reducible rfl)
    refine Dense.tk 3 (some 52) hS.i ?_ (hy := by intro W hW; obtain ⟨p1, p2, p3, p4, _⟩ := hW; go_simp; try with_reducible rfl)
    refine Dense.tk 4 (some 53) hS.i ?_ (hy := by intro W hW; obtain ⟨p1, p2, p3, p4, _⟩ := hW; go_simp; try with_reducible rfl)
    refine Dense.tk 5 (some 54) hS.i ?_
    refine Dense.tk 6 (some 55) hS.i ?_
    refine Dense.tv 7 (some 56) rfl (y_R rowF (by rfl) rfl rfl (fun W hW => hW.2.2.2.1)) hS.i ?_
    refine Dense.o1 8 ?_
    go_simp
    refine (RPages_any f.fr f.se f.mo 10 (hS.i.2.2.2.2.fa hok) hpos).mono ?_
    rintro e wc ⟨rfl, hb⟩
    replace hS := hS.after (st_i11 _ _ _ _ _ _ _ _ _) hb
    clear hb
    rw [← hP1.out]
    refine ⟨hS.i, ?_⟩
    refine Dense.nm ?_
    refine Dense.tk 9 (some 58) hS.i ?_ (hy := by intro W hW; obtain ⟨p1, p2, p3, p4, _⟩ := hW; go_simp; try with_reducible rfl)
    refine Dense.tk 10 (some 59) hS.i ?_
    refine Dense.tk 11 (some 60) hS.i ?_
    refine Dense.tk 12 (some 61) hS.i ?_
    refine Dense.tv 13 (some 62) rfl (y_R rowF (by rfl) rfl rfl (fun W hW => hW.2.2.2.1)) hS.i ?_
    refine Dense.o1 14 ?_
    go_simp
    refine (RPages_any f.fr f.se f.mo 12 (hS.i.2.2.2.2.fa hok) hpos).mono ?_
    rintro e wc ⟨rfl, hb⟩
    replace hS := hS.after (st_i11 _ _ _ _ _ _ _ _ _) hb
    clear hb
    rw [← hP2.out]
    refine ⟨hS.i, ?_⟩
    refine Dense.nm ?_
    refine Dense.tk 15 (some 64) hS.i ?_ (hy := by intro W hW; obtain ⟨p1, p2, p3, p4, _⟩ := hW; go_simp; try with_reducible rfl)
    refine Dense.tk 16 (some 65) hS.i ?_
    refine Dense.tk 17 (some 66) hS.i ?_
    refine Dense.tk 18 (some 67) hS.i ?_
    refine Dense.tk 20 (some 69) hS.i ?_ (hy := by intro W hW; obtain ⟨p1, p2, p3, p4, _⟩ := hW; go_simp; try with_reducible rfl)
    refine Dense.tk 21 (some 70) hS.i ?_ (hy := by intro W hW; obtain ⟨p1, p2, p3, p4, _⟩ := hW; go_simp; try with_reducible rfl)
    refine Dense.tk 22 (some 71) hS.i ?_ (hy := by intro W hW; obtain ⟨p1, p2, p3, p4, _⟩ := hW; go_simp; try with_reducible rfl)
    refine Dense.o1 19 ?_
    go_simp
    refine (Sets_any hS.i.2.2.2.2.at_).mono ?_
    rintro e wc ⟨vs, rfl, hus, hb⟩
    replace hS := hS.after (st_i11 _ _ _ _ _ _ _ _ _) hb
    clear hb
    refine ⟨hS.i, ?_⟩
    refine Dense.nm ?_
    refine Dense.o1 23 ?_
    go_simp
    refine (sets_any hus (rt_us hS.i.2.2.2.2.rv.t (rt_cap hS.i.2.2.2.2.rv.t))).mono ?_
    rintro e wc ⟨rfl, hb⟩
    replace hS := hS.after (st_i11 _ _ _ _ _ _ _ _ _) hb
    clear hb
    refine ⟨hS.i, ?_⟩
    refine Dense.nm ?_
    refine Dense.tk 24 (some 73) hS.i ?_
    refine Dense.o1 25 ?_
    obtain ⟨r0, hbr⟩ := hS.i.2.2.2.2.res
    refine o_store_bool (v := true) (hbr.cell 0) (hbr.frozen 0) rfl rfl rfl ?_
    have hE := hS.i.2.2.2.2.set hFl hrl true hD1
    have HR1 := Lib.hid (hbr.setCell 0 (.bool true))
    refine ⟨⟨hE.nc, hE.fb.cell 4, hE.fb.cell 3, hE.fb, hE⟩, ?_⟩
    refine Dense.nm ?_
    refine wpAnyH_done (by kernel_rfl) ?_ _
    refine NoPanic.normal ?_
    have HE := Lib.hid hE
    clear hS hE
    go_wp2
    refine ⟨by simp, .inl ⟨_, _, rfl, run_takeDeferred HE.out.d, ?_⟩⟩
    obtain ⟨r1, hx1⟩ := HE.out.x
    have hc9 : ((wc.setCell ⟨w.heap.size + 1, 0, none⟩ (.bool true)).putObj D0 (.deferred none)).cell? ⟨w.heap.size + 1, 0, none⟩ = some (.bool true) := (cell_putObj (show w.heap.size + 1 ≠ D0 by omega)).trans (HR1.out.cell 0)
    have hbl : Below w.heap.size w ((wc.setCell ⟨w.heap.size + 1, 0, none⟩ (.bool true)).putObj D0 (.deferred none)) := hx1.below.trans (belowK_b (w := w) (Nat.le_refl _) _ D0 _ _ (by omega) HE.out.d rfl rfl)
    refine ⟨.bool true, by simp [results, Tryz.results22, go_sem, hc9], by first | rfl | trivial, ?_⟩
    first | exact hbl | exact ⟨rfl, hbl⟩
end Go.Proofs.YtdpdoclhdjhjkaaGreat
