/-
  Layer 16: the program's check: walk. Written by gen_chk.py.
-/
import Derived.Test.YtjffclcjijpmiaaG16
set_option linter.unusedVariables false
set_option linter.unusedSimpArgs false
namespace Go.Proofs.Ytjffclcjijpmiaa.LG
open Go.RowKit
set_option maxHeartbeats 8000000
set_option maxRecDepth 100000
set_option linter.unusedVariables false
set_option linter.unusedSimpArgs false
attribute [local go_sem] Oper.semAt_some

/-- A log in a box. -/
structure Lbx (w : World) (R : Nat) (l : Lg) (rv : Value) : Prop where
  b : Blk w R (lgc l rv) 26
  i : LgIn w rv l
theorem Lbx.below {w w' : World} {R : Nat} {l : Lg} {rv : Value} (h : Lbx w R l rv) (hb : Below w.heap.size w w') : Lbx w' R l rv := ⟨h.b.below hb, h.i.below hb⟩
theorem Lbx.cells {w : World} {R : Nat} {l : Lg} {rv : Value} (h : Lbx w R l rv) : w.cell? ⟨R, 0, none⟩ = some (.int .i64 l.fr) ∧ w.cell? ⟨R, 1, none⟩ = some (.int .i64 l.se) ∧ w.cell? ⟨R, 2, none⟩ = some (.int .i64 l.mo) ∧ w.cell? ⟨R, 3, none⟩ = some rv ∧ w.cell? ⟨R, 4, none⟩ = some (.bool l.wh) ∧ w.cell? ⟨R, 5, none⟩ = some (.int .i64 l.en) := ⟨h.b.cell 0, h.b.cell 1, h.b.cell 2, h.b.cell 3, h.b.cell 4, h.b.cell 5⟩
/-- What lies below N and reads so, does where nothing below N turns. -/
theorem LgIn.keep {w w' : World} {rv : Value} {l : Lg} (h : LgIn w rv l) {w0 : World} (h0 : LgIn w0 rv l) (hb : Below w0.heap.size w0 w') : LgIn w' rv l := h0.below hb
/-- What check leaves. -/
def ChkP (l : Lg) (w : World) (e : Ending) (w' : World) : Prop := Below w.heap.size w w' ∧ ((chk l = true ∧ e = .returned (.tuple #[])) ∨ (chk l = false ∧ e = .panicked (chain 260)))
/-- What check's loop knows: what was gone over, the order's block, the loop's record. -/
structure ChI (w : World) (R R2 O b L D : Nat) (r0 : Loop) (l : Lg) (rv : Value) (pre : List Rc) (W : World) : Prop where
  u : Below w.heap.size w W
  x : Lbx W R l rv
  m : Lbx W R2 l rv
  o : ∃ a e, Ord W O b a e ∧ rsGo 0 false pre = some (a, e)
  lp : W.heap[L]? = some (.loop r0)
  df : W.heap[D]? = some (.deferred (some []))
theorem heap_below {W W' : World} {k : Nat} {o : Obj} (h : W.heap[k]? = some o) (hb : Below W.heap.size W W') : W'.heap[k]? = some o := (hb.block k (Array.getElem?_eq_some_iff.1 h).1).trans h
theorem heap_turned {F : Nat → Prop} {W W' : World} {k : Nat} {o : Obj} (h : W.heap[k]? = some o) (ht : Turned F W W') (hn : ¬ F k) : W'.heap[k]? = some o := (ht.block k (Array.getElem?_eq_some_iff.1 h).1 hn).trans h
theorem ChI.below {w : World} {R R2 O b L D : Nat} {r0 : Loop} {l : Lg} {rv : Value} {pre : List Rc} {W W' : World} (h : ChI w R R2 O b L D r0 l rv pre W) (hb : Below W.heap.size W W') : ChI w R R2 O b L D r0 l rv pre W' := by
  obtain ⟨a, e, ho, hg⟩ := h.o
  exact ⟨belT h.u hb, h.x.below hb, h.m.below hb, ⟨a, e, ho.below hb, hg⟩, heap_below h.lp hb, heap_below h.df hb⟩
theorem turned_putObj (W : World) (L : Nat) (o : Obj) : Turned (fun k => k = L) W (W.putObj L o) := ⟨rfl, rfl, rfl, by simp, fun k _ hn => World.putObj_heap_other hn⟩
theorem RsIn.turned {F : Nat → Prop} {w w' : World} {v : Value} {l : List Rc} {w0 : World} (h0 : RsIn w0 v l) (hb : Below w0.heap.size w0 w') : RsIn w' v l := h0.below hb
theorem Lbx.turned {F : Nat → Prop} {w0 w w' : World} {R : Nat} {l : Lg} {rv : Value} (h : Lbx w R l rv) (h0 : LgIn w0 rv l) (hb : Below w0.heap.size w0 w) (ht : Turned F w w') (hR : ¬ F R) (hF : ∀ k, F k → w0.heap.size ≤ k) : Lbx w' R l rv :=
  ⟨h.b.turned ht hR, h0.below (hb.trans (ht.below hb.size hF))⟩
theorem rws_i64 {l : Lg} {w : World} {rv : Value} (h : LgIn w rv l) {pre rest : List Rc} {r : Rc} (e : rws l = pre ++ r :: rest) : I64 r.kind := by
  have hm : r ∈ rws l := by rw [e]; simp
  unfold rws at hm
  rcases List.mem_append.1 hm with hm | hm
  · obtain ⟨cs, _, _, hr⟩ := h.r
    exact (hr r hm).2.1
  · simp at hm
    rw [hm.2]
    show I64 8
    exact ⟨by decide, by decide⟩
theorem cell_put {W : World} {L : Nat} {r : Loop} {o : Obj} (hL : W.heap[L]? = some (.loop r)) {q : Addr} {u : Value} (h : W.cell? q = some u) : (W.putObj L o).cell? q = some u := by
  by_cases e : q.block = L
  · unfold World.cell? at h
    rw [e, hL] at h
    simp at h
  · unfold World.cell? at h ⊢
    rw [World.putObj_heap_other e]; exact h
theorem Bs.put {W : World} {L : Nat} {r : Loop} {o : Obj} (hL : W.heap[L]? = some (.loop r)) {v : Value} {l : List Int} (h : Bs W v l) : Bs (W.putObj L o) v l := by
  obtain ⟨⟨h0, ao, c, h1, h2, h3, h4⟩, hb⟩ := h
  refine ⟨⟨h0, ao, c, h1, h2, h3, fun hn => ?_⟩, hb⟩
  obtain ⟨g, o', e, hr⟩ := h4 hn
  exact ⟨g, o', e, fun j u hj => cell_put hL (hr j u hj)⟩
theorem zip1 (p : Tmp) (T : Array Value) (v : Value) : ((#[p] : Array Tmp).zip #[v]).foldl (fun tmps (t, a) => tmps.setIfInBounds t a) T = T.setIfInBounds p v := by
  rw [← Array.foldl_toList, Array.toList_zip]; rfl
theorem check_any {w : World} {l : Lg} {rv : Value} (h : LgIn w rv l) : Calls Try.prog 27 #[.agg (lgc l rv)] w fun e w' => ChkP l w e w' := by
  refine calls_of_wpB Try.func27 rfl ?_
  simp only [Try.ntmps27, List.size_toArray, List.length_cons, List.length_nil, Nat.reduceAdd, Nat.reduceSub, Array.replicate_succ, Array.replicate_zero, List.push_toArray, List.append_toArray, List.nil_append, List.cons_append]
  have HP : Hid (∀ W, Below w.heap.size w W → chk l = false → ChkP l w (.panicked (chain 260)) W) := Lib.hid (fun W h1 h2 => ⟨h1, .inr ⟨h2, rfl⟩⟩)
  have HY : Hid (∀ W, Below w.heap.size w W → chk l = true → ChkP l w (.returned (.tuple #[])) W) := Lib.hid (fun W h1 h2 => ⟨h1, .inl ⟨h2, rfl⟩⟩)
  have H0 := Lib.hid h
  have HB0 : Hid (Below w.heap.size w (w.alloc (.cells (lgc l rv) 26))) := Lib.hid (bel1 w _)
  have HL0 : Hid (Lbx (w.alloc (.cells (lgc l rv) 26)) w.heap.size l rv) := Lib.hid ⟨blk_new w _ _, h.below (bel1 w _)⟩
  have HK : Hid (chk l = (headOk l.fr l.se l.mo && (l.wh || decide (l.en = 0)) && goOk (rsGo 0 false (rws l)) l.wh)) := Lib.hid rfl
  clear h
  obtain ⟨fr, se, mo, rs, wh, en⟩ := l
  simp only at HK
  refine wpB_seq (wpB_of_wp ?_)
  simp only [lgc] at HB0 HL0 ⊢
  go_wp2_with fail
  obtain ⟨R, hR⟩ : ∃ R, w.heap.size = R := ⟨_, rfl⟩
  rw [hR]
  generalize w.alloc (.cells #[.int .i64 fr, .int .i64 se, .int .i64 mo, rv, .bool wh, .int .i64 en] 26) = W0 at *
  rw [hR] at HL0
  replace hR := Lib.hid hR
  refine wpB_seq (wpB_of_wp ?_)
  obtain ⟨c0, c1, c2, c3, c4, c5⟩ := HL0.out.cells
  simp only at c0 c1 c2 c3 c4 c5
  go_wp2_with fail
  refine (mayBegin_any (l := ⟨fr, se, mo, rs, wh, en⟩) (rv := rv)).mono ?_
  rintro e W1 ⟨rfl, b1⟩
  have HB1 := Lib.hid (belT HB0.out b1)
  have HL1 := Lib.hid (HL0.out.below b1)
  clear b1 HB0 HL0 c0 c1 c2 c3 c4 c5
  simp only
  generalize headOk fr se mo = d1 at *
  cases d1
  · go_wp2_with fail
    refine (must_no 260 _).mono ?_
    rintro e W2 ⟨rfl, rfl⟩
    go_wp2
    exact leavesM_panic (HP.out _ HB1.out HK.out)
  go_wp2_with fail
  refine (must_yes 260 _).mono ?_
  rintro e W2 ⟨rfl, rfl⟩
  obtain ⟨c0, c1, c2, c3, c4, c5⟩ := HL1.out.cells
  simp only at c0 c1 c2 c3 c4 c5
  go_wp2_with fail
  refine wpB_seq (wpB_of_wp ?_)
  cases wh
  · obtain ⟨d2, HD⟩ : ∃ d, Hid (d = decide (en = 0)) := ⟨_, Lib.hid rfl⟩
    have hen : (en == 0) = d2 := by rw [HD.out]; rfl
    rw [← HD.out] at HK
    cases d2
    · go_wp2_with fail
      refine (must_no 260 _).mono ?_
      rintro e W2 ⟨rfl, rfl⟩
      go_wp2
      exact leavesM_panic (HP.out _ HB1.out HK.out)
    · go_wp2_with fail
      refine (must_yes 260 _).mono ?_
      rintro e W2 ⟨rfl, rfl⟩
      go_wp2_with fail
      clear c0 c1 c2 c3 c4 c5
      refine wpB_seq (wpB_of_wp ?_)
      go_wp2_with fail
      refine (shapes_any _).mono ?_
      rintro e W2 ⟨b, rfl, hsh, b2, hbl⟩
      have HB2 := Lib.hid (belT HB1.out b2)
      have HL2 := Lib.hid (HL1.out.below b2)
      have HS2 := Lib.hid hsh
      clear b2 HB1 HL1 hsh hbl
      go_wp2_with fail
      have HO3 : Hid (Ord (W2.alloc (.cells #[.map (some b), .int .i64 0, .bool false] 72)) W2.heap.size b 0 false) := Lib.hid ⟨blk_new _ _ _, Turned.map (Turned.of_below (bel1 W2 _) (fun _ => False)) HS2.out (fun e => e)⟩
      have HB3 := Lib.hid (belT HB2.out (bel1 W2 (.cells #[.map (some b), .int .i64 0, .bool false] 72)))
      have HL3 := Lib.hid (HL2.out.below (bel1 W2 (.cells #[.map (some b), .int .i64 0, .bool false] 72)))
      obtain ⟨O, hO⟩ : ∃ O, W2.heap.size = O := ⟨_, rfl⟩
      have hRO : R < O := by rw [← hO]; exact HL2.out.b.lt
      have hwO : w.heap.size ≤ O := by rw [← hO]; exact HB2.out.size
      rw [hO] at HO3 ⊢
      generalize W2.alloc (.cells #[.map (some b), .int .i64 0, .bool false] 72) = W3 at *
      clear HS2 HB2 HL2 hO
      refine wpB_seq (wpB_seq (wpB_of_wp ?_))
      obtain ⟨c0, c1, c2, c3, c4, c5⟩ := HL3.out.cells
      simp only at c0 c1 c2 c3 c4 c5
      go_wp2_with fail
      refine (rows_any (l := ⟨fr, se, mo, rs, false, en⟩) (rv := rv)).mono ?_
      rintro e W4 ⟨rfl, rfl⟩
      have bw := bel1 W3 (.cells (lgc ⟨fr, se, mo, rs, false, en⟩ rv) 26)
      have HI0 : Hid (Lbx (W3.alloc (.cells (lgc ⟨fr, se, mo, rs, false, en⟩ rv) 26)) W3.heap.size ⟨fr, se, mo, rs, false, en⟩ rv) := Lib.hid ⟨blk_new _ _ _, HL3.out.i.below bw⟩
      have HB4 := Lib.hid (belT HB3.out bw)
      have HO4 := Lib.hid (HO3.out.below bw)
      have hOR : O < W3.heap.size := HO3.out.1.lt
      have HL4 := Lib.hid (HL3.out.below bw)
      clear HL3
      obtain ⟨R2, hR2⟩ : ∃ R, W3.heap.size = R := ⟨_, rfl⟩
      rw [hR2] at HI0 hOR ⊢
      generalize W3.alloc (.cells (lgc ⟨fr, se, mo, rs, false, en⟩ rv) 26) = W4 at *
      clear bw HB3 HO3 c0 c1 c2 c3 c4 c5 hR2
      go_wp2_with fail
      refine wpB_block (wpB_range rfl (fun _ _ => rfl) ?_)
      intro D L r0 W5 hD hL hr0 hW5
      subst hL
      have hfn := congrArg Loop.fn hr0
      have hst := congrArg Loop.state hr0
      have hpe := congrArg Loop.pending hr0
      have htm := congrArg Loop.tmps hr0
      have hpa := congrArg Loop.params hr0
      have has := congrArg Loop.assign hr0
      have hbd := congrArg Loop.body hr0
      dsimp only at hfn hst hpe htm hpa has hbd
      clear hr0
      have bw4 := bel1 W4 (.deferred (some []))
      have bw5 := belT bw4 (bel1 (W4.alloc (.deferred (some []))) (.loop r0))
      have HI : Hid (ChI w R R2 O b (D + 1) D r0 ⟨fr, se, mo, rs, false, en⟩ rv [] W5) := by
        rw [hW5]
        refine Lib.hid ⟨belT HB4.out bw5, HL4.out.below bw5, HI0.out.below bw5, ⟨0, false, HO4.out.below bw5, rfl⟩, ?_, ?_⟩
        · rw [hD]
          have := World.alloc_heap_new (W4.alloc (.deferred (some []))) (.loop r0)
          rw [World.size_alloc] at this
          exact this
        · rw [hD]; exact (Below.heap_alloc _ _ _ (by simp)).trans (World.alloc_heap_new W4 _)
      have hz4 : W4.heap.size ≤ D := by omega
      have hR4 : R < W4.heap.size := HL4.out.b.lt
      have hR24 : R2 < W4.heap.size := HI0.out.b.lt
      have hO4 : O < W4.heap.size := HO4.out.1.lt
      have hb4 : b < W4.heap.size := HO4.out.2.lt
      have hbO : b ≠ O := HO4.out.ne
      have hwD : w.heap.size ≤ D := by have := HB4.out.size; omega
      clear bw4 bw5 hW5 hD HB4 HL4 HI0 HO4
      refine CallsIn.mono (rows1_any (l := ⟨fr, se, mo, rs, false, en⟩) (rv := rv) (ChI w R R2 O b (D + 1) D r0 ⟨fr, se, mo, rs, false, en⟩ rv) (fun ch W => ch = chain 260 ∧ chk ⟨fr, se, mo, rs, false, en⟩ = false ∧ Below w.heap.size w W ∧ W.heap[D]? = some (.deferred (some []))) (fun pre W h => ⟨h.m.b, h.m.i.r⟩) (fun pre W W' h hb => h.below hb) ?_ HI.out) ?_
      · intro m pre r rest bv W6 hrw hJ hbs
        obtain ⟨a, e, ho, hg⟩ := hJ.o
        have hki := rws_i64 H0.out hrw
        refine round_yield ⟨_, by rw [hfn]; exact Try.func27⟩ hJ.lp hst hpe (by rw [hpa]; rfl) ?_
        rw [has, hbd, hpa, htm]
        clear hfn hst hpe htm hpa has hbd
        rw [zip1]
        simp only [List.setIfInBounds_toArray, List.set_cons_zero, List.set_cons_succ]
        obtain ⟨bo, bc, rfl, _, _⟩ := hbs.shape
        obtain ⟨t, k, n, bs⟩ := r
        simp only [rcl]
        gi_wp2_with fail
        have hl6 := heap_below hJ.lp (bel1 W6 (.cells #[.int .i64 t, .int .i64 k, .int .i64 n, .slice bo bs.length bc] 42))
        refine ⟨hl6, ?_⟩
        have hJ7 := hJ.below (bel1 W6 (.cells #[.int .i64 t, .int .i64 k, .int .i64 n, .slice bo bs.length bc] 42))
        have hlt := (Array.getElem?_eq_some_iff.1 hJ.lp).1
        have ht7 := turned_putObj (W6.alloc (.cells #[.int .i64 t, .int .i64 k, .int .i64 n, .slice bo bs.length bc] 42)) (D + 1) (.loop (busy r0))
        have hk7 := (blk_new W6 #[.int .i64 t, .int .i64 k, .int .i64 n, .slice bo bs.length bc] 42).turned ht7 (by omega)
        have HB7 := Lib.hid ((hbs.below (bel1 W6 (.cells #[.int .i64 t, .int .i64 k, .int .i64 n, .slice bo bs.length bc] 42))).put hl6 (o := .loop (busy r0)))
        have HO7 := Lib.hid ((ho.below (bel1 W6 (.cells #[.int .i64 t, .int .i64 k, .int .i64 n, .slice bo bs.length bc] 42))).turned ht7 (by omega) (by omega))
        have hb7 : Below w.heap.size w ((W6.alloc (.cells #[.int .i64 t, .int .i64 k, .int .i64 n, .slice bo bs.length bc] 42)).putObj (D + 1) (.loop (busy r0))) := hJ7.u.trans (ht7.below hJ7.u.size (fun k hk => by omega))
        have hx7 := hJ7.x.turned H0.out hJ7.u ht7 (by omega) (fun k hk => by omega)
        have hm7 := hJ7.m.turned H0.out hJ7.u ht7 (by omega) (fun k hk => by omega)
        have hd7 := heap_turned hJ7.df ht7 (by omega)
        have hp7 : ((W6.alloc (.cells #[.int .i64 t, .int .i64 k, .int .i64 n, .slice bo bs.length bc] 42)).putObj (D + 1) (.loop (busy r0))).heap[D + 1]? = some (.loop (busy r0)) := World.putObj_heap_same (by simp; omega)
        have HJ7 := Lib.hid (And.intro hb7 (And.intro hx7 (And.intro hm7 (And.intro hd7 hp7))))
        have HG := Lib.hid (And.intro hg hrw)
        have HKi := Lib.hid hki
        obtain ⟨R6, hR6⟩ : ∃ R, W6.heap.size = R := ⟨_, rfl⟩
        rw [hR6] at hk7 ⊢
        generalize (W6.alloc (.cells #[.int .i64 t, .int .i64 k, .int .i64 n, .slice bo bs.length bc] 42)).putObj (D + 1) (.loop (busy r0)) = W7 at *
        obtain ⟨y0, y1, y2, y3⟩ : W7.cell? ⟨R6, 0, none⟩ = some (.int .i64 t) ∧ W7.cell? ⟨R6, 1, none⟩ = some (.int .i64 k) ∧ W7.cell? ⟨R6, 2, none⟩ = some (.int .i64 n) ∧ W7.cell? ⟨R6, 3, none⟩ = some (.slice bo bs.length bc) := ⟨hk7.cell 0, hk7.cell 1, hk7.cell 2, hk7.cell 3⟩
        clear hl6 hJ7 hlt ht7 hk7 hb7 hx7 hm7 hd7 hp7 hg hrw hki hbs ho hJ hR6
        gi_wp2_with fail
        refine ⟨trivial, fun hd => (by cases hd), (CallsIn.inRound _ (callsIn_wide.2 (next_any (r := ⟨t, k, n, bs⟩) HO7.out HB7.out HKi.out))).mono ?_⟩
        rintro e W8 ⟨ht8, (⟨hn, rfl, ho8⟩ | ⟨hn, rfl⟩)⟩
        · obtain ⟨hb7, hx7, hm7, hd7, hp7⟩ := HJ7.out
          have hb8 := hb7.trans (ht8.below hb7.size (fun k hk => by omega))
          have hx8 := hx7.turned H0.out hb7 ht8 (by omega) (fun k hk => by omega)
          have hm8 := hm7.turned H0.out hb7 ht8 (by omega) (fun k hk => by omega)
          have hd8 := heap_turned hd7 ht8 (by omega)
          have hp8 := heap_turned hp7 ht8 (by omega)
          have ht9 := turned_putObj W8 (D + 1) (.loop r0)
          have HE : Hid (W8.heap[D + 1]? = some (.loop (busy r0)) ∧ ChI w R R2 O b (D + 1) D r0 ⟨fr, se, mo, rs, false, en⟩ rv (pre ++ [⟨t, k, n, bs⟩]) (W8.putObj (D + 1) (.loop r0))) := by
            refine Lib.hid ⟨hp8, hb8.trans (ht9.below hb8.size (fun k hk => by omega)), hx8.turned H0.out hb8 ht9 (by omega) (fun k hk => by omega), hm8.turned H0.out hb8 ht9 (by omega) (fun k hk => by omega), ⟨t, decide (k = 8), ho8.turned ht9 (by omega) (by omega), ?_⟩, World.putObj_heap_same (Array.getElem?_eq_some_iff.1 hp8).1, heap_turned hd8 ht9 (by omega)⟩
            rw [rsGo_snoc, HG.out.1]
            simp only [hn, if_true]
          clear hb7 hx7 hm7 hd7 hp7 hb8 hx8 hm8 hd8 hp8 ht9 ht8 hn ho8 y0 y1 y2 y3 HJ7 HO7 HB7
          gi_wp2
          exact ⟨HE.out.1, .inl ⟨rfl, HE.out.2⟩⟩
        · obtain ⟨hb7, hx7, hm7, hd7, hp7⟩ := HJ7.out
          have HE : Hid (chk ⟨fr, se, mo, rs, false, en⟩ = false ∧ Below w.heap.size w W8 ∧ W8.heap[D]? = some (.deferred (some []))) := by
            refine Lib.hid ⟨?_, hb7.trans (ht8.below hb7.size (fun k hk => by omega)), heap_turned hd7 ht8 (by omega)⟩
            rw [HK.out]
            have : rsGo 0 false (rws ⟨fr, se, mo, rs, false, en⟩) = none := by
              rw [HG.out.2, show pre ++ (⟨t, k, n, bs⟩ : Rc) :: rest = (pre ++ [⟨t, k, n, bs⟩]) ++ rest by simp]
              refine rsGo_none _ _ _ _ ?_
              rw [rsGo_snoc, HG.out.1]
              simp only [hn]; rfl
            rw [this]
            simp [goOk]
          clear hb7 hx7 hm7 hd7 hp7 ht8 hn y0 y1 y2 y3 HJ7 HO7 HB7
          gi_wp2
          exact ⟨rfl, .inr ⟨_, rfl, rfl, HE.out⟩⟩
      · clear hfn hst hpe htm hpa has hbd
        rintro e W6 (⟨v, rfl, hJ⟩ | ⟨ch, rfl, rfl, hc, hb, hd⟩)
        · refine ⟨hJ.lp, .inl rfl, wpB_of_wp ?_⟩
          have ht7 := turned_putObj W6 (D + 1) (.loop { r0 with state := .exhausted })
          obtain ⟨a, e, ho, hg⟩ := hJ.o
          have HB7 := Lib.hid (hJ.u.trans (ht7.below hJ.u.size (fun k hk => by omega)))
          have hx7 := hJ.x.turned H0.out hJ.u ht7 (by omega) (fun k hk => by omega)
          have HD7 := Lib.hid (heap_turned hJ.df ht7 (by omega))
          have ho7 := ho.turned ht7 (by omega) (by omega)
          have HG : Hid (chk ⟨fr, se, mo, rs, false, en⟩ = (e == false)) := by rw [HK.out, hg]; exact Lib.hid (by simp [goOk])
          generalize W6.putObj (D + 1) (.loop { r0 with state := .exhausted }) = W7 at *
          obtain ⟨c0, c1, c2, c3, c4, c5⟩ := hx7.cells
          obtain ⟨q0, q1, q2⟩ := ho7.cells
          simp only at c4
          have HF : Hid (∀ (T : Array Value) c, c = chk ⟨fr, se, mo, rs, false, en⟩ → (c = true → LeavesInM Fence.wide 0 Try.prog Try.f27 T (fun e w' => ChkP ⟨fr, se, mo, rs, false, en⟩ w e w') [] .returning (W7.putObj D (.deferred none))) ∧ (c = false → LeavesInM Fence.wide 0 Try.prog Try.f27 T (fun e w' => ChkP ⟨fr, se, mo, rs, false, en⟩ w e w') [] (.panicking (chain 260)) (W7.putObj D (.deferred none)))) := by
            have hb8 := HB7.out.trans ((turned_putObj W7 D (.deferred none)).below HB7.out.size (fun k hk => by omega))
            exact Lib.hid (fun T c hc => ⟨fun h => leavesM_ret (results_none rfl _ _ _) (HY.out _ hb8 (by rw [← hc, h])), fun h => leavesM_panic (HP.out _ hb8 (by rw [← hc, h]))⟩)
          clear hx7 ho7 ho hg hJ ht7 c0 c1 c2 c3 c5 q0 q1
          cases e
          · have HF2 := Lib.hid (fun T => HF.out T _ HG.out.symm)
            clear HF HG
            go_wp2_with fail
            first
              | (refine (must_yes 260 _).mono ?_
                 rintro e W8 ⟨rfl, rfl⟩
                 go_wp2
                 exact leavesM_mark HD7.out (by simp) ((HF2.out _).1 rfl))
              | (refine (must_no 260 _).mono ?_
                 rintro e W8 ⟨rfl, rfl⟩
                 go_wp2
                 exact leavesM_mark HD7.out (by simp) ((HF2.out _).2 rfl))
          · have HF2 := Lib.hid (fun T => HF.out T _ HG.out.symm)
            clear HF HG
            go_wp2_with fail
            first
              | (refine (must_yes 260 _).mono ?_
                 rintro e W8 ⟨rfl, rfl⟩
                 go_wp2
                 exact leavesM_mark HD7.out (by simp) ((HF2.out _).1 rfl))
              | (refine (must_no 260 _).mono ?_
                 rintro e W8 ⟨rfl, rfl⟩
                 go_wp2
                 exact leavesM_mark HD7.out (by simp) ((HF2.out _).2 rfl))
        · exact ⟨.inr ⟨_, rfl⟩, leavesM_mark hd (by simp) (leavesM_panic (HP.out _ (hb.trans ((turned_putObj W6 D (.deferred none)).below hb.size (fun k hk => by omega))) hc))⟩
  · go_wp2_with fail
    refine (must_yes 260 _).mono ?_
    rintro e W2 ⟨rfl, rfl⟩
    go_wp2_with fail
    clear c0 c1 c2 c3 c4 c5
    refine wpB_seq (wpB_of_wp ?_)
    go_wp2_with fail
    refine (shapes_any _).mono ?_
    rintro e W2 ⟨b, rfl, hsh, b2, hbl⟩
    have HB2 := Lib.hid (belT HB1.out b2)
    have HL2 := Lib.hid (HL1.out.below b2)
    have HS2 := Lib.hid hsh
    clear b2 HB1 HL1 hsh hbl
    go_wp2_with fail
    have HO3 : Hid (Ord (W2.alloc (.cells #[.map (some b), .int .i64 0, .bool false] 72)) W2.heap.size b 0 false) := Lib.hid ⟨blk_new _ _ _, Turned.map (Turned.of_below (bel1 W2 _) (fun _ => False)) HS2.out (fun e => e)⟩
    have HB3 := Lib.hid (belT HB2.out (bel1 W2 (.cells #[.map (some b), .int .i64 0, .bool false] 72)))
    have HL3 := Lib.hid (HL2.out.below (bel1 W2 (.cells #[.map (some b), .int .i64 0, .bool false] 72)))
    obtain ⟨O, hO⟩ : ∃ O, W2.heap.size = O := ⟨_, rfl⟩
    have hRO : R < O := by rw [← hO]; exact HL2.out.b.lt
    have hwO : w.heap.size ≤ O := by rw [← hO]; exact HB2.out.size
    rw [hO] at HO3 ⊢
    generalize W2.alloc (.cells #[.map (some b), .int .i64 0, .bool false] 72) = W3 at *
    clear HS2 HB2 HL2 hO
    refine wpB_seq (wpB_seq (wpB_of_wp ?_))
    obtain ⟨c0, c1, c2, c3, c4, c5⟩ := HL3.out.cells
    simp only at c0 c1 c2 c3 c4 c5
    go_wp2_with fail
    refine (rows_any (l := ⟨fr, se, mo, rs, true, en⟩) (rv := rv)).mono ?_
    rintro e W4 ⟨rfl, rfl⟩
    have bw := bel1 W3 (.cells (lgc ⟨fr, se, mo, rs, true, en⟩ rv) 26)
    have HI0 : Hid (Lbx (W3.alloc (.cells (lgc ⟨fr, se, mo, rs, true, en⟩ rv) 26)) W3.heap.size ⟨fr, se, mo, rs, true, en⟩ rv) := Lib.hid ⟨blk_new _ _ _, HL3.out.i.below bw⟩
    have HB4 := Lib.hid (belT HB3.out bw)
    have HO4 := Lib.hid (HO3.out.below bw)
    have hOR : O < W3.heap.size := HO3.out.1.lt
    have HL4 := Lib.hid (HL3.out.below bw)
    clear HL3
    obtain ⟨R2, hR2⟩ : ∃ R, W3.heap.size = R := ⟨_, rfl⟩
    rw [hR2] at HI0 hOR ⊢
    generalize W3.alloc (.cells (lgc ⟨fr, se, mo, rs, true, en⟩ rv) 26) = W4 at *
    clear bw HB3 HO3 c0 c1 c2 c3 c4 c5 hR2
    go_wp2_with fail
    refine wpB_block (wpB_range rfl (fun _ _ => rfl) ?_)
    intro D L r0 W5 hD hL hr0 hW5
    subst hL
    have hfn := congrArg Loop.fn hr0
    have hst := congrArg Loop.state hr0
    have hpe := congrArg Loop.pending hr0
    have htm := congrArg Loop.tmps hr0
    have hpa := congrArg Loop.params hr0
    have has := congrArg Loop.assign hr0
    have hbd := congrArg Loop.body hr0
    dsimp only at hfn hst hpe htm hpa has hbd
    clear hr0
    have bw4 := bel1 W4 (.deferred (some []))
    have bw5 := belT bw4 (bel1 (W4.alloc (.deferred (some []))) (.loop r0))
    have HI : Hid (ChI w R R2 O b (D + 1) D r0 ⟨fr, se, mo, rs, true, en⟩ rv [] W5) := by
      rw [hW5]
      refine Lib.hid ⟨belT HB4.out bw5, HL4.out.below bw5, HI0.out.below bw5, ⟨0, false, HO4.out.below bw5, rfl⟩, ?_, ?_⟩
      · rw [hD]
        have := World.alloc_heap_new (W4.alloc (.deferred (some []))) (.loop r0)
        rw [World.size_alloc] at this
        exact this
      · rw [hD]; exact (Below.heap_alloc _ _ _ (by simp)).trans (World.alloc_heap_new W4 _)
    have hz4 : W4.heap.size ≤ D := by omega
    have hR4 : R < W4.heap.size := HL4.out.b.lt
    have hR24 : R2 < W4.heap.size := HI0.out.b.lt
    have hO4 : O < W4.heap.size := HO4.out.1.lt
    have hb4 : b < W4.heap.size := HO4.out.2.lt
    have hbO : b ≠ O := HO4.out.ne
    have hwD : w.heap.size ≤ D := by have := HB4.out.size; omega
    clear bw4 bw5 hW5 hD HB4 HL4 HI0 HO4
    refine CallsIn.mono (rows1_any (l := ⟨fr, se, mo, rs, true, en⟩) (rv := rv) (ChI w R R2 O b (D + 1) D r0 ⟨fr, se, mo, rs, true, en⟩ rv) (fun ch W => ch = chain 260 ∧ chk ⟨fr, se, mo, rs, true, en⟩ = false ∧ Below w.heap.size w W ∧ W.heap[D]? = some (.deferred (some []))) (fun pre W h => ⟨h.m.b, h.m.i.r⟩) (fun pre W W' h hb => h.below hb) ?_ HI.out) ?_
    · intro m pre r rest bv W6 hrw hJ hbs
      obtain ⟨a, e, ho, hg⟩ := hJ.o
      have hki := rws_i64 H0.out hrw
      refine round_yield ⟨_, by rw [hfn]; exact Try.func27⟩ hJ.lp hst hpe (by rw [hpa]; rfl) ?_
      rw [has, hbd, hpa, htm]
      clear hfn hst hpe htm hpa has hbd
      rw [zip1]
      simp only [List.setIfInBounds_toArray, List.set_cons_zero, List.set_cons_succ]
      obtain ⟨bo, bc, rfl, _, _⟩ := hbs.shape
      obtain ⟨t, k, n, bs⟩ := r
      simp only [rcl]
      gi_wp2_with fail
      have hl6 := heap_below hJ.lp (bel1 W6 (.cells #[.int .i64 t, .int .i64 k, .int .i64 n, .slice bo bs.length bc] 42))
      refine ⟨hl6, ?_⟩
      have hJ7 := hJ.below (bel1 W6 (.cells #[.int .i64 t, .int .i64 k, .int .i64 n, .slice bo bs.length bc] 42))
      have hlt := (Array.getElem?_eq_some_iff.1 hJ.lp).1
      have ht7 := turned_putObj (W6.alloc (.cells #[.int .i64 t, .int .i64 k, .int .i64 n, .slice bo bs.length bc] 42)) (D + 1) (.loop (busy r0))
      have hk7 := (blk_new W6 #[.int .i64 t, .int .i64 k, .int .i64 n, .slice bo bs.length bc] 42).turned ht7 (by omega)
      have HB7 := Lib.hid ((hbs.below (bel1 W6 (.cells #[.int .i64 t, .int .i64 k, .int .i64 n, .slice bo bs.length bc] 42))).put hl6 (o := .loop (busy r0)))
      have HO7 := Lib.hid ((ho.below (bel1 W6 (.cells #[.int .i64 t, .int .i64 k, .int .i64 n, .slice bo bs.length bc] 42))).turned ht7 (by omega) (by omega))
      have hb7 : Below w.heap.size w ((W6.alloc (.cells #[.int .i64 t, .int .i64 k, .int .i64 n, .slice bo bs.length bc] 42)).putObj (D + 1) (.loop (busy r0))) := hJ7.u.trans (ht7.below hJ7.u.size (fun k hk => by omega))
      have hx7 := hJ7.x.turned H0.out hJ7.u ht7 (by omega) (fun k hk => by omega)
      have hm7 := hJ7.m.turned H0.out hJ7.u ht7 (by omega) (fun k hk => by omega)
      have hd7 := heap_turned hJ7.df ht7 (by omega)
      have hp7 : ((W6.alloc (.cells #[.int .i64 t, .int .i64 k, .int .i64 n, .slice bo bs.length bc] 42)).putObj (D + 1) (.loop (busy r0))).heap[D + 1]? = some (.loop (busy r0)) := World.putObj_heap_same (by simp; omega)
      have HJ7 := Lib.hid (And.intro hb7 (And.intro hx7 (And.intro hm7 (And.intro hd7 hp7))))
      have HG := Lib.hid (And.intro hg hrw)
      have HKi := Lib.hid hki
      obtain ⟨R6, hR6⟩ : ∃ R, W6.heap.size = R := ⟨_, rfl⟩
      rw [hR6] at hk7 ⊢
      generalize (W6.alloc (.cells #[.int .i64 t, .int .i64 k, .int .i64 n, .slice bo bs.length bc] 42)).putObj (D + 1) (.loop (busy r0)) = W7 at *
      obtain ⟨y0, y1, y2, y3⟩ : W7.cell? ⟨R6, 0, none⟩ = some (.int .i64 t) ∧ W7.cell? ⟨R6, 1, none⟩ = some (.int .i64 k) ∧ W7.cell? ⟨R6, 2, none⟩ = some (.int .i64 n) ∧ W7.cell? ⟨R6, 3, none⟩ = some (.slice bo bs.length bc) := ⟨hk7.cell 0, hk7.cell 1, hk7.cell 2, hk7.cell 3⟩
      clear hl6 hJ7 hlt ht7 hk7 hb7 hx7 hm7 hd7 hp7 hg hrw hki hbs ho hJ hR6
      gi_wp2_with fail
      refine ⟨trivial, fun hd => (by cases hd), (CallsIn.inRound _ (callsIn_wide.2 (next_any (r := ⟨t, k, n, bs⟩) HO7.out HB7.out HKi.out))).mono ?_⟩
      rintro e W8 ⟨ht8, (⟨hn, rfl, ho8⟩ | ⟨hn, rfl⟩)⟩
      · obtain ⟨hb7, hx7, hm7, hd7, hp7⟩ := HJ7.out
        have hb8 := hb7.trans (ht8.below hb7.size (fun k hk => by omega))
        have hx8 := hx7.turned H0.out hb7 ht8 (by omega) (fun k hk => by omega)
        have hm8 := hm7.turned H0.out hb7 ht8 (by omega) (fun k hk => by omega)
        have hd8 := heap_turned hd7 ht8 (by omega)
        have hp8 := heap_turned hp7 ht8 (by omega)
        have ht9 := turned_putObj W8 (D + 1) (.loop r0)
        have HE : Hid (W8.heap[D + 1]? = some (.loop (busy r0)) ∧ ChI w R R2 O b (D + 1) D r0 ⟨fr, se, mo, rs, true, en⟩ rv (pre ++ [⟨t, k, n, bs⟩]) (W8.putObj (D + 1) (.loop r0))) := by
          refine Lib.hid ⟨hp8, hb8.trans (ht9.below hb8.size (fun k hk => by omega)), hx8.turned H0.out hb8 ht9 (by omega) (fun k hk => by omega), hm8.turned H0.out hb8 ht9 (by omega) (fun k hk => by omega), ⟨t, decide (k = 8), ho8.turned ht9 (by omega) (by omega), ?_⟩, World.putObj_heap_same (Array.getElem?_eq_some_iff.1 hp8).1, heap_turned hd8 ht9 (by omega)⟩
          rw [rsGo_snoc, HG.out.1]
          simp only [hn, if_true]
        clear hb7 hx7 hm7 hd7 hp7 hb8 hx8 hm8 hd8 hp8 ht9 ht8 hn ho8 y0 y1 y2 y3 HJ7 HO7 HB7
        gi_wp2
        exact ⟨HE.out.1, .inl ⟨rfl, HE.out.2⟩⟩
      · obtain ⟨hb7, hx7, hm7, hd7, hp7⟩ := HJ7.out
        have HE : Hid (chk ⟨fr, se, mo, rs, true, en⟩ = false ∧ Below w.heap.size w W8 ∧ W8.heap[D]? = some (.deferred (some []))) := by
          refine Lib.hid ⟨?_, hb7.trans (ht8.below hb7.size (fun k hk => by omega)), heap_turned hd7 ht8 (by omega)⟩
          rw [HK.out]
          have : rsGo 0 false (rws ⟨fr, se, mo, rs, true, en⟩) = none := by
            rw [HG.out.2, show pre ++ (⟨t, k, n, bs⟩ : Rc) :: rest = (pre ++ [⟨t, k, n, bs⟩]) ++ rest by simp]
            refine rsGo_none _ _ _ _ ?_
            rw [rsGo_snoc, HG.out.1]
            simp only [hn]; rfl
          rw [this]
          simp [goOk]
        clear hb7 hx7 hm7 hd7 hp7 ht8 hn y0 y1 y2 y3 HJ7 HO7 HB7
        gi_wp2
        exact ⟨rfl, .inr ⟨_, rfl, rfl, HE.out⟩⟩
    · clear hfn hst hpe htm hpa has hbd
      rintro e W6 (⟨v, rfl, hJ⟩ | ⟨ch, rfl, rfl, hc, hb, hd⟩)
      · refine ⟨hJ.lp, .inl rfl, wpB_of_wp ?_⟩
        have ht7 := turned_putObj W6 (D + 1) (.loop { r0 with state := .exhausted })
        obtain ⟨a, e, ho, hg⟩ := hJ.o
        have HB7 := Lib.hid (hJ.u.trans (ht7.below hJ.u.size (fun k hk => by omega)))
        have hx7 := hJ.x.turned H0.out hJ.u ht7 (by omega) (fun k hk => by omega)
        have HD7 := Lib.hid (heap_turned hJ.df ht7 (by omega))
        have ho7 := ho.turned ht7 (by omega) (by omega)
        have HG : Hid (chk ⟨fr, se, mo, rs, true, en⟩ = (e == true)) := by rw [HK.out, hg]; exact Lib.hid (by simp [goOk])
        generalize W6.putObj (D + 1) (.loop { r0 with state := .exhausted }) = W7 at *
        obtain ⟨c0, c1, c2, c3, c4, c5⟩ := hx7.cells
        obtain ⟨q0, q1, q2⟩ := ho7.cells
        simp only at c4
        have HF : Hid (∀ (T : Array Value) c, c = chk ⟨fr, se, mo, rs, true, en⟩ → (c = true → LeavesInM Fence.wide 0 Try.prog Try.f27 T (fun e w' => ChkP ⟨fr, se, mo, rs, true, en⟩ w e w') [] .returning (W7.putObj D (.deferred none))) ∧ (c = false → LeavesInM Fence.wide 0 Try.prog Try.f27 T (fun e w' => ChkP ⟨fr, se, mo, rs, true, en⟩ w e w') [] (.panicking (chain 260)) (W7.putObj D (.deferred none)))) := by
          have hb8 := HB7.out.trans ((turned_putObj W7 D (.deferred none)).below HB7.out.size (fun k hk => by omega))
          exact Lib.hid (fun T c hc => ⟨fun h => leavesM_ret (results_none rfl _ _ _) (HY.out _ hb8 (by rw [← hc, h])), fun h => leavesM_panic (HP.out _ hb8 (by rw [← hc, h]))⟩)
        clear hx7 ho7 ho hg hJ ht7 c0 c1 c2 c3 c5 q0 q1
        cases e
        · have HF2 := Lib.hid (fun T => HF.out T _ HG.out.symm)
          clear HF HG
          go_wp2_with fail
          first
            | (refine (must_yes 260 _).mono ?_
               rintro e W8 ⟨rfl, rfl⟩
               go_wp2
               exact leavesM_mark HD7.out (by simp) ((HF2.out _).1 rfl))
            | (refine (must_no 260 _).mono ?_
               rintro e W8 ⟨rfl, rfl⟩
               go_wp2
               exact leavesM_mark HD7.out (by simp) ((HF2.out _).2 rfl))
        · have HF2 := Lib.hid (fun T => HF.out T _ HG.out.symm)
          clear HF HG
          go_wp2_with fail
          first
            | (refine (must_yes 260 _).mono ?_
               rintro e W8 ⟨rfl, rfl⟩
               go_wp2
               exact leavesM_mark HD7.out (by simp) ((HF2.out _).1 rfl))
            | (refine (must_no 260 _).mono ?_
               rintro e W8 ⟨rfl, rfl⟩
               go_wp2
               exact leavesM_mark HD7.out (by simp) ((HF2.out _).2 rfl))
      · exact ⟨.inr ⟨_, rfl⟩, leavesM_mark hd (by simp) (leavesM_panic (HP.out _ (hb.trans ((turned_putObj W6 D (.deferred none)).below hb.size (fun k hk => by omega))) hc))⟩
end Go.Proofs.Ytjffclcjijpmiaa.LG
