/-
  Layer 14: Who: a walk.
-/
import Derived.Test.YtiohlmccnllklaaGreatDoorH32
import Derived.Test.YtiohlmccnllklaaGreatDoorH27
import Derived.Test.YtiohlmccnllklaaGreatDoorH28
set_option linter.unusedVariables false
set_option linter.unusedSimpArgs false
namespace Go.Proofs.YtiohlmccnllklaaGreatDoor.Q
open Go.RowKit Go.Shelf
attribute [local go_sem] Oper.semAt_some
set_option maxHeartbeats 8000000
set_option maxRecDepth 100000
set_option linter.unusedVariables false
set_option linter.unusedSimpArgs false

/-- append in the round of a range over a function. -/
theorem wpIn_append_g {F : Fence} {nF : Nat} {P : Program} {sl sl2 e : TypeId} {sz bz : Nat} {z : Value} {ops : Array Oper} {rest : List Oper} {o : Oper} {a : Act} {Q : Exit → Act → World → Prop} {w : World} (hgd : o.guard = none) (s x : Operand)
    (ho : o.op = .call { callee := .builtin .append, args := #[s, x], argTypes := #[sl, sl2] })
    (hu : P.underlying sl = some (.slice e)) (hinf : (P.info? e).map (fun i => (i.zero, i.size, i.bytes)) = some (some z, sz, bz)) (hz : z.cells.size = sz) (hsz : 0 < sz) (hbz : bz ≤ 64)
    {v vx : Value} {n m : Nat} {cs ys : List Value} (hs : a.eval s = v) (hv : a.eval x = vx) (h : Gs e sz w v n cs) (hx : Src P sz sl2 vx m ys w) (hm : n + m ≤ 1000000)
    (hK : ∀ v' w', Gs e sz w' v' (n + m) (cs ++ ys) → Turned (fun k => blkOf v = some k) w w' → (∀ k, blkOf v' = some k → blkOf v = some k ∨ w.heap.size ≤ k) → wpListIn F nF P ops Q rest (a.put o.dst v') w') : wpListIn F nF P ops Q (o :: rest) a w := by
  refine wpListIn_plain hgd fun K hK' => ?_
  obtain ⟨v', w', hrun, r1, r2, r3⟩ := run_append_g hu hinf hz hsz hbz h hx hm o.type
  unfold Oper.wpIn
  refine ⟨by simp [Oper.about, ho, resolve, Target.leads, Sem.run_pure], ?_⟩
  rw [Oper.semAt_plain F _ _ (by rw [ho]; intro c hc'; cases hc')]
  simp [execOp, ho, resolve, invoke, builtin, hs, hv, hrun, Result.andThen]
  exact hK' _ _ (hK v' w' r1 r2 r3)
/-- Whose sets have something of s. -/
def whP (s : Int) (x : T.Pr) : Bool := bits .and .u32 x.2 s != 0
def whoL (s : Int) (ps : List T.Pr) : List T.Pl := (ps.filter (whP s)).map (·.1)
theorem who_len (s : Int) (ps : List T.Pr) : (whoL s ps).length ≤ ps.length := by unfold whoL; rw [List.length_map]; exact List.length_filter_le _ _
theorem who_snoc (s : Int) (pre : List T.Pr) (x : T.Pr) : whoL s (pre ++ [x]) = whoL s pre ++ if whP s x = true then [x.1] else [] := by
  unfold whoL
  rw [List.filter_append, List.map_append]
  congr 1
  by_cases h : whP s x = true <;> simp [h]
theorem pls_src (w : World) (p : T.Pl) : Src Tryz.prog 2 24 (.slice (some ⟨w.heap.size, 0, none⟩) 1 1) 1 (plc p) (w.alloc (.cells #[.int .i64 p.1, .int .i64 p.2] 42)) :=
  (Gs.lit (sz := 2) (n := 1) (cs := (plc p).toArray) w 42 rfl (by decide)).src Tryz.underlying24 (by intro u hu; simp [plc] at hu; rcases hu with rfl | rfl <;> rfl)
/-- A round of Who. -/
structure WhI (w : World) (s : Int) (pre : List T.Pr) (v : Value) (W : World) : Prop where
  b : Below w.heap.size w W
  x : Blk W w.heap.size #[.int .u32 s] 23
  q : Blk W (w.heap.size + 1) #[v] 24
  o : Own W v (whoL s pre)
  lo : ∀ k, blkOf v = some k → w.heap.size ≤ k
theorem WhI.below {w : World} {s : Int} {pre : List T.Pr} {v : Value} {W W' : World} (h : WhI w s pre v W) (hb : Below W.heap.size W W') : WhI w s pre v W' := ⟨belT h.b hb, h.x.below hb, h.q.below hb, h.o.below hb, h.lo⟩
theorem grown_cells {W W' : World} {row : Option Nat} {B : Nat} (hg : W.grownBy W' row) (hr : ∀ r, row = some r → B ≤ r ∧ ∃ o : Obj, W.heap[r]? = some o ∧ o.isCells = false) {k : Nat} {cur : Array Value} {ty : TypeId} (hk : Blk W k cur ty) : W'.heap[k]? = W.heap[k]? :=
  hg.block k hk.lt fun e => by
    obtain ⟨_, o, h1, h2⟩ := hr k e.symm
    unfold Blk at hk
    rw [hk] at h1
    cases h1
    cases h2
theorem WhI.own1 (w : World) (s : Int) (v : Value) {B : Nat} (hB : w.heap.size ≤ B) : OwnFrom B (fun (pre : List T.Pr) W => WhI w s pre v W) := fun pre W W' row h hg hr => by
  refine ⟨h.b.grown hg h.b.size (fun j hj => by have := (hr j hj).1; omega), h.x.keep (grown_cells hg hr h.x), h.q.keep (grown_cells hg hr h.q), ⟨h.o.1.keep fun k hk => ?_, h.o.2⟩, h.lo⟩
  obtain ⟨cur, hc⟩ := h.o.1.in_ hk
  exact grown_cells hg hr hc
theorem WhI.own (w : World) (s : Int) {B : Nat} (hB : w.heap.size ≤ B) : OwnFrom B (fun (pre : List T.Pr) W => ∃ v, WhI w s pre v W) := fun pre W W' row ⟨v, h⟩ hg hr => ⟨v, WhI.own1 w s v hB pre W W' row h hg hr⟩
/-- A place more. -/
theorem WhI.app {w : World} {s : Int} {pre : List T.Pr} {x : T.Pr} {v v' : Value} {W W1 W2 : World} (h : WhI w s pre v W) (hb : Below W.heap.size W W1) (hp : Pi x.1) (hy : whP s x = true)
    (hg : Gs 42 2 W2 v' ((whoL s pre).length + 1) ((whoL s pre).flatMap plc ++ plc x.1)) (ht : Turned (fun k => blkOf v = some k) W1 W2) (hn : ∀ k, blkOf v' = some k → blkOf v = some k ∨ W1.heap.size ≤ k) :
    WhI w s (pre ++ [x]) v' (W2.setCell ⟨w.heap.size + 1, 0, none⟩ v') ∧ KeptBut (fun k => k = w.heap.size + 1) W (W2.setCell ⟨w.heap.size + 1, 0, none⟩ v') ∧ Blk W2 (w.heap.size + 1) #[v] 24 := by
  have h1 := h.below hb
  have hz := h.b.size
  have hz1 := h1.b.size
  have hne : ∀ {k : Nat} {cur : Array Value} {ty : TypeId}, Blk W1 k cur ty → ty ≠ 42 → ¬ blkOf v = some k := fun {k cur ty} hk hty e => by
    obtain ⟨cur', hc⟩ := h1.o.1.in_ e
    unfold Blk at hk hc
    rw [hk] at hc
    simp at hc
    exact hty hc.2
  have hq2 := h1.q.turned ht (hne h1.q (by decide))
  have hx2 := h1.x.turned ht (hne h1.x (by decide))
  have tt := (Turned.refl (fun k => k = w.heap.size + 1) W2).setCell (p := ⟨w.heap.size + 1, 0, none⟩) (.inl rfl) v'
  have hB2 : Below w.heap.size w W2 := h1.b.trans (ht.below h1.b.size h1.lo)
  refine ⟨⟨hB2.trans (tt.below hB2.size (fun k e => by omega)), hx2.turned tt (by omega), hq2.setCell 0 v', ?_, fun k hk => ?_⟩, ?_, hq2⟩
  · rw [who_snoc, if_pos hy]
    refine ⟨?_, fun p hp' => ?_⟩
    · have e : ((whoL s pre ++ [x.1]).flatMap plc) = (whoL s pre).flatMap plc ++ plc x.1 := by simp
      rw [List.length_append, List.length_singleton, e]
      refine hg.keep fun k hk => tt.block k (hg.lt hk) fun e => ?_
      subst e
      obtain ⟨cur, hc⟩ := hg.in_ hk
      unfold Blk at hc hq2
      rw [hq2] at hc
      simp at hc
    · rcases List.mem_append.1 hp' with e | e
      · exact h.o.2 p e
      · rw [List.mem_singleton.1 e]; exact hp
  · rcases hn k hk with e | e
    · exact h.lo k e
    · omega
  · refine ⟨?_, fun k hk hm hpl => ?_⟩
    · have := hb.size; have := ht.size; have := tt.size; omega
    · have e1 : ¬ blkOf v = some k := fun e => by
        obtain ⟨cur, hc⟩ := h.o.1.in_ e
        exact hpl ⟨_, _, hc⟩
      have hk1 : k < W1.heap.size := Nat.lt_of_lt_of_le hk hb.size
      exact ((tt.block k (Nat.lt_of_lt_of_le hk1 ht.size) hm).trans (ht.block k hk1 e1)).trans (hb.block k hk)
theorem may_piW {fr se : Int} {p : T.Pl} (h : Bd fr se) (hm : T.may fr se p = true) : Pi p := by
  obtain ⟨h1, h2⟩ := T.may_iff.1 hm
  have h3 : T.most fr se p.1 ≤ 2147483648 ∧ (0 < T.most fr se p.1 → 1 ≤ p.1 ∧ p.1 ≤ 17) := by
    obtain ⟨⟨a, b⟩, c, d⟩ := h
    unfold T.most
    refine ⟨?_, fun h => ?_⟩
    · repeat' split
      all_goals omega
    · split at h
      · omega
      · omega
  have := h3.2 (by omega)
  exact ⟨⟨by omega, by omega⟩, by omega, by omega⟩
/-- What Who tells. -/
def WhO (w : World) (f : T.Fl) (s : Int) (e : Ending) (w' : World) : Prop := ∃ v, e = .returned (.tuple #[v, .int .i64 (if s < 65536 then 0 else 2)]) ∧ Own w' v (if s < 65536 then whoL s f.ps else []) ∧ Below w.heap.size w w'
theorem Who_any {w : World} {S : Nat} {f : T.Fl} {F : Nat → Prop} (h : At w S f F) {s : Int} (hs : 0 ≤ s ∧ s < 4294967296) (hl : f.ps.length ≤ 800000) : Calls Tryz.prog 10 #[.pointer (some ⟨S, 0, none⟩), .int .u32 s] w fun e w' => WhO w f s e w' := by
  have hb0 := belT (bel1 w (.cells #[.int .u32 s] 23)) (bel1 _ (.cells #[.slice none 0 0] 24))
  have HAt := Lib.hid (fun W (hb : Below w.heap.size w W) => (show At W S f F from h.below hb))
  have HX : Hid (WhI w s [] (.slice none 0 0) ((w.alloc (.cells #[.int .u32 s] 23)).alloc (.cells #[.slice none 0 0] 24))) := Lib.hid ⟨hb0, (blk_new w _ _).alloc _, by have := blk_new (w.alloc (.cells #[.int .u32 s] 23)) #[.slice none 0 0] 24; rw [World.size_alloc] at this; exact this, own_nil _, fun k hk => by simp [blkOf] at hk⟩
  have hok := h.ok
  obtain ⟨hs0, hs1⟩ := hs
  clear h hb0
  refine (callsIn_wide (n := 5)).1 ?_
  refine callsIn_of_wp_marks Tryz.func10 rfl trivial ?_ rfl
  refine wpIn_wide.2 ?_
  simp only [Tryz.ntmps10, List.size_toArray, List.length_cons, List.length_nil, Nat.reduceAdd, Nat.reduceSub, Array.replicate_succ, Array.replicate_zero, List.push_toArray, List.append_toArray, List.nil_append, List.cons_append]
  go_wp2
  refine L2.wp_scope_fwd 0 rfl ?_
  have hdc := Decides_any (HAt.out _ HX.out.b) (v := .slice none 0 0) (ts := []) ⟨[], Rd.nil _ _ _ _, rfl, by simp⟩
  have hd0 : f.decides [] = (0, 0) := rfl
  rw [hd0] at hdc
  go_wp2_with fail
  refine hdc.mono ?_
  rintro e W1 ⟨rfl, hb1⟩
  have H1 := Lib.hid (HX.out.below hb1)
  clear hb1 HX hdc hd0
  have x0 := H1.out.x.cell 0
  simp only [List.getElem?_toArray, List.getElem?_cons_zero] at x0
  by_cases hlt : s < 65536
  · have hq : s / 65536 = 0 := by omega
    go_wp2_with fail
    refine (All_any (HAt.out _ H1.out.b)).mono ?_
    rintro e W2 ⟨v2, rfl, fn, lb, rfl, heg, hgv, hb2⟩
    have H2 := Lib.hid (H1.out.below hb2)
    have hz1 := H1.out.q.lt
    have hz2 := hb2.size
    have hz0 := H1.out.b.size
    have hgv2 := hgv (fun k => k = w.heap.size + 1) (fun k hk => by omega) W2 (Below.refl _ _)
    clear hb2 H1 hgv x0
    go_wp2_with fail
    refine (wpIn_wide (n := 5)).1 (wp_over_a (gf := fn) (lb := lb) rfl heg
      hgv2
      (fun k hk => by omega) (fun _ => rfl)
      (fun pre W => ∃ v, WhI w s pre v W)
      (fun c pre W => False)
      (WhI.own w s (by omega)) (fun c pre A B row hs _ _ => hs) ⟨_, H2.out⟩
      (fun x => .cells #[.int .i64 x.1.1, .int .i64 x.1.2] 42)
      (fun tm x b => (((tm.setIfInBounds 23 (.agg #[.int .i64 x.1.1, .int .i64 x.1.2])).setIfInBounds 24 (.int .u32 x.2)).setIfInBounds 9 (.pointer (some ⟨b, 0, none⟩))).setIfInBounds 10 (.int .u32 x.2))
      ?assign ?body ?done (fun _ _ _ _ _ _ _ hx _ => hx.elim))
    case assign =>
      intro ll mm x W9 K hK
      gi_wp2
      simp only [List.setIfInBounds_toArray, List.set_cons_zero, List.set_cons_succ] at hK
      exact hK
    case body =>
      rintro ll mm pre x rest W b hf ⟨v, hX⟩ hob hb2 hbl
      simp only [List.setIfInBounds_toArray, List.set_cons_zero, List.set_cons_succ]
      have hpx : f.ps[pre.length]? = some x := by rw [hf]; simp
      have hlt2 : pre.length < f.ps.length := (List.getElem?_eq_some_iff.1 hpx).1
      have hpi := may_piW hok.bd (hok.may x (List.mem_of_getElem? hpx))
      have hwl := who_len s pre
      have hbk : Blk W b #[.int .i64 x.1.1, .int .i64 x.1.2] 42 := hob
      obtain ⟨ov, cv, rfl, _, _⟩ := hX.o.1.shape
      have x0 := hX.x.cell 0
      have q0 := hX.q.cell 0
      have y0 := hbk.cell 0
      have y1 := hbk.cell 1
      have f0 := hX.q.frozen 0
      simp only [List.getElem?_toArray, List.getElem?_cons_zero, List.getElem?_cons_succ] at x0 q0 y0 y1
      have HX := Lib.hid hX
      have HPi := Lib.hid hpi
      have hsn := who_snoc s pre x
      have HSn := Lib.hid hsn
      clear hf hX hob hbk hpx hsn hpi
      by_cases hy : whP s x = true
      · have HY := Lib.hid hy
        have hy2 : ¬ bits .and .u32 x.2 s = 0 := by unfold whP at hy; simpa using hy
        clear hy
        gi_wp2_with (refine wpIn_append_g rfl _ _ rfl Tryz.underlying24 infoPl rfl (by omega) (by omega) rfl rfl ((HX.out.o.below (bel1 W (.cells #[.int .i64 x.1.1, .int .i64 x.1.2] 42))).1) (pls_src W x.1) (by omega) ?_; intro v6 w6 hg6 ht6 hn6; obtain ⟨o6, c6, e6, _⟩ := hg6.shape; subst e6; have HA := Lib.hid (HX.out.app (bel1 W (.cells #[.int .i64 x.1.1, .int .i64 x.1.2] 42)) HPi.out HY.out hg6 ht6 hn6); have r0 := HA.out.2.2.cell 0; have f6 := HA.out.2.2.frozen 0; simp only [List.getElem?_toArray, List.getElem?_cons_zero] at r0; clear hg6 ht6 hn6)
        exact ⟨HA.out.2.1, _, HA.out.1⟩
      · have HY := Lib.hid hy
        have hy2 : bits .and .u32 x.2 s = 0 := by unfold whP at hy; simpa using hy
        clear hy
        gi_wp2
        exact ⟨KeptBut.refl _ _, _, HX.out.b, HX.out.x, HX.out.q, by rw [HSn.out, if_neg HY.out, List.append_nil]; exact HX.out.o, HX.out.lo⟩
    case done =>
      rintro D0 W9 hD0 ⟨v, hX⟩ hK
      have HX := Lib.hid hX
      have HK := Lib.hid hK
      have q0 := hX.q.cell 0
      simp only [List.getElem?_toArray, List.getElem?_cons_zero] at q0
      clear hX hK hgv2 heg H2
      go_wp2
      rw [L2.Fwd_ret]
      refine ⟨by simp, .inl ⟨_, _, rfl, run_takeDeferred HK.out, ?_⟩⟩
      have hX9 := (WhI.own1 w s v (B := w.heap.size) (Nat.le_refl _)).putObj (s := f.ps) (.deferred none) HX.out (by omega) HK.out rfl
      refine ⟨.tuple #[v, .int .i64 0], by simp [results, Tryz.results10, go_sem], v, by rw [if_pos hlt], by rw [if_pos hlt]; exact hX9.o, hX9.b⟩
  · have hq : ¬ s / 65536 = 0 := by omega
    go_wp2
    go_step3
    refine ⟨rfl, ?_⟩
    go_wp2
    rw [Exit.noGoto_ret]
    refine ⟨.tuple #[.slice none 0 0, .int .i64 2], by simp [results, Tryz.results10, go_sem], .slice none 0 0, by rw [if_neg (by omega)], by rw [if_neg (by omega)]; exact own_nil _, H1.out.b⟩
end Go.Proofs.YtiohlmccnllklaaGreatDoor.Q
