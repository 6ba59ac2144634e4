/-
  Layer 9: listed of package net, of packets and of their bytes: walks. Written by gen_list.py.
-/
import Derived.Test.YtepimbebodmajaaIter
import Derived.RangeFuncKeeps
import Derived.RangeFuncWrites
namespace Go.Proofs.Ytepimbebodmajaa
open Go.RowKit Go.Shelf
attribute [local go_sem] Oper.semAt_some
set_option maxHeartbeats 4000000
set_option linter.unusedVariables false
set_option linter.unusedSimpArgs false

theorem run_anew (va : Option Addr) (n c : Nat) (f : Int) (W : World) : (invoke (.fn (.methodOf 71 "pomander/net.anew") #[]) #[.agg #[.slice va n c, .int .i64 f]]).run Try.prog W = .ok (.enter 40 #[.slice va n c]) W := by kernel_rfl
/-- A call of the method's expression. -/
theorem o_anew {d : Option Tmp} {op : Oper} {a : Act} {w : World} {K : Act → World → Prop} {Q : Exit → Act → World → Prop} {t x : Operand} {ts : Array TypeId} {va : Option Addr} {n c : Nat} {f : Int} (hd : op.dst = d) (ho : op.op = .call { callee := .value t, args := #[x], argTypes := ts })
    (ht : a.eval t = .func (.methodOf 71 "pomander/net.anew") #[] #[]) (hx : a.eval x = .agg #[.slice va n c, .int .i64 f])
    (h : Calls Try.prog 40 #[.slice va n c] w fun e w' => ∃ v', e = .returned v' ∧ K (a.put d v') w') : op.wp Try.prog a w K Q := by
  subst hd
  have hr := run_anew va n c f w
  have : (execOp a.eval op).run Try.prog w = .ok (.enter 40 #[.slice va n c]) w := by
    unfold execOp
    simp only [ho, resolve, ht, hx, List.map_toArray, List.map_cons, List.map_nil, Array.map]
    simpa [Deferred.ofValue, hx, resolve] using hr
  unfold Oper.wp
  rw [this]
  refine h.mono ?_
  rintro e w' ⟨v', rfl, hk⟩
  exact hk
/-- A row of one slice. -/
theorem sl_src (w : World) (v : Value) (hv : v.oneCell' = true) : Src Try.prog 1 26 (.slice (some ⟨w.heap.size, 0, none⟩) 1 1) 1 [v] (w.alloc (.cells #[v] 32)) := by
  refine Src.ofSlice _ Try.underlying26 _ 1 1 _ rfl (fun j u hj => ?_) (fun u hu => ?_)
  · rw [add_lit, (blk_new w _ _).cell, Nat.zero_add]
    simpa using hj
  · simp at hu
    subst hu; exact hv
theorem keepsFrom_turned {F : Nat → Prop} {W W' : World} (b : Nat) (ht : Turned F W W') (hF : ∀ k, F k → ∃ cs ty, Blk W k cs ty) : KeepsFrom b W W' :=
  ⟨ht.size, fun k o _ hk ho => (ht.block k (Array.getElem?_eq_some_iff.1 hk).1 (fun hf => by
    obtain ⟨cs, ty, hb⟩ := hF k hf
    rw [show W.heap[k]? = _ from hb] at hk
    cases hk; cases ho)).trans hk⟩

/-! ### listB -/
structure LiB (w : World) (pre : List Pk) (v : Value) (bl : List Pk) (W : World) : Prop where
  fb : Blk W w.heap.size #[(.func (.methodOf 71 "pomander/net.anew") #[] #[])] 85
  lb : Blk W (w.heap.size + 1) #[v] 26
  ls : LsIs W v bl
  xs : bl.map Pk.x = pre.map Pk.x
  fs : bl.map Pk.f = pre.map Pk.f
  lo : ∀ k, psB v bl k → w.heap.size + 2 ≤ k
  below : Below w.heap.size w W
theorem LiB.len {w : World} {pre : List Pk} {v : Value} {bl : List Pk} {W : World} (h : LiB w pre v bl W) : bl.length = pre.length := by have := congrArg List.length h.xs; simpa using this
theorem LiB.keep {w : World} {pre : List Pk} {v : Value} {bl : List Pk} {W W' : World} (h : LiB w pre v bl W) (hb : Below w.heap.size w W') (hk : ∀ k cs ty, Blk W k cs ty → W'.heap[k]? = W.heap[k]?) : LiB w pre v bl W' :=
  ⟨h.fb.keep (hk _ _ _ h.fb), h.lb.keep (hk _ _ _ h.lb), h.ls.keep fun k e => by
    rcases e with e | ⟨q, hq, e⟩
    · obtain ⟨cur, hc⟩ := h.ls.g.in_ e; exact hk _ _ _ hc
    · obtain ⟨cur, hc⟩ := (h.ls.q q hq).2.in_ e; exact hk _ _ _ hc, h.xs, h.fs, h.lo, hb⟩
theorem liB_own' (w : World) (v : Value) (bl : List Pk) {B : Nat} (hB : w.heap.size ≤ B) : OwnFrom B (fun (pre : List Pk) W => LiB w pre v bl W) := by
  intro s W W' row hs hg hr
  exact hs.keep (hs.below.grown hg hs.below.size (fun k e => by have := (hr k e).1; omega)) fun k cs ty hk => hg.block _ hk.lt (fun e => by
      obtain ⟨h1, o', h2, h3⟩ := hr _ e.symm
      rw [show W.heap[k]? = _ from hk] at h2; cases h2
      cases h3)
theorem liB_own (w : World) {B : Nat} (hB : w.heap.size ≤ B) : OwnFrom B (fun (pre : List Pk) W => ∃ v bl, LiB w pre v bl W) := by
  intro s W W' row hs hg hr
  obtain ⟨v, bl, hs⟩ := hs
  refine ⟨v, bl, hs.keep (hs.below.grown hg hs.below.size (fun k e => by have := (hr k e).1; omega)) fun k cs ty hk => hg.block _ hk.lt (fun e => by
      obtain ⟨h1, o', h2, h3⟩ := hr _ e.symm
      rw [show W.heap[k]? = _ from hk] at h2; cases h2
      cases h3)⟩
theorem liB_step {w W W2 W3 : World} {pre bl : List Pk} {p : Pk} {v v1 v3 : Value} (h : LiB w pre v bl W) (hb : Below W.heap.size W W2) (hq : Qs W2 v1 p.x) (hlo : ∀ k, blkOf v1 = some k → W.heap.size ≤ k)
    (hg : Gs 32 1 W3 v3 (bl.length + 1) ((bl.map Pk.v) ++ [v1])) (ht : Turned (fun k => blkOf v = some k) W2 W3) (hn : ∀ k, blkOf v3 = some k → blkOf v = some k ∨ W2.heap.size ≤ k) :
    W3.cell? ⟨w.heap.size + 1, 0, none⟩ = some v ∧ W3.frozen? ⟨w.heap.size + 1, 0, none⟩ = false ∧ LiB w (pre ++ [p]) v3 (bl ++ [⟨v1, p.f, p.x⟩]) (W3.setCell ⟨w.heap.size + 1, 0, none⟩ v3) ∧
    KeptBut (fun k => k = w.heap.size + 1 ∨ w.heap.size + 1 + 1 ≤ k) W (W3.setCell ⟨w.heap.size + 1, 0, none⟩ v3) ∧ KeepsFrom (w.heap.size + 1 + 1) W (W3.setCell ⟨w.heap.size + 1, 0, none⟩ v3) := by
  have hlb2 := h.lb.below hb
  have h1lt := h.lb.lt
  have hz := h.below.size
  have hnb : ∀ k, blkOf v = some k → k ≠ w.heap.size + 1 := fun k hk => by have := h.lo k (.inl hk); omega
  have hlb3 : Blk W3 (w.heap.size + 1) #[v] 26 := hlb2.turned ht (fun e => hnb _ e rfl)
  have v3ne : ∀ k, blkOf v3 = some k → w.heap.size + 2 ≤ k := fun k hk => by
    rcases hn k hk with e | e
    · exact h.lo k (.inl e)
    · have := hb.size; omega
  have hbl : ∀ q : Pk, q ∈ bl ++ [⟨v1, p.f, p.x⟩] → Qs W2 q.v q.x ∧ ∀ k, blkOf q.v = some k → w.heap.size + 2 ≤ k ∧ ¬ blkOf v = some k := fun q hq' => by
    rcases List.mem_append.1 hq' with e | e
    · have hq2 := (h.ls.q q e).below hb
      refine ⟨hq2, fun k hk => ⟨h.lo k (.inr ⟨q, e, hk⟩), fun e2 => ?_⟩⟩
      obtain ⟨cur, hc⟩ := h.ls.g.in_ e2
      exact (h.ls.q q e).2.ne hc (by decide) hk rfl
    · simp at e; subst e
      refine ⟨hq, fun k hk => ⟨by have := hlo k hk; omega, fun e2 => ?_⟩⟩
      have := h.ls.g.lt e2; have := hlo k hk; omega
  have hT : Turned (fun k => k = w.heap.size + 1 ∨ blkOf v = some k) W (W3.setCell ⟨w.heap.size + 1, 0, none⟩ v3) :=
    ((Turned.of_below hb (fun k => k = w.heap.size + 1 ∨ blkOf v = some k)).trans ht (fun x hx => .inl (.inr hx))).setCell (.inl (.inl rfl)) v3
  refine ⟨hlb3.cell 0, hlb3.frozen 0, ⟨?_, ?_, ⟨?_, fun q hq' => ?_⟩, ?_, ?_, ?_, ?_⟩, ?_, ?_⟩
  · exact ((h.fb.below hb).turned ht (fun e => by have := h.lo _ (.inl e); omega)).keep (Below.heap_setCell _ _ _ _ (by simp))
  · exact hlb3.setCell 0 v3
  · have : Gs 32 1 W3 v3 (bl ++ [(⟨v1, p.f, p.x⟩ : Pk)]).length (List.map Pk.v (bl ++ [⟨v1, p.f, p.x⟩])) := by
      rw [List.length_append]
      have e : (List.map Pk.v (bl ++ [⟨v1, p.f, p.x⟩])) = (bl.map Pk.v) ++ [v1] := by rw [List.map_append]; rfl
      rw [e]; exact hg
    exact this.keep fun k hk => Below.heap_setCell _ _ _ _ (by have := v3ne k hk; simp; omega)
  · exact ((hbl q hq').1.turned ht (fun k hk => ((hbl q hq').2 k hk).2)).keep fun k hk => Below.heap_setCell _ _ _ _ (by have := ((hbl q hq').2 k hk).1; simp; omega)
  · rw [List.map_append, List.map_append, h.xs]; rfl
  · rw [List.map_append, List.map_append, h.fs]; rfl
  · rintro k (e | ⟨q, hq', e⟩)
    · exact v3ne k e
    · exact ((hbl q hq').2 k e).1
  · exact ((h.below.trans (hb.mono hz)).trans (ht.below (by have := hb.size; omega) (fun k hk => by have := h.lo k (.inl hk); omega))).setCell (p := ⟨w.heap.size + 1, 0, none⟩) (by simp) _
  · exact KeptBut.mono ⟨hT.size, hT.block⟩ (fun k hk => by
      rcases hk with e | e
      · exact .inl e
      · exact .inr (h.lo k (.inl e)))
  · exact keepsFrom_turned _ hT (fun k hk => by
      rcases hk with e | e
      · subst e; exact ⟨_, _, h.lb⟩
      · obtain ⟨cur, hc⟩ := h.ls.g.in_ e; exact ⟨_, _, hc⟩)

structure LqB (z b : Nat) (pv : Value) (W : World) : Prop where
  fb : Blk W z #[(.func (.methodOf 71 "pomander/net.anew") #[] #[])] 85
  pb' : ∀ c, pv = .agg c → Rf 71 2 W b c
  zb : z + 1 < b
theorem LqB.pb {z b : Nat} {c : Array Value} {W : World} (h : LqB z b (.agg c) W) : Rf 71 2 W b c := h.pb' c rfl
theorem LqB.below {z b : Nat} {pv : Value} {W W' : World} (h : LqB z b pv W) (hb : Below W.heap.size W W') : LqB z b pv W' := ⟨h.fb.below hb, fun c e => (h.pb' c e).below hb, h.zb⟩
theorem LqB.turned {F : Nat → Prop} {z b : Nat} {pv : Value} {W W' : World} (h : LqB z b pv W) (ht : Turned F W W') (hF : ∀ k, F k → k ≠ z ∧ k ≠ b) : LqB z b pv W' := ⟨h.fb.turned ht (fun e => (hF _ e).1 rfl), fun c e => (h.pb' c e).turned ht (fun e => (hF _ e).2 rfl), h.zb⟩
theorem LqB.off1 {z b : Nat} {pv : Value} {W : World} (h : LqB z b pv W) (u : Value) : LqB z b pv (W.setCell ⟨z + 1, 0, none⟩ u) := ⟨h.fb.keep (Below.heap_setCell _ _ _ _ (by simp)), fun c e => (h.pb' c e).keep (Below.heap_setCell _ _ _ _ (by have := h.zb; simp; omega)), h.zb⟩
set_option maxRecDepth 100000 in
theorem listB_any {w : World} {B : Nat} {v : Value} {nx : Int} {l : List Pk} (hB : Blk w B #[v, .int .i64 nx] 59) (h : PsIs w v l) (h64 : ∀ p ∈ l, p.x.length ≤ 64) (hlen : l.length ≤ 100000) :
    Calls Try.prog 48 #[.func (.func 49) #[] #[.pointer (some ⟨B, 0, none⟩)], (.func (.methodOf 71 "pomander/net.anew") #[] #[])] w fun e w' => ∃ v' bl, e = .returned v' ∧ LsIs w' v' bl ∧ bl.map Pk.x = l.map Pk.x ∧ bl.map Pk.f = l.map Pk.f ∧ (∀ k, psB v' bl k → w.heap.size ≤ k) ∧ Below w.heap.size w w' := by
  have HP := Lib.hid (fun W (hb : Below w.heap.size w W) => (show PsIs W v l from h.below hb))
  have HBl := Lib.hid (fun W (hb : Below w.heap.size w W) => (show Blk W B #[v, .int .i64 nx] 59 from hB.below hb))
  have HLt := Lib.hid (fun k (hk : psB v l k) => h.lt hk)
  have H64 := Lib.hid h64
  have HSh := Lib.hid (fun p (hp : p ∈ l) => (show ∃ ao n c, p.v = .slice ao n c from by obtain ⟨ao, c, e, _⟩ := (h.q p hp).shape; exact ⟨ao, _, c, e⟩))
  have hmo := run_anew
  have hBlt := hB.lt
  have H0 : Hid (∃ v bl, LiB w [] v bl ((w.alloc (.cells #[(.func (.methodOf 71 "pomander/net.anew") #[] #[])] 85)).alloc (.cells #[.slice none 0 0] 26))) := by
    have h2 := blk_new (w.alloc (.cells #[(.func (.methodOf 71 "pomander/net.anew") #[] #[])] 85)) #[.slice none 0 0] 26
    rw [World.size_alloc] at h2
    refine ⟨_, [], (blk_new _ _ _).alloc _, h2, LsIs.nil _, rfl, rfl, fun k hk => ?_, ((Below.refl _ _).alloc (Nat.le_refl _) _).alloc (by simp) _⟩
    rcases hk with e | ⟨q, hq, e⟩
    · simp [blkOf] at e
    · exact absurd hq (by simp)
  clear h hB h64
  refine (callsIn_wide (n := 5)).1 ?_
  refine callsIn_of_wp_marks Try.func48 rfl trivial ?_ rfl
  refine wpIn_wide.2 ?_
  simp only [Try.ntmps48, List.size_toArray, List.length_cons, List.length_nil, Nat.reduceAdd, Nat.reduceSub, Array.replicate_succ, Array.replicate_zero, List.push_toArray, List.append_toArray, List.nil_append, List.cons_append]
  go_wp2_with fail
  have hbl : Below w.heap.size w ((w.alloc (.cells #[(.func (.methodOf 71 "pomander/net.anew") #[] #[])] 85)).alloc (.cells #[.slice none 0 0] 26)) := ((Below.refl _ _).alloc (Nat.le_refl _) _).alloc (by simp) _
  refine (wpIn_wide (n := 5)).1 (wp_over3 (gf := 49) (lb := #[.pointer (some ⟨B, 0, none⟩)]) rfl (enters_of Try.func49 (by kernel_rfl) rfl)
    (each1_gives (HBl.out _ hbl) (HP.out _ hbl) (fun k => k = w.heap.size + 1) (fun k hk e => by have := HLt.out k (.inl hk); omega))
    (fun _ => rfl)
    (fun pre W => ∃ v bl, LiB w pre v bl W)
    (fun c pre W => False)
    (liB_own w (by simp; omega)) (fun c s W W' row hs _ _ => hs.elim) H0.out
    (fun p => .cells #[p.v, .int .i64 (p.f : Int)] 71)
    (fun tm p b => (tm.setIfInBounds 8 (.agg #[p.v, .int .i64 (p.f : Int)])).setIfInBounds 6 (.pointer (some ⟨b, 0, none⟩)))
    ?assign ?body ?done (fun _ _ _ _ _ _ _ hx _ => hx.elim))
  case assign =>
    intro ll mm pre p rest W1 K hf hK
    obtain ⟨va, vn, vc, hv⟩ := HSh.out p (by rw [hf]; simp)
    obtain ⟨pv, pf, px⟩ := p
    simp only at hv
    subst hv
    gi_wp2
    simp only [List.setIfInBounds_toArray, List.set_cons_zero, List.set_cons_succ] at hK
    exact hK
  case body =>
    rintro ll mm pre p rest W0 W b hf ⟨v9, bl, hLi0⟩ hW0 hup hpb hb1 hb2
    have hLi := hup (fun pre W => LiB w pre v9 bl W) (liB_own' w v9 bl (by simp; omega)) hLi0
    have hpl : p ∈ l := by rw [hf]; simp
    have hprl : pre.length < l.length := by rw [hf]; simp
    have hll : bl.length < 100000 := by have := hLi.len; omega
    obtain ⟨va, vn, vc, hv⟩ := HSh.out p hpl
    have hx64 := H64.out p hpl
    have hpn := ((HP.out W hLi.below).q p hpl).nums
    obtain ⟨pv, pf, px⟩ := p
    simp only at hv hx64 hpn
    subst hv
    have HN := Lib.hid (show NumsIn .u8 W.drew (.slice va vn vc) px from hpn.below (Below.refl _ _).drew)
    have HLi := Lib.hid hLi
    have HS : Hid (LqB w.heap.size b (.agg #[.slice va vn vc, .int .i64 (pf : Int)]) W.drew) := by
      refine ⟨hLi.fb.drew, fun c e => ?_, by simp at hb1; omega⟩
      cases e
      exact ⟨(show Blk W b _ _ from hpb).drew, rfl, by simp; exact ⟨rfl, rfl⟩⟩
    have HNB : Hid (∀ k, blkOf v9 = some k → k ≠ w.heap.size ∧ k ≠ b) := fun k hk => by
      refine ⟨by have := hLi.lo k (.inl hk); omega, fun e => ?_⟩
      have := hLi0.ls.g.lt hk
      omega
    obtain ⟨ao, c, e9, hc9, _⟩ := hLi.ls.g.shape
    subst e9
    simp only [List.setIfInBounds_toArray, List.set_cons_zero, List.set_cons_succ]
    clear hLi hLi0 hup hW0 hpn hpl hprl hf hpb
    gi_wp2
    refine wpIn_region_round (S := LqB w.heap.size b (.agg #[.slice va vn vc, .int .i64 (pf : Int)])) (by kernel_rfl) (by kernel_rfl) (fun _ _ h => h) ?_
    have hS := HS.out
    have hS0 := HS.out
    refine take_d (i := 1) (d := some 10) (v := (.func (.methodOf 71 "pomander/net.anew") #[] #[])) rfl rfl (by kernel_rfl) (by kernel_rfl) (by kernel_rfl) (fun _ _ _ h => h) (.inl ⟨by rfl, fun W hW => by have q := hW.fb.cell 0; simp only [List.getElem?_toArray, List.getElem?_cons_zero] at q; go_simp⟩) hS ?_
    try simp only [Act.put, List.setIfInBounds_toArray, List.set_cons_zero, List.set_cons_succ]
    refine take_d (i := 2) (d := some 11) (v := .agg #[.slice va vn vc, .int .i64 (pf : Int)]) rfl rfl (by kernel_rfl) (by kernel_rfl) (by kernel_rfl) (fun _ _ _ h => h) (y_R rowP (by kernel_rfl) rfl rfl (fun W hW => hW.pb)) hS ?_
    try simp only [Act.put, List.setIfInBounds_toArray, List.set_cons_zero, List.set_cons_succ]
    refine wpAnyH_all (rs := [0,3]) (by kernel_rfl) (by simp) (fun i hi => ?_)
    simp only [List.mem_cons, List.not_mem_nil, or_false] at hi
    rcases hi with rfl | rfl
    · refine .inl ?_
      have q := (HLi.out.lb.drew).cell 0; simp only [List.getElem?_toArray, List.getElem?_cons_zero] at q
      refine o_load_bytess (d := some 9) rfl q rfl rfl ⟨hS, ?_⟩
      try simp only [Act.put, List.setIfInBounds_toArray, List.set_cons_zero, List.set_cons_succ]
      clear q
      refine wpAnyH_all (rs := [3]) (by kernel_rfl) (by simp) (fun i hi => ?_)
      simp only [List.mem_cons, List.not_mem_nil, or_false] at hi
      subst hi
      refine .inl ?_
      refine o_anew (d := some 12) rfl rfl rfl rfl ?_
      refine (anew_any _ px _ HN.out (by omega)).mono ?_
      rintro e w1 ⟨v1, rfl, hc1⟩
      have hS1 : LqB w.heap.size b (.agg #[.slice va vn vc, .int .i64 (pf : Int)]) w1 := hS.below hc1.below
      have HB1 := Lib.hid (show Below W.heap.size W w1 from (Below.refl _ _).drew.trans hc1.below)
      have HQ1 := Lib.hid hc1.q
      have HL1 := Lib.hid (show ∀ k, blkOf v1 = some k → W.heap.size ≤ k from hc1.lo)
      obtain ⟨ao1, c1, hv1, _⟩ := hc1.q.shape
      obtain ⟨pn1, hpn⟩ : ∃ pn1, px.length = pn1 := ⟨_, rfl⟩
      rw [hpn] at hv1
      subst hv1
      clear hc1
      have hS := hS1
      clear hS1
      refine ⟨_, rfl, hS, ?_⟩
      try simp only [Act.put, List.setIfInBounds_toArray, List.set_cons_zero, List.set_cons_succ]
      refine wpAnyH_all (rs := [4]) (by kernel_rfl) (by simp) (fun i hi => ?_)
      simp only [List.mem_cons, List.not_mem_nil, or_false] at hi
      subst hi
      refine .inl ?_
      have hSr : LqB w.heap.size b (.agg #[.slice va vn vc, .int .i64 (pf : Int)]) (w1.alloc (.cells #[.slice ao1 pn1 c1] 32)) := hS.below ((Below.refl _ _).alloc (Nat.le_refl _) _)
      refine o_ok (d := some 13) rfl (.slice (some ⟨w1.heap.size, 0, none⟩) 1 1) (w1.alloc (.cells #[.slice ao1 pn1 c1] 32)) (by go_simp) ⟨hSr, ?_⟩
      try simp only [Act.put, List.setIfInBounds_toArray, List.set_cons_zero, List.set_cons_succ]
      have hS := hSr
      clear hSr
      have hb2 : Below W.heap.size W (w1.alloc (.cells #[.slice ao1 pn1 c1] 32)) := HB1.out.alloc HB1.out.size _
      have HG1 := Lib.hid (HLi.out.ls.g.below hb2)
      have HQ2 := Lib.hid (HQ1.out.below ((Below.refl _ _).alloc (Nat.le_refl _) _ : Below w1.heap.size w1 (w1.alloc (.cells #[.slice ao1 pn1 c1] 32))))
      refine wpAnyH_all (rs := [5]) (by kernel_rfl) (by simp) (fun i hi => ?_)
      simp only [List.mem_cons, List.not_mem_nil, or_false] at hi
      subst hi
      refine .inl ?_
      refine o_append_g (d := some 14) _ _ rfl rfl Try.underlying26 infoBs rfl (by omega) (by omega) rfl rfl HG1.out (sl_src w1 (.slice ao1 pn1 c1) rfl) (by omega) ?_
      intro v3 w3 hg ht hn
      obtain ⟨hcell, hfz, hli, hk1, hk2⟩ := liB_step (p := ⟨.slice va vn vc, pf, px⟩) HLi.out hb2 HQ2.out HL1.out hg ht hn
      have HI := Lib.hid hli
      have HK1 := Lib.hid hk1
      have HK2 := Lib.hid hk2
      have hS3 : LqB w.heap.size b (.agg #[.slice va vn vc, .int .i64 (pf : Int)]) w3 := hS.turned ht (fun k hk => HNB.out k hk)
      have hS4 := hS3.off1 v3
      obtain ⟨ao3, c3, hv3, _⟩ := hg.shape
      subst hv3
      clear hg ht hn hli hk1 hk2 HG1 HQ2
      refine ⟨hS3, ?_⟩
      try simp only [Act.put, List.setIfInBounds_toArray, List.set_cons_zero, List.set_cons_succ]
      have hS := hS3
      refine wpAnyH_all (rs := [6]) (by kernel_rfl) (by simp) (fun i hi => ?_)
      simp only [List.mem_cons, List.not_mem_nil, or_false] at hi
      subst hi
      refine .inl ?_
      refine o_store_bytess (d := none) rfl hcell hfz rfl rfl rfl ⟨hS4, ?_⟩
      try simp only [Act.put, List.setIfInBounds_toArray, List.set_cons_zero, List.set_cons_succ]
      refine wpAnyH_done (by kernel_rfl) ?_ _
      clear hS hS3 hS4 hcell hfz HB1 HQ1 HL1 hb2 hS0
      gi_wp2
      exact ⟨HK1.out, HK2.out, _, _, HI.out⟩
    · refine .inl ?_
      refine o_anew (d := some 12) rfl rfl rfl rfl ?_
      refine (anew_any _ px _ HN.out (by omega)).mono ?_
      rintro e w1 ⟨v1, rfl, hc1⟩
      have hS1 : LqB w.heap.size b (.agg #[.slice va vn vc, .int .i64 (pf : Int)]) w1 := hS.below hc1.below
      have HB1 := Lib.hid (show Below W.heap.size W w1 from (Below.refl _ _).drew.trans hc1.below)
      have HQ1 := Lib.hid hc1.q
      have HL1 := Lib.hid (show ∀ k, blkOf v1 = some k → W.heap.size ≤ k from hc1.lo)
      obtain ⟨ao1, c1, hv1, _⟩ := hc1.q.shape
      obtain ⟨pn1, hpn⟩ : ∃ pn1, px.length = pn1 := ⟨_, rfl⟩
      rw [hpn] at hv1
      subst hv1
      clear hc1
      have hS := hS1
      clear hS1
      refine ⟨_, rfl, hS, ?_⟩
      try simp only [Act.put, List.setIfInBounds_toArray, List.set_cons_zero, List.set_cons_succ]
      refine wpAnyH_all (rs := [0,4]) (by kernel_rfl) (by simp) (fun i hi => ?_)
      simp only [List.mem_cons, List.not_mem_nil, or_false] at hi
      rcases hi with rfl | rfl
      · refine .inl ?_
        have q := (HLi.out.lb.below HB1.out).cell 0; simp only [List.getElem?_toArray, List.getElem?_cons_zero] at q
        refine o_load_bytess (d := some 9) rfl q rfl rfl ⟨hS, ?_⟩
        try simp only [Act.put, List.setIfInBounds_toArray, List.set_cons_zero, List.set_cons_succ]
        clear q
        refine wpAnyH_all (rs := [4]) (by kernel_rfl) (by simp) (fun i hi => ?_)
        simp only [List.mem_cons, List.not_mem_nil, or_false] at hi
        subst hi
        refine .inl ?_
        have hSr : LqB w.heap.size b (.agg #[.slice va vn vc, .int .i64 (pf : Int)]) (w1.alloc (.cells #[.slice ao1 pn1 c1] 32)) := hS.below ((Below.refl _ _).alloc (Nat.le_refl _) _)
        refine o_ok (d := some 13) rfl (.slice (some ⟨w1.heap.size, 0, none⟩) 1 1) (w1.alloc (.cells #[.slice ao1 pn1 c1] 32)) (by go_simp) ⟨hSr, ?_⟩
        try simp only [Act.put, List.setIfInBounds_toArray, List.set_cons_zero, List.set_cons_succ]
        have hS := hSr
        clear hSr
        have hb2 : Below W.heap.size W (w1.alloc (.cells #[.slice ao1 pn1 c1] 32)) := HB1.out.alloc HB1.out.size _
        have HG1 := Lib.hid (HLi.out.ls.g.below hb2)
        have HQ2 := Lib.hid (HQ1.out.below ((Below.refl _ _).alloc (Nat.le_refl _) _ : Below w1.heap.size w1 (w1.alloc (.cells #[.slice ao1 pn1 c1] 32))))
        refine wpAnyH_all (rs := [5]) (by kernel_rfl) (by simp) (fun i hi => ?_)
        simp only [List.mem_cons, List.not_mem_nil, or_false] at hi
        subst hi
        refine .inl ?_
        refine o_append_g (d := some 14) _ _ rfl rfl Try.underlying26 infoBs rfl (by omega) (by omega) rfl rfl HG1.out (sl_src w1 (.slice ao1 pn1 c1) rfl) (by omega) ?_
        intro v3 w3 hg ht hn
        obtain ⟨hcell, hfz, hli, hk1, hk2⟩ := liB_step (p := ⟨.slice va vn vc, pf, px⟩) HLi.out hb2 HQ2.out HL1.out hg ht hn
        have HI := Lib.hid hli
        have HK1 := Lib.hid hk1
        have HK2 := Lib.hid hk2
        have hS3 : LqB w.heap.size b (.agg #[.slice va vn vc, .int .i64 (pf : Int)]) w3 := hS.turned ht (fun k hk => HNB.out k hk)
        have hS4 := hS3.off1 v3
        obtain ⟨ao3, c3, hv3, _⟩ := hg.shape
        subst hv3
        clear hg ht hn hli hk1 hk2 HG1 HQ2
        refine ⟨hS3, ?_⟩
        try simp only [Act.put, List.setIfInBounds_toArray, List.set_cons_zero, List.set_cons_succ]
        have hS := hS3
        refine wpAnyH_all (rs := [6]) (by kernel_rfl) (by simp) (fun i hi => ?_)
        simp only [List.mem_cons, List.not_mem_nil, or_false] at hi
        subst hi
        refine .inl ?_
        refine o_store_bytess (d := none) rfl hcell hfz rfl rfl rfl ⟨hS4, ?_⟩
        try simp only [Act.put, List.setIfInBounds_toArray, List.set_cons_zero, List.set_cons_succ]
        refine wpAnyH_done (by kernel_rfl) ?_ _
        clear hS hS3 hS4 hcell hfz HB1 HQ1 HL1 hb2 hS0
        gi_wp2
        exact ⟨HK1.out, HK2.out, _, _, HI.out⟩
      · refine .inl ?_
        have hSr : LqB w.heap.size b (.agg #[.slice va vn vc, .int .i64 (pf : Int)]) (w1.alloc (.cells #[.slice ao1 pn1 c1] 32)) := hS.below ((Below.refl _ _).alloc (Nat.le_refl _) _)
        refine o_ok (d := some 13) rfl (.slice (some ⟨w1.heap.size, 0, none⟩) 1 1) (w1.alloc (.cells #[.slice ao1 pn1 c1] 32)) (by go_simp) ⟨hSr, ?_⟩
        try simp only [Act.put, List.setIfInBounds_toArray, List.set_cons_zero, List.set_cons_succ]
        have hS := hSr
        clear hSr
        refine wpAnyH_all (rs := [0]) (by kernel_rfl) (by simp) (fun i hi => ?_)
        simp only [List.mem_cons, List.not_mem_nil, or_false] at hi
        subst hi
        refine .inl ?_
        have q := (HLi.out.lb.below (HB1.out.alloc HB1.out.size _ : Below W.heap.size W (w1.alloc (.cells #[.slice ao1 pn1 c1] 32)))).cell 0; simp only [List.getElem?_toArray, List.getElem?_cons_zero] at q
        refine o_load_bytess (d := some 9) rfl q rfl rfl ⟨hS, ?_⟩
        try simp only [Act.put, List.setIfInBounds_toArray, List.set_cons_zero, List.set_cons_succ]
        clear q
        have hb2 : Below W.heap.size W (w1.alloc (.cells #[.slice ao1 pn1 c1] 32)) := HB1.out.alloc HB1.out.size _
        have HG1 := Lib.hid (HLi.out.ls.g.below hb2)
        have HQ2 := Lib.hid (HQ1.out.below ((Below.refl _ _).alloc (Nat.le_refl _) _ : Below w1.heap.size w1 (w1.alloc (.cells #[.slice ao1 pn1 c1] 32))))
        refine wpAnyH_all (rs := [5]) (by kernel_rfl) (by simp) (fun i hi => ?_)
        simp only [List.mem_cons, List.not_mem_nil, or_false] at hi
        subst hi
        refine .inl ?_
        refine o_append_g (d := some 14) _ _ rfl rfl Try.underlying26 infoBs rfl (by omega) (by omega) rfl rfl HG1.out (sl_src w1 (.slice ao1 pn1 c1) rfl) (by omega) ?_
        intro v3 w3 hg ht hn
        obtain ⟨hcell, hfz, hli, hk1, hk2⟩ := liB_step (p := ⟨.slice va vn vc, pf, px⟩) HLi.out hb2 HQ2.out HL1.out hg ht hn
        have HI := Lib.hid hli
        have HK1 := Lib.hid hk1
        have HK2 := Lib.hid hk2
        have hS3 : LqB w.heap.size b (.agg #[.slice va vn vc, .int .i64 (pf : Int)]) w3 := hS.turned ht (fun k hk => HNB.out k hk)
        have hS4 := hS3.off1 v3
        obtain ⟨ao3, c3, hv3, _⟩ := hg.shape
        subst hv3
        clear hg ht hn hli hk1 hk2 HG1 HQ2
        refine ⟨hS3, ?_⟩
        try simp only [Act.put, List.setIfInBounds_toArray, List.set_cons_zero, List.set_cons_succ]
        have hS := hS3
        refine wpAnyH_all (rs := [6]) (by kernel_rfl) (by simp) (fun i hi => ?_)
        simp only [List.mem_cons, List.not_mem_nil, or_false] at hi
        subst hi
        refine .inl ?_
        refine o_store_bytess (d := none) rfl hcell hfz rfl rfl rfl ⟨hS4, ?_⟩
        try simp only [Act.put, List.setIfInBounds_toArray, List.set_cons_zero, List.set_cons_succ]
        refine wpAnyH_done (by kernel_rfl) ?_ _
        clear hS hS3 hS4 hcell hfz HB1 HQ1 HL1 hb2 hS0
        gi_wp2
        exact ⟨HK1.out, HK2.out, _, _, HI.out⟩
  case done =>
    rintro D0 W9 hD0 ⟨v9, bl, hLi⟩ hK
    obtain ⟨ao, c, e9, hc9, _⟩ := hLi.ls.g.shape
    subst e9
    have q := hLi.lb.cell 0
    simp only [List.getElem?_toArray, List.getElem?_cons_zero] at q
    have HLi := Lib.hid hLi
    have HK := Lib.hid hK
    clear hLi hK
    go_wp2
    have hbe : Below w.heap.size w (W9.putObj D0 (.deferred none)) := HLi.out.below.trans (belowK_b (w := w) (Nat.le_refl _) _ D0 _ _ (by simp at hD0; omega) HK.out rfl rfl)
    have hke := HLi.out.keep hbe (fun k cs ty hk => World.putObj_heap_other (fun e => by
      rcases e
      exact absurd (HK.out.symm.trans hk) (by simp)))
    refine ⟨by simp, .inl ⟨_, _, rfl, run_takeDeferred (show W9.heap[D0]? = some (.deferred (some [])) from HK.out), ?_⟩⟩
    exact ⟨_, by simp [results, Try.results48, go_sem], _, bl, rfl, hke.ls, hke.xs, hke.fs, fun k hk => by have := hke.lo k hk; omega, hbe⟩

/-! ### listP -/
structure LiP (w : World) (pre : List Pk) (v : Value) (bl : List Pk) (W : World) : Prop where
  fb : Blk W w.heap.size #[(.func (.func 44) #[] #[])] 78
  lb : Blk W (w.heap.size + 1) #[v] 57
  ls : PsIs W v bl
  xs : bl.map Pk.x = pre.map Pk.x
  fs : bl.map Pk.f = pre.map Pk.f
  lo : ∀ k, psB v bl k → w.heap.size + 2 ≤ k
  below : Below w.heap.size w W
theorem LiP.len {w : World} {pre : List Pk} {v : Value} {bl : List Pk} {W : World} (h : LiP w pre v bl W) : bl.length = pre.length := by have := congrArg List.length h.xs; simpa using this
theorem LiP.keep {w : World} {pre : List Pk} {v : Value} {bl : List Pk} {W W' : World} (h : LiP w pre v bl W) (hb : Below w.heap.size w W') (hk : ∀ k cs ty, Blk W k cs ty → W'.heap[k]? = W.heap[k]?) : LiP w pre v bl W' :=
  ⟨h.fb.keep (hk _ _ _ h.fb), h.lb.keep (hk _ _ _ h.lb), h.ls.keep fun k e => by
    rcases e with e | ⟨q, hq, e⟩
    · obtain ⟨cur, hc⟩ := h.ls.g.in_ e; exact hk _ _ _ hc
    · obtain ⟨cur, hc⟩ := (h.ls.q q hq).2.in_ e; exact hk _ _ _ hc, h.xs, h.fs, h.lo, hb⟩
theorem liP_own' (w : World) (v : Value) (bl : List Pk) {B : Nat} (hB : w.heap.size ≤ B) : OwnFrom B (fun (pre : List Pk) W => LiP w pre v bl W) := by
  intro s W W' row hs hg hr
  exact hs.keep (hs.below.grown hg hs.below.size (fun k e => by have := (hr k e).1; omega)) fun k cs ty hk => hg.block _ hk.lt (fun e => by
      obtain ⟨h1, o', h2, h3⟩ := hr _ e.symm
      rw [show W.heap[k]? = _ from hk] at h2; cases h2
      cases h3)
theorem liP_own (w : World) {B : Nat} (hB : w.heap.size ≤ B) : OwnFrom B (fun (pre : List Pk) W => ∃ v bl, LiP w pre v bl W) := by
  intro s W W' row hs hg hr
  obtain ⟨v, bl, hs⟩ := hs
  refine ⟨v, bl, hs.keep (hs.below.grown hg hs.below.size (fun k e => by have := (hr k e).1; omega)) fun k cs ty hk => hg.block _ hk.lt (fun e => by
      obtain ⟨h1, o', h2, h3⟩ := hr _ e.symm
      rw [show W.heap[k]? = _ from hk] at h2; cases h2
      cases h3)⟩
theorem liP_step {w W W2 W3 : World} {pre bl : List Pk} {p : Pk} {v v1 v3 : Value} (h : LiP w pre v bl W) (hb : Below W.heap.size W W2) (hq : Qs W2 v1 p.x) (hlo : ∀ k, blkOf v1 = some k → W.heap.size ≤ k)
    (hg : Gs 71 2 W3 v3 (bl.length + 1) ((pcs bl) ++ [v1, .int .i64 (p.f : Int)])) (ht : Turned (fun k => blkOf v = some k) W2 W3) (hn : ∀ k, blkOf v3 = some k → blkOf v = some k ∨ W2.heap.size ≤ k) :
    W3.cell? ⟨w.heap.size + 1, 0, none⟩ = some v ∧ W3.frozen? ⟨w.heap.size + 1, 0, none⟩ = false ∧ LiP w (pre ++ [p]) v3 (bl ++ [⟨v1, p.f, p.x⟩]) (W3.setCell ⟨w.heap.size + 1, 0, none⟩ v3) ∧
    KeptBut (fun k => k = w.heap.size + 1 ∨ w.heap.size + 1 + 1 ≤ k) W (W3.setCell ⟨w.heap.size + 1, 0, none⟩ v3) ∧ KeepsFrom (w.heap.size + 1 + 1) W (W3.setCell ⟨w.heap.size + 1, 0, none⟩ v3) := by
  have hlb2 := h.lb.below hb
  have h1lt := h.lb.lt
  have hz := h.below.size
  have hnb : ∀ k, blkOf v = some k → k ≠ w.heap.size + 1 := fun k hk => by have := h.lo k (.inl hk); omega
  have hlb3 : Blk W3 (w.heap.size + 1) #[v] 57 := hlb2.turned ht (fun e => hnb _ e rfl)
  have v3ne : ∀ k, blkOf v3 = some k → w.heap.size + 2 ≤ k := fun k hk => by
    rcases hn k hk with e | e
    · exact h.lo k (.inl e)
    · have := hb.size; omega
  have hbl : ∀ q : Pk, q ∈ bl ++ [⟨v1, p.f, p.x⟩] → Qs W2 q.v q.x ∧ ∀ k, blkOf q.v = some k → w.heap.size + 2 ≤ k ∧ ¬ blkOf v = some k := fun q hq' => by
    rcases List.mem_append.1 hq' with e | e
    · have hq2 := (h.ls.q q e).below hb
      refine ⟨hq2, fun k hk => ⟨h.lo k (.inr ⟨q, e, hk⟩), fun e2 => ?_⟩⟩
      obtain ⟨cur, hc⟩ := h.ls.g.in_ e2
      exact (h.ls.q q e).2.ne hc (by decide) hk rfl
    · simp at e; subst e
      refine ⟨hq, fun k hk => ⟨by have := hlo k hk; omega, fun e2 => ?_⟩⟩
      have := h.ls.g.lt e2; have := hlo k hk; omega
  have hT : Turned (fun k => k = w.heap.size + 1 ∨ blkOf v = some k) W (W3.setCell ⟨w.heap.size + 1, 0, none⟩ v3) :=
    ((Turned.of_below hb (fun k => k = w.heap.size + 1 ∨ blkOf v = some k)).trans ht (fun x hx => .inl (.inr hx))).setCell (.inl (.inl rfl)) v3
  refine ⟨hlb3.cell 0, hlb3.frozen 0, ⟨?_, ?_, ⟨?_, fun q hq' => ?_⟩, ?_, ?_, ?_, ?_⟩, ?_, ?_⟩
  · exact ((h.fb.below hb).turned ht (fun e => by have := h.lo _ (.inl e); omega)).keep (Below.heap_setCell _ _ _ _ (by simp))
  · exact hlb3.setCell 0 v3
  · have : Gs 71 2 W3 v3 (bl ++ [(⟨v1, p.f, p.x⟩ : Pk)]).length (pcs (bl ++ [⟨v1, p.f, p.x⟩])) := by
      rw [List.length_append]
      have e : (pcs (bl ++ [⟨v1, p.f, p.x⟩])) = (pcs bl) ++ [v1, .int .i64 (p.f : Int)] := by rw [pcs_append]; rfl
      rw [e]; exact hg
    exact this.keep fun k hk => Below.heap_setCell _ _ _ _ (by have := v3ne k hk; simp; omega)
  · exact ((hbl q hq').1.turned ht (fun k hk => ((hbl q hq').2 k hk).2)).keep fun k hk => Below.heap_setCell _ _ _ _ (by have := ((hbl q hq').2 k hk).1; simp; omega)
  · rw [List.map_append, List.map_append, h.xs]; rfl
  · rw [List.map_append, List.map_append, h.fs]; rfl
  · rintro k (e | ⟨q, hq', e⟩)
    · exact v3ne k e
    · exact ((hbl q hq').2 k e).1
  · exact ((h.below.trans (hb.mono hz)).trans (ht.below (by have := hb.size; omega) (fun k hk => by have := h.lo k (.inl hk); omega))).setCell (p := ⟨w.heap.size + 1, 0, none⟩) (by simp) _
  · exact KeptBut.mono ⟨hT.size, hT.block⟩ (fun k hk => by
      rcases hk with e | e
      · exact .inl e
      · exact .inr (h.lo k (.inl e)))
  · exact keepsFrom_turned _ hT (fun k hk => by
      rcases hk with e | e
      · subst e; exact ⟨_, _, h.lb⟩
      · obtain ⟨cur, hc⟩ := h.ls.g.in_ e; exact ⟨_, _, hc⟩)

structure LqP (z b : Nat) (pv : Value) (W : World) : Prop where
  fb : Blk W z #[(.func (.func 44) #[] #[])] 78
  pb' : ∀ c, pv = .agg c → Rf 71 2 W b c
  zb : z + 1 < b
theorem LqP.pb {z b : Nat} {c : Array Value} {W : World} (h : LqP z b (.agg c) W) : Rf 71 2 W b c := h.pb' c rfl
theorem LqP.below {z b : Nat} {pv : Value} {W W' : World} (h : LqP z b pv W) (hb : Below W.heap.size W W') : LqP z b pv W' := ⟨h.fb.below hb, fun c e => (h.pb' c e).below hb, h.zb⟩
theorem LqP.turned {F : Nat → Prop} {z b : Nat} {pv : Value} {W W' : World} (h : LqP z b pv W) (ht : Turned F W W') (hF : ∀ k, F k → k ≠ z ∧ k ≠ b) : LqP z b pv W' := ⟨h.fb.turned ht (fun e => (hF _ e).1 rfl), fun c e => (h.pb' c e).turned ht (fun e => (hF _ e).2 rfl), h.zb⟩
theorem LqP.off1 {z b : Nat} {pv : Value} {W : World} (h : LqP z b pv W) (u : Value) : LqP z b pv (W.setCell ⟨z + 1, 0, none⟩ u) := ⟨h.fb.keep (Below.heap_setCell _ _ _ _ (by simp)), fun c e => (h.pb' c e).keep (Below.heap_setCell _ _ _ _ (by have := h.zb; simp; omega)), h.zb⟩
set_option maxRecDepth 100000 in
theorem listP_any {w : World} {B : Nat} {v : Value} {nx : Int} {l : List Pk} (hB : Blk w B #[v, .int .i64 nx] 59) (h : PsIs w v l) (h64 : ∀ p ∈ l, p.x.length ≤ 64) (hlen : l.length ≤ 100000) :
    Calls Try.prog 42 #[.func (.func 49) #[] #[.pointer (some ⟨B, 0, none⟩)], (.func (.func 44) #[] #[])] w fun e w' => ∃ v' bl, e = .returned v' ∧ PsIs w' v' bl ∧ bl.map Pk.x = l.map Pk.x ∧ bl.map Pk.f = l.map Pk.f ∧ (∀ k, psB v' bl k → w.heap.size ≤ k) ∧ Below w.heap.size w w' := by
  have HP := Lib.hid (fun W (hb : Below w.heap.size w W) => (show PsIs W v l from h.below hb))
  have HBl := Lib.hid (fun W (hb : Below w.heap.size w W) => (show Blk W B #[v, .int .i64 nx] 59 from hB.below hb))
  have HLt := Lib.hid (fun k (hk : psB v l k) => h.lt hk)
  have H64 := Lib.hid h64
  have HSh := Lib.hid (fun p (hp : p ∈ l) => (show ∃ ao n c, p.v = .slice ao n c from by obtain ⟨ao, c, e, _⟩ := (h.q p hp).shape; exact ⟨ao, _, c, e⟩))
  have hmo := run_anew
  have hBlt := hB.lt
  have H0 : Hid (∃ v bl, LiP w [] v bl ((w.alloc (.cells #[(.func (.func 44) #[] #[])] 78)).alloc (.cells #[.slice none 0 0] 57))) := by
    have h2 := blk_new (w.alloc (.cells #[(.func (.func 44) #[] #[])] 78)) #[.slice none 0 0] 57
    rw [World.size_alloc] at h2
    refine ⟨_, [], (blk_new _ _ _).alloc _, h2, PsIs.nil _, rfl, rfl, fun k hk => ?_, ((Below.refl _ _).alloc (Nat.le_refl _) _).alloc (by simp) _⟩
    rcases hk with e | ⟨q, hq, e⟩
    · simp [blkOf] at e
    · exact absurd hq (by simp)
  clear h hB h64
  refine (callsIn_wide (n := 5)).1 ?_
  refine callsIn_of_wp_marks Try.func42 rfl trivial ?_ rfl
  refine wpIn_wide.2 ?_
  simp only [Try.ntmps42, List.size_toArray, List.length_cons, List.length_nil, Nat.reduceAdd, Nat.reduceSub, Array.replicate_succ, Array.replicate_zero, List.push_toArray, List.append_toArray, List.nil_append, List.cons_append]
  go_wp2_with fail
  have hbl : Below w.heap.size w ((w.alloc (.cells #[(.func (.func 44) #[] #[])] 78)).alloc (.cells #[.slice none 0 0] 57)) := ((Below.refl _ _).alloc (Nat.le_refl _) _).alloc (by simp) _
  refine (wpIn_wide (n := 5)).1 (wp_over3 (gf := 49) (lb := #[.pointer (some ⟨B, 0, none⟩)]) rfl (enters_of Try.func49 (by kernel_rfl) rfl)
    (each1_gives (HBl.out _ hbl) (HP.out _ hbl) (fun k => k = w.heap.size + 1) (fun k hk e => by have := HLt.out k (.inl hk); omega))
    (fun _ => rfl)
    (fun pre W => ∃ v bl, LiP w pre v bl W)
    (fun c pre W => False)
    (liP_own w (by simp; omega)) (fun c s W W' row hs _ _ => hs.elim) H0.out
    (fun p => .cells #[p.v, .int .i64 (p.f : Int)] 71)
    (fun tm p b => (tm.setIfInBounds 8 (.agg #[p.v, .int .i64 (p.f : Int)])).setIfInBounds 6 (.pointer (some ⟨b, 0, none⟩)))
    ?assign ?body ?done (fun _ _ _ _ _ _ _ hx _ => hx.elim))
  case assign =>
    intro ll mm pre p rest W1 K hf hK
    obtain ⟨va, vn, vc, hv⟩ := HSh.out p (by rw [hf]; simp)
    obtain ⟨pv, pf, px⟩ := p
    simp only at hv
    subst hv
    gi_wp2
    simp only [List.setIfInBounds_toArray, List.set_cons_zero, List.set_cons_succ] at hK
    exact hK
  case body =>
    rintro ll mm pre p rest W0 W b hf ⟨v9, bl, hLi0⟩ hW0 hup hpb hb1 hb2
    have hLi := hup (fun pre W => LiP w pre v9 bl W) (liP_own' w v9 bl (by simp; omega)) hLi0
    have hpl : p ∈ l := by rw [hf]; simp
    have hprl : pre.length < l.length := by rw [hf]; simp
    have hll : bl.length < 100000 := by have := hLi.len; omega
    obtain ⟨va, vn, vc, hv⟩ := HSh.out p hpl
    have hx64 := H64.out p hpl
    have hpn := ((HP.out W hLi.below).q p hpl).nums
    obtain ⟨pv, pf, px⟩ := p
    simp only at hv hx64 hpn
    subst hv
    have HN := Lib.hid (show NumsIn .u8 W.drew (.slice va vn vc) px from hpn.below (Below.refl _ _).drew)
    have HLi := Lib.hid hLi
    have HS : Hid (LqP w.heap.size b (.agg #[.slice va vn vc, .int .i64 (pf : Int)]) W.drew) := by
      refine ⟨hLi.fb.drew, fun c e => ?_, by simp at hb1; omega⟩
      cases e
      exact ⟨(show Blk W b _ _ from hpb).drew, rfl, by simp; exact ⟨rfl, rfl⟩⟩
    have HNB : Hid (∀ k, blkOf v9 = some k → k ≠ w.heap.size ∧ k ≠ b) := fun k hk => by
      refine ⟨by have := hLi.lo k (.inl hk); omega, fun e => ?_⟩
      have := hLi0.ls.g.lt hk
      omega
    obtain ⟨ao, c, e9, hc9, _⟩ := hLi.ls.g.shape
    subst e9
    simp only [List.setIfInBounds_toArray, List.set_cons_zero, List.set_cons_succ]
    clear hLi hLi0 hup hW0 hpn hpl hprl hf hpb
    gi_wp2
    refine wpIn_region_round (S := LqP w.heap.size b (.agg #[.slice va vn vc, .int .i64 (pf : Int)])) (by kernel_rfl) (by kernel_rfl) (fun _ _ h => h) ?_
    have hS := HS.out
    have hS0 := HS.out
    refine take_d (i := 1) (d := some 10) (v := (.func (.func 44) #[] #[])) rfl rfl (by kernel_rfl) (by kernel_rfl) (by kernel_rfl) (fun _ _ _ h => h) (.inl ⟨by rfl, fun W hW => by have q := hW.fb.cell 0; simp only [List.getElem?_toArray, List.getElem?_cons_zero] at q; go_simp⟩) hS ?_
    try simp only [Act.put, List.setIfInBounds_toArray, List.set_cons_zero, List.set_cons_succ]
    refine take_d (i := 2) (d := some 11) (v := .agg #[.slice va vn vc, .int .i64 (pf : Int)]) rfl rfl (by kernel_rfl) (by kernel_rfl) (by kernel_rfl) (fun _ _ _ h => h) (y_R rowP (by kernel_rfl) rfl rfl (fun W hW => hW.pb)) hS ?_
    try simp only [Act.put, List.setIfInBounds_toArray, List.set_cons_zero, List.set_cons_succ]
    refine wpAnyH_all (rs := [0,3]) (by kernel_rfl) (by simp) (fun i hi => ?_)
    simp only [List.mem_cons, List.not_mem_nil, or_false] at hi
    rcases hi with rfl | rfl
    · refine .inl ?_
      have q := (HLi.out.lb.drew).cell 0; simp only [List.getElem?_toArray, List.getElem?_cons_zero] at q
      refine o_load_Ps (d := some 9) rfl q rfl rfl ⟨hS, ?_⟩
      try simp only [Act.put, List.setIfInBounds_toArray, List.set_cons_zero, List.set_cons_succ]
      clear q
      refine wpAnyH_all (rs := [3]) (by kernel_rfl) (by simp) (fun i hi => ?_)
      simp only [List.mem_cons, List.not_mem_nil, or_false] at hi
      subst hi
      refine .inl ?_
      go_simp
      refine (pcopied_any _ (pf : Int) px _ HN.out (by omega)).mono ?_
      rintro e w1 ⟨v1, rfl, hc1⟩
      have hS1 : LqP w.heap.size b (.agg #[.slice va vn vc, .int .i64 (pf : Int)]) w1 := hS.below hc1.below
      have HB1 := Lib.hid (show Below W.heap.size W w1 from (Below.refl _ _).drew.trans hc1.below)
      have HQ1 := Lib.hid hc1.q
      have HL1 := Lib.hid (show ∀ k, blkOf v1 = some k → W.heap.size ≤ k from hc1.lo)
      obtain ⟨ao1, c1, hv1, _⟩ := hc1.q.shape
      obtain ⟨pn1, hpn⟩ : ∃ pn1, px.length = pn1 := ⟨_, rfl⟩
      rw [hpn] at hv1
      subst hv1
      clear hc1
      have hS := hS1
      clear hS1
      refine ⟨hS, ?_⟩
      try simp only [Act.put, List.setIfInBounds_toArray, List.set_cons_zero, List.set_cons_succ]
      refine wpAnyH_all (rs := [4]) (by kernel_rfl) (by simp) (fun i hi => ?_)
      simp only [List.mem_cons, List.not_mem_nil, or_false] at hi
      subst hi
      refine .inl ?_
      have hSr : LqP w.heap.size b (.agg #[.slice va vn vc, .int .i64 (pf : Int)]) (w1.alloc (.cells #[.slice ao1 pn1 c1, .int .i64 (pf : Int)] 71)) := hS.below ((Below.refl _ _).alloc (Nat.le_refl _) _)
      refine o_ok (d := some 13) rfl (.slice (some ⟨w1.heap.size, 0, none⟩) 1 1) (w1.alloc (.cells #[.slice ao1 pn1 c1, .int .i64 (pf : Int)] 71)) (by go_simp) ⟨hSr, ?_⟩
      try simp only [Act.put, List.setIfInBounds_toArray, List.set_cons_zero, List.set_cons_succ]
      have hS := hSr
      clear hSr
      have hb2 : Below W.heap.size W (w1.alloc (.cells #[.slice ao1 pn1 c1, .int .i64 (pf : Int)] 71)) := HB1.out.alloc HB1.out.size _
      have HG1 := Lib.hid (HLi.out.ls.g.below hb2)
      have HQ2 := Lib.hid (HQ1.out.below ((Below.refl _ _).alloc (Nat.le_refl _) _ : Below w1.heap.size w1 (w1.alloc (.cells #[.slice ao1 pn1 c1, .int .i64 (pf : Int)] 71))))
      refine wpAnyH_all (rs := [5]) (by kernel_rfl) (by simp) (fun i hi => ?_)
      simp only [List.mem_cons, List.not_mem_nil, or_false] at hi
      subst hi
      refine .inl ?_
      refine o_append_g (d := some 14) _ _ rfl rfl Try.underlying57 infoP rfl (by omega) (by omega) rfl rfl HG1.out (pk_src w1 (.slice ao1 pn1 c1) pf rfl) (by omega) ?_
      intro v3 w3 hg ht hn
      obtain ⟨hcell, hfz, hli, hk1, hk2⟩ := liP_step (p := ⟨.slice va vn vc, pf, px⟩) HLi.out hb2 HQ2.out HL1.out hg ht hn
      have HI := Lib.hid hli
      have HK1 := Lib.hid hk1
      have HK2 := Lib.hid hk2
      have hS3 : LqP w.heap.size b (.agg #[.slice va vn vc, .int .i64 (pf : Int)]) w3 := hS.turned ht (fun k hk => HNB.out k hk)
      have hS4 := hS3.off1 v3
      obtain ⟨ao3, c3, hv3, _⟩ := hg.shape
      subst hv3
      clear hg ht hn hli hk1 hk2 HG1 HQ2
      refine ⟨hS3, ?_⟩
      try simp only [Act.put, List.setIfInBounds_toArray, List.set_cons_zero, List.set_cons_succ]
      have hS := hS3
      refine wpAnyH_all (rs := [6]) (by kernel_rfl) (by simp) (fun i hi => ?_)
      simp only [List.mem_cons, List.not_mem_nil, or_false] at hi
      subst hi
      refine .inl ?_
      refine o_store_Ps (d := none) rfl hcell hfz rfl rfl rfl ⟨hS4, ?_⟩
      try simp only [Act.put, List.setIfInBounds_toArray, List.set_cons_zero, List.set_cons_succ]
      refine wpAnyH_done (by kernel_rfl) ?_ _
      clear hS hS3 hS4 hcell hfz HB1 HQ1 HL1 hb2 hS0
      gi_wp2
      exact ⟨HK1.out, HK2.out, _, _, HI.out⟩
    · refine .inl ?_
      go_simp
      refine (pcopied_any _ (pf : Int) px _ HN.out (by omega)).mono ?_
      rintro e w1 ⟨v1, rfl, hc1⟩
      have hS1 : LqP w.heap.size b (.agg #[.slice va vn vc, .int .i64 (pf : Int)]) w1 := hS.below hc1.below
      have HB1 := Lib.hid (show Below W.heap.size W w1 from (Below.refl _ _).drew.trans hc1.below)
      have HQ1 := Lib.hid hc1.q
      have HL1 := Lib.hid (show ∀ k, blkOf v1 = some k → W.heap.size ≤ k from hc1.lo)
      obtain ⟨ao1, c1, hv1, _⟩ := hc1.q.shape
      obtain ⟨pn1, hpn⟩ : ∃ pn1, px.length = pn1 := ⟨_, rfl⟩
      rw [hpn] at hv1
      subst hv1
      clear hc1
      have hS := hS1
      clear hS1
      refine ⟨hS, ?_⟩
      try simp only [Act.put, List.setIfInBounds_toArray, List.set_cons_zero, List.set_cons_succ]
      refine wpAnyH_all (rs := [0,4]) (by kernel_rfl) (by simp) (fun i hi => ?_)
      simp only [List.mem_cons, List.not_mem_nil, or_false] at hi
      rcases hi with rfl | rfl
      · refine .inl ?_
        have q := (HLi.out.lb.below HB1.out).cell 0; simp only [List.getElem?_toArray, List.getElem?_cons_zero] at q
        refine o_load_Ps (d := some 9) rfl q rfl rfl ⟨hS, ?_⟩
        try simp only [Act.put, List.setIfInBounds_toArray, List.set_cons_zero, List.set_cons_succ]
        clear q
        refine wpAnyH_all (rs := [4]) (by kernel_rfl) (by simp) (fun i hi => ?_)
        simp only [List.mem_cons, List.not_mem_nil, or_false] at hi
        subst hi
        refine .inl ?_
        have hSr : LqP w.heap.size b (.agg #[.slice va vn vc, .int .i64 (pf : Int)]) (w1.alloc (.cells #[.slice ao1 pn1 c1, .int .i64 (pf : Int)] 71)) := hS.below ((Below.refl _ _).alloc (Nat.le_refl _) _)
        refine o_ok (d := some 13) rfl (.slice (some ⟨w1.heap.size, 0, none⟩) 1 1) (w1.alloc (.cells #[.slice ao1 pn1 c1, .int .i64 (pf : Int)] 71)) (by go_simp) ⟨hSr, ?_⟩
        try simp only [Act.put, List.setIfInBounds_toArray, List.set_cons_zero, List.set_cons_succ]
        have hS := hSr
        clear hSr
        have hb2 : Below W.heap.size W (w1.alloc (.cells #[.slice ao1 pn1 c1, .int .i64 (pf : Int)] 71)) := HB1.out.alloc HB1.out.size _
        have HG1 := Lib.hid (HLi.out.ls.g.below hb2)
        have HQ2 := Lib.hid (HQ1.out.below ((Below.refl _ _).alloc (Nat.le_refl _) _ : Below w1.heap.size w1 (w1.alloc (.cells #[.slice ao1 pn1 c1, .int .i64 (pf : Int)] 71))))
        refine wpAnyH_all (rs := [5]) (by kernel_rfl) (by simp) (fun i hi => ?_)
        simp only [List.mem_cons, List.not_mem_nil, or_false] at hi
        subst hi
        refine .inl ?_
        refine o_append_g (d := some 14) _ _ rfl rfl Try.underlying57 infoP rfl (by omega) (by omega) rfl rfl HG1.out (pk_src w1 (.slice ao1 pn1 c1) pf rfl) (by omega) ?_
        intro v3 w3 hg ht hn
        obtain ⟨hcell, hfz, hli, hk1, hk2⟩ := liP_step (p := ⟨.slice va vn vc, pf, px⟩) HLi.out hb2 HQ2.out HL1.out hg ht hn
        have HI := Lib.hid hli
        have HK1 := Lib.hid hk1
        have HK2 := Lib.hid hk2
        have hS3 : LqP w.heap.size b (.agg #[.slice va vn vc, .int .i64 (pf : Int)]) w3 := hS.turned ht (fun k hk => HNB.out k hk)
        have hS4 := hS3.off1 v3
        obtain ⟨ao3, c3, hv3, _⟩ := hg.shape
        subst hv3
        clear hg ht hn hli hk1 hk2 HG1 HQ2
        refine ⟨hS3, ?_⟩
        try simp only [Act.put, List.setIfInBounds_toArray, List.set_cons_zero, List.set_cons_succ]
        have hS := hS3
        refine wpAnyH_all (rs := [6]) (by kernel_rfl) (by simp) (fun i hi => ?_)
        simp only [List.mem_cons, List.not_mem_nil, or_false] at hi
        subst hi
        refine .inl ?_
        refine o_store_Ps (d := none) rfl hcell hfz rfl rfl rfl ⟨hS4, ?_⟩
        try simp only [Act.put, List.setIfInBounds_toArray, List.set_cons_zero, List.set_cons_succ]
        refine wpAnyH_done (by kernel_rfl) ?_ _
        clear hS hS3 hS4 hcell hfz HB1 HQ1 HL1 hb2 hS0
        gi_wp2
        exact ⟨HK1.out, HK2.out, _, _, HI.out⟩
      · refine .inl ?_
        have hSr : LqP w.heap.size b (.agg #[.slice va vn vc, .int .i64 (pf : Int)]) (w1.alloc (.cells #[.slice ao1 pn1 c1, .int .i64 (pf : Int)] 71)) := hS.below ((Below.refl _ _).alloc (Nat.le_refl _) _)
        refine o_ok (d := some 13) rfl (.slice (some ⟨w1.heap.size, 0, none⟩) 1 1) (w1.alloc (.cells #[.slice ao1 pn1 c1, .int .i64 (pf : Int)] 71)) (by go_simp) ⟨hSr, ?_⟩
        try simp only [Act.put, List.setIfInBounds_toArray, List.set_cons_zero, List.set_cons_succ]
        have hS := hSr
        clear hSr
        refine wpAnyH_all (rs := [0]) (by kernel_rfl) (by simp) (fun i hi => ?_)
        simp only [List.mem_cons, List.not_mem_nil, or_false] at hi
        subst hi
        refine .inl ?_
        have q := (HLi.out.lb.below (HB1.out.alloc HB1.out.size _ : Below W.heap.size W (w1.alloc (.cells #[.slice ao1 pn1 c1, .int .i64 (pf : Int)] 71)))).cell 0; simp only [List.getElem?_toArray, List.getElem?_cons_zero] at q
        refine o_load_Ps (d := some 9) rfl q rfl rfl ⟨hS, ?_⟩
        try simp only [Act.put, List.setIfInBounds_toArray, List.set_cons_zero, List.set_cons_succ]
        clear q
        have hb2 : Below W.heap.size W (w1.alloc (.cells #[.slice ao1 pn1 c1, .int .i64 (pf : Int)] 71)) := HB1.out.alloc HB1.out.size _
        have HG1 := Lib.hid (HLi.out.ls.g.below hb2)
        have HQ2 := Lib.hid (HQ1.out.below ((Below.refl _ _).alloc (Nat.le_refl _) _ : Below w1.heap.size w1 (w1.alloc (.cells #[.slice ao1 pn1 c1, .int .i64 (pf : Int)] 71))))
        refine wpAnyH_all (rs := [5]) (by kernel_rfl) (by simp) (fun i hi => ?_)
        simp only [List.mem_cons, List.not_mem_nil, or_false] at hi
        subst hi
        refine .inl ?_
        refine o_append_g (d := some 14) _ _ rfl rfl Try.underlying57 infoP rfl (by omega) (by omega) rfl rfl HG1.out (pk_src w1 (.slice ao1 pn1 c1) pf rfl) (by omega) ?_
        intro v3 w3 hg ht hn
        obtain ⟨hcell, hfz, hli, hk1, hk2⟩ := liP_step (p := ⟨.slice va vn vc, pf, px⟩) HLi.out hb2 HQ2.out HL1.out hg ht hn
        have HI := Lib.hid hli
        have HK1 := Lib.hid hk1
        have HK2 := Lib.hid hk2
        have hS3 : LqP w.heap.size b (.agg #[.slice va vn vc, .int .i64 (pf : Int)]) w3 := hS.turned ht (fun k hk => HNB.out k hk)
        have hS4 := hS3.off1 v3
        obtain ⟨ao3, c3, hv3, _⟩ := hg.shape
        subst hv3
        clear hg ht hn hli hk1 hk2 HG1 HQ2
        refine ⟨hS3, ?_⟩
        try simp only [Act.put, List.setIfInBounds_toArray, List.set_cons_zero, List.set_cons_succ]
        have hS := hS3
        refine wpAnyH_all (rs := [6]) (by kernel_rfl) (by simp) (fun i hi => ?_)
        simp only [List.mem_cons, List.not_mem_nil, or_false] at hi
        subst hi
        refine .inl ?_
        refine o_store_Ps (d := none) rfl hcell hfz rfl rfl rfl ⟨hS4, ?_⟩
        try simp only [Act.put, List.setIfInBounds_toArray, List.set_cons_zero, List.set_cons_succ]
        refine wpAnyH_done (by kernel_rfl) ?_ _
        clear hS hS3 hS4 hcell hfz HB1 HQ1 HL1 hb2 hS0
        gi_wp2
        exact ⟨HK1.out, HK2.out, _, _, HI.out⟩
  case done =>
    rintro D0 W9 hD0 ⟨v9, bl, hLi⟩ hK
    obtain ⟨ao, c, e9, hc9, _⟩ := hLi.ls.g.shape
    subst e9
    have q := hLi.lb.cell 0
    simp only [List.getElem?_toArray, List.getElem?_cons_zero] at q
    have HLi := Lib.hid hLi
    have HK := Lib.hid hK
    clear hLi hK
    go_wp2
    have hbe : Below w.heap.size w (W9.putObj D0 (.deferred none)) := HLi.out.below.trans (belowK_b (w := w) (Nat.le_refl _) _ D0 _ _ (by simp at hD0; omega) HK.out rfl rfl)
    have hke := HLi.out.keep hbe (fun k cs ty hk => World.putObj_heap_other (fun e => by
      rcases e
      exact absurd (HK.out.symm.trans hk) (by simp)))
    refine ⟨by simp, .inl ⟨_, _, rfl, run_takeDeferred (show W9.heap[D0]? = some (.deferred (some [])) from HK.out), ?_⟩⟩
    exact ⟨_, by simp [results, Try.results42, go_sem], _, bl, rfl, hke.ls, hke.xs, hke.fs, fun k hk => by have := hke.lo k hk; omega, hbe⟩
end Go.Proofs.Ytepimbebodmajaa
