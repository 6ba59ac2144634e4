/-
  Layer 14: how many touches are noted, why they are refused; Add: walks.
-/
import Derived.Test.YtiohlmccnllklaaGreatDoorH31
import Derived.Test.YtiohlmccnllklaaGreatDoorH00
set_option linter.unusedVariables false
set_option linter.unusedSimpArgs false
namespace Go.Proofs.YtiohlmccnllklaaGreatDoor.Q
open Go.RowKit
set_option maxHeartbeats 16000000
set_option maxRecDepth 100000
set_option linter.unusedVariables false
set_option linter.unusedSimpArgs false

theorem o_callb {P : Program} {op : Oper} {a : Act} {b : Value → Act} {w : World} {K : Act → World → Prop} {Q : Exit → Act → World → Prop} {F : FuncId} {args : Array Value} (d : Option Tmp) (he : (execOp a.eval op).run P w = .ok (.enter F args) w)
    (hc : Calls P F args w fun e w' => ∃ v, e = .returned v ∧ K (b v) w') (hd : op.dst = d := by rfl) (ha : ∀ v, a.put d v = b v := by intro v; (simp only [Act.put, List.setIfInBounds_toArray, List.set_cons_zero, List.set_cons_succ]; rfl)) : op.wp P a w K Q := by
  subst hd
  unfold Oper.wp
  rw [he]
  refine Calls.mono hc ?_
  rintro e w' ⟨v, rfl, hk⟩
  rw [← ha v] at hk
  exact hk
def ntd (ts : List T.Tc) : Nat := (T.tsN 0 ts).length
theorem ntd_le (ts : List T.Tc) : ntd ts ≤ ts.length := T.tsN_len _ _
theorem ntd_snoc {ts : List T.Tc} {k : Nat} {t : T.Tc} (h : ts[k]? = some t) : ntd (ts.take (k + 1)) = ntd (ts.take k) + if t.1 = T.none0 then 0 else 1 := by
  unfold ntd
  rw [T.tsN_snoc h, List.length_append]
  split <;> simp
theorem noted_any {w : World} {v : Value} {ts : List T.Tc} (h : TsIn w v ts) (hl : ts.length ≤ 900000) : Calls Tryz.prog 63 #[v] w fun e w' => e = .returned (.int .i64 (ntd ts : Nat)) ∧ Below w.heap.size w w' := by
  have HR := Lib.hid (fun W (hb : Below w.heap.size w W) => h.below hb)
  obtain ⟨ot, ct, rfl, _, _⟩ := h.shape
  have HB0 := Lib.hid (Below.refl w.heap.size w)
  have HD : Hid (ntd ts = ntd (ts.take ts.length)) := by rw [List.take_length]; exact Lib.hid rfl
  clear h
  go_enter Tryz.func63, Tryz.ntmps63
  go_wp2
  go_loopw [3, 8] (fun a i wr => ∃ k : Nat, k ≤ ts.length ∧ a = .int .i64 (ntd (ts.take k) : Nat) ∧ i = .int .i64 (k : Int) ∧ Hid (Below w.heap.size w wr)) (fun _ i _ => ts.length + 1 - natI i)
  case atStart => exact ⟨0, by omega, rfl, rfl, HB0.out⟩
  case round =>
    obtain ⟨k, hk, rfl, rfl, HB⟩ := hrel
    have hnk := ntd_le (ts.take k)
    have hnk2 := List.length_take_le k ts
    by_cases hlt : k < ts.length
    · have hi : (k : Int) < (ts.length : Int) := by omega
      obtain ⟨g1, o1, c1, t, fv, e1, l1, hpi, hpl, r1⟩ := (HR.out _ HB.out).at_ hlt
      obtain ⟨q1, q2, q3⟩ := rng3 r1
      simp at e1
      obtain ⟨rfl, rfl⟩ := e1
      obtain ⟨of, cf, rfl, _, _⟩ := hpl.shape
      have HS := Lib.hid (ntd_snoc l1)
      have hb1 := bel1 wr (.cells #[.int .i64 t.1.1, .int .i64 t.1.2, .slice of t.2.length cf] 61)
      have HB1 := Lib.hid (belT HB.out hb1)
      generalize hm : ntd (ts.take k) = m at hnk HS ⊢
      have hmm : m ≤ 900000 := by omega
      clear r1 l1 hpl hpi hb1 hm hnk hnk2
      go_wp2_with fail
      refine (decides_any t.1 _ _).mono ?_
      rintro e w2 ⟨rfl, hb⟩
      have HB2 := Lib.hid (belT HB1.out hb)
      clear hb
      by_cases hz : t.1 = T.none0
      · have hS : Hid (ntd (ts.take (k + 1)) = m) := by rw [HS.out, if_pos hz]; exact Lib.hid rfl
        go_wp2
        exact ⟨⟨k + 1, by omega, by rw [hS.out], by go_num, HB2.out⟩, by simp [natI]; omega⟩
      · have hS : Hid (ntd (ts.take (k + 1)) = m + 1) := by rw [HS.out, if_neg hz]; exact Lib.hid rfl
        go_wp2
        exact ⟨⟨k + 1, by omega, by rw [hS.out]; go_num, by go_num, HB2.out⟩, by simp [natI]; omega⟩
    · obtain rfl : k = ts.length := by omega
      go_wp2
      go_ret
      exact ⟨by rw [HD.out]; rfl, HB.out⟩
theorem refuses_nil (s : Int) (v : Value) (w : World) : Calls Tryz.prog 37 #[.pointer none, .int .i64 s, v] w fun e w' => e = .returned (.int .i64 1) ∧ w = w' := by
  go_enter Tryz.func37, Tryz.ntmps37
  go_wp2_with (go_at_call 41; refine (none_nil _).mono ?_; rintro e w' ⟨rfl, rfl⟩)
  go_ret
  exact ⟨rfl, rfl⟩
theorem refuses_zero (S : Nat) (s : Int) (v : Value) (w : World) (h : w.cell? ⟨S, 0, none⟩ = some (.map none)) : Calls Tryz.prog 37 #[.pointer (some ⟨S, 0, none⟩), .int .i64 s, v] w fun e w' => e = .returned (.int .i64 1) ∧ w = w' := by
  have HN := Lib.hid (none_zero S w h)
  go_enter Tryz.func37, Tryz.ntmps37
  go_wp2_with (go_at_call 41; refine HN.out.mono ?_; rintro e w' ⟨rfl, rfl⟩)
  go_ret
  exact ⟨rfl, rfl⟩
structure RfS (S mb n : Nat) (la : Int) (v : Value) (ts : List T.Tc) (W : World) : Prop where
  h : Rf 58 3 W S (hc mb n la)
  t : TsIn W v ts
theorem RfS.stb (S mb n : Nat) (la : Int) (v : Value) (ts : List T.Tc) : Free.Stb (RfS S mb n la v ts) := fun W W' h hb => ⟨h.h.below hb, h.t.below hb⟩
theorem refuses_any {w : World} {S mb n : Nat} {la : Int} (h : Rf 58 3 w S (hc mb n la)) {v : Value} {ts : List T.Tc} (hv : TsIn w v ts) (hl : n + ts.length ≤ 900000) (s : Int) :
    Calls Tryz.prog 37 #[.pointer (some ⟨S, 0, none⟩), .int .i64 s, v] w fun e w' => e = .returned (.int .i64 (if s < la then 2 else 0)) ∧ Below w.heap.size w w' := by
  have c0 := h.cell 0
  have c2 := h.cell 2
  unfold hc at c0 c2
  simp only [List.getElem?_toArray, List.getElem?_cons_zero, List.getElem?_cons_succ] at c0 c2
  have HN := Lib.hid (none_some S mb w c0)
  have HS : Hid (RfS S mb n la v ts w.drew) := Lib.hid ⟨h.drew, hv.below (Below.refl _ _).drew⟩
  have hnt := ntd_le ts
  have HB0 := Lib.hid (Below.refl w.heap.size w)
  obtain ⟨ot, ct, rfl, _, _⟩ := hv.shape
  clear h hv
  by_cases hs : s < la
  · rw [if_pos hs]
    go_enter Tryz.func37, Tryz.ntmps37
    go_wp2_with (go_at_call 41; refine HN.out.mono ?_; rintro e w' ⟨rfl, rfl⟩)
    go_ret
    exact ⟨rfl, HB0.out⟩
  · rw [if_neg hs]
    go_enter Tryz.func37, Tryz.ntmps37
    go_wp2_with (go_at_call 41; refine HN.out.mono ?_; rintro e w' ⟨rfl, rfl⟩)
    refine Free.any (RfS S mb n la _ ts) (RfS.stb S mb n la _ ts) HS.out (fun st => ?_)
    refine Free.tk 0 (some 18) ?_
    refine Free.tk 1 (some 19) ?_
    refine Free.tk 2 (some 20) ?_
    refine Free.tk 3 (some 21) (v := .int .i64 (n : Int)) ?_ (hy := by intro W hW; have c0 := hW.h.cell 1; unfold hc at c0; simp only [List.getElem?_toArray, List.getElem?_cons_zero, List.getElem?_cons_succ] at c0; go_simp; try with_reducible rfl)
    refine Free.tk 4 (some 22) ?_
    refine Free.cl 5 (some 23) (v := .int .i64 (ntd ts : Nat)) st (fun W hW => (noted_any hW.t (by omega))) ?_ (hy := by intro W; go_simp; try with_reducible rfl)
    refine Free.tk 6 (some 24) (v := .int .i64 ((n : Int) + (ntd ts : Nat))) ?_ (hy := by intro W hW; go_simp; try (rw [IntKind.wrap_i64] <;> omega))
    refine Free.tk 7 (some 25) (v := .bool false) ?_ (hy := by intro W hW; have h2 : ¬ (1048576 : Int) < (n : Int) + (ntd ts : Nat) := (by omega); go_simp; try with_reducible rfl)
    refine Free.tk 8 (some 17) ?_
    refine Free.done (fun W hb hW => ?_)
    have HB := Lib.hid (belT (Below.refl w.heap.size w).drew hb)
    clear hb hW
    go_wp2
    go_ret
    exact ⟨rfl, HB.out⟩

/-! ### Add -/
theorem Add_nil (s : Int) (v : Value) (w : World) : Calls Tryz.prog 15 #[.pointer none, .int .i64 s, v] w fun e w' => e = .returned (.int .i64 1) ∧ Below w.heap.size w w' := by
  have HB0 := Lib.hid (Below.refl w.heap.size w)
  go_enter Tryz.func15, Tryz.ntmps15
  go_wp2
  refine L2.wp_scope_fwd 0 rfl ?_
  go_wp2_with (go_at_call 37; refine (refuses_nil _ _ _).mono ?_; rintro e w1 ⟨rfl, rfl⟩)
  go_step3
  refine ⟨rfl, ?_⟩
  go_wp2
  rw [Exit.noGoto_ret]
  go_ret
  exact ⟨rfl, HB0.out⟩
theorem Add_zero (S : Nat) (s : Int) (v : Value) (w : World) (h : w.cell? ⟨S, 0, none⟩ = some (.map none)) : Calls Tryz.prog 15 #[.pointer (some ⟨S, 0, none⟩), .int .i64 s, v] w fun e w' => e = .returned (.int .i64 1) ∧ Below w.heap.size w w' := by
  have HB0 := Lib.hid (Below.refl w.heap.size w)
  have HR := Lib.hid (refuses_zero S s v w h)
  clear h
  go_enter Tryz.func15, Tryz.ntmps15
  go_wp2
  refine L2.wp_scope_fwd 0 rfl ?_
  go_wp2_with (go_at_call 37; refine HR.out.mono ?_; rintro e w1 ⟨rfl, rfl⟩)
  go_step3
  refine ⟨rfl, ?_⟩
  go_wp2
  rw [Exit.noGoto_ret]
  go_ret
  exact ⟨rfl, HB0.out⟩
/-- A history that has grown: its notes, its last step. -/
structure HsG (w : World) (S mb : Nat) (V : T.Pl → Value) (m : List T.No × Int) (W : World) : Prop where
  h : ∃ V', HsIs W S mb m.1 m.2 V' ∧ ∀ k, hF S mb V' k → hF S mb V k ∨ w.heap.size ≤ k
  t : Turned (hF S mb V) w W
theorem HsG.after {w : World} {S mb : Nat} {V : T.Pl → Value} {m : List T.No × Int} {W W' : World} (h : HsG w S mb V m W) (hb : Below W.heap.size W W') : HsG w S mb V m W' := by
  obtain ⟨V', h1, h2⟩ := h.h
  exact ⟨⟨V', h1.below hb, h2⟩, h.t.trans (Turned.of_below hb (fun _ => False)) (fun _ e => e.elim)⟩
theorem HsG.add {w : World} {S mb : Nat} {V V' : T.Pl → Value} {ns : List T.No} {la : Int} {W W' : World} {n : T.No} (h1 : HsIs W S mb ns la V') (h2 : ∀ k, hF S mb V' k → hF S mb V k ∨ w.heap.size ≤ k) (ht : Turned (hF S mb V) w W) {e : Ending} (h : AdO W S mb ns V' n e W') :
    e = .returned (.tuple #[]) ∧ HsG w S mb V (ns ++ [n], n.st) W' := by
  obtain ⟨rfl, v, h3, h4, h5⟩ := h
  refine ⟨rfl, ⟨upd V' n.pl v, h3, fun k hk => ?_⟩, ht.trans h4 fun k e => h2 k e⟩
  rcases hk with e | e | ⟨p, hp⟩
  · exact .inl (.inl e)
  · exact .inl (.inr (.inl e))
  · unfold upd at hp
    by_cases e : p = n.pl
    · rw [if_pos e] at hp
      rcases h5 k hp with e2 | e2
      · exact h2 k (.inr (.inr ⟨_, e2⟩))
      · exact .inr (Nat.le_trans ht.size e2)
    · rw [if_neg e] at hp
      exact h2 k (.inr (.inr ⟨_, hp⟩))
theorem HsIs.noBlk {w : World} {S mb : Nat} {ns : List T.No} {la : Int} {V : T.Pl → Value} (h : HsIs w S mb ns la V) {k : Nat} (hk : hF S mb V k) {cur : Array Value} {ty : TypeId} (hb : Blk w k cur ty) (h1 : ty ≠ 58) (h2 : ty ≠ 63) : False := by
  rcases hk with rfl | rfl | ⟨p, hp⟩
  · have := h.blk.blk
    unfold Blk at this hb
    rw [this] at hb
    simp at hb
    exact h1 hb.2.symm
  · obtain ⟨es, c, h1⟩ := h.mapBlk
    unfold Blk at hb
    rw [h1] at hb; cases hb
  · obtain ⟨cur', h3⟩ := (h.row p).in_ hp
    unfold Blk at h3 hb
    rw [h3] at hb
    simp at hb
    exact h2 hb.2.symm
theorem blk_stb (B : Nat) (cs : Array Value) (ty : TypeId) : Free.Stb (fun W => Blk W B cs ty) := fun W W' h hb => h.below hb
structure AddS (w : World) (S mb B : Nat) (V : T.Pl → Value) (m : List T.No × Int) (t : T.Tc) (fv : Value) (W : World) : Prop where
  g : HsG w S mb V m W
  k : Blk W B #[.int .i64 t.1.1, .int .i64 t.1.2, fv] 61
  p : PlsIn W fv t.2
theorem AddS.stb (w : World) (S mb B : Nat) (V : T.Pl → Value) (m : List T.No × Int) (t : T.Tc) (fv : Value) : Free.Stb (AddS w S mb B V m t fv) := fun W W' h hb => ⟨h.g.after hb, h.k.below hb, h.p.below hb⟩
def m_of (ns : List T.No) (la s : Int) (ts : List T.Tc) : List T.No × Int := (ns ++ T.tsN s ts, if T.tsN s ts = [] then la else s)
def AddO (w : World) (S mb : Nat) (V : T.Pl → Value) (ns : List T.No) (la s : Int) (ts : List T.Tc) (e : Ending) (w' : World) : Prop :=
  e = .returned (.int .i64 (if s < la then 2 else 0)) ∧ HsG w S mb V (T.stM (ns, la) (s, ts)) w'
theorem Add_any {w : World} {S mb : Nat} {ns : List T.No} {la : Int} {V : T.Pl → Value} (h : HsIs w S mb ns la V) {v : Value} {ts : List T.Tc} (hv : ∀ W, Turned (hF S mb V) w W → TsIn W v ts) (hl : ns.length + ts.length ≤ 900000)
    (hfl : ∀ t ∈ ts, t.2.length ≤ 1000000) {s : Int} (hs : I64 s) : Calls Tryz.prog 15 #[.pointer (some ⟨S, 0, none⟩), .int .i64 s, v] w fun e w' => AddO w S mb V ns la s ts e w' := by
  have hv0 := hv w (Turned.refl _ _)
  have HR := Lib.hid (refuses_any h.blk hv0 hl s)
  have HV := Lib.hid hv
  have HH := Lib.hid h
  have HFl := Lib.hid hfl
  have HSs := Lib.hid hs
  have HPi : Hid (∀ t ∈ ts, Pi t.1) := by obtain ⟨_, _, _, h3⟩ := hv0; exact Lib.hid h3
  obtain ⟨ot, ct, rfl, _, _⟩ := hv0.shape
  clear h hv hv0 hfl hs
  by_cases hsl : s < la
  · have HO : Hid (∀ W, Below w.heap.size w W → AddO w S mb V ns la s ts (.returned (.int .i64 2)) W) := by
      refine Lib.hid fun W hb => ⟨by rw [if_pos hsl], ?_⟩
      have e : T.stM (ns, la) (s, ts) = (ns, la) := by unfold T.stM; rw [if_pos hsl]
      rw [e]
      exact ⟨⟨V, HH.out.below hb, fun k hk => .inl hk⟩, Turned.of_below hb _⟩
    rw [if_pos hsl] at HR
    clear hsl
    go_enter Tryz.func15, Tryz.ntmps15
    go_wp2
    refine L2.wp_scope_fwd 0 rfl ?_
    go_wp2_with (go_at_call 37; refine HR.out.mono ?_; rintro e w1 ⟨rfl, hb⟩)
    have HO1 := Lib.hid (HO.out _ hb)
    clear hb
    go_step3
    refine ⟨rfl, ?_⟩
    go_wp2
    rw [Exit.noGoto_ret]
    go_ret
    exact HO1.out
  · have HO : Hid (∀ W, HsG w S mb V (m_of ns la s ts) W → AddO w S mb V ns la s ts (.returned (.int .i64 0)) W) := by
      refine Lib.hid fun W hg => ⟨by rw [if_neg hsl], ?_⟩
      have e : T.stM (ns, la) (s, ts) = m_of ns la s ts := by unfold T.stM m_of; rw [if_neg hsl]
      rw [e]; exact hg
    rw [if_neg hsl] at HR
    clear hsl
    go_enter Tryz.func15, Tryz.ntmps15
    go_wp2
    refine L2.wp_scope_fwd 0 rfl ?_
    go_wp2_with fail
    refine HR.out.mono ?_
    rintro e w1 ⟨rfl, hb⟩
    have H0 : Hid (HsG w S mb V (m_of ns la s (ts.take 0)) w1) := by
      have e : m_of ns la s (ts.take 0) = (ns, la) := by rw [List.take_zero]; simp [m_of, T.tsN]
      rw [e]
      exact Lib.hid ⟨⟨V, HH.out.below hb, fun k hk => .inl hk⟩, Turned.of_below hb _⟩
    clear hb HR HH
    go_wp2
    go_loopw [18] (fun i wr => ∃ k : Nat, k ≤ ts.length ∧ i = .int .i64 (k : Int) ∧ Hid (HsG w S mb V (m_of ns la s (ts.take k)) wr)) (fun i _ => ts.length + 1 - natI i)
    case atStart => exact ⟨0, by omega, rfl, H0.out⟩
    case round =>
      obtain ⟨k, hk, rfl, HG⟩ := hrel
      clear H0
      by_cases hlt : k < ts.length
      · have hi : (k : Int) < (ts.length : Int) := by omega
        obtain ⟨g1, o1, c1, t, fv, e1, l1, hpi, hpl, r1⟩ := (HV.out _ HG.out.t).at_ hlt
        obtain ⟨q1, q2, q3⟩ := rng3 r1
        simp at e1
        obtain ⟨rfl, rfl⟩ := e1
        obtain ⟨of, cf, rfl, _, _⟩ := hpl.shape
        have hb1 := bel1 wr (.cells #[.int .i64 t.1.1, .int .i64 t.1.2, .slice of t.2.length cf] 61)
        have HS1 : Hid (AddS w S mb wr.heap.size V (m_of ns la s (ts.take k)) t (.slice of t.2.length cf) (wr.alloc (.cells #[.int .i64 t.1.1, .int .i64 t.1.2, .slice of t.2.length cf] 61))) := Lib.hid ⟨HG.out.after hb1, blk_new wr _ _, hpl.below hb1⟩
        have HTk := Lib.hid (T.tsN_snoc (s := s) l1)
        have HTl := Lib.hid (T.tsN_len s (ts.take k))
        have HFt := Lib.hid (HFl.out t (List.mem_of_getElem? l1))
        have HPt := Lib.hid hpi
        clear r1 l1 hpl hpi hb1 HG
        go_wp2_with fail
        refine (decides_any t.1 _ _).mono ?_
        rintro e w2 ⟨rfl, hb⟩
        have HS2 := Lib.hid (AddS.stb _ _ _ _ _ _ _ _ _ _ HS1.out hb)
        clear hb HS1 q1 q2 q3
        by_cases hz : t.1 = T.none0
        · have HG2 : Hid (HsG w S mb V (m_of ns la s (ts.take (k + 1))) w2) := by
            have e : m_of ns la s (ts.take (k + 1)) = m_of ns la s (ts.take k) := by unfold m_of; rw [HTk.out, if_pos hz, List.append_nil]
            rw [e]; exact Lib.hid HS2.out.g
          clear HS2
          go_wp2
          exact ⟨⟨k + 1, by omega, by go_num, HG2.out⟩, by simp [natI]; omega⟩
        · go_wp2
          have HSd : Hid (Blk w2.drew wr.heap.size #[.int .i64 t.1.1, .int .i64 t.1.2, .slice of t.2.length cf] 61) := Lib.hid HS2.out.k.drew
          refine Free.any (fun W => Blk W wr.heap.size #[.int .i64 t.1.1, .int .i64 t.1.2, .slice of t.2.length cf] 61) (blk_stb _ _ _) HSd.out (fun st => ?_)
          refine Free.tk 0 (some 25) ?_
          refine Free.tk 1 (some 26) ?_
          refine Free.tk 2 (some 27) ?_
          refine Free.tk 3 (some 28) ?_ (hy := by intro W hW; have c0 := hW.cell 0; have c1 := hW.cell 1; simp only [List.getElem?_toArray, List.getElem?_cons_zero, List.getElem?_cons_succ] at c0 c1; go_simp; try with_reducible rfl)
          refine Free.tk 4 (some 29) ?_
          refine Free.tk 5 (some 30) ?_ (hy := by intro W hW; have c2 := hW.cell 2; simp only [List.getElem?_toArray, List.getElem?_cons_zero, List.getElem?_cons_succ] at c2; go_simp; try with_reducible rfl)
          refine Free.one 6 (fun W hb hW => ?_)
          have hb2 := belT (Below.refl w2.heap.size w2).drew hb
          have hA := AddS.stb _ _ _ _ _ _ _ _ _ _ HS2.out hb2
          refine o_callb (some 31) (by go_simp; first | exact ⟨rfl, rfl⟩ | rfl) ?_
          refine (copied_any hA.p HFt.out).mono ?_
          rintro e W3 ⟨u, rfl, ho, hb3⟩
          obtain ⟨ou, cu, eu, _, _⟩ := ho.1.shape
          subst eu
          have HA3 := Lib.hid (AddS.stb _ _ _ _ _ _ _ _ _ _ hA hb3)
          have HO3 := Lib.hid ho
          clear hb hb2 hA hb3 ho hW
          refine ⟨_, rfl, HA3.out.k, ?_⟩
          refine Free.tk 7 (some 32) (v := .agg (noc ⟨s, t.1, t.2⟩ (.slice ou t.2.length cu)).toArray) ?_ (hy := by intro W hW; unfold noc; go_simp; try with_reducible rfl)
          refine Free.one 8 (fun W4 hb4 hW4 => ?_)
          have hA4 := AddS.stb _ _ _ _ _ _ _ _ _ _ HA3.out hb4
          obtain ⟨V', h1, h2⟩ := hA4.g.h
          refine o_callb (some 33) (by go_simp; first | exact ⟨rfl, rfl⟩ | rfl) ?_
          have hln : (ns ++ T.tsN s (ts.take k)).length ≤ 900000 := by
            rw [List.length_append]
            have := HTl.out
            rw [List.length_take] at this
            omega
          refine (add_any h1 hln (n := ⟨s, t.1, t.2⟩) (HO3.out.below hb4) ⟨HSs.out, HPt.out⟩).mono ?_
          intro e W5 hao
          obtain ⟨_, _, _, h4, _⟩ := id hao
          obtain ⟨rfl, hg5⟩ := HsG.add h1 h2 hA4.g.t hao
          have hk5 : Blk W5 wr.heap.size #[.int .i64 t.1.1, .int .i64 t.1.2, .slice of t.2.length cf] 61 := hA4.k.turned h4 fun e => h1.noBlk e hA4.k (by decide) (by decide)
          have HG5 : Hid (HsG w S mb V (m_of ns la s (ts.take (k + 1))) W5) := by
            have e : m_of ns la s (ts.take (k + 1)) = ((m_of ns la s (ts.take k)).1 ++ [⟨s, t.1, t.2⟩], s) := by
              unfold m_of
              rw [HTk.out, if_neg hz, if_neg (by simp), List.append_assoc]
            rw [e]; exact Lib.hid hg5
          clear hg5 hao h4 h1 h2 hA4 hb4 hW4 hln
          refine ⟨_, rfl, hk5, ?_⟩
          clear hk5
          refine Free.done (fun W6 hb6 hW6 => ?_)
          have HG6 := Lib.hid (HG5.out.after hb6)
          clear hb6 hW6 HG5
          go_wp2
          exact ⟨⟨k + 1, by omega, by go_num, HG6.out⟩, by simp [natI]; omega⟩
      · obtain rfl : k = ts.length := by omega
        have HO2 : Hid (AddO w S mb V ns la s ts (.returned (.int .i64 0)) wr) := by
          have h := HG.out
          rw [List.take_length] at h
          exact Lib.hid (HO.out _ h)
        go_wp2
        rw [L2.Fwd_ret]
        go_ret
        exact HO2.out
end Go.Proofs.YtiohlmccnllklaaGreatDoor.Q
