/-
  Layer 14: an entry of the map of notes is made, a note is added to its row: what becomes of the world. No walk. Layer 14: a note is added to a history: walk.
-/
import Derived.Test.YtiohlmccnllklaaGreatDoorH30
set_option linter.unusedVariables false
set_option linter.unusedSimpArgs false
namespace Go.Proofs.YtiohlmccnllklaaGreatDoor.Q
open Go.RowKit Go.ChangeShapes Go.WideShapes Go.MapKept Go.ChangeMaps
open Go.WideElems (Fit rd rg pl rd_val)
set_option maxHeartbeats 8000000
set_option maxRecDepth 100000
set_option linter.unusedVariables false
set_option linter.unusedSimpArgs false

theorem nodup_key {l : List MapEntry} (h : (l.map (·.key)).Nodup) {a b : MapEntry} (ha : a ∈ l) (hb : b ∈ l) (e : a.key = b.key) : a = b := by
  induction l with
  | nil => cases ha
  | cons x r ih =>
    simp only [List.map_cons, List.nodup_cons] at h
    rcases List.mem_cons.1 ha with e1 | ha
    · rcases List.mem_cons.1 hb with e2 | hb
      · rw [e1, e2]
      · exact absurd (List.mem_map.2 ⟨b, hb, by rw [← e, e1]⟩) h.1
    · rcases List.mem_cons.1 hb with e2 | hb
      · exact absurd (List.mem_map.2 ⟨a, ha, by rw [e, e2]⟩) h.1
      · exact ih h.2 ha hb
/-- A world whose map is in the making. -/
def setM (W : World) (b : Nat) (es : Array MapEntry) (c : Nat) : World := setBlock W b (.map es c)
theorem setM_below {W : World} {b : Nat} (es : Array MapEntry) (c : Nat) {w0 : World} (h : Below w0.heap.size w0 W) (hb : w0.heap.size ≤ b) : Below w0.heap.size w0 (setM W b es c) := by
  refine h.trans ⟨rfl, rfl, rfl, by simp [setM, setBlock], fun k hk => ?_⟩
  show (W.heap.setIfInBounds b _)[k]? = _
  rw [Array.getElem?_setIfInBounds, if_neg (by omega)]
theorem setM_turned (W : World) (b : Nat) (es : Array MapEntry) (c : Nat) : Turned (fun k => k = b) W (setM W b es c) := by
  refine ⟨rfl, rfl, rfl, by simp [setM, setBlock], fun k hk hn => ?_⟩
  show (W.heap.setIfInBounds b _)[k]? = _
  rw [Array.getElem?_setIfInBounds, if_neg (fun e => hn e.symm)]
theorem setM_same {W : World} {b : Nat} {es0 : Array MapEntry} {c0 : Nat} (hb : W.heap[b]? = some (.map es0 c0)) (es : Array MapEntry) (c : Nat) : (setM W b es c).heap[b]? = some (.map es c) := heap_setBlock_same hb _
def upd (V : T.Pl → Value) (p : T.Pl) (v : Value) (q : T.Pl) : Value := if q = p then v else V q
theorem ofP_snoc (ns : List T.No) (n : T.No) (q : T.Pl) : T.ofP (ns ++ [n]) q = T.ofP ns q ++ if n.pl = q then [n] else [] := by
  unfold T.ofP
  rw [List.filter_append]
  by_cases e : n.pl = q <;> simp [e]
theorem gOf_snoc (ns : List T.No) (n : T.No) (V : T.Pl → Value) (v : Value) : gOf (ns ++ [n]) (upd V n.pl v) = fun p => if p = n.pl then some v else gOf ns V p := by
  funext p
  unfold gOf upd
  rw [ofP_snoc]
  by_cases e : p = n.pl
  · subst e; simp
  · have e2 : ¬ n.pl = p := fun h => e h.symm
    simp [e, e2]
/-- The entry of a place: what stands there, and what is made of it when something is put there. -/
theorem HsIs.entry {w : World} {S mb : Nat} {ns : List T.No} {la : Int} {V : T.Pl → Value} (h : HsIs w S mb ns la V) (hl : ns.length ≤ 1000000) {n : T.No} (hp : Pi n.pl) : ∃ (st : Nat) (es1 : Array MapEntry) (c1 : Nat),
    (Instr.mapEntry 56 (.map (some mb)) (.agg (pla n.pl))).run Tryz.prog w = .ok (.tuple #[V n.pl, goInt st]) (setM w mb es1 c1) ∧
    ∀ (w2 : World) (val : Value), w2.heap[mb]? = some (.map es1 c1) → ∃ es2 c2, (Instr.entryStore 56 (.map (some mb)) (goInt st) val).run Tryz.prog w2 = .ok () (setM w2 mb es2 c2) ∧
      ∀ w3 : World, w3.heap[mb]? = some (.map es2 c2) → ∃ D, w3.ownsMap Tryz.prog 42 hv mb (ns.length + 1) D ∧ NtD (gOf (ns ++ [n]) (upd V n.pl val)) D := by
  obtain ⟨D, h1, h2⟩ := h.map
  have hz : ∀ u : World, (zeroValue 66).run Tryz.prog u = .ok (.slice none 0 0) u := fun u => by kernel_rfl
  have h1' := h1
  obtain ⟨es, c, hb, F, hs, hD⟩ := h1
  obtain ⟨v0, st, es1, c1, r1, r2, r3⟩ := Go.WideElems.entry_then_store placeKL Tryz.underlying56 hz hb F (key_place hp)
  have hv0 : v0 = V n.pl := by
    have hlook := h.look hp
    rcases Maps.fit_look false placeLaw Tryz.underlying56 (hz w) hb F (key_place hp) with ⟨hrun, hno, _⟩ | ⟨e0, y, he0, hk0, hrun, _⟩
    · rcases r2 with ⟨e1, he1, hk1, _⟩ | ⟨_, e1⟩
      · exact absurd hk1 (hno e1 he1)
      · have : (Result.ok (Value.slice none 0 0) w : Result Value) = .ok (V n.pl) w := hrun.symm.trans hlook
        rw [e1]; simpa using this
    · have e2 : e0.val = V n.pl := by
        have : (Result.ok e0.val w : Result Value) = .ok (V n.pl) w := hrun.symm.trans hlook
        simpa using this
      rcases r2 with ⟨e1, he1, hk1, e3⟩ | ⟨hno, _⟩
      · rw [e3, nodup_key F.stamped.2.2 he1 he0 (hk1.trans hk0.symm), e2]
      · exact absurd hk0 (hno e0 he0)
  subst hv0
  refine ⟨st, es1, c1, r1, fun w2 val hw2 => ?_⟩
  obtain ⟨es2, c2, r4, r5⟩ := r3 w2 val hw2
  refine ⟨es2, c2, r4, fun w3 hw3 => ?_⟩
  obtain ⟨w', hup, hown, hg⟩ := h1'.update placeLaw Tryz.underlying56 (by unfold maxLen; omega) (key_place hp) (hv_at val)
  have e1 : w' = setBlock w mb (.map es2 c2) := by
    have : (Result.ok () w' : Result Unit) = .ok () (setBlock w mb (.map es2 c2)) := hup.symm.trans r5
    simpa using this
  subst e1
  refine ⟨_, own_keep hown (hw3.trans (heap_setBlock_same hb _).symm), ?_⟩
  rw [gOf_snoc]
  exact h2.put (h1'.isMap) hp val
/-- The rows alone. -/
structure Hr (w : World) (ns : List T.No) (V : T.Pl → Value) : Prop where
  row : ∀ p, RowN w (V p) (T.ofP ns p)
  nil : ∀ p, T.ofP ns p = [] → V p = .slice none 0 0
  ap : ∀ p q k, blkOf (V p) = some k → blkOf (V q) = some k → p = q
  pi : ∀ n ∈ ns, PiN n
section
variable {w w' : World} {S mb : Nat} {ns : List T.No} {la : Int} {V : T.Pl → Value}
theorem HsIs.rows (h : HsIs w S mb ns la V) : Hr w ns V := ⟨h.row, h.nil, h.ap, h.pi⟩
theorem Hr.below (h : Hr w ns V) (hb : Below w.heap.size w w') : Hr w' ns V := ⟨fun p => (h.row p).below hb, h.nil, h.ap, h.pi⟩
theorem Hr.turned (h : Hr w ns V) {G : Nat → Prop} (ht : Turned G w w') (hG : ∀ k, G k → ∀ cur ty, Blk w k cur ty → ty ≠ 63 ∧ ty ≠ 42) : Hr w' ns V :=
  ⟨fun p => (h.row p).keep (fun k hk => ht.block k ((h.row p).lt hk) fun e => by obtain ⟨cur, hc⟩ := (h.row p).in_ hk; exact (hG k e _ _ hc).1 rfl) (fun k cur hc => ht.block k hc.lt fun e => (hG k e _ _ hc).2 rfl), h.nil, h.ap, h.pi⟩
theorem Hr.setM (h : Hr w ns V) (hb : ∃ es c, w.heap[mb]? = some (.map es c)) (es : Array MapEntry) (c : Nat) : Hr (setM w mb es c) ns V :=
  h.turned (setM_turned w mb es c) fun k e cur ty hc => by
    subst e
    obtain ⟨es0, c0, hb⟩ := hb
    unfold Blk at hc
    rw [hb] at hc; cases hc
/-- A note is added. -/
theorem Hr.app (h : Hr w ns V) {n : T.No} {fv v' : Value} {cs : List Value} (ho : Own w fv n.fr) (hn : PiN n) (hg : Gs 63 4 w (V n.pl) (T.ofP ns n.pl).length cs) (hc : NtC (Own w) (T.ofP ns n.pl) cs)
    (hg' : Gs 63 4 w' v' ((T.ofP ns n.pl).length + 1) (cs ++ noc n fv)) (ht : Turned (fun k => blkOf (V n.pl) = some k) w w') (hk : ∀ k, blkOf v' = some k → blkOf (V n.pl) = some k ∨ w.heap.size ≤ k) : Hr w' (ns ++ [n]) (upd V n.pl v') := by
  have hR := RowN.app hc hg ho hn hg' ht
  refine ⟨fun q => ?_, fun q hq => ?_, fun p q k hp hq => ?_, fun m hm => ?_⟩
  · unfold upd
    rw [ofP_snoc]
    by_cases e : q = n.pl
    · subst e; rw [if_pos rfl, if_pos rfl]; exact hR
    · rw [if_neg e, if_neg (fun h => e h.symm), List.append_nil]
      refine (h.row q).keep (fun k hk' => ht.block k ((h.row q).lt hk') fun e2 => e (h.ap _ _ k hk' e2)) (fun k cur hb => ht.block k hb.lt fun e2 => ?_)
      obtain ⟨cur', h1⟩ := hg.in_ e2
      unfold Blk at hb h1
      rw [hb] at h1
      simp at h1
  · rw [ofP_snoc] at hq
    unfold upd
    by_cases e : q = n.pl
    · subst e; simp at hq
    · rw [if_neg e]; exact h.nil q (by simp at hq; exact hq.1)
  · unfold upd at hp hq
    by_cases e1 : p = n.pl <;> by_cases e2 : q = n.pl
    · rw [e1, e2]
    · rw [if_pos e1] at hp; rw [if_neg e2] at hq
      rcases hk k hp with h3 | h3
      · exact absurd (h.ap _ _ k hq h3) e2
      · have := (h.row q).lt hq; omega
    · rw [if_neg e1] at hp; rw [if_pos e2] at hq
      rcases hk k hq with h3 | h3
      · exact absurd (h.ap _ _ k hp h3) e1
      · have := (h.row p).lt hp; omega
    · rw [if_neg e1] at hp; rw [if_neg e2] at hq; exact h.ap p q k hp hq
  · rcases List.mem_append.1 hm with hm | hm
    · exact h.pi m hm
    · rw [List.mem_singleton.1 hm]; exact hn
end
/-- The operation gives v, and makes of the world w1. -/
theorem o_okb {P : Program} (d : Option Tmp) {op : Oper} {a b : Act} {w : World} {K : Act → World → Prop} {Q : Exit → Act → World → Prop} (v : Value) (w1 : World) (h : (execOp a.eval op).run P w = .ok (.value v) w1) (hK : K b w1) (hd : op.dst = d := by rfl)
    (ha : a.put d v = b := by (simp only [Act.put, List.setIfInBounds_toArray, List.set_cons_zero, List.set_cons_succ]; rfl)) : op.wp P a w K Q := by
  subst hd ha
  unfold Oper.wp
  rw [h]
  exact hK
theorem o_skb {P : Program} (d : Option Tmp) {op : Oper} {a b : Act} {w : World} {K : Act → World → Prop} {Q : Exit → Act → World → Prop} (w1 : World) (h : (execOp a.eval op).run P w = .ok .skip w1) (hK : K b w1) (hd : op.dst = d := by rfl)
    (ha : a.put d undef = b := by (simp only [Act.put, List.setIfInBounds_toArray, List.set_cons_zero, List.set_cons_succ]; rfl)) : op.wp P a w K Q := by
  subst hd ha
  unfold Oper.wp
  rw [h]
  exact hK
theorem wpOp_at {P : Program} {ops : Array Oper} {Q : Exit → Act → World → Prop} {K : Act → World → Prop} {a : Act} {w : World} (i : Nat) {o : Oper} (hi : ops[i]? = some o) (hw : Region.wanted o (yielded ops a.tmps) = true) (h : o.wp P a w K Q) : wpOp P ops Q i K a w := by
  unfold wpOp
  rw [hi]
  dsimp only
  rw [if_pos hw]
  exact .inl h
end Go.Proofs.YtiohlmccnllklaaGreatDoor.Q
namespace Go.Proofs.YtiohlmccnllklaaGreatDoor.Q
open Go.RowKit
set_option maxHeartbeats 16000000
set_option maxRecDepth 100000
set_option linter.unusedVariables false
set_option linter.unusedSimpArgs false

structure AdS (S mb B n0 : Nat) (la : Int) (n : T.No) (fv : Value) (W : World) : Prop where
  h : Rf 58 3 W S (hc mb n0 la)
  b : Blk W B (noc n fv).toArray 63
theorem AdS.stb (S mb B n0 : Nat) (la : Int) (n : T.No) (fv : Value) : Free.Stb (AdS S mb B n0 la n fv) := fun W W' h hb => ⟨h.h.below hb, h.b.below hb⟩
/-- What a note that is added leaves. -/
def AdO (w : World) (S mb : Nat) (ns : List T.No) (V : T.Pl → Value) (n : T.No) (e : Ending) (w' : World) : Prop :=
  e = .returned (.tuple #[]) ∧ ∃ v, HsIs w' S mb (ns ++ [n]) n.st (upd V n.pl v) ∧ Turned (hF S mb V) w w' ∧ ∀ k, blkOf v = some k → blkOf (V n.pl) = some k ∨ w.heap.size ≤ k
/-- .. ahead of its numbers. -/
structure AdM (w : World) (S mb B : Nat) (ns : List T.No) (la : Int) (V : T.Pl → Value) (n : T.No) (fv : Value) (W : World) : Prop where
  s : AdS S mb B ns.length la n fv W
  e : ∃ v, (∃ D, W.ownsMap Tryz.prog 42 hv mb (ns.length + 1) D ∧ NtD (gOf (ns ++ [n]) (upd V n.pl v)) D) ∧ Hr W (ns ++ [n]) (upd V n.pl v) ∧ Turned (hF S mb V) w W ∧ ∀ k, blkOf v = some k → blkOf (V n.pl) = some k ∨ w.heap.size ≤ k
theorem AdM.after {w : World} {S mb B : Nat} {ns : List T.No} {la : Int} {V : T.Pl → Value} {n : T.No} {fv : Value} {W W' : World} (h : AdM w S mb B ns la V n fv W) (hb : Below W.heap.size W W') : AdM w S mb B ns la V n fv W' := by
  obtain ⟨v, ⟨D, h1, h2⟩, h3, h4, h5⟩ := h.e
  exact ⟨AdS.stb _ _ _ _ _ _ _ _ _ h.s hb, v, ⟨D, own_keep h1 (hb.block _ h1.lt), h2⟩, h3.below hb, h4.trans (Turned.of_below hb (fun _ => False)) (fun _ e => e.elim), h5⟩
/-- Once the numbers stand, it is the history. -/
theorem AdM.end_ {w : World} {S mb B : Nat} {ns : List T.No} {la : Int} {V : T.Pl → Value} {n : T.No} {fv : Value} {W : World} (h : AdM w S mb B ns la V n fv W) :
    AdO w S mb ns V n (.returned (.tuple #[])) ((W.setCell ⟨S, 2, none⟩ (.int .i64 n.st)).setCell ⟨S, 1, none⟩ (.int .i64 ((ns.length : Int) + 1))) := by
  obtain ⟨v, ⟨D, h1, h2⟩, h3, h4, h5⟩ := h.e
  have hB := h.s.h.blk
  have hS := (hB.setCell 2 (.int .i64 n.st)).setCell 1 (.int .i64 ((ns.length : Int) + 1))
  have ht : Turned (fun k => k = S) W ((W.setCell ⟨S, 2, none⟩ (.int .i64 n.st)).setCell ⟨S, 1, none⟩ (.int .i64 ((ns.length : Int) + 1))) :=
    ((Turned.refl (fun k => k = S) W).setCell (p := ⟨S, 2, none⟩) (.inl rfl) _).setCell (p := ⟨S, 1, none⟩) (.inl rfl) _
  have hbm := own_blk h1
  have hne : mb ≠ S := by
    rintro rfl
    obtain ⟨es, c, hb⟩ := hbm
    unfold Blk at hB
    rw [hB] at hb; cases hb
  refine ⟨rfl, v, ?_, h4.trans ht (fun k e => .inl (.inl e)), h5⟩
  have hr := h3.turned ht fun k e cur ty hc => by
    subst e
    unfold Blk at hB hc
    rw [hB] at hc
    simp at hc
    rw [← hc.2]
    decide
  refine ⟨⟨?_, rfl, by simp [hc, Value.oneCell']⟩, ⟨D, by rw [List.length_append]; exact own_keep h1 (ht.block _ h1.lt hne), h2⟩, hr.row, hr.nil, hr.ap, hr.pi⟩
  have e : (((hc mb ns.length la).setIfInBounds 2 (.int .i64 n.st)).setIfInBounds 1 (.int .i64 ((ns.length : Int) + 1))) = hc mb (ns ++ [n]).length n.st := by
    unfold hc
    rw [List.length_append]
    simp
  rw [← e]
  exact hS
/-- From the entry on: the row has grown, the entry is stored. -/
theorem adm_store {w W3 w6 W4 : World} {S mb B : Nat} {ns : List T.No} {la : Int} {V : T.Pl → Value} {n : T.No} {fv v6 : Value} {es1 es2 : Array MapEntry} {c1 c2 : Nat} {cs : List Value}
    (hF0 : ∀ k, hF S mb V k → k < w.heap.size) (hS : AdS S mb B ns.length la n fv W4) (hr : Hr W3 ns V) (ho : Own W3 fv n.fr) (hn : PiN n) (ht0 : Turned (hF S mb V) w W3)
    (hg : Gs 63 4 W3 (V n.pl) (T.ofP ns n.pl).length cs) (hc : NtC (Own W3) (T.ofP ns n.pl) cs) (hg6 : Gs 63 4 w6 v6 ((T.ofP ns n.pl).length + 1) (cs ++ noc n fv))
    (ht6 : Turned (fun k => blkOf (V n.pl) = some k) W3 w6) (hk6 : ∀ k, blkOf v6 = some k → blkOf (V n.pl) = some k ∨ W3.heap.size ≤ k) (hb4 : Below w6.heap.size w6 W4) (hm4 : W4.heap[mb]? = some (.map es1 c1))
    (hD : ∀ w3 : World, w3.heap[mb]? = some (.map es2 c2) → ∃ D, w3.ownsMap Tryz.prog 42 hv mb (ns.length + 1) D ∧ NtD (gOf (ns ++ [n]) (upd V n.pl v6)) D) : AdM w S mb B ns la V n fv (setM W4 mb es2 c2) := by
  have hr6 := (hr.app ho hn hg hc hg6 ht6 hk6).below hb4
  have hSM := setM_turned W4 mb es2 c2
  have hne : ∀ {k : Nat} {cur : Array Value} {ty : TypeId}, Blk W4 k cur ty → ¬ k = mb := fun {k cur ty} hc e => by
    subst e
    unfold Blk at hc
    rw [hm4] at hc; cases hc
  refine ⟨⟨hS.h.turned hSM (hne hS.h.blk), hS.b.turned hSM (hne hS.b)⟩, v6, hD _ (setM_same hm4 es2 c2), hr6.setM ⟨_, _, hm4⟩ es2 c2, ?_, fun k hk => ?_⟩
  · refine ((ht0.trans ht6 (fun k e => .inl (.inr (.inr ⟨_, e⟩)))).trans (Turned.of_below hb4 (fun _ => False)) (fun _ e => e.elim)).trans hSM (fun k e => .inl (.inr (.inl e)))
  · rcases hk6 k hk with e | e
    · exact .inl e
    · exact .inr (Nat.le_trans ht0.size e)
theorem add_any {w : World} {S mb : Nat} {ns : List T.No} {la : Int} {V : T.Pl → Value} (h : HsIs w S mb ns la V) (hl : ns.length ≤ 900000) {n : T.No} {fv : Value} (ho : Own w fv n.fr) (hn : PiN n) :
    Calls Tryz.prog 39 #[.pointer (some ⟨S, 0, none⟩), .agg (noc n fv).toArray] w fun e w' => AdO w S mb ns V n e w' := by
  have hb := bel1 w (.cells (noc n fv).toArray 63)
  have hbd : Below w.heap.size w (w.alloc (.cells (noc n fv).toArray 63)).drew := belT hb (Below.refl _ _).drew
  have HS : Hid (AdS S mb w.heap.size ns.length la n fv (w.alloc (.cells (noc n fv).toArray 63)).drew) := ⟨h.blk.below hbd, (blk_new w _ 63).drew⟩
  have HH := Lib.hid (fun W (hb : Below (w.alloc (.cells (noc n fv).toArray 63)).drew.heap.size (w.alloc (.cells (noc n fv).toArray 63)).drew W) => h.below (belT hbd hb))
  have HO := Lib.hid (fun W (hb : Below (w.alloc (.cells (noc n fv).toArray 63)).drew.heap.size (w.alloc (.cells (noc n fv).toArray 63)).drew W) => ho.below (belT hbd hb))
  have HT := Lib.hid (fun W (hb : Below (w.alloc (.cells (noc n fv).toArray 63)).drew.heap.size (w.alloc (.cells (noc n fv).toArray 63)).drew W) => Turned.of_below (belT hbd hb) (hF S mb V))
  have HF0 := Lib.hid (fun k (hk : hF S mb V k) => h.lt hk)
  have HN := Lib.hid hn
  have HPi := Lib.hid hn.2
  have HNe := Lib.hid (fun k (hk : blkOf (V n.pl) = some k) => (h.neR hk).2)
  have hlp : (T.ofP ns n.pl).length ≤ 900000 := Nat.le_trans (List.length_filter_le _ _) hl
  obtain ⟨of, cf, rfl, _, _⟩ := ho.1.shape
  have HLr := Lib.hid h.blk.lt
  clear h ho hn hb hbd
  have HSw : Hid (w.heap.size = w.heap.size) := Lib.hid rfl
  go_enter Tryz.func39, Tryz.ntmps39
  go_wp2
  refine Free.any (AdS S mb w.heap.size ns.length la n (.slice of n.fr.length cf)) (AdS.stb S mb w.heap.size ns.length la n _) (by have := HS.out; exact this) (fun st => ?_)
  refine Free.tk 0 (some 4) ?_
  refine Free.tk 1 (some 5) ?_
  refine Free.tk 2 (some 6) ?_
  refine Free.tk 3 (some 7) ?_ (hy := by intro W hW; have c0 := hW.h.cell 0; unfold hc at c0; simp only [List.getElem?_toArray, List.getElem?_cons_zero, List.getElem?_cons_succ] at c0; go_simp; try with_reducible rfl)
  refine Free.tk 4 (some 8) ?_
  refine Free.tk 5 (some 9) ?_ (hy := by intro W hW; have c1 := hW.b.cell 1; have c2 := hW.b.cell 2; unfold noc at c1 c2; simp only [List.getElem?_toArray, List.getElem?_cons_zero, List.getElem?_cons_succ] at c1 c2; go_simp; try with_reducible rfl)
  refine Free.tk 6 (some 11) (v := .agg (noc n (.slice of n.fr.length cf)).toArray) ?_ (hy := by intro W hW; have c0 := hW.b.cell 0; have c1 := hW.b.cell 1; have c2 := hW.b.cell 2; have c3 := hW.b.cell 3; unfold noc at c0 c1 c2 c3 ⊢; simp only [List.getElem?_toArray, List.getElem?_cons_zero, List.getElem?_cons_succ] at c0 c1 c2 c3; go_simp; try with_reducible rfl)
  refine Free.one 7 (fun W hb hW => ?_)
  refine o_okb (some 12) (.slice (some ⟨W.heap.size, 0, none⟩) 1 1) (W.alloc (.cells (noc n (.slice of n.fr.length cf)).toArray 63)) (by unfold noc; go_simp; try rfl) ⟨st _ _ hW (bel1 W _), ?_⟩
  have HW1 := Lib.hid (belT hb (bel1 W (.cells (noc n (.slice of n.fr.length cf)).toArray 63)))
  have HK1 := Lib.hid (nt_src W n (fv := .slice of n.fr.length cf) rfl)
  have HBk := Lib.hid (blk_new W (noc n (.slice of n.fr.length cf)).toArray 63)
  clear hb hW
  refine Free.one 8 (fun W2 hb2 hW2 => ?_)
  have hb20 := belT HW1.out hb2
  have hh2 := HH.out W2 hb20
  obtain ⟨stp, es1, c1, hrun, hst⟩ := hh2.entry (by omega) HPi.out
  refine o_okb (some 13) (.tuple #[V n.pl, goInt stp]) (setM W2 mb es1 c1) (by unfold pla at hrun; unfold execOp; go_simp) ?_
  have hSM := setM_turned W2 mb es1 c1
  have hmb := hh2.mapBlk
  have hne2 : ∀ {k : Nat} {cur : Array Value} {ty : TypeId}, Blk W2 k cur ty → ¬ k = mb := fun {k cur ty} hc e => by
    subst e
    obtain ⟨es0, c0, hm0⟩ := hmb
    unfold Blk at hc
    rw [hm0] at hc; cases hc
  have hS2 : AdS S mb w.heap.size ns.length la n (.slice of n.fr.length cf) (setM W2 mb es1 c1) := ⟨hW2.h.turned hSM (hne2 hW2.h.blk), hW2.b.turned hSM (hne2 hW2.b)⟩
  refine ⟨hS2, ?_⟩
  have hr2 := hh2.rows.setM hmb es1 c1
  have ho2 : Own (setM W2 mb es1 c1) (.slice of n.fr.length cf) n.fr := (HO.out W2 hb20).keep fun k cur hc => hSM.block k hc.lt (hne2 hc)
  have ht2 : Turned (hF S mb V) w (setM W2 mb es1 c1) := (HT.out W2 hb20).trans hSM (fun k e => .inl (.inr (.inl e)))
  have hm2 : (setM W2 mb es1 c1).heap[mb]? = some (.map es1 c1) := by
    obtain ⟨es0, c0, hm0⟩ := hmb
    exact setM_same hm0 es1 c1
  have hk2 : Blk (setM W2 mb es1 c1) W.heap.size (noc n (.slice of n.fr.length cf)).toArray 63 := ((HBk.out.below hb2)).turned hSM (hne2 (HBk.out.below hb2))
  have HR2 := Lib.hid (And.intro hr2 (And.intro ho2 (And.intro ht2 (And.intro hm2 hk2))))
  have HSt := Lib.hid hst
  clear hr2 ho2 ht2 hm2 hst hrun hmb hh2 hb20 hSM hS2 hW2 hb2 hk2
  refine Free.tk 9 (some 10) ?_
  refine Free.tk 11 (some 15) ?_
  refine Free.one 10 (fun W3 hb3 hW3 => ?_)
  have hr3 := HR2.out.1.below hb3
  have ho3 := HR2.out.2.1.below hb3
  have ht3 := HR2.out.2.2.1.trans (Turned.of_below hb3 (fun _ => False)) (fun _ e => e.elim)
  have hm3 := (hb3.block mb (Array.getElem?_eq_some_iff.1 HR2.out.2.2.2.1).1).trans HR2.out.2.2.2.1
  have hk3 := HR2.out.2.2.2.2.below hb3
  obtain ⟨cs, hg3, hc3⟩ := hr3.row n.pl
  have hsr : Src Tryz.prog 4 66 (.slice (some ⟨W.heap.size, 0, none⟩) 1 1) 1 (noc n (.slice of n.fr.length cf)) W3 := by
    refine Src.ofSlice _ Tryz.underlying66 _ 1 1 _ rfl (fun j u hj => ?_) (noc_one n rfl)
    rw [add_lit, hk3.cell, Nat.zero_add]
    simpa using hj
  refine o_append_g (.tmp 10) (.tmp 12) rfl rfl Tryz.underlying66 infoNt rfl (by omega) (by omega) rfl rfl hg3 hsr (by omega) (fun v6 w6 hg6 ht6 hn6 => ?_)
  have hlt3 : w.heap.size ≤ W3.heap.size := ht3.size
  have hm6 : w6.heap[mb]? = some (.map es1 c1) := (ht6.block mb (Array.getElem?_eq_some_iff.1 hm3).1 (fun e => HNe.out _ e rfl)).trans hm3
  have hS6 : AdS S mb w.heap.size ns.length la n (.slice of n.fr.length cf) w6 := by
    have a1 : ¬ blkOf (V n.pl) = some S := fun e => by
      obtain ⟨cur, h1⟩ := hg3.in_ e
      have h2 := hW3.h.blk
      unfold Blk at h1 h2
      rw [h2] at h1
      simp at h1
    have a2 : ¬ blkOf (V n.pl) = some w.heap.size := fun e => by
      have := HF0.out _ (.inr (.inr ⟨_, e⟩))
      omega
    exact ⟨hW3.h.turned ht6 a1, hW3.b.turned ht6 a2⟩
  refine ⟨hS6, ?_⟩
  simp only [Act.put, List.setIfInBounds_toArray, List.set_cons_zero, List.set_cons_succ]
  refine Free.one 12 (fun W4 hb4 hW4 => ?_)
  have hm4 := (hb4.block mb (Array.getElem?_eq_some_iff.1 hm6).1).trans hm6
  obtain ⟨es2, c2, hrun, hD⟩ := HSt.out W4 v6 hm4
  have hfin := adm_store HF0.out hW4 hr3 ho3 HN.out ht3 hg3 hc3 hg6 ht6 hn6 hb4 hm4 hD
  unfold goInt at hrun
  refine o_skb none (setM W4 mb es2 c2) (by unfold execOp; go_simp) ⟨hfin.s, ?_⟩
  refine Free.done (fun W5 hb5 hW5 => ?_)
  have HF := Lib.hid (hfin.after hb5).end_
  have c0 := hW5.h.cell 0
  have c1' := hW5.h.cell 1
  have c2' := hW5.h.cell 2
  have d0 := hW5.b.cell 0
  have f1 := hW5.h.blk.frozen 1
  have f2 := hW5.h.blk.frozen 2
  unfold hc at c0 c1' c2'
  unfold noc at d0
  simp only [List.getElem?_toArray, List.getElem?_cons_zero, List.getElem?_cons_succ] at c0 c1' c2' d0
  have hnn : ((ns.length : Int)) ≤ 900000 := by omega
  have hSB : S ≠ w.heap.size := by have := HLr.out; omega
  clear hb5 hW5 hfin hD hrun hm4 hb4 hW4 hS6 hm6 hn6 ht6 hg6 hsr hc3 hg3 hk3 hm3 ht3 ho3 hr3 hW3 hb3
  go_wp2
  go_end0
  exact HF.out
end Go.Proofs.YtiohlmccnllklaaGreatDoor.Q
