/-
  Layer 2: Keep and Join of package labels: walks.
-/
import Derived.Test.YtafnclkkncokpaaDoorRows
import Derived.Test.YtafnclkkncokpaaDoorTab
import Derived.Test.YtafnclkkncokpaaDoorScope
import Derived.Test.YtafnclkkncokpaaDoorLeaf
import Derived.Test.YtafnclkkncokpaaDoorNumber
import Derived.WalkKit
import Derived.WalkSpells
import Derived.WalkLawsBesides
import Derived.Lib.Hide
import Derived.Maps.OwnSet
import Derived.Deep.QuietTactic
import Derived.BigQuiet
import Derived.Test.YtafnclkkncokpaaDoorRegion
import Derived.StillTailTactics
namespace Go.Proofs.YtafnclkkncokpaaDoor
open Go.RowKit
set_option maxHeartbeats 400000

/-- The table at T is turned into one of these sets; beside its own blocks nothing is turned. -/
def TabTo (w w' : World) (T : Nat) (most : Int) (ss : List Int) (m : Nat) (F : List Nat) : Prop := ∃ F', Tab w' T most ss m F' ∧ Turned F w w' ∧ ∀ k ∈ F', k ∈ F ∨ w.heap.size ≤ k
theorem TabTo.same {w w' : World} {T : Nat} {most : Int} {ss : List Int} {m : Nat} {F : List Nat} (h : Tab w T most ss m F) (hb : Below w.heap.size w w') : TabTo w w' T most ss m F :=
  ⟨F, h.below hb, Turned.of_below hb F, fun _ hk => .inl hk⟩
theorem TabTo.trans {w w' w'' : World} {T : Nat} {most : Int} {ss ss' : List Int} {m m' : Nat} {F : List Nat} (h : TabTo w w' T most ss m F) (k : ∀ F', Tab w' T most ss m F' → TabTo w' w'' T most ss' m' F') : TabTo w w'' T most ss' m' F := by
  obtain ⟨F1, h1, t1, n1⟩ := h
  obtain ⟨F2, h2, t2, n2⟩ := k F1 h1
  refine ⟨F2, h2, t1.trans t2 n1, fun x hx => ?_⟩
  have := t1.size
  rcases n2 x hx with h' | h'
  · exact n1 x h'
  · right; omega

theorem number_any (T : Nat) (most : Int) (ss : List Int) (m : Nat) (F : List Nat) (x : Int) (hx : S16 x) (w : World) (h : Tab w T most ss m F) :
    Calls Tryd.prog 33 #[.pointer (some ⟨T, 0, none⟩), .int .u32 x] w fun e w' => e = .returned (.tuple #[.int .i64 (keepR most ss x).2.1, .int .i64 (keepR most ss x).2.2]) ∧ TabTo w w' T most (keepR most ss x).1 m F := by
  by_cases hm : x ∈ ss
  · rw [keepR_old hx.2 hm]
    exact (number_old T most ss m F x hx.w32 hm w h).mono fun e w' ⟨he, hw⟩ => ⟨he, by subst hw; exact TabTo.same h (Below.refl _ _)⟩
  · by_cases hf : most ≤ (ss.length : Int)
    · rw [keepR_full hx.2 hm hf]
      exact (number_full T most ss m F x hx.w32 hm hf w h).mono fun e w' ⟨he, hb⟩ => ⟨he, TabTo.same h hb⟩
    · rw [keepR_new hx.2 hm (by omega)]
      exact (number_new T most ss m F x hx hm (by omega) w h).mono fun e w' ⟨he, F', h1, h2, h3⟩ => ⟨he, F', h1, h2, h3⟩

theorem Keep_nil (x : Int) (w : World) : Calls Tryd.prog 14 #[.pointer none, .int .u32 x] w fun e w' => e = .returned (.tuple #[.int .i64 0, .int .i64 1]) ∧ w = w' := by
  go_enter Tryd.func14, Tryd.ntmps14
  go_wp2
  refine wp_scope_fwd 0 rfl ?_
  go_wp2_with (go_at_call 31; refine (none_nil _).mono ?_; rintro e w' ⟨rfl, rfl⟩)
  go_step3
  refine ⟨rfl, ?_⟩
  go_wp2
  rw [Exit.noGoto_ret]
  go_ret2
  exact ⟨rfl, rfl⟩
theorem Keep_big (T : Nat) (most : Int) (ss : List Int) (m : Nat) (F : List Nat) (x : Int) (hx : W32 x) (hb : 65536 ≤ x) (w : World) (h : Tab w T most ss m F) :
    Calls Tryd.prog 14 #[.pointer (some ⟨T, 0, none⟩), .int .u32 x] w fun e w' => e = .returned (.tuple #[.int .i64 0, .int .i64 2]) ∧ w = w' := by
  obtain ⟨g, c, mb, jb, D, J, rfl, h⟩ := h
  obtain ⟨c0, c1, c2, c3⟩ := h.cell
  have hm : 1 ≤ most := by have := h.sets.pos; have := h.sets.len; omega
  have hd : decide (x < 65536) = false := by simp; omega
  go_enter Tryd.func14, Tryd.ntmps14
  go_wp2
  refine wp_scope_fwd 0 rfl ?_
  go_wp2_with (first | (go_at_call 31; refine (none_some T most _ c0 hm).mono ?_; rintro e w' ⟨rfl, rfl⟩) | (go_at_call 32; refine (isSet_any x hx _).mono ?_; rintro e w' ⟨rfl, rfl⟩; rw [hd]))
  go_step3
  refine ⟨rfl, ?_⟩
  go_wp2
  rw [Exit.noGoto_ret]
  go_ret2
  exact ⟨rfl, rfl⟩
theorem Keep_small (T : Nat) (most : Int) (ss : List Int) (m : Nat) (F : List Nat) (x : Int) (hx : S16 x) (w : World) (h : Tab w T most ss m F) :
    Calls Tryd.prog 14 #[.pointer (some ⟨T, 0, none⟩), .int .u32 x] w fun e w' => e = .returned (.tuple #[.int .i64 (keepR most ss x).2.1, .int .i64 (keepR most ss x).2.2]) ∧ TabTo w w' T most (keepR most ss x).1 m F := by
  have hh := h
  obtain ⟨g, c, mb, jb, D, J, rfl, h⟩ := h
  obtain ⟨c0, c1, c2, c3⟩ := h.cell
  have hm : 1 ≤ most := by have := h.sets.pos; have := h.sets.len; omega
  have hd : decide (x < 65536) = true := by have := hx.2; simpa using this
  have HN := Lib.hid (number_any T most ss m _ x hx w hh)
  clear h hh
  generalize hr : keepR most ss x = r at HN ⊢
  clear hr
  have hx' := hx.w32
  go_enter Tryd.func14, Tryd.ntmps14
  go_wp2
  refine wp_scope_fwd 0 rfl ?_
  go_wp2_with (first | (go_at_call 31; refine (none_some T most _ c0 hm).mono ?_; rintro e w' ⟨rfl, rfl⟩) | (go_at_call 32; refine (isSet_any x hx' _).mono ?_; rintro e w' ⟨rfl, rfl⟩; rw [hd]) | (go_at_call 33; refine HN.out.mono ?_; rintro e w1 ⟨rfl, ht⟩))
  rw [Fwd_ret]
  go_ret2
  exact ⟨rfl, ht⟩
theorem Keep_any (T : Nat) (most : Int) (ss : List Int) (m : Nat) (F : List Nat) (x : Int) (hx : W32 x) (w : World) (h : Tab w T most ss m F) :
    Calls Tryd.prog 14 #[.pointer (some ⟨T, 0, none⟩), .int .u32 x] w fun e w' => e = .returned (.tuple #[.int .i64 (keepR most ss x).2.1, .int .i64 (keepR most ss x).2.2]) ∧ TabTo w w' T most (keepR most ss x).1 m F := by
  by_cases hb : 65536 ≤ x
  · rw [keepR_big hb]
    exact (Keep_big T most ss m F x hx hb w h).mono fun e w' ⟨he, hw⟩ => ⟨he, by subst hw; exact TabTo.same h (Below.refl _ _)⟩
  · exact Keep_small T most ss m F x ⟨hx.1, by omega⟩ w h

/-! ### joined pairs -/
/-- What the map of pairs answers. -/
theorem look_join {w : World} {T g c mb jb : Nat} {most : Int} {ss : List Int} {m : Nat} {D J : DataW Unit} (h : TabIs w T g c mb jb most ss m D J) {a b : Int} (wa : (Lit.int .i64 a).wf = true) (wb : (Lit.int .i64 b).wf = true) :
    ∃ r : Int, (∀ k, (Instr.lookup 59 (.map (some jb)) (.agg #[.int .i64 a, .int .i64 b]) true).run Tryd.prog (w.drewN k) = .ok (.tuple #[.int .i64 r, .bool (Maps.has J (pk a b))]) (w.drewN k)) ∧ J.atKey (pk a b) (.lit (.int .i64 0)) = .lit (.int .i64 r) := by
  have key := fun k => World.ownsMap.look_ok (w := w.drewN k) (show (w.drewN k).ownsMap _ _ _ _ _ _ from h.jnd) pairLaw Tryd.underlying59 (zeroInt (w.drewN k)) (plainElem_int Tryd.underlying3 (wf_i64 (by omega) (by omega))) (key_pair wa wb)
  obtain ⟨v, ps, hr, hv⟩ := key 0
  obtain ⟨r, rfl, ha, _⟩ := plainElem_int_inv Tryd.underlying3 hv
  simp only [Prod.mk.injEq] at ha
  refine ⟨r, fun k => ?_, ha.1⟩
  obtain ⟨v2, ps2, hr2, hv2⟩ := key k
  obtain ⟨r2, rfl, ha2, _⟩ := plainElem_int_inv Tryd.underlying3 hv2
  simp only [Prod.mk.injEq] at ha2
  have e := ha.1.symm.trans ha2.1
  simp at e
  rw [hr2, e]

/-- The box of a pair in the world behind it. -/
theorem box_pair (w : World) (a b : Int) : (w.alloc (.cells #[.int .i64 a, .int .i64 b] 73)).cell? ⟨w.heap.size, 0, none⟩ = some (.int .i64 a) ∧ (w.alloc (.cells #[.int .i64 a, .int .i64 b] 73)).cell? ⟨w.heap.size, 1, none⟩ = some (.int .i64 b) := by
  have h := heap_alloc_new w (.cells #[.int .i64 a, .int .i64 b] 73)
  exact ⟨by rw [cell_of_row _ _ 0 _ _ _ h]; rfl, by rw [cell_of_row _ _ 1 _ _ _ h]; rfl⟩

set_option maxRecDepth 100000 in
theorem join_known (T : Nat) (most : Int) (ss : List Int) (m : Nat) (g c mb jb : Nat) (D J : DataW Unit) (a b : Int) (wa : (Lit.int .i64 a).wf = true) (wb : (Lit.int .i64 b).wf = true) (w : World) (h : TabIs w T g c mb jb most ss m D J) (hj : Maps.has J (pk a b) = true) :
    Calls Tryd.prog 35 #[.pointer (some ⟨T, 0, none⟩), .agg #[.int .i64 a, .int .i64 b]] w fun e w' => (∃ r : Int, J.atKey (pk a b) (.lit (.int .i64 0)) = .lit (.int .i64 r) ∧ e = .returned (.tuple #[.int .i64 r, .int .i64 0])) ∧ Below w.heap.size w w' := by
  have B0 : Below w.heap.size w (w.alloc (.cells #[.int .i64 a, .int .i64 b] 73)) := (Below.refl _ _).alloc (Nat.le_refl _) _
  have T0 := h.kept (Turned.of_below B0 []) (fun _ _ hk => by cases hk)
  obtain ⟨p0, p1⟩ := box_pair w a b
  obtain ⟨r, hl, hat⟩ := look_join T0 wa wb
  rw [hj] at hl
  obtain ⟨c0, c1, c2, c3⟩ := T0.cell
  have HA := Lib.hid hat
  clear h T0 hat hj
  go_enter Tryd.func35, Tryd.ntmps35
  go_wp2
  generalize w.alloc (.cells #[.int .i64 a, .int .i64 b] 73) = w0 at B0 p0 p1 hl c0 c1 c2 c3 ⊢
  generalize hB : w.heap.size = B at B0 p0 p1 ⊢
  have HB := Lib.hid hB
  clear hB
  refine wp_scope_fwd 0 rfl ?_
  go_wp2
  go_quiet (fail)
  go_wp2
  rw [Fwd_ret]
  go_ret2
  exact ⟨⟨r, HA.out, rfl⟩, (HB.out ▸ B0).trans (below_drewN _ _ _)⟩

/-- The sets of a pair, and what either has. -/
theorem sets_or {most : Int} {ss : List Int} (h : Sets most ss) {i j : Nat} (hi : i < ss.length) (hj : j < ss.length) : bits .or .u32 (ss[i]?.getD 0) (ss[j]?.getD 0) = orI (ss[i]?.getD 0) (ss[j]?.getD 0) :=
  orI_bits _ _ (h.at_ hi).w32 (h.at_ hj).w32

theorem keep_tab {w2 w3 w4 : World} {T : Nat} {most : Int} {ss ss' : List Int} {m : Nat} {F : List Nat} {g c mb jb : Nat} {D J : DataW Unit} {i j n : Nat} {x : Int}
    (h3 : TabIs w3 T g c mb jb most ss' m D J) (wi : (Lit.int .i64 (i : Int)).wf = true) (wj : (Lit.int .i64 (j : Int)).wf = true) (hi : i < ss.length) (hj : j < ss.length) (hl : ss.length ≤ ss'.length) (hn : n < ss'.length) (hx : ss'[n]? = some x)
    (ho : x = orI (ss[i]?.getD 0) (ss[j]?.getD 0)) (hp : ∀ i, i < ss.length → ss'[i]? = ss[i]?)
    (t3 : Turned F w2 w3) (hF : ∀ k ∈ [T, g, mb, jb], k ∈ F ∨ w2.heap.size ≤ k)
    (hown : w4.ownsMap Tryd.prog 73 (plainElem Tryd.prog 3) jb (m + 1) (J.put (pk i j) (.lit (.int .i64 (n : Int))))) (hgrow : w3.grownBy w4 (some jb)) : TabTo w2 w4 T most ss' (m + 1) F := by
  obtain ⟨d1, d2, d3, d4, d5⟩ := h3.differ
  have hne := h3.ne
  have t4 : Turned [jb] w3 w4 := Turned.of_grown hgrow (fun k e => by cases e; simp)
  refine ⟨[T, g, mb, jb], ⟨g, c, mb, jb, D, _, rfl, t4.keep h3.blk (by simpa using d3), t4.row h3.row (fun k e => by simp [Value.ownBlock] at e; subst e; simpa using d5), t4.map h3.num (by simpa using hne), h3.numD, hown, ?_, h3.ne, h3.sets⟩, ?_, hF⟩
  · refine h3.joinD.put h3.jnd.isMap wi wj (by omega) (by omega) hn ?_
    rw [hx, ho, hp i hi, hp j hj]
  · exact t3.trans t4 (fun k hk => hF k (by simp at hk; subst hk; simp))

set_option maxHeartbeats 1000000 in
set_option maxRecDepth 100000 in
theorem join_full (T : Nat) (most : Int) (ss : List Int) (m : Nat) (g c mb jb : Nat) (D J : DataW Unit) (i j : Nat) (hi : i < ss.length) (hj : j < ss.length) (w : World) (h : TabIs w T g c mb jb most ss m D J) (hh : Maps.has J (pk i j) = false)
    (hf : (keepR most ss (orI (ss[i]?.getD 0) (ss[j]?.getD 0))).2.2 ≠ 0) :
    Calls Tryd.prog 35 #[.pointer (some ⟨T, 0, none⟩), .agg #[.int .i64 (i : Int), .int .i64 (j : Int)]] w fun e w' =>
      e = .returned (.tuple #[.int .i64 0, .int .i64 120]) ∧ TabTo w w' T most ss m [T, g, mb, jb] := by
  have hlt : ss.length < 65537 := by have := h.sets.most; have := h.sets.len; omega
  have wi : (Lit.int .i64 (i : Int)).wf = true := wf_i64 (by omega) (by omega)
  have wj : (Lit.int .i64 (j : Int)).wf = true := wf_i64 (by omega) (by omega)
  have hFB := h.lt
  have B0 : Below w.heap.size w (w.alloc (.cells #[.int .i64 (i : Int), .int .i64 (j : Int)] 73)) := (Below.refl _ _).alloc (Nat.le_refl _) _
  have T0 := h.kept (Turned.of_below B0 []) (fun _ _ hk => by cases hk)
  obtain ⟨p0, p1⟩ := box_pair w i j
  obtain ⟨r, hl, hat⟩ := look_join T0 wi wj
  rw [hh] at hl
  obtain ⟨c0, c1, c2, c3⟩ := T0.cell
  have s1 := T0.set_ hi
  have s2 := T0.set_ hj
  have ho := sets_or T0.sets hi hj
  have hx := orI_s16 (T0.sets.at_ hi) (T0.sets.at_ hj)
  generalize ss[i]?.getD 0 = x1 at s1 ho hx hf ⊢
  generalize ss[j]?.getD 0 = x2 at s2 ho hx hf ⊢
  have HT := Lib.hid T0
  clear h T0 hat hh
  go_enter Tryd.func35, Tryd.ntmps35
  go_wp2
  generalize w.alloc (.cells #[.int .i64 (i : Int), .int .i64 (j : Int)] 73) = w0 at B0 p0 p1 hl c0 c1 c2 c3 s1 s2 HT ⊢
  generalize hB : w.heap.size = B at B0 p0 p1 hFB ⊢
  have HB := Lib.hid hB
  clear hB
  refine wp_scope_fwd 0 rfl ?_
  go_wp2
  go_quiet (fail)
  go_wp2
  have HN := fun (W : World) (h : Tab W T most ss m [T, g, mb, jb]) => number_any T most ss m _ (orI x1 x2) hx W h
  rw [keepR_err hx hf] at HN
  have T1 := HT.out.kept (Turned.of_below (below_drewN w0.heap.size w0 nq) []) (fun _ _ hk => by cases hk)
  have s1' : (w0.drewN nq).cell? ⟨g, i, none⟩ = some (.int .u32 x1) := s1
  have s2' : (w0.drewN nq).cell? ⟨g, j, none⟩ = some (.int .u32 x2) := s2
  have p0' : (w0.drewN nq).cell? ⟨B, 0, none⟩ = some (.int .i64 (i : Int)) := p0
  have p1' : (w0.drewN nq).cell? ⟨B, 1, none⟩ = some (.int .i64 (j : Int)) := p1
  have B1 := B0.trans (below_drewN B w0 nq)
  clear c0 c1 c2 c3 s1 s2 p0 p1 hl
  generalize w0.drewN nq = w2 at T1 s1' s2' p0' p1' B1 ⊢
  obtain ⟨c0, c1, c2, c3⟩ := T1.cell
  have HT2 : Tab w2 T most ss m [T, g, mb, jb] := ⟨g, c, mb, jb, D, J, rfl, T1⟩
  clear T1
  have HT3 : Tab w2.drew T most ss m [T, g, mb, jb] := HT2.below (Below.refl _ _).drew
  refine wp_region_one_call 18 (by kernel_rfl) rfl (by kernel_rfl) ?_
  simp only [List.take_succ_cons, List.take_zero, List.drop_succ_cons, List.drop_zero]
  repeat still_step
  refine wpStill_nil ?_
  go_wp2_with (go_at_call 33; refine (HN _ HT3).mono ?_; rintro e w3 ⟨rfl, ht⟩)
  simp only [Rest]
  repeat (quiet_step (fail))
  refine wpQuiet_nil ?_
  intro _ hw'
  obtain ⟨nq2, hw''⟩ := hw'
  subst hw''
  go_wp2
  go_step3
  refine ⟨rfl, ?_⟩
  go_wp2
  rw [Exit.noGoto_ret]
  go_ret2
  refine ⟨rfl, ?_⟩
  obtain ⟨F3, h3, t3, n3⟩ := ht
  have t2 : Turned [T, g, mb, jb] w w2 := Turned.of_below (HB.out ▸ B1) _
  have hsz := t2.size
  exact ⟨F3, h3.below (below_drewN _ _ _), (t2.trans (Turned.drew (Turned.refl [T, g, mb, jb] w2)) (fun k hk => .inl hk)).trans (t3.trans (Turned.of_below (below_drewN w3.heap.size w3 nq2) []) (by simp)) (fun k hk => .inl hk), fun k hk => (n3 k hk).imp id (fun h => Nat.le_trans hsz h)⟩

set_option maxHeartbeats 1000000 in
set_option maxRecDepth 100000 in
theorem join_put (T : Nat) (most : Int) (ss : List Int) (m : Nat) (hm : m < 65536) (g c mb jb : Nat) (D J : DataW Unit) (i j : Nat) (hi : i < ss.length) (hj : j < ss.length) (w : World) (h : TabIs w T g c mb jb most ss m D J) (hh : Maps.has J (pk i j) = false)
    (hf : (keepR most ss (orI (ss[i]?.getD 0) (ss[j]?.getD 0))).2.2 = 0) :
    Calls Tryd.prog 35 #[.pointer (some ⟨T, 0, none⟩), .agg #[.int .i64 (i : Int), .int .i64 (j : Int)]] w fun e w' =>
      e = .returned (.tuple #[.int .i64 (keepR most ss (orI (ss[i]?.getD 0) (ss[j]?.getD 0))).2.1, .int .i64 0]) ∧ TabTo w w' T most (keepR most ss (orI (ss[i]?.getD 0) (ss[j]?.getD 0))).1 (m + 1) [T, g, mb, jb] := by
  have hlt : ss.length < 65537 := by have := h.sets.most; have := h.sets.len; omega
  have wi : (Lit.int .i64 (i : Int)).wf = true := wf_i64 (by omega) (by omega)
  have wj : (Lit.int .i64 (j : Int)).wf = true := wf_i64 (by omega) (by omega)
  have hFB := h.lt
  have B0 : Below w.heap.size w (w.alloc (.cells #[.int .i64 (i : Int), .int .i64 (j : Int)] 73)) := (Below.refl _ _).alloc (Nat.le_refl _) _
  have T0 := h.kept (Turned.of_below B0 []) (fun _ _ hk => by cases hk)
  obtain ⟨p0, p1⟩ := box_pair w i j
  obtain ⟨r, hl, hat⟩ := look_join T0 wi wj
  rw [hh] at hl
  obtain ⟨c0, c1, c2, c3⟩ := T0.cell
  have s1 := T0.set_ hi
  have s2 := T0.set_ hj
  have ho := sets_or T0.sets hi hj
  have hx := orI_s16 (T0.sets.at_ hi) (T0.sets.at_ hj)
  generalize hx1 : ss[i]?.getD 0 = x1 at s1 ho hx hf ⊢
  generalize hx2 : ss[j]?.getD 0 = x2 at s2 ho hx hf ⊢
  have HX1 := Lib.hid hx1
  have HX2 := Lib.hid hx2
  clear hx1 hx2
  have HT := Lib.hid T0
  clear h T0 hat hh
  go_enter Tryd.func35, Tryd.ntmps35
  go_wp2
  generalize w.alloc (.cells #[.int .i64 (i : Int), .int .i64 (j : Int)] 73) = w0 at B0 p0 p1 hl c0 c1 c2 c3 s1 s2 HT ⊢
  generalize hB : w.heap.size = B at B0 p0 p1 hFB ⊢
  have HB := Lib.hid hB
  clear hB
  refine wp_scope_fwd 0 rfl ?_
  go_wp2
  go_quiet (fail)
  go_wp2
  have HN := fun (W : World) (h : Tab W T most ss m [T, g, mb, jb]) => number_any T most ss m _ (orI x1 x2) hx W h
  obtain ⟨n, k1, k2, k3, k4, k5⟩ := keepR_ok HT.out.sets hx hf
  rw [hf, k1] at HN
  have T1 := HT.out.kept (Turned.of_below (below_drewN w0.heap.size w0 nq) []) (fun _ _ hk => by cases hk)
  have s1' : (w0.drewN nq).cell? ⟨g, i, none⟩ = some (.int .u32 x1) := s1
  have s2' : (w0.drewN nq).cell? ⟨g, j, none⟩ = some (.int .u32 x2) := s2
  have p0' : (w0.drewN nq).cell? ⟨B, 0, none⟩ = some (.int .i64 (i : Int)) := p0
  have p1' : (w0.drewN nq).cell? ⟨B, 1, none⟩ = some (.int .i64 (j : Int)) := p1
  have B1 := B0.trans (below_drewN B w0 nq)
  clear c0 c1 c2 c3 s1 s2 p0 p1 hl
  generalize w0.drewN nq = w2 at T1 s1' s2' p0' p1' B1 ⊢
  obtain ⟨c0, c1, c2, c3⟩ := T1.cell
  have HT2 : Tab w2 T most ss m [T, g, mb, jb] := ⟨g, c, mb, jb, D, J, rfl, T1⟩
  clear T1
  have HT3 : Tab w2.drew T most ss m [T, g, mb, jb] := HT2.below (Below.refl _ _).drew
  refine wp_region_one_call 18 (by kernel_rfl) rfl (by kernel_rfl) ?_
  simp only [List.take_succ_cons, List.take_zero, List.drop_succ_cons, List.drop_zero]
  repeat still_step
  refine wpStill_nil ?_
  go_wp2_with (go_at_call 33; refine (HN _ HT3).mono ?_; rintro e w3 ⟨rfl, ht⟩)
  simp only [Rest]
  repeat (quiet_step (fail))
  refine wpQuiet_nil ?_
  intro _ hw'
  obtain ⟨nq2, hw''⟩ := hw'
  subst hw''
  obtain ⟨F3, ⟨g3, c5, mb3, jb3, D3, J3, rfl, T3⟩, t3, n3⟩ := ht
  have lB := World.block_lt_of_cell? _ _ p0'
  have nB : B ∉ [T, g, mb, jb] := fun hk => by have := hFB B hk; omega
  have q0 : (w3.drewN nq2).cell? ⟨B, 0, none⟩ = some (.int .i64 (i : Int)) := (World.cell?_of_block (w := w2.drew) (w' := w3) (t3.block B lB nB)).trans p0'
  have q1 : (w3.drewN nq2).cell? ⟨B, 1, none⟩ = some (.int .i64 (j : Int)) := (World.cell?_of_block (w := w2.drew) (w' := w3) (t3.block B lB nB)).trans p1'
  have T4 := T3.kept (Turned.of_below (below_drewN w3.heap.size w3 nq2) []) (fun _ _ hk => by cases hk)
  have t2 : Turned [T, g, mb, jb] w w2 := Turned.of_below (HB.out ▸ B1) _
  have t4 : Turned [T, g, mb, jb] w (w3.drewN nq2) := (t2.trans (Turned.drew (Turned.refl [T, g, mb, jb] w2)) (fun k hk => .inl hk)).trans (t3.trans (Turned.of_below (below_drewN w3.heap.size w3 nq2) []) (by simp)) (fun k hk => .inl hk)
  have hsz := t2.size
  have n4 : ∀ k ∈ [T, g3, mb3, jb3], k ∈ [T, g, mb, jb] ∨ w.heap.size ≤ k := fun k hk => (n3 k hk).imp id (fun h => Nat.le_trans hsz h)
  generalize w3.drewN nq2 = w4 at q0 q1 T4 t4 ⊢
  clear c0 c1 c2 c3 s1' s2' p0' p1' HT2 HT3 T3 t3 n3 t2 hsz lB nB B1 HN
  obtain ⟨e0, e1, e2, e3⟩ := T4.cell
  have hown := T4.jnd
  obtain ⟨z, hz0, hz1, hlen⟩ : ∃ z : Int, 0 ≤ z ∧ z < 65536 ∧ ∀ ty, (Builtin.len_ #[59] ty #[.map (some jb3)]).run Tryd.prog w4 = .ok (.int .i64 z) w4 :=
    ⟨(Maps.size J3 : Int), by omega, by have := hown.size_le; omega, fun ty => hown.len Tryd.underlying59 ty⟩
  have hown' := Lib.hid hown
  have HM := Lib.hid hm
  clear hown hm
  have HT4 := Lib.hid T4
  have Ht := Lib.hid t4
  have Hn := Lib.hid n4
  clear T4 t4 n4
  go_wp2
  have hown5 : w4.drew.ownsMap Tryd.prog 73 (plainElem Tryd.prog 3) jb3 m J3 := hown'.out
  have hk5 := key_pair wi wj
  have hn5 : m < maxLen := by unfold maxLen; have := HM.out; omega
  have hv5 := plainElem_int (H := Unit) Tryd.underlying3 (wf_i64 (a := (n : Int)) (by omega) (by have h1 := HT4.out.sets.most; have h2 := HT4.out.sets.len; omega))
  have H5 := Lib.hid hv5
  have K5 := Lib.hid hk5
  clear hv5 hk5
  go_still_tail 6, (by kernel_rfl)
  go_wp2_with (at_mapUpdate; refine wpList_mapUpdate_own _ rfl _ _ _ 59 rfl 73 3 pairLaw Tryd.underlying59 _ jb3 m _ rfl hown5 hn5 _ _ _ rfl rfl K5.out _ [] H5.out ?_; intro w5 hown6 hgrow6)
  go_wp2
  rw [Fwd_ret]
  go_ret2
  refine ⟨by rw [k1]; rfl, ?_⟩
  refine keep_tab HT4.out wi wj hi hj k4 k2 k3 (by rw [HX1.out, HX2.out]) k5 Ht.out Hn.out hown6 ?_
  exact ⟨hgrow6.os, hgrow6.tape, hgrow6.output, hgrow6.size, hgrow6.block⟩

theorem join_any (T : Nat) (most : Int) (ss : List Int) (m : Nat) (hm : m < 65536) (F : List Nat) (i j : Nat) (hi : i < ss.length) (hj : j < ss.length) (w : World) (h : Tab w T most ss m F) :
    Calls Tryd.prog 35 #[.pointer (some ⟨T, 0, none⟩), .agg #[.int .i64 (i : Int), .int .i64 (j : Int)]] w fun e w' =>
      e = .returned (.tuple #[.int .i64 (keepR most ss (orI (ss[i]?.getD 0) (ss[j]?.getD 0))).2.1, .int .i64 (keepR most ss (orI (ss[i]?.getD 0) (ss[j]?.getD 0))).2.2]) ∧
      TabTo w w' T most (keepR most ss (orI (ss[i]?.getD 0) (ss[j]?.getD 0))).1 (m + 1) F := by
  have hh := h
  obtain ⟨g, c, mb, jb, D, J, rfl, h⟩ := h
  have hlt : ss.length < 65537 := by have := h.sets.most; have := h.sets.len; omega
  have wi : (Lit.int .i64 (i : Int)).wf = true := wf_i64 (by omega) (by omega)
  have wj : (Lit.int .i64 (j : Int)).wf = true := wf_i64 (by omega) (by omega)
  have hx := orI_s16 (h.sets.at_ hi) (h.sets.at_ hj)
  cases hJ : Maps.has J (pk i j) with
  | true =>
    obtain ⟨i', j', n, e1, e2, _, _, hn, hat, hs⟩ := h.joinD i j wi wj hJ
    obtain rfl : i = i' := by omega
    obtain rfl : j = j' := by omega
    have hmem : orI (ss[i]?.getD 0) (ss[j]?.getD 0) ∈ ss := List.mem_of_getElem? hs
    rw [keepR_old hx.2 hmem, pos_of_get h.sets.apart hs]
    refine (join_known T most ss m g c mb jb D J i j wi wj w h hJ).mono fun e w' ⟨⟨r, hr, he⟩, hb⟩ => ?_
    rw [hat] at hr
    simp at hr
    subst hr
    exact ⟨he, TabTo.same (hh.mono (Nat.le_succ m)) hb⟩
  | false =>
    by_cases hf : (keepR most ss (orI (ss[i]?.getD 0) (ss[j]?.getD 0))).2.2 = 0
    · refine (join_put T most ss m hm g c mb jb D J i j hi hj w h hJ hf).mono fun e w' ⟨he, ht⟩ => ?_
      rw [hf]
      exact ⟨he, ht⟩
    · refine (join_full T most ss m g c mb jb D J i j hi hj w h hJ hf).mono fun e w' ⟨he, ht⟩ => ?_
      rw [keepR_err hx hf]
      obtain ⟨F', h1, h2, h3⟩ := ht
      exact ⟨he, F', h1.mono (Nat.le_succ m), h2, h3⟩

theorem Join_nil (a b : Int) (w : World) : Calls Tryd.prog 16 #[.pointer none, .int .i64 a, .int .i64 b] w fun e w' => e = .returned (.tuple #[.int .i64 0, .int .i64 1]) ∧ w = w' := by
  go_enter Tryd.func16, Tryd.ntmps16
  go_wp2
  refine wp_scope_fwd 0 rfl ?_
  go_wp2_with (go_at_call 31; refine (none_nil _).mono ?_; rintro e w' ⟨rfl, rfl⟩)
  go_step3
  refine ⟨rfl, ?_⟩
  go_wp2
  rw [Exit.noGoto_ret]
  go_ret2
  exact ⟨rfl, rfl⟩
theorem Join_none1 (T : Nat) (most : Int) (ss : List Int) (m : Nat) (F : List Nat) (a b : Int) (w : World) (h : Tab w T most ss m F) (ha : ¬ (0 ≤ a ∧ a < (ss.length : Int))) :
    Calls Tryd.prog 16 #[.pointer (some ⟨T, 0, none⟩), .int .i64 a, .int .i64 b] w fun e w' => e = .returned (.tuple #[.int .i64 0, .int .i64 5]) ∧ w = w' := by
  obtain ⟨g, c, mb, jb, D, J, rfl, h⟩ := h
  obtain ⟨c0, c1, c2, c3⟩ := h.cell
  have hm : 1 ≤ most := by have := h.sets.pos; have := h.sets.len; omega
  have hd : decide (0 ≤ a ∧ a < (ss.length : Int)) = false := by simpa using ha
  clear ha
  go_enter Tryd.func16, Tryd.ntmps16
  go_wp2
  refine wp_scope_fwd 0 rfl ?_
  go_wp2_with (first | (go_at_call 31; refine (none_some T most _ c0 hm).mono ?_; rintro e w' ⟨rfl, rfl⟩) | (go_at_call 34; refine (hasNumber_any T _ _ _ a _ c1).mono ?_; rintro e w' ⟨rfl, rfl⟩; rw [hd]))
  go_step3
  refine ⟨rfl, ?_⟩
  go_wp2
  rw [Exit.noGoto_ret]
  go_ret2
  exact ⟨rfl, rfl⟩
theorem Join_none2 (T : Nat) (most : Int) (ss : List Int) (m : Nat) (F : List Nat) (a b : Int) (w : World) (h : Tab w T most ss m F) (ha : 0 ≤ a ∧ a < (ss.length : Int)) (hb : ¬ (0 ≤ b ∧ b < (ss.length : Int))) :
    Calls Tryd.prog 16 #[.pointer (some ⟨T, 0, none⟩), .int .i64 a, .int .i64 b] w fun e w' => e = .returned (.tuple #[.int .i64 0, .int .i64 5]) ∧ w = w' := by
  obtain ⟨g, c, mb, jb, D, J, rfl, h⟩ := h
  obtain ⟨c0, c1, c2, c3⟩ := h.cell
  have hm : 1 ≤ most := by have := h.sets.pos; have := h.sets.len; omega
  have hd : decide (0 ≤ a ∧ a < (ss.length : Int)) = true := by simpa using ha
  have hd2 : decide (0 ≤ b ∧ b < (ss.length : Int)) = false := by simpa using hb
  clear ha hb
  go_enter Tryd.func16, Tryd.ntmps16
  go_wp2
  refine wp_scope_fwd 0 rfl ?_
  go_wp2_with (go_at_call 31; refine (none_some T most _ c0 hm).mono ?_; rintro e w' ⟨rfl, rfl⟩)
  refine (hasNumber_any T _ _ _ a _ c1).mono ?_; rintro e w' ⟨rfl, rfl⟩; rw [hd]
  go_wp2_with fail
  refine (hasNumber_any T _ _ _ b _ c1).mono ?_; rintro e w' ⟨rfl, rfl⟩; rw [hd2]
  go_wp2_with fail
  go_step3
  refine ⟨rfl, ?_⟩
  go_wp2
  rw [Exit.noGoto_ret]
  go_ret2
  exact ⟨rfl, rfl⟩
theorem Join_in (T : Nat) (most : Int) (ss : List Int) (m : Nat) (hm : m < 65536) (F : List Nat) (i j : Nat) (hi : i < ss.length) (hj : j < ss.length) (w : World) (h : Tab w T most ss m F) :
    Calls Tryd.prog 16 #[.pointer (some ⟨T, 0, none⟩), .int .i64 (i : Int), .int .i64 (j : Int)] w fun e w' => e = .returned (.tuple #[.int .i64 (joinR most ss i j).2.1, .int .i64 (joinR most ss i j).2.2]) ∧ TabTo w w' T most (joinR most ss i j).1 (m + 1) F := by
  have HN : Hid (∀ W, W = w → ∀ a b : Int, a = min (i : Int) j → b = max (i : Int) j → Calls Tryd.prog 35 #[.pointer (some ⟨T, 0, none⟩), .agg #[.int .i64 a, .int .i64 b]] W fun e w' =>
      e = .returned (.tuple #[.int .i64 (joinR most ss i j).2.1, .int .i64 (joinR most ss i j).2.2]) ∧ TabTo w w' T most (joinR most ss i j).1 (m + 1) F) := by
    rintro W rfl a b ha hb
    rcases Nat.le_total i j with hij | hij
    · obtain rfl : a = i := by omega
      obtain rfl : b = j := by omega
      rw [joinR_some hi hj]
      exact join_any T most ss m hm F i j hi hj W h
    · obtain rfl : a = j := by omega
      obtain rfl : b = i := by omega
      rw [joinR_comm, joinR_some hj hi]
      exact join_any T most ss m hm F j i hj hi W h
  obtain ⟨g, c, mb, jb, D, J, rfl, h⟩ := h
  obtain ⟨c0, c1, c2, c3⟩ := h.cell
  have hm1 : 1 ≤ most := by have := h.sets.pos; have := h.sets.len; omega
  have hd : decide (0 ≤ (i : Int) ∧ (i : Int) < (ss.length : Int)) = true := by simp; omega
  have hd2 : decide (0 ≤ (j : Int) ∧ (j : Int) < (ss.length : Int)) = true := by simp; omega
  generalize joinR most ss i j = R at HN ⊢
  clear hm
  go_enter Tryd.func16, Tryd.ntmps16
  go_wp2
  refine wp_scope_fwd 0 rfl ?_
  go_wp2_with (go_at_call 31; refine (none_some T most _ c0 hm1).mono ?_; rintro e w' ⟨rfl, rfl⟩)
  refine (hasNumber_any T _ _ _ i _ c1).mono ?_; rintro e w' ⟨rfl, rfl⟩; rw [hd]
  go_wp2_with fail
  refine (hasNumber_any T _ _ _ j _ c1).mono ?_; rintro e w' ⟨rfl, rfl⟩; rw [hd2]
  go_wp2_with fail
  all_goals
    refine (HN.out _ rfl _ _ (by omega) (by omega)).mono ?_
    rintro e w1 ⟨rfl, ht⟩
    go_wp2_with fail
    rw [Fwd_ret]
    go_ret2
    exact ⟨rfl, ht⟩
theorem Join_any (T : Nat) (most : Int) (ss : List Int) (m : Nat) (hm : m < 65536) (F : List Nat) (a b : Int) (w : World) (h : Tab w T most ss m F) :
    Calls Tryd.prog 16 #[.pointer (some ⟨T, 0, none⟩), .int .i64 a, .int .i64 b] w fun e w' => e = .returned (.tuple #[.int .i64 (joinR most ss a b).2.1, .int .i64 (joinR most ss a b).2.2]) ∧ TabTo w w' T most (joinR most ss a b).1 (m + 1) F := by
  by_cases ha : 0 ≤ a ∧ a < (ss.length : Int)
  · by_cases hb : 0 ≤ b ∧ b < (ss.length : Int)
    · obtain ⟨i, rfl⟩ := Int.eq_ofNat_of_zero_le ha.1
      obtain ⟨j, rfl⟩ := Int.eq_ofNat_of_zero_le hb.1
      exact Join_in T most ss m hm F i j (by omega) (by omega) w h
    · rw [joinR_none (by omega)]
      exact (Join_none2 T most ss m F a b w h ha hb).mono fun e w' ⟨he, hw⟩ => ⟨he, by subst hw; exact TabTo.same (h.mono (Nat.le_succ m)) (Below.refl _ _)⟩
  · rw [joinR_none (by omega)]
    exact (Join_none1 T most ss m F a b w h ha).mono fun e w' ⟨he, hw⟩ => ⟨he, by subst hw; exact TabTo.same (h.mono (Nat.le_succ m)) (Below.refl _ _)⟩
end Go.Proofs.YtafnclkkncokpaaDoor
