/-
  Layer 14: ahead and with of the document's answer: walks.
-/
import Derived.Test.YtiohlmccnllklaaDoorG12
import Derived.Test.YtiohlmccnllklaaDoorG21
set_option linter.unusedVariables false
set_option linter.unusedSimpArgs false
namespace Go.Proofs.YtiohlmccnllklaaDoor.Q
open Go.RowKit
set_option maxHeartbeats 8000000
set_option maxRecDepth 100000
set_option linter.unusedVariables false
set_option linter.unusedSimpArgs false

theorem ahead_any (p q : T.Pl) (w : World) : Calls Tryd.prog 41 #[.agg #[.int .i64 p.1, .int .i64 p.2], .agg #[.int .i64 q.1, .int .i64 q.2]] w fun e w' => e = .returned (.bool (T.lt p q)) ∧ Below w.heap.size w w' := by
  have HB := Lib.hid (belT (bel1 w (.cells #[.int .i64 p.1, .int .i64 p.2] 33)) (bel1 _ (.cells #[.int .i64 q.1, .int .i64 q.2] 33)))
  obtain ⟨r, hr⟩ : ∃ r, Hid (r = T.lt p q) := ⟨_, rfl⟩
  rw [← hr.out]
  by_cases h1 : p.1 < q.1
  · have e : r = true := by rw [hr.out]; exact (T.lt_iff p q).2 (.inl h1)
    subst e
    clear hr
    go_enter Tryd.func41, Tryd.ntmps41
    go_wp2
    go_ret
    exact ⟨rfl, HB.out⟩
  · by_cases h2 : p.1 = q.1
    · by_cases h3 : p.2 < q.2
      · have e : r = true := by rw [hr.out]; exact (T.lt_iff p q).2 (.inr ⟨h2, h3⟩)
        subst e
        clear hr
        obtain ⟨a, b⟩ := p
        obtain ⟨c, d⟩ := q
        simp only at h1 h2 h3 HB ⊢
        subst h2
        go_enter Tryd.func41, Tryd.ntmps41
        go_wp2
        go_ret
        exact ⟨rfl, HB.out⟩
      · have e : r = false := by
          rw [hr.out, ← Bool.not_eq_true, T.lt_iff]; omega
        subst e
        clear hr
        obtain ⟨a, b⟩ := p
        obtain ⟨c, d⟩ := q
        simp only at h1 h2 h3 HB ⊢
        subst h2
        go_enter Tryd.func41, Tryd.ntmps41
        go_wp2
        go_ret
        exact ⟨rfl, HB.out⟩
    · have e : r = false := by
        rw [hr.out, ← Bool.not_eq_true, T.lt_iff]; omega
      subst e
      clear hr
      go_enter Tryd.func41, Tryd.ntmps41
      go_wp2
      go_ret
      exact ⟨rfl, HB.out⟩
/-- A row of places of a walk's own, behind the box of p. -/
structure WtS (w : World) (p : T.Pl) (v : Value) (O : List T.Pl) (W : World) : Prop where
  b : Below w.heap.size w W
  o : Own W v O
  lo : ∀ k, blkOf v = some k → w.heap.size < k
  p : Blk W w.heap.size #[.int .i64 p.1, .int .i64 p.2] 33
theorem WtS.below {w : World} {p : T.Pl} {v : Value} {O : List T.Pl} {W W' : World} (h : WtS w p v O W) (hb : Below W.heap.size W W') : WtS w p v O W' := ⟨belT h.b hb, h.o.below hb, h.lo, h.p.below hb⟩
theorem WtS.app {w : World} {p : T.Pl} {v : Value} {O : List T.Pl} {W : World} (h : WtS w p v O W) {x : T.Pl} (hx : Pi x) {v' : Value} {w' : World} (hg : Gs 33 2 w' v' (O.length + 1) (O.flatMap plc ++ plc x)) (ht : Turned (fun k => blkOf v = some k) W w') (hn : ∀ k, blkOf v' = some k → blkOf v = some k ∨ W.heap.size ≤ k) : WtS w p v' (O ++ [x]) w' := by
  have hlt := h.p.lt
  refine ⟨h.b.trans (ht.below h.b.size fun k e => Nat.le_of_lt (h.lo k e)), ⟨?_, fun q hq => ?_⟩, fun k hk => ?_, h.p.turned ht fun e => Nat.lt_irrefl _ (h.lo _ e)⟩
  · rw [List.length_append, List.flatMap_append]
    simpa using hg
  · rcases List.mem_append.1 hq with e | e
    · exact h.o.2 q e
    · simp at e; subst e; exact hx
  · rcases hn k hk with e | e
    · exact h.lo k e
    · omega
def WiO (w : World) (lv : Value) (l : List T.Pl) (p : T.Pl) (e : Ending) (w' : World) : Prop :=
  ∃ v O, e = .returned v ∧ (Own w' v O ∨ (v = lv ∧ O = l)) ∧ T.RisP O ∧ (∀ q, q ∈ O ↔ q ∈ l ∨ q = p) ∧ Below w.heap.size w w'
/-- .. and the facts of an element. -/
structure WiS (w : World) (p : T.Pl) (v : Value) (O : List T.Pl) (g o : Nat) (x : T.Pl) (W : World) : Prop where
  s : WtS w p v O W
  a : W.cell? ⟨g, o, none⟩ = some (.int .i64 x.1)
  b : W.cell? ⟨g, o + 1, none⟩ = some (.int .i64 x.2)
theorem WiS.stb (w : World) (p : T.Pl) (v : Value) (O : List T.Pl) (g o : Nat) (x : T.Pl) : Free.Stb (WiS w p v O g o x) := fun W W' h hb => ⟨h.s.below hb, cell_below h.a hb, cell_below h.b hb⟩
theorem with_any {w : World} {lv : Value} {l : List T.Pl} (h : PlsIn w lv l) (hris : T.RisP l) (hl : l.length ≤ 900000) {p : T.Pl} (hp : Pi p) : Calls Tryd.prog 27 #[lv, .agg #[.int .i64 p.1, .int .i64 p.2]] w fun e w' => WiO w lv l p e w' := by
  have hb1 := bel1 w (.cells #[.int .i64 p.1, .int .i64 p.2] 33)
  have HL := Lib.hid (fun W (hb : Below w.heap.size w W) => (show PlsIn W lv l from h.below hb))
  have HR := Lib.hid hris
  have HPi := Lib.hid hp
  have HS0 : Hid (WtS w p (.slice none 0 0) [] _) := Lib.hid ⟨hb1, own_nil _, fun k hk => by simp [blkOf] at hk, blk_new w #[.int .i64 p.1, .int .i64 p.2] 33⟩
  obtain ⟨ol, cl, rfl, _, hml⟩ := h.shape
  unfold maxLen at hml
  clear h hris hp hb1
  go_enter Tryd.func27, Tryd.ntmps27
  go_wp2_with fail
  go_loopw [5, 6, 7] (fun v b i wr => ∃ (k : Nat) (u : Value) (c : Bool) (O : List T.Pl), k ≤ l.length ∧ u = v ∧ b = .bool c ∧ i = .int .i64 (k : Int) ∧ Hid (WtS w p u O wr) ∧ Hid (T.WithI l p k c O)) (fun _ _ i _ => l.length + 1 - natI i)
  case atStart => exact ⟨0, _, false, [], by omega, rfl, rfl, rfl, HS0, Lib.hid (.start l p)⟩
  case round =>
    obtain ⟨k, u, c, O, hk, rfl, rfl, rfl, HS, HI⟩ := hrel
    clear HS0
    by_cases hlt : k < l.length
    · have hi : (k : Int) < (l.length : Int) := by omega
      obtain ⟨g1, o1, d1, x, e1, l1, hx, r1⟩ := (HL.out _ HS.out.b).at_ hlt
      simp at e1
      obtain ⟨rfl, rfl⟩ := e1
      obtain ⟨q1, q2⟩ := rng2 r1
      have HX := Lib.hid hx
      have HLx := Lib.hid l1
      have hOl := HI.out.len hk
      have HD : Hid (WiS w p u O g1 (o1 + k * 2) x (World.drew wr)) := Lib.hid (WiS.stb _ _ _ _ _ _ _ _ _ ⟨HS.out, q1, q2⟩ (Below.refl _ _).drew)
      clear r1 l1 hx q1 q2 HS
      go_wp2_with fail
      refine Free.any (WiS w p u O g1 (o1 + k * 2) x) (WiS.stb _ _ _ _ _ _ x) HD.out (fun st => ?_)
      refine Free.tk 0 (some 14) ?_ (hy := by intro W hW; go_simp; try with_reducible rfl)
      refine Free.tk 1 (some 15) ?_ (hy := by intro W hW; go_simp; try with_reducible rfl)
      refine Free.tk 2 (some 16) (v := .pointer (some ⟨g1, o1 + k * 2, none⟩)) ?_ (hy := by intro W hW; go_simp; try with_reducible rfl)
      refine Free.tk 3 (some 17) (v := .agg #[.int .i64 x.1, .int .i64 x.2]) ?_ (hy := by intro W hW; have x1 := hW.a; have x2 := hW.b; go_simp; try with_reducible rfl)
      refine Free.tk 4 (some 18) (v := .agg #[.int .i64 p.1, .int .i64 p.2]) ?_ (hy := by intro W hW; have x1 := hW.s.p.cell 0; have x2 := hW.s.p.cell 1; simp only [List.getElem?_toArray, List.getElem?_cons_zero, List.getElem?_cons_succ] at x1 x2; go_simp; try with_reducible rfl)
      by_cases hxp : x = p
      · refine Free.tk 5 (some 19) (v := .bool true) ?_ (hy := by intro W hW; have he := fun w => eql_place x p w; simp only [decide_eq_true hxp] at he; go_simp; try with_reducible rfl)
        refine Free.done (fun W hb hW => ?_)
        have HF : Hid (WiO w (.slice (some ⟨g1, o1, none⟩) l.length cl) l p (.returned (.slice (some ⟨g1, o1, none⟩) l.length cl)) W) := Lib.hid ⟨_, l, rfl, .inr ⟨rfl, rfl⟩, HR.out, fun q => ⟨.inl, fun h => h.elim id fun e => by rw [e, ← hxp]; exact List.mem_of_getElem? HLx.out⟩, hW.s.b⟩
        clear hb hW
        go_wp2
        go_ret
        exact HF.out
      · refine Free.tk 5 (some 19) (v := .bool false) ?_ (hy := by intro W hW; have he := fun w => eql_place x p w; simp only [decide_eq_false hxp] at he; go_simp; try with_reducible rfl)
        refine Free.done (fun W hb hW => ?_)
        have HXp := Lib.hid hxp
        have HD2 := Lib.hid (WiS.stb _ _ _ _ _ _ _ _ _ hW (Below.refl _ W).drew)
        clear hb hW hxp
        cases c with
        | true =>
          go_wp2_with fail
          refine Free.any (WiS w p u O g1 (o1 + k * 2) x) (WiS.stb _ _ _ _ _ _ x) HD2.out (fun st => ?_)
          refine Free.tk 0 (some 21) (v := .bool true) ?_ (hy := by intro W hW; go_simp; try with_reducible rfl)
          refine Free.tk 1 (some 22) (v := .bool false) ?_ (hy := by intro W hW; go_simp; try with_reducible rfl)
          refine Free.tk 2 (some 23) (v := .bool false) ?_ (hy := by intro W hW; go_simp; try with_reducible rfl)
          refine Free.sk 3 (some 24) ?_
          refine Free.sk 4 (some 25) ?_
          refine Free.sk 5 (some 26) ?_
          refine Free.sk 6 (some 27) ?_
          refine Free.sk 7 (some 28) ?_
          refine Free.sk 8 (some 29) ?_
          refine Free.tk 9 (some 30) (v := .bool false) ?_ (hy := by intro W hW; go_simp; try with_reducible rfl)
          refine Free.done (fun W8 hb hW => ?_)
          have HN := Lib.hid (HI.out.next HLx.out HXp.out (fun h => by cases h))
          have HS8 := Lib.hid hW
          clear hb hW
          obtain ⟨ou, cu, rfl, _, _⟩ := HS8.out.s.o.1.shape
          have x1 := HS8.out.a
          have x2 := HS8.out.b
          have hb9 := bel1 W8 (.cells (plc x).toArray 33)
          have hS9 := HS8.out.s.below hb9
          have hg9 := hS9.o.1
          go_wp2_with (refine wp_append_g rfl _ _ rfl Tryd.underlying23 infoPl rfl (by omega) (by omega) rfl rfl hg9 (pl_src W8 x) (by omega) ?_; intro v9 w9 hg6 ht6 hn6)
          have HS9 := Lib.hid (hS9.app HX.out hg6 ht6 hn6)
          clear hb9 hS9 hg9 hg6 ht6 hn6 x1 x2
          go_wp2
          exact ⟨⟨k + 1, v9, _, O ++ [x], by omega, rfl, rfl, by go_num, HS9, HN⟩, by simp [natI]; omega⟩
        | false =>
          cases hpx : T.lt p x with
          | true =>
            go_wp2_with fail
            refine Free.any (WiS w p u O g1 (o1 + k * 2) x) (WiS.stb _ _ _ _ _ _ x) HD2.out (fun st => ?_)
            refine Free.tk 0 (some 21) (v := .bool false) ?_ (hy := by intro W hW; go_simp; try with_reducible rfl)
            refine Free.tk 1 (some 22) (v := .bool true) ?_ (hy := by intro W hW; go_simp; try with_reducible rfl)
            refine Free.tk 2 (some 23) (v := .bool true) ?_ (hy := by intro W hW; go_simp; try with_reducible rfl)
            refine Free.tk 3 (some 24) (v := .agg #[.int .i64 p.1, .int .i64 p.2]) ?_ (hy := by intro W hW; have x1 := hW.s.p.cell 0; have x2 := hW.s.p.cell 1; simp only [List.getElem?_toArray, List.getElem?_cons_zero, List.getElem?_cons_succ] at x1 x2; go_simp; try with_reducible rfl)
            refine Free.tk 4 (some 25) ?_ (hy := by intro W hW; go_simp; try with_reducible rfl)
            refine Free.tk 5 (some 26) ?_ (hy := by intro W hW; go_simp; try with_reducible rfl)
            refine Free.tk 6 (some 27) (v := .pointer (some ⟨g1, o1 + k * 2, none⟩)) ?_ (hy := by intro W hW; go_simp; try with_reducible rfl)
            refine Free.tk 7 (some 28) (v := .agg #[.int .i64 x.1, .int .i64 x.2]) ?_ (hy := by intro W hW; have x1 := hW.a; have x2 := hW.b; go_simp; try with_reducible rfl)
            refine Free.cl 8 (some 29) (v := .bool (T.lt p x)) st (fun W hW => ahead_any p x W) ?_
            rw [hpx]
            refine Free.tk 9 (some 30) (v := .bool true) ?_ (hy := by intro W hW; go_simp; try with_reducible rfl)
            refine Free.done (fun W8 hb hW => ?_)
            have HN := Lib.hid (T.WithI.ahead HR.out HI.out HLx.out hpx)
            have HS8 := Lib.hid hW
            clear hb hW hpx
            obtain ⟨ou, cu, rfl, _, _⟩ := HS8.out.s.o.1.shape
            have y1 := HS8.out.s.p.cell 0
            have y2 := HS8.out.s.p.cell 1
            simp only [List.getElem?_toArray, List.getElem?_cons_zero, List.getElem?_cons_succ] at y1 y2
            have hb9 := bel1 W8 (.cells (plc p).toArray 33)
            have hS9 := HS8.out.s.below hb9
            have hg9 := hS9.o.1
            have hlO : O.length ≤ 900001 := by omega
            go_wp2_with (first
              | (refine wp_append_g rfl _ _ rfl Tryd.underlying23 infoPl rfl (by omega) (by omega) rfl rfl hg9 (pl_src W8 p) (by omega) ?_; intro v9 w9 hg6 ht6 hn6; have HS9 := Lib.hid (hS9.app HPi.out hg6 ht6 hn6); obtain ⟨oz, cz, rfl, _, _⟩ := HS9.out.o.1.shape; obtain ⟨g9, o9, d9, x', e9, l9, _, r9⟩ := (HL.out _ HS9.out.b).at_ hlt; simp at e9; obtain ⟨⟨rfl, rfl⟩, rfl⟩ := e9; obtain rfl : x' = x := Option.some.inj (l9.symm.trans HLx.out); have z1 := (rng2 r9).1; have z2 := (rng2 r9).2; have hb10 := bel1 w9 (.cells (plc x').toArray 33); have hS10 := HS9.out.below hb10; rw [List.length_append, List.length_singleton] at hS10; have hg10 := hS10.o.1; rw [List.length_append, List.length_singleton] at hg10; clear hb9 hS9 hg9 hg6 ht6 hn6 y1 y2 l9 r9)
              | (refine wp_append_g rfl _ _ rfl Tryd.underlying23 infoPl rfl (by omega) (by omega) rfl rfl hg10 (pl_src w9 x') (by omega) ?_; intro v11 w11 hg12 ht12 hn12; have HS11 := Lib.hid (hS10.app HX.out (by rw [List.length_append, List.length_singleton]; exact hg12) ht12 hn12); clear hb10 hS10 hg10 hg12 ht12 hn12 z1 z2))
            exact ⟨⟨k + 1, v11, _, (O ++ [p]) ++ [x'], by omega, rfl, rfl, by go_num, HS11, HN⟩, by simp [natI]; omega⟩
          | false =>
            go_wp2_with fail
            refine Free.any (WiS w p u O g1 (o1 + k * 2) x) (WiS.stb _ _ _ _ _ _ x) HD2.out (fun st => ?_)
            refine Free.tk 0 (some 21) (v := .bool false) ?_ (hy := by intro W hW; go_simp; try with_reducible rfl)
            refine Free.tk 1 (some 22) (v := .bool true) ?_ (hy := by intro W hW; go_simp; try with_reducible rfl)
            refine Free.tk 2 (some 23) (v := .bool true) ?_ (hy := by intro W hW; go_simp; try with_reducible rfl)
            refine Free.tk 3 (some 24) (v := .agg #[.int .i64 p.1, .int .i64 p.2]) ?_ (hy := by intro W hW; have x1 := hW.s.p.cell 0; have x2 := hW.s.p.cell 1; simp only [List.getElem?_toArray, List.getElem?_cons_zero, List.getElem?_cons_succ] at x1 x2; go_simp; try with_reducible rfl)
            refine Free.tk 4 (some 25) ?_ (hy := by intro W hW; go_simp; try with_reducible rfl)
            refine Free.tk 5 (some 26) ?_ (hy := by intro W hW; go_simp; try with_reducible rfl)
            refine Free.tk 6 (some 27) (v := .pointer (some ⟨g1, o1 + k * 2, none⟩)) ?_ (hy := by intro W hW; go_simp; try with_reducible rfl)
            refine Free.tk 7 (some 28) (v := .agg #[.int .i64 x.1, .int .i64 x.2]) ?_ (hy := by intro W hW; have x1 := hW.a; have x2 := hW.b; go_simp; try with_reducible rfl)
            refine Free.cl 8 (some 29) (v := .bool (T.lt p x)) st (fun W hW => ahead_any p x W) ?_
            rw [hpx]
            refine Free.tk 9 (some 30) (v := .bool false) ?_ (hy := by intro W hW; go_simp; try with_reducible rfl)
            refine Free.done (fun W8 hb hW => ?_)
            have HN := Lib.hid (HI.out.next HLx.out HXp.out (fun _ => hpx))
            have HS8 := Lib.hid hW
            clear hb hW hpx
            obtain ⟨ou, cu, rfl, _, _⟩ := HS8.out.s.o.1.shape
            have x1 := HS8.out.a
            have x2 := HS8.out.b
            have hb9 := bel1 W8 (.cells (plc x).toArray 33)
            have hS9 := HS8.out.s.below hb9
            have hg9 := hS9.o.1
            go_wp2_with (refine wp_append_g rfl _ _ rfl Tryd.underlying23 infoPl rfl (by omega) (by omega) rfl rfl hg9 (pl_src W8 x) (by omega) ?_; intro v9 w9 hg6 ht6 hn6)
            have HS9 := Lib.hid (hS9.app HX.out hg6 ht6 hn6)
            clear hb9 hS9 hg9 hg6 ht6 hn6 x1 x2
            go_wp2
            exact ⟨⟨k + 1, v9, _, O ++ [x], by omega, rfl, rfl, by go_num, HS9, HN⟩, by simp [natI]; omega⟩
    · obtain rfl : k = l.length := by omega
      have hOl := HI.out.len hk
      obtain ⟨ou, cu, rfl, _, _⟩ := HS.out.o.1.shape
      cases c with
      | true =>
        have HD := Lib.hid (T.WithI.done_t HR.out HI.out)
        have HF : Hid (WiO w (.slice ol l.length cl) l p (.returned (.slice ou O.length cu)) wr) := Lib.hid ⟨_, O, rfl, .inl HS.out.o, HD.out.1, HD.out.2, HS.out.b⟩
        go_wp2
        go_ret
        exact HF.out
      | false =>
        have HD := Lib.hid (T.WithI.done_f HR.out HI.out)
        have y1 := HS.out.p.cell 0
        have y2 := HS.out.p.cell 1
        simp only [List.getElem?_toArray, List.getElem?_cons_zero, List.getElem?_cons_succ] at y1 y2
        have hb9 := bel1 wr (.cells (plc p).toArray 33)
        have hS9 := HS.out.below hb9
        have hg9 := hS9.o.1
        go_wp2_with (refine wp_append_g rfl _ _ rfl Tryd.underlying23 infoPl rfl (by omega) (by omega) rfl rfl hg9 (pl_src wr p) (by omega) ?_; intro v9 w9 hg6 ht6 hn6; have HS9 := Lib.hid (hS9.app HPi.out hg6 ht6 hn6); have HF : Hid (WiO w (.slice ol l.length cl) l p (.returned v9) w9) := Lib.hid ⟨_, O ++ [p], rfl, .inl HS9.out.o, HD.out.1, HD.out.2, HS9.out.b⟩; clear hb9 hS9 hg9 hg6 ht6 hn6 y1 y2)
        go_ret
        exact HF.out
end Go.Proofs.YtiohlmccnllklaaDoor.Q
