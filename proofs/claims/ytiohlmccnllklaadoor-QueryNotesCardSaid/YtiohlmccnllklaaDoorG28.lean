/-
  Layer 14: QueryNotes: walk.
-/
import Derived.Test.YtiohlmccnllklaaDoorG26
import Derived.Test.YtiohlmccnllklaaDoorG27
set_option linter.unusedVariables false
set_option linter.unusedSimpArgs false
namespace Go.Proofs.YtiohlmccnllklaaDoor.Q
open Go.RowKit
set_option maxHeartbeats 8000000
set_option maxRecDepth 100000
set_option linter.unusedVariables false
set_option linter.unusedSimpArgs false

/-- The notes that are wanted: a row of a round's own, behind w3. -/
structure WnS (w2 w3 : World) (wv : Value) (Wn : List T.No) (W : World) : Prop where
  b : Below w3.heap.size w3 W
  n : NsR w2 W wv Wn
  lo : ∀ k, blkOf wv = some k → w3.heap.size ≤ k
theorem WnS.below {w2 w3 : World} {wv : Value} {Wn : List T.No} {W W' : World} (h : WnS w2 w3 wv Wn W) (hb : Below W.heap.size W W') : WnS w2 w3 wv Wn W' := ⟨belT h.b hb, h.n.below hb, h.lo⟩
theorem WnS.app {w2 w3 : World} {wv : Value} {Wn : List T.No} {W : World} (h : WnS w2 w3 wv Wn W) {n : T.No} {fv : Value} (hf : PlsIn w2 fv n.fr) (hn : PiN n) {cs : List Value} (hc : NtC (PlsIn w2) Wn cs) (hg : Gs 35 4 W wv Wn.length cs)
    {v' : Value} {w' : World} (hg' : Gs 35 4 w' v' (Wn.length + 1) (cs ++ noc n fv)) (ht : Turned (fun k => blkOf wv = some k) W w') (hv : ∀ k, blkOf v' = some k → blkOf wv = some k ∨ W.heap.size ≤ k) : WnS w2 w3 v' (Wn ++ [n]) w' := by
  refine ⟨h.b.trans (ht.below h.b.size h.lo), ⟨cs ++ noc n fv, by rw [List.length_append]; exact hg', hc.snoc hf hn⟩, fun k hk => ?_⟩
  rcases hv k hk with e | e
  · exact h.lo k e
  · exact Nat.le_trans h.b.size e
theorem ofP_next {ns : List T.No} {k : Nat} {n : T.No} (h : ns[k]? = some n) (p : T.Pl) : T.ofP (ns.take (k + 1)) p = T.ofP (ns.take k) p ++ if n.pl = p then [n] else [] := by
  unfold T.ofP
  rw [List.take_add_one, h, List.filter_append]
  congr 1
  by_cases e : n.pl = p <;> simp [e]
theorem fr_le {n : T.No} : ∀ {ns : List T.No}, n ∈ ns → n.fr.length ≤ T.sumF ns
  | [], h => by cases h
  | x :: r, h => by
    unfold T.sumF
    rw [List.flatMap_cons, List.length_append]
    rcases List.mem_cons.1 h with e | e
    · rw [e]; omega
    · have := fr_le e
      unfold T.sumF at this
      omega
/-- Two notes' cells, alike. -/
structure No21 (w2 w5 : World) (wv gv : Value) (Wn : List T.No) (g o g2 o2 : Nat) (n : T.No) (fv hv : Value) (W : World) : Prop where
  s : WnS w2 w5 wv Wn W
  r : RowN W gv Wn
  a : W.rangeAt g o (noc n fv)
  b : W.rangeAt g2 o2 (noc n hv)
  f : PlsIn W fv n.fr
  h : PlsIn W hv n.fr
theorem rng_below {W W' : World} {g o : Nat} {cs : List Value} (h : W.rangeAt g o cs) (hb : Below W.heap.size W W') : W'.rangeAt g o cs := fun j u hj => cell_below (h j u hj) hb
theorem No21.stb (w2 w5 : World) (wv gv : Value) (Wn : List T.No) (g o g2 o2 : Nat) (n : T.No) (fv hv : Value) : Free.Stb (No21 w2 w5 wv gv Wn g o g2 o2 n fv hv) := fun W W' h hb => ⟨h.s.below hb, h.r.below hb, rng_below h.a hb, rng_below h.b hb, h.f.below hb, h.h.below hb⟩
structure No13 (w2 w3 : World) (wv : Value) (Wn : List T.No) (g o : Nat) (n : T.No) (g2 o2 : Nat) (p : T.Pl) (W : World) : Prop where
  s : WnS w2 w3 wv Wn W
  a : W.cell? ⟨g, o + 1, none⟩ = some (.int .i64 n.pl.1)
  b : W.cell? ⟨g, o + 2, none⟩ = some (.int .i64 n.pl.2)
  x : W.cell? ⟨g2, o2, none⟩ = some (.int .i64 p.1)
  y : W.cell? ⟨g2, o2 + 1, none⟩ = some (.int .i64 p.2)
theorem No13.stb (w2 w3 : World) (wv : Value) (Wn : List T.No) (g o : Nat) (n : T.No) (g2 o2 : Nat) (p : T.Pl) : Free.Stb (No13 w2 w3 wv Wn g o n g2 o2 p) := fun W W' h hb => ⟨h.s.below hb, cell_below h.a hb, cell_below h.b hb, cell_below h.x hb, cell_below h.y hb⟩
theorem o_storeN {op : Oper} {a b : Act} {w : World} {K : Act → World → Prop} {Q : Exit → Act → World → Prop} {x y : Operand} {ty : TypeId} {n R : Nat} {old : Array Value} (d : Option Tmp) (c : Array Value) (ht : RowT ty n) (hr : Rf ty n w R old) (hc : Ok1 n c) (ho : op.op = .store ty x y) (hx : a.eval x = .pointer (some ⟨R, 0, none⟩)) (hy : a.eval y = .agg c)
    (h : K b (w.setRow R c)) (hd : op.dst = d := by rfl) (ha : a.put d undef = b := by (simp only [Act.put, List.setIfInBounds_toArray, List.set_cons_zero, List.set_cons_succ]; rfl)) : op.wp Tryd.prog a w K Q := by
  subst ha
  exact o_store_R hd c ht hr hc ho hx hy h
/-- A note in a box, a place's and a step's cells. -/
structure No27 (w : World) (S mb : Nat) (l : List T.Ad) (nv : Value) (g o : Nat) (p : T.Pl) (g2 o2 : Nat) (s : Int) (B : Nat) (X : T.No) (fv : Value) (W : World) : Prop where
  q : QrS w S mb l nv W
  x : W.cell? ⟨g, o, none⟩ = some (.int .i64 p.1)
  y : W.cell? ⟨g, o + 1, none⟩ = some (.int .i64 p.2)
  z : W.cell? ⟨g2, o2, none⟩ = some (.int .i64 s)
  k : Rf 35 4 W B (noc X fv).toArray
  f : PlsIn W fv X.fr
theorem No27.stb (w : World) (S mb : Nat) (l : List T.Ad) (nv : Value) (g o : Nat) (p : T.Pl) (g2 o2 : Nat) (s : Int) (B : Nat) (X : T.No) (fv : Value) : Free.Stb (No27 w S mb l nv g o p g2 o2 s B X fv) := fun W W' h hb => ⟨h.q.below hb, cell_below h.x hb, cell_below h.y hb, cell_below h.z hb, h.k.below hb, h.f.below hb⟩
/-- .. and the document's own note. -/
structure No28 (w : World) (S mb : Nat) (l : List T.Ad) (nv : Value) (B : Nat) (X : T.No) (fv : Value) (g o : Nat) (gv : Value) (W : World) : Prop where
  q : QrS w S mb l nv W
  k : Rf 35 4 W B (noc X fv).toArray
  f : PlsIn W fv X.fr
  r : W.rangeAt g o (noc X gv)
  h : PlsIn W gv X.fr
theorem No28.stb (w : World) (S mb : Nat) (l : List T.Ad) (nv : Value) (B : Nat) (X : T.No) (fv : Value) (g o : Nat) (gv : Value) : Free.Stb (No28 w S mb l nv B X fv g o gv) := fun W W' h hb => ⟨h.q.below hb, h.k.below hb, h.f.below hb, rng_below h.r hb, h.h.below hb⟩
theorem QueryNotes_walk {w : World} (he : Env w) {lv pv sv : Value} {l : List T.Ad} {ps : List T.Pl} {ss : List Int} (hl : AdsIn w lv l) (hp : PlsIn w pv ps) (hs : NIn .i64 w sv ss) (hs64 : ∀ x ∈ ss, I64 x) :
    Calls Tryd.prog 3 #[lv, pv, sv] w fun e w' => e = .returned (.bool true) ∧ Below w.heap.size w w' := by
  have HK := Lib.hid (fun W (hb : Below w.heap.size w W) => known_any (he.below hb))
  have HE := Lib.hid (fun W (hb : Below w.heap.size w W) => (show Env W from he.below hb))
  have HA := Lib.hid (fun W (hb : Below w.heap.size w W) => (show AdsIn W lv l from hl.below hb))
  have HP := Lib.hid (fun W (hb : Below w.heap.size w W) => (show PlsIn W pv ps from hp.below hb))
  have HS := Lib.hid (fun W (hb : Below w.heap.size w W) => (show NIn .i64 W sv ss from hs.below hb))
  have H64 := Lib.hid hs64
  have HV := Lib.hid (vast_any hl)
  obtain ⟨ol, cl, rfl, _, hml⟩ := hl.shape
  obtain ⟨op, cp, rfl, _, hmp⟩ := hp.shape
  obtain ⟨os, cs, rfl, _, hms⟩ := hs.shape
  unfold maxLen at hml hmp hms
  clear hl hp hs he hs64
  go_enter Tryd.func3, Tryd.ntmps3
  go_wp2_with fail
  refine HV.out.mono ?_
  rintro e w2 ⟨b, rfl, hvb, hb2⟩
  have HB2 := Lib.hid hb2
  clear hb2 HV
  cases b with
  | true =>
    clear hvb
    go_wp2_with fail
    refine (HK.out _ HB2.out).mono ?_
    rintro e w' ⟨rfl, hb⟩
    have HB := Lib.hid (belT (by first | exact HB3.out | exact HB2.out) hb)
    clear hb
    go_wp2
    go_ret
    exact ⟨rfl, HB.out⟩
  | false =>
    obtain ⟨hl30, hv⟩ := hvb rfl
    have HNV := Lib.hid hv
    clear hvb hv
    by_cases hc0 : (10 : Int) < (ps.length : Int)
    · go_wp2_with fail
      refine (HK.out _ HB2.out).mono ?_
      rintro e w' ⟨rfl, hb⟩
      have HB := Lib.hid (belT (by first | exact HB3.out | exact HB2.out) hb)
      clear hb
      go_wp2
      go_ret
      exact ⟨rfl, HB.out⟩
    · by_cases hc1 : (10 : Int) < (ss.length : Int)
      · go_wp2_with fail
        refine (HK.out _ HB2.out).mono ?_
        rintro e w' ⟨rfl, hb⟩
        have HB := Lib.hid (belT (by first | exact HB3.out | exact HB2.out) hb)
        clear hb
        go_wp2
        go_ret
        exact ⟨rfl, HB.out⟩
      · have HM := Lib.hid (made_any (HA.out _ HB2.out) HNV.out hl30)
        go_wp2_with fail
        refine HM.out.mono ?_
        rintro e w3 ⟨S, mb, nv, rfl, hm⟩
        have HQ0 : Hid (QrS w2 S mb l nv w3) := Lib.hid ⟨HE.out _ (belT HB2.out hm.b), hm.hw, hm.n⟩
        clear hm HM
        go_wp2_with fail
        go_loopw [10] (fun i wr => ∃ k : Nat, k ≤ ps.length ∧ i = .int .i64 (k : Int) ∧ Hid (QrS w2 S mb l nv wr)) (fun i _ => ps.length + 1 - natI i)
        case atStart => exact ⟨0, by omega, rfl, HQ0⟩
        case round =>
          obtain ⟨i, hi, rfl, HQ⟩ := hrel
          clear HQ0
          by_cases hlt : i < ps.length
          · have hii : (i : Int) < (ps.length : Int) := by omega
            generalize wr = w5 at HQ ⊢
            have hbw := belT HB2.out HQ.out.h.b
            obtain ⟨g1, o1, d1, p, e1, l1, hpi, _⟩ := (HP.out _ hbw).at_ hlt
            simp at e1
            obtain ⟨rfl, rfl⟩ := e1
            have HPi := Lib.hid hpi
            have HLp := Lib.hid l1
            have HW0 : Hid (WnS w2 w5 (.slice none 0 0) [] w5) := Lib.hid ⟨Below.refl _ _, ⟨[], Gs.nil _ _ _, rfl⟩, fun k hk => by simp [blkOf] at hk⟩
            have hcap := T.mdN_len HNV.out
            generalize hns : (T.mdN l).1 = ns at *
            obtain ⟨on, cn, rfl, _, hmn⟩ : ∃ ao c, nv = .slice ao ns.length c ∧ ns.length ≤ c ∧ ns.length ≤ maxLen := by rw [← hns]; exact HQ.out.n.shape
            unfold maxLen at hmn
            have HNs := Lib.hid hns
            have hup := (T.mdN_good l).up
            rw [hns] at hup
            have HUp := Lib.hid hup
            have HFr : Hid (∀ n ∈ ns, n.fr.length ≤ 1000000) := Lib.hid (fun n hn => by have h1 := fr_le hn; have h2 := hcap.2; omega)
            have hn0 := HQ.out.n
            rw [hns] at hn0
            have HN0 := Lib.hid hn0
            clear hbw l1 hpi hns hn0 hup
            go_wp2_with fail
            go_loopw [11, 12] (fun v i2 W => ∃ (k : Nat) (u : Value), k ≤ ns.length ∧ u = v ∧ i2 = .int .i64 (k : Int) ∧ Hid (WnS w2 w5 u (T.ofP (ns.take k) p) W)) (fun _ i2 _ => ns.length + 1 - natI i2)
            case atStart => exact ⟨0, _, by omega, rfl, rfl, HW0⟩
            case round =>
              obtain ⟨k, wv, hk, rfl, rfl, HW⟩ := hrel
              clear HW0
              have hbW := belT (belT HB2.out HQ.out.h.b) HW.out.b
              by_cases hlk : k < ns.length
              · have hki : (k : Int) < (ns.length : Int) := by omega
                obtain ⟨g3, o3, d3, n, fv, e3, l3, hpn, hpf, r3⟩ := (HN0.out.below HW.out.b).at_ hlk
                simp at e3
                obtain ⟨rfl, rfl⟩ := e3
                obtain ⟨of, cf, rfl, _, _⟩ := hpf.shape
                obtain ⟨_, y1, y2, _⟩ := rng4 r3
                obtain ⟨g4, o4, d4, p', e4, l4, _, r4⟩ := (HP.out _ hbW).at_ hlt
                simp at e4
                obtain ⟨⟨rfl, rfl⟩, rfl⟩ := e4
                obtain rfl : p' = p := Option.some.inj (l4.symm.trans HLp.out)
                obtain ⟨x1, x2⟩ := rng2 r4
                have HD : Hid (No13 w2 w5 wv (T.ofP (ns.take k) p') g3 (o3 + k * 4) n g1 (o1 + i * 2) p' (World.drew wr)) := Lib.hid (No13.stb _ _ _ _ _ _ _ _ _ _ _ _ ⟨HW.out, y1, y2, x1, x2⟩ (Below.refl _ _).drew)
                have HPn := Lib.hid hpn
                have HPf := Lib.hid hpf
                have HNx := Lib.hid (ofP_next l3 p')
                have HL3 := Lib.hid l3
                clear l3 hpn hpf r3 y1 y2 l4 r4 x1 x2 HW hbW
                go_wp2_with fail
                refine Free.any (No13 w2 w5 wv (T.ofP (ns.take k) p') g3 (o3 + k * 4) n g1 (o1 + i * 2) p') (No13.stb _ _ _ _ _ _ n _ _ p') HD.out (fun st => ?_)
                refine Free.tk 0 (some 52) ?_ (hy := by intro W hW; go_simp; try with_reducible rfl)
                refine Free.tk 1 (some 53) ?_ (hy := by intro W hW; go_simp; try with_reducible rfl)
                refine Free.tk 2 (some 54) (v := .pointer (some ⟨g3, o3 + k * 4, none⟩)) ?_ (hy := by intro W hW; go_simp; try with_reducible rfl)
                refine Free.tk 3 (some 55) (v := .pointer (some ⟨g3, o3 + k * 4 + 1, none⟩)) ?_ (hy := by intro W hW; go_simp; try with_reducible rfl)
                refine Free.tk 4 (some 56) (v := .agg #[.int .i64 n.pl.1, .int .i64 n.pl.2]) ?_ (hy := by intro W hW; have x1 := hW.a; have x2 := hW.b; go_simp; try with_reducible rfl)
                refine Free.tk 5 (some 57) ?_ (hy := by intro W hW; go_simp; try with_reducible rfl)
                refine Free.tk 6 (some 58) ?_ (hy := by intro W hW; go_simp; try with_reducible rfl)
                refine Free.tk 7 (some 59) (v := .pointer (some ⟨g1, o1 + i * 2, none⟩)) ?_ (hy := by intro W hW; go_simp; try with_reducible rfl)
                refine Free.tk 8 (some 60) (v := .agg #[.int .i64 p'.1, .int .i64 p'.2]) ?_ (hy := by intro W hW; have x1 := hW.x; have x2 := hW.y; go_simp; try with_reducible rfl)
                by_cases hnp : n.pl = p'
                · refine Free.tk 9 (some 61) (v := .bool true) ?_ (hy := by intro W hW; have he := fun w => eql_place n.pl p' w; simp only [decide_eq_true hnp] at he; go_simp; try with_reducible rfl)
                  refine Free.done (fun W3 hb3 hW3 => ?_)
                  have HW3 := Lib.hid hW3.s
                  obtain ⟨g5, o5, d5, n', fv', e5, l5, _, hpf5, r5⟩ := (HN0.out.below HW3.out.b).at_ hlk
                  simp at e5
                  obtain ⟨⟨rfl, rfl⟩, rfl⟩ := e5
                  obtain rfl : n' = n := Option.some.inj (l5.symm.trans HL3.out)
                  obtain ⟨of5, cf5, rfl, _, _⟩ := hpf5.shape
                  obtain ⟨y0, y1, y2, y3⟩ := rng4 r5
                  have hb9 := bel1 W3 (.cells (noc n' (.slice of5 n'.fr.length cf5)).toArray 35)
                  have hW9 := HW3.out.below hb9
                  obtain ⟨cs9, hg9, hc9⟩ := hW9.n
                  obtain ⟨ow, cw, rfl, _, _⟩ := hg9.shape
                  have hlen : (T.ofP (ns.take k) p').length ≤ 100000 := by have h1 := List.length_filter_le (fun n => decide (n.pl = p')) (ns.take k); unfold T.ofP; rw [List.length_take] at h1; omega
                  have hsr := nt_src W3 n' (fv := .slice of5 n'.fr.length cf5) rfl
                  have HPf5 := Lib.hid hpf5
                  have HNx2 := HNx.out
                  rw [if_pos hnp] at HNx2
                  have HNy := Lib.hid HNx2
                  clear hb3 hW3 l5 r5 hpf5 HPf hnp HNx2
                  unfold noc at hsr hg9
                  go_wp2_with (refine wp_append_g rfl _ _ rfl Tryd.underlying28 infoNt rfl (by omega) (by omega) rfl rfl hg9 hsr (by omega) ?_; intro v9 w9 hg6 ht6 hn6; have HW6 := Lib.hid (hW9.app HPf5.out HPn.out hc9 hg9 hg6 ht6 hn6); clear hb9 hW9 hg9 hc9 hg6 ht6 hn6 hsr y0 y1 y2 y3)
                  rw [← HNy.out] at HW6
                  go_wp2
                  exact ⟨⟨k + 1, v9, by omega, rfl, by go_num, HW6⟩, by simp [natI]; omega⟩
                · refine Free.tk 9 (some 61) (v := .bool false) ?_ (hy := by intro W hW; have he := fun w => eql_place n.pl p' w; simp only [decide_eq_false hnp] at he; go_simp; try with_reducible rfl)
                  refine Free.done (fun W3 hb3 hW3 => ?_)
                  have HW3 := Lib.hid hW3.s
                  have HNx2 := HNx.out
                  rw [if_neg hnp, List.append_nil] at HNx2
                  rw [← HNx2] at HW3
                  clear hb3 hW3 hnp HNx2
                  go_wp2
                  exact ⟨⟨k + 1, wv, by omega, rfl, by go_num, HW3⟩, by simp [natI]; omega⟩
              · obtain rfl : k = ns.length := by omega
                rw [List.take_length] at HW
                obtain ⟨g4, o4, d4, p', e4, l4, _, r4⟩ := (HP.out _ hbW).at_ hlt
                simp at e4
                obtain ⟨⟨rfl, rfl⟩, rfl⟩ := e4
                obtain rfl : p' = p := Option.some.inj (l4.symm.trans HLp.out)
                obtain ⟨x1, x2⟩ := rng2 r4
                have hQ2 := HQ.out.below HW.out.b
                obtain ⟨V, hh, _⟩ := hQ2.h.h
                rw [HNs.out] at hh
                have HNo := Lib.hid (Notes_any hh (by omega) (fun n hn => by have h1 := fr_le hn; have h2 := hcap.2; omega) HPi.out)
                obtain ⟨ow, cw, rfl, _, hmw⟩ := HW.out.n.shape
                unfold maxLen at hmw
                have hWl : (T.ofP ns p').length ≤ 100000 := by have h1 := List.length_filter_le (fun n => decide (n.pl = p')) ns; unfold T.ofP; omega
                clear l4 r4 hQ2 hh hbW
                go_wp2_with fail
                refine HNo.out.mono ?_
                rintro e w7 ⟨gv, rfl, hrow, hb7⟩
                have HW7 := Lib.hid (HW.out.below hb7)
                have HR7 := Lib.hid hrow
                obtain ⟨ogv, cgv, rfl, _, _⟩ := hrow.shape
                generalize hWn : T.ofP ns p' = Wn at *
                clear hrow hb7 x1 x2 HW HNo hWn
                go_wp2_with fail
                go_loopw [14] (fun i2 W => ∃ k : Nat, k ≤ Wn.length ∧ i2 = .int .i64 (k : Int) ∧ Hid (WnS w2 w5 (.slice ow Wn.length cw) Wn W ∧ RowN W (.slice ogv Wn.length cgv) Wn)) (fun i2 _ => Wn.length + 1 - natI i2)
                case atStart => exact ⟨0, by omega, rfl, Lib.hid ⟨HW7.out, HR7.out⟩⟩
                case round =>
                  obtain ⟨k, hk, rfl, HWR⟩ := hrel
                  clear HW7 HR7
                  by_cases hlk : k < Wn.length
                  · have hki : (k : Int) < (Wn.length : Int) := by omega
                    obtain ⟨g5, o5, c5, n, fv, e5, l5, hpn, hown, r5⟩ := HWR.out.2.at_ hlk
                    simp at e5
                    obtain ⟨rfl, rfl⟩ := e5
                    obtain ⟨g6, o6, c6, n', hv, e6, l6, _, hpf, r6⟩ := HWR.out.1.n.at_ hlk
                    simp at e6
                    obtain ⟨rfl, rfl⟩ := e6
                    obtain rfl : n' = n := Option.some.inj (l6.symm.trans l5)
                    obtain ⟨of, cf, rfl, _, _⟩ := hown.1.shape
                    obtain ⟨oh, ch, rfl, _, _⟩ := hpf.shape
                    have hbw := belT HQ.out.h.b HWR.out.1.b
                    have HD : Hid (No21 w2 w5 (.slice (some ⟨g6, o6, none⟩) Wn.length cw) (.slice (some ⟨g5, o5, none⟩) Wn.length cgv) Wn g5 (o5 + k * 4) g6 (o6 + k * 4) n' (.slice of n'.fr.length cf) (.slice oh n'.fr.length ch) (World.drew wr)) := Lib.hid (No21.stb _ _ _ _ _ _ _ _ _ _ _ _ _ _ ⟨HWR.out.1, HWR.out.2, r5, r6, hown.pls, hpf.below hbw⟩ (Below.refl _ _).drew)
                    clear l5 hpn hown r5 l6 hpf r6 hbw HWR
                    go_wp2_with fail
                    refine Free.any (No21 w2 w5 (.slice (some ⟨g6, o6, none⟩) Wn.length cw) (.slice (some ⟨g5, o5, none⟩) Wn.length cgv) Wn g5 (o5 + k * 4) g6 (o6 + k * 4) n' (.slice of n'.fr.length cf) (.slice oh n'.fr.length ch)) (No21.stb _ _ _ _ _ _ _ _ _ n' _ _) HD.out (fun st => ?_)
                    refine Free.tk 0 (some 86) ?_ (hy := by intro W hW; go_simp; try with_reducible rfl)
                    refine Free.tk 1 (some 87) ?_ (hy := by intro W hW; go_simp; try with_reducible rfl)
                    refine Free.tk 2 (some 88) (v := .pointer (some ⟨g5, o5 + k * 4, none⟩)) ?_ (hy := by intro W hW; go_simp; try with_reducible rfl)
                    refine Free.tk 3 (some 89) (v := .agg #[.int .i64 n'.st, .int .i64 n'.pl.1, .int .i64 n'.pl.2, .slice of n'.fr.length cf]) ?_ (hy := by intro W hW; obtain ⟨z0, z1, z2, z3⟩ := rng4 hW.a; go_simp; try with_reducible rfl)
                    refine Free.tk 4 (some 90) ?_ (hy := by intro W hW; go_simp; try with_reducible rfl)
                    refine Free.tk 5 (some 91) ?_ (hy := by intro W hW; go_simp; try with_reducible rfl)
                    refine Free.tk 6 (some 92) (v := .pointer (some ⟨g6, o6 + k * 4, none⟩)) ?_ (hy := by intro W hW; go_simp; try with_reducible rfl)
                    refine Free.tk 7 (some 93) (v := .agg #[.int .i64 n'.st, .int .i64 n'.pl.1, .int .i64 n'.pl.2, .slice oh n'.fr.length ch]) ?_ (hy := by intro W hW; obtain ⟨z0, z1, z2, z3⟩ := rng4 hW.b; go_simp; try with_reducible rfl)
                    refine Free.cl 8 (some 94) (v := .bool true) st (fun W hW => alike_any hW.f hW.h) ?_ (hy := by intro W; unfold noc; go_simp; try rfl)
                    refine Free.tk 9 (some 95) (v := .bool false) ?_ (hy := by intro W hW; go_simp; try with_reducible rfl)
                    refine Free.done (fun W9 hb9 hW9 => ?_)
                    have HX9 := Lib.hid (And.intro hW9.s hW9.r)
                    clear hb9 hW9
                    go_wp2
                    exact ⟨⟨k + 1, by omega, by go_num, HX9⟩, by simp [natI]; omega⟩
                  · obtain rfl : k = Wn.length := by omega
                    have HQ7 := Lib.hid (HQ.out.below HWR.out.1.b)
                    clear HWR
                    go_wp2_with fail
                    go_loopw [15] (fun i2 W => ∃ k : Nat, k ≤ ss.length ∧ i2 = .int .i64 (k : Int) ∧ Hid (QrS w2 S mb l (.slice on ns.length cn) W)) (fun i2 _ => ss.length + 1 - natI i2)
                    case atStart => exact ⟨0, by omega, rfl, HQ7⟩
                    case round =>
                      obtain ⟨k, hk, rfl, HQ2⟩ := hrel
                      clear HQ7
                      by_cases hlk : k < ss.length
                      · have hki : (k : Int) < (ss.length : Int) := by omega
                        have hbw := belT HB2.out HQ2.out.h.b
                        obtain ⟨g4, o4, d4, p, e4, l4, _, r4⟩ := (HP.out _ hbw).at_ hlt
                        simp at e4
                        obtain ⟨⟨rfl, rfl⟩, rfl⟩ := e4
                        obtain rfl : p = p' := Option.some.inj (l4.symm.trans HLp.out)
                        obtain ⟨g2, o2, d2, s, e2, l2, cz⟩ := (HS.out _ hbw).at_ hlk
                        simp at e2
                        obtain ⟨rfl, rfl⟩ := e2
                        obtain ⟨x1, x2⟩ := rng2 r4
                        have HD : Hid (Qr12 w2 S mb l (.slice on ns.length cn) g1 (o1 + i * 2) p g2 (o2 + k) s (.slice none 0 0) [] (World.drew wr)) := Lib.hid (Qr12.stb _ _ _ _ _ _ _ _ _ _ _ _ _ _ _ ⟨HQ2.out, x1, x2, cz, (own_nil _).pls⟩ (Below.refl _ _).drew)
                        obtain ⟨q, hq⟩ : ∃ q, q = T.lastN ns p s := ⟨_, rfl⟩
                        obtain ⟨X, hX⟩ : ∃ X, X = q.getD no0 := ⟨_, rfl⟩
                        obtain ⟨b, hbq⟩ : ∃ b, b = q.isSome := ⟨_, rfl⟩
                        have HL : Hid (∀ W, Qr12 w2 S mb l (.slice on ns.length cn) g1 (o1 + i * 2) p g2 (o2 + k) s (.slice none 0 0) [] W → Calls Tryd.prog 12 #[.pointer (some ⟨S, 0, none⟩), .agg #[.int .i64 p.1, .int .i64 p.2], .int .i64 s] W fun e w' => (∃ fv, Own w' fv X.fr ∧ e = .returned (.tuple #[.agg (noc X fv).toArray, .bool b])) ∧ Below W.heap.size W w') := Lib.hid (fun W hW => by
                          obtain ⟨V, hh, _⟩ := hW.q.h.h
                          rw [HNs.out] at hh
                          have hl := Last_any hh HUp.out (by omega) HFr.out HPi.out s
                          unfold LaO at hl
                          rw [← hq, ← hX, ← hbq] at hl
                          exact hl)
                        have HX := Lib.hid (And.intro hq (And.intro hX hbq))
                        clear hbw r4 l2 l4 cz x1 x2 HQ2 hq hX hbq
                        go_wp2_with fail
                        refine Free.any (Qr12 w2 S mb l (.slice on ns.length cn) g1 (o1 + i * 2) p g2 (o2 + k) s (.slice none 0 0) []) (Qr12.stb _ _ _ _ _ _ _ p _ _ s _ _) HD.out (fun st => ?_)
                        refine Free.tk 0 (some 103) ?_ (hy := by intro W hW; go_simp; try with_reducible rfl)
                        refine Free.tk 1 (some 104) ?_ (hy := by intro W hW; go_simp; try with_reducible rfl)
                        refine Free.tk 2 (some 105) ?_ (hy := by intro W hW; go_simp; try with_reducible rfl)
                        refine Free.tk 3 (some 106) (v := .pointer (some ⟨g1, o1 + i * 2, none⟩)) ?_ (hy := by intro W hW; go_simp; try with_reducible rfl)
                        refine Free.tk 4 (some 107) (v := .agg #[.int .i64 p.1, .int .i64 p.2]) ?_ (hy := by intro W hW; have x1 := hW.x; have x2 := hW.y; go_simp; try with_reducible rfl)
                        refine Free.tk 5 (some 108) ?_ (hy := by intro W hW; go_simp; try with_reducible rfl)
                        refine Free.tk 6 (some 109) ?_ (hy := by intro W hW; go_simp; try with_reducible rfl)
                        refine Free.tk 7 (some 110) (v := .pointer (some ⟨g2, o2 + k, none⟩)) ?_ (hy := by intro W hW; go_simp; try with_reducible rfl)
                        refine Free.tk 8 (some 111) (v := .int .i64 s) ?_ (hy := by intro W hW; have x1 := hW.z; go_simp; try with_reducible rfl)
                        refine Free.all [9, 13] (fun W1 hb1 hW1 i2 hi2 => ?_)
                        have hi3 : i2 = 9 ∨ i2 = 13 := by simpa using hi2
                        clear hi2
                        rcases hi3 with rfl | rfl
                        case' inl =>
                          refine wpOp_at 9 rfl rfl ?_
                          refine o_callb (some 112) (by go_simp; first | exact ⟨rfl, rfl⟩ | rfl) ?_
                          refine (HL.out W1 hW1).mono ?_
                          rintro e W2 ⟨⟨fv, hown, rfl⟩, hbb⟩
                          obtain ⟨of, cf, rfl, _, _⟩ := hown.1.shape
                          refine ⟨_, rfl, st _ _ hW1 hbb, ?_⟩
                          refine Free.tk 10 (some 102) (v := .tuple #[.agg (noc X (.slice of X.fr.length cf)).toArray, .bool b]) ?_ (hy := by intro W hW; go_simp; try with_reducible rfl)
                          refine Free.tk 11 (some 113) (v := .agg (noc X (.slice of X.fr.length cf)).toArray) ?_ (hy := by intro W hW; go_simp; try with_reducible rfl)
                          refine Free.tk 12 (some 114) (v := .bool b) ?_ (hy := by intro W hW; go_simp; try with_reducible rfl)
                          refine Free.one 13 (fun W3 hb3 hW3 => ?_)
                          refine o_okb (some 16) (.pointer (some ⟨W3.heap.size, 0, none⟩)) (W3.alloc (.cells (noc no0 (.slice none 0 0)).toArray 35)) (by unfold noc no0; go_simp; try rfl) ⟨st _ _ hW3 (bel1 W3 _), ?_⟩
                          refine Free.one 14 (fun W4 hb4 hW4 => ?_)
                          have hR4 := ((noc_ok no0 (fv := .slice none 0 0) rfl).new 35 W3).below hb4
                          have hof := (hown.below (belT hb3 (belT (bel1 W3 _) hb4))).other (cs := (noc X (.slice of X.fr.length cf)).toArray) ⟨_, hR4.blk⟩
                          have hS4 := st _ _ hW3 (below_setRow (belT (bel1 W3 _) hb4) (Nat.le_refl _) (noc X (.slice of X.fr.length cf)).toArray)
                          generalize W3.heap.size = B at hR4 hof hS4 ⊢
                        case' inr =>
                          refine wpOp_at 13 rfl rfl ?_
                          refine o_okb (some 16) (.pointer (some ⟨W1.heap.size, 0, none⟩)) (W1.alloc (.cells (noc no0 (.slice none 0 0)).toArray 35)) (by unfold noc no0; go_simp; try rfl) ⟨st _ _ hW1 (bel1 W1 _), ?_⟩
                          refine Free.one 9 (fun W2 hb2 hW2 => ?_)
                          refine o_callb (some 112) (by go_simp; first | exact ⟨rfl, rfl⟩ | rfl) ?_
                          refine (HL.out W2 hW2).mono ?_
                          rintro e W3 ⟨⟨fv, hown, rfl⟩, hbb⟩
                          obtain ⟨of, cf, rfl, _, _⟩ := hown.1.shape
                          refine ⟨_, rfl, st _ _ hW2 hbb, ?_⟩
                          refine Free.tk 10 (some 102) (v := .tuple #[.agg (noc X (.slice of X.fr.length cf)).toArray, .bool b]) ?_ (hy := by intro W hW; go_simp; try with_reducible rfl)
                          refine Free.tk 11 (some 113) (v := .agg (noc X (.slice of X.fr.length cf)).toArray) ?_ (hy := by intro W hW; go_simp; try with_reducible rfl)
                          refine Free.tk 12 (some 114) (v := .bool b) ?_ (hy := by intro W hW; go_simp; try with_reducible rfl)
                          refine Free.one 14 (fun W4 hb4 hW4 => ?_)
                          have hR4 := ((noc_ok no0 (fv := .slice none 0 0) rfl).new 35 W1).below (belT hb2 (belT hbb hb4))
                          have hof := (hown.below hb4).other (cs := (noc X (.slice of X.fr.length cf)).toArray) ⟨_, hR4.blk⟩
                          have hS4 := st _ _ hW1 (below_setRow (belT (bel1 W1 _) (belT hb2 (belT hbb hb4))) (Nat.le_refl _) (noc X (.slice of X.fr.length cf)).toArray)
                          generalize W1.heap.size = B at hR4 hof hS4 ⊢
                        all_goals
                          have hok := noc_ok X (fv := .slice of X.fr.length cf) rfl
                          refine o_storeN none (noc X (.slice of X.fr.length cf)).toArray rowN hR4 hok rfl (by first | rfl | go_simp) (by first | rfl | go_simp) ⟨hS4, ?_⟩
                          have hRs := hR4.set hok
                          refine Free.tk 15 (some 17) (v := .bool b) ?_ (hy := by intro W hW; go_simp; try with_reducible rfl)
                          refine Free.done (fun W6 hb6 hW6 => ?_)
                          have HD6 : Hid (No27 w2 S mb l (.slice on ns.length cn) g1 (o1 + i * 2) p g2 (o2 + k) s B X (.slice of X.fr.length cf) (World.drew W6)) := Lib.hid (No27.stb _ _ _ _ _ _ _ _ _ _ _ _ _ _ _ _ ⟨hW6.q, hW6.x, hW6.y, hW6.z, hRs.below hb6, (hof.below hb6).pls⟩ (Below.refl _ _).drew)
                          clear hb1 hW1 HL hown hbb hW4 hb4 hR4 hok hRs hof hb6 hW6 HD hS4
                          go_wp2_with fail
                          refine Free.any (No27 w2 S mb l (.slice on ns.length cn) g1 (o1 + i * 2) p g2 (o2 + k) s B X (.slice of X.fr.length cf)) (No27.stb _ _ _ _ _ _ _ p _ _ s _ X _) HD6.out (fun st => ?_)
                          refine Free.tk 0 (some 115) ?_ (hy := by intro W hW; go_simp; try with_reducible rfl)
                          refine Free.tk 1 (some 116) ?_ (hy := by intro W hW; go_simp; try with_reducible rfl)
                          refine Free.tk 2 (some 117) ?_ (hy := by intro W hW; go_simp; try with_reducible rfl)
                          refine Free.tk 3 (some 118) (v := .pointer (some ⟨g1, o1 + i * 2, none⟩)) ?_ (hy := by intro W hW; go_simp; try with_reducible rfl)
                          refine Free.tk 4 (some 119) (v := .agg #[.int .i64 p.1, .int .i64 p.2]) ?_ (hy := by intro W hW; have x1 := hW.x; have x2 := hW.y; go_simp; try with_reducible rfl)
                          refine Free.tk 5 (some 120) ?_ (hy := by intro W hW; go_simp; try with_reducible rfl)
                          refine Free.tk 6 (some 121) ?_ (hy := by intro W hW; go_simp; try with_reducible rfl)
                          refine Free.tk 7 (some 122) (v := .pointer (some ⟨g2, o2 + k, none⟩)) ?_ (hy := by intro W hW; go_simp; try with_reducible rfl)
                          refine Free.tk 8 (some 123) (v := .int .i64 s) ?_ (hy := by intro W hW; have x1 := hW.z; go_simp; try with_reducible rfl)
                          refine Free.one 9 (fun W1 hb1 hW1 => ?_)
                          have hn := hW1.q.n
                          rw [HNs.out] at hn
                          refine o_callb (some 124) (by go_simp; first | exact ⟨rfl, rfl⟩ | rfl) ?_
                          refine (RLast_any hn p s).mono ?_
                          rintro e W2 ⟨r, rfl, hb2, hr⟩
                          refine ⟨_, rfl, st _ _ hW1 hb2, ?_⟩
                          refine Free.tk 10 (some 18) (v := .int .i64 r) ?_ (hy := by intro W hW; go_simp; try with_reducible rfl)
                          refine Free.done (fun W8 hb8 hW8 => ?_)
                          have HD8 : Hid (No27 w2 S mb l (.slice on ns.length cn) g1 (o1 + i * 2) p g2 (o2 + k) s B X (.slice of X.fr.length cf) (World.drew W8)) := Lib.hid (No27.stb _ _ _ _ _ _ _ _ _ _ _ _ _ _ _ _ hW8 (Below.refl _ _).drew)
                          have hX := HX.out
                          clear hb1 hW1 hn hb2 hb8 hW8 HD6 HX
                          rcases hr with ⟨rfl, hno⟩ | ⟨j, n, rfl, hj, hso⟩
                          · rw [hno] at hX
                            obtain ⟨rfl, rfl, rfl⟩ := hX
                            have hz := zero_note
                            clear hno
                            simp only [Option.isSome_none, Option.getD_none] at HD8 ⊢
                            go_wp2_with fail
                            refine Free.any (No27 w2 S mb l (.slice on ns.length cn) g1 (o1 + i * 2) p g2 (o2 + k) s B no0 (.slice of no0.fr.length cf)) (No27.stb _ _ _ _ _ _ _ p _ _ s _ no0 _) HD8.out (fun st => ?_)
                            refine Free.tk 0 (some 125) (v := .bool false) ?_ (hy := by intro W hW; go_simp; try with_reducible rfl)
                            refine Free.tk 1 (some 126) ?_ (hy := by intro W hW; go_simp; try with_reducible rfl)
                            refine Free.tk 2 (some 127) (v := .bool false) ?_ (hy := by intro W hW; go_simp; try with_reducible rfl)
                            refine Free.tk 3 (some 128) (v := .bool false) ?_ (hy := by intro W hW; go_simp; try with_reducible rfl)
                            refine Free.tk 4 (some 129) (v := .bool false) ?_ (hy := by intro W hW; go_simp; try with_reducible rfl)
                            refine Free.tk 5 (some 130) (v := .bool false) ?_ (hy := by intro W hW; go_simp; try with_reducible rfl)
                            refine Free.tk 6 (some 131) (v := .bool false) ?_ (hy := by intro W hW; go_simp; try with_reducible rfl)
                            refine Free.sk 7 (some 132) ?_
                            refine Free.sk 8 (some 133) ?_
                            refine Free.sk 9 (some 134) ?_
                            refine Free.sk 10 (some 135) ?_
                            refine Free.sk 11 (some 136) ?_
                            refine Free.sk 12 (some 137) ?_
                            refine Free.sk 13 (some 138) ?_
                            refine Free.sk 14 (some 139) ?_
                            refine Free.tk 15 (some 140) (v := .bool false) ?_ (hy := by intro W hW; go_simp; try with_reducible rfl)
                            refine Free.tk 16 (some 141) (v := .bool false) ?_ (hy := by intro W hW; go_simp; try with_reducible rfl)
                            refine Free.tk 17 (some 142) (v := .bool false) ?_ (hy := by intro W hW; go_simp; try with_reducible rfl)
                            refine Free.tk 18 (some 143) (v := .bool false) ?_ (hy := by intro W hW; go_simp; try with_reducible rfl)
                            refine Free.tk 19 (some 144) (v := .bool true) ?_ (hy := by intro W hW; go_simp; try with_reducible rfl)
                            refine Free.tk 20 (some 145) (v := .bool true) ?_ (hy := by intro W hW; go_simp; try with_reducible rfl)
                            refine Free.tk 21 (some 146) (v := .agg #[.int .i64 0, .int .i64 0, .int .i64 0, .slice of no0.fr.length cf]) ?_ (hy := by intro W hW; have c0 := hW.k.cell 0; have c1 := hW.k.cell 1; have c2 := hW.k.cell 2; have c3 := hW.k.cell 3; unfold noc at c0 c1 c2 c3; simp only [List.getElem?_toArray, List.getElem?_cons_zero, List.getElem?_cons_succ] at c0 c1 c2 c3; unfold no0 at c0 c1 c2 c3 ⊢; go_simp; try with_reducible rfl)
                            refine Free.tk 22 (some 147) (v := .agg #[.int .i64 0, .int .i64 0, .int .i64 0, .slice none 0 0]) ?_ (hy := by intro W hW; have hz := zero_note W; go_simp; try with_reducible rfl)
                            refine Free.cl 23 (some 148) (v := .bool true) st (fun W hW => alike_any (n := no0) hW.f (own_nil W).pls) ?_ (hy := by intro W; unfold noc no0; go_simp; try rfl)
                            refine Free.tk 24 (some 149) (v := .bool false) ?_ (hy := by intro W hW; go_simp; try with_reducible rfl)
                            refine Free.tk 25 (some 150) (v := .bool false) ?_ (hy := by intro W hW; go_simp; try with_reducible rfl)
                            refine Free.tk 26 (some 151) (v := .bool false) ?_ (hy := by intro W hW; go_simp; try with_reducible rfl)
                            refine Free.done (fun W9 hb9 hW9 => ?_)
                            have HQ9 := Lib.hid hW9.q
                            clear hb9 hW9
                            go_wp2
                            exact ⟨⟨k + 1, by omega, by go_num, HQ9⟩, by simp [natI]; omega⟩
                          · rw [hso] at hX
                            obtain ⟨rfl, rfl, rfl⟩ := hX
                            simp only [Option.isSome_some, Option.getD_some] at HD8 ⊢
                            have hjl := (List.getElem?_eq_some_iff.1 hj).1
                            have hji : (j : Int) < (ns.length : Int) := by omega
                            have hn8 := HD8.out.q.n
                            rw [HNs.out] at hn8
                            obtain ⟨g3, o3, d3, n', gv, e3, l3, _, hpf, r3⟩ := hn8.at_ hjl
                            simp at e3
                            obtain ⟨rfl, rfl⟩ := e3
                            obtain rfl : n' = X := Option.some.inj (l3.symm.trans hj)
                            obtain ⟨oh, ch, rfl, _, _⟩ := hpf.shape
                            have hmx : max (j : Int) 0 = (j : Int) := by omega
                            have HE8 : Hid (No28 w2 S mb l (.slice (some ⟨g3, o3, none⟩) ns.length cn) B n' (.slice of n'.fr.length cf) g3 (o3 + j * 4) (.slice oh n'.fr.length ch) _) := Lib.hid ⟨HD8.out.q, HD8.out.k, HD8.out.f, r3, hpf.below HD8.out.q.h.b⟩
                            clear hn8 l3 hpf r3 hj hso HD8
                            go_wp2_with fail
                            refine Free.any (No28 w2 S mb l (.slice (some ⟨g3, o3, none⟩) ns.length cn) B n' (.slice of n'.fr.length cf) g3 (o3 + j * 4) (.slice oh n'.fr.length ch)) (No28.stb _ _ _ _ _ _ n' _ _ _ _) HE8.out (fun st => ?_)
                            refine Free.tk 0 (some 125) (v := .bool true) ?_ (hy := by intro W hW; go_simp; try with_reducible rfl)
                            refine Free.tk 1 (some 126) ?_ (hy := by intro W hW; go_simp; try with_reducible rfl)
                            refine Free.tk 2 (some 127) (v := .bool true) ?_ (hy := by intro W hW; go_simp; try with_reducible rfl)
                            refine Free.tk 3 (some 128) (v := .bool false) ?_ (hy := by intro W hW; go_simp; try with_reducible rfl)
                            refine Free.tk 4 (some 129) (v := .bool false) ?_ (hy := by intro W hW; go_simp; try with_reducible rfl)
                            refine Free.tk 5 (some 130) (v := .bool true) ?_ (hy := by intro W hW; go_simp; try with_reducible rfl)
                            refine Free.tk 6 (some 131) (v := .bool true) ?_ (hy := by intro W hW; go_simp; try with_reducible rfl)
                            refine Free.tk 7 (some 132) (v := .agg #[.int .i64 n'.st, .int .i64 n'.pl.1, .int .i64 n'.pl.2, (.slice of n'.fr.length cf)]) ?_ (hy := by intro W hW; have c0 := hW.k.cell 0; have c1 := hW.k.cell 1; have c2 := hW.k.cell 2; have c3 := hW.k.cell 3; unfold noc at c0 c1 c2 c3; simp only [List.getElem?_toArray, List.getElem?_cons_zero, List.getElem?_cons_succ] at c0 c1 c2 c3; go_simp; try with_reducible rfl)
                            refine Free.tk 8 (some 133) ?_ (hy := by intro W hW; go_simp; try with_reducible rfl)
                            refine Free.tk 9 (some 134) ?_ (hy := by intro W hW; go_simp; try with_reducible rfl)
                            refine Free.tk 10 (some 135) (v := .int .i64 (j : Int)) ?_ (hy := by intro W hW; go_simp; try with_reducible rfl)
                            refine Free.tk 11 (some 136) (v := .pointer (some ⟨g3, o3 + j * 4, none⟩)) ?_ (hy := by intro W hW; go_simp; try with_reducible rfl)
                            refine Free.tk 12 (some 137) (v := .agg #[.int .i64 n'.st, .int .i64 n'.pl.1, .int .i64 n'.pl.2, (.slice oh n'.fr.length ch)]) ?_ (hy := by intro W hW; obtain ⟨z0, z1, z2, z3⟩ := rng4 hW.r; go_simp; try with_reducible rfl)
                            refine Free.cl 13 (some 138) (v := .bool true) st (fun W hW => alike_any hW.f hW.h) ?_ (hy := by intro W; unfold noc; go_simp; try rfl)
                            refine Free.tk 14 (some 139) (v := .bool false) ?_ (hy := by intro W hW; go_simp; try with_reducible rfl)
                            refine Free.tk 15 (some 140) (v := .bool false) ?_ (hy := by intro W hW; go_simp; try with_reducible rfl)
                            refine Free.tk 16 (some 141) (v := .bool false) ?_ (hy := by intro W hW; go_simp; try with_reducible rfl)
                            refine Free.tk 17 (some 142) (v := .bool false) ?_ (hy := by intro W hW; go_simp; try with_reducible rfl)
                            refine Free.tk 18 (some 143) (v := .bool true) ?_ (hy := by intro W hW; go_simp; try with_reducible rfl)
                            refine Free.tk 19 (some 144) (v := .bool false) ?_ (hy := by intro W hW; go_simp; try with_reducible rfl)
                            refine Free.tk 20 (some 145) (v := .bool false) ?_ (hy := by intro W hW; go_simp; try with_reducible rfl)
                            refine Free.sk 21 (some 146) ?_
                            refine Free.sk 22 (some 147) ?_
                            refine Free.sk 23 (some 148) ?_
                            refine Free.sk 24 (some 149) ?_
                            refine Free.tk 25 (some 150) (v := .bool false) ?_ (hy := by intro W hW; go_simp; try with_reducible rfl)
                            refine Free.tk 26 (some 151) (v := .bool false) ?_ (hy := by intro W hW; go_simp; try with_reducible rfl)
                            refine Free.done (fun W9 hb9 hW9 => ?_)
                            have HQ9 := Lib.hid hW9.q
                            clear hb9 hW9
                            go_wp2
                            exact ⟨⟨k + 1, by omega, by go_num, HQ9⟩, by simp [natI]; omega⟩
                      · obtain rfl : k = ss.length := by omega
                        go_wp2
                        exact ⟨⟨i + 1, by omega, by go_num, HQ2⟩, by simp [natI]; omega⟩
          · obtain rfl : i = ps.length := by omega
            have HB3 := Lib.hid (belT HB2.out HQ.out.h.b)
            go_wp2_with fail
            refine (HK.out _ HB3.out).mono ?_
            rintro e w' ⟨rfl, hb⟩
            have HB := Lib.hid (belT (by first | exact HB3.out | exact HB2.out) hb)
            clear hb
            go_wp2
            go_ret
            exact ⟨rfl, HB.out⟩
end Go.Proofs.YtiohlmccnllklaaDoor.Q
