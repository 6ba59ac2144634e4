/-
  Layer 14: Last of the document's answer: walk.
-/
import Derived.Test.YtiohlmccnllklaaDoorG20
set_option linter.unusedVariables false
set_option linter.unusedSimpArgs false
namespace Go.Proofs.YtiohlmccnllklaaDoor.Q
open Go.RowKit
set_option maxHeartbeats 8000000
set_option maxRecDepth 100000
set_option linter.unusedVariables false
set_option linter.unusedSimpArgs false

theorem NsR.at_ {w W : World} {nv : Value} {ns : List T.No} (h : NsR w W nv ns) {k : Nat} (hk : k < ns.length) : ∃ g o c n fv, nv = .slice (some ⟨g, o, none⟩) ns.length c ∧ ns[k]? = some n ∧ PiN n ∧ PlsIn w fv n.fr ∧ W.rangeAt g (o + k * 4) (noc n fv) := by
  obtain ⟨cs, h1, h2⟩ := h
  obtain ⟨g, o, c, e, _, hr⟩ := h1.rd.elem hk
  have hn : ns[k]? = some ns[k] := List.getElem?_eq_getElem hk
  obtain ⟨fv, h4, h5, h6⟩ := h2.at_ hn
  rw [h4] at hr
  exact ⟨g, o, c, _, fv, e, hn, h6, h5, hr⟩
theorem NsR.shape {w W : World} {nv : Value} {ns : List T.No} (h : NsR w W nv ns) : ∃ ao c, nv = .slice ao ns.length c ∧ ns.length ≤ c ∧ ns.length ≤ maxLen := by obtain ⟨cs, h1, _⟩ := h; exact h1.shape
def meas (v : Value) : Nat := match v with | .int _ x => (x + 1).toNat | _ => 0
/-- What Last tells: where, or -1. -/
def RlO (w : World) (ns : List T.No) (p : T.Pl) (s : Int) (e : Ending) (w' : World) : Prop :=
  ∃ r : Int, e = .returned (.int .i64 r) ∧ Below w.heap.size w w' ∧ ((r = -1 ∧ T.lastN ns p s = none) ∨ ∃ k n, r = (k : Nat) ∧ ns[k]? = some n ∧ T.lastN ns p s = some n)
structure RlS (g o : Nat) (n : T.No) (B : Nat) (p : T.Pl) (W : World) : Prop where
  a : W.cell? ⟨g, o, none⟩ = some (.int .i64 n.st)
  b : W.cell? ⟨g, o + 1, none⟩ = some (.int .i64 n.pl.1)
  c : W.cell? ⟨g, o + 2, none⟩ = some (.int .i64 n.pl.2)
  p : Blk W B #[.int .i64 p.1, .int .i64 p.2] 33
theorem RlS.stb (g o : Nat) (n : T.No) (B : Nat) (p : T.Pl) : Free.Stb (RlS g o n B p) := fun W W' h hb => ⟨cell_below h.a hb, cell_below h.b hb, cell_below h.c hb, h.p.below hb⟩
theorem RLast_any {w0 w : World} {nv : Value} {ns : List T.No} (h : NsR w0 w nv ns) (p : T.Pl) (s : Int) : Calls Tryd.prog 13 #[nv, .agg #[.int .i64 p.1, .int .i64 p.2], .int .i64 s] w fun e w' => RlO w ns p s e w' := by
  have hb1 := bel1 w (.cells #[.int .i64 p.1, .int .i64 p.2] 33)
  have HN := Lib.hid (fun W (hb : Below w.heap.size w W) => (show NsR w0 W nv ns from h.below hb))
  have HS0 : Hid (Below w.heap.size w _ ∧ Blk _ w.heap.size #[.int .i64 p.1, .int .i64 p.2] 33) := Lib.hid ⟨hb1, blk_new w #[.int .i64 p.1, .int .i64 p.2] 33⟩
  obtain ⟨on, cn, rfl, _, hml⟩ := h.shape
  unfold maxLen at hml
  clear h hb1
  go_enter Tryd.func13, Tryd.ntmps13
  go_wp2_with fail
  go_loopw [7] (fun i wr => ∃ (k : Nat) (x : Int), k ≤ ns.length ∧ x = (k : Int) - 1 ∧ i = .int .i64 x ∧ Hid (Below w.heap.size w wr ∧ Blk wr w.heap.size #[.int .i64 p.1, .int .i64 p.2] 33) ∧ Hid (∀ (j : Nat) (m : T.No), k ≤ j → ns[j]? = some m → ¬ (m.pl = p ∧ m.st < s))) (fun i _ => meas i)
  case atStart => exact ⟨ns.length, _, by omega, rfl, by first | rfl | (try go_num), HS0, Lib.hid fun j m hj hm => absurd (List.getElem?_eq_some_iff.1 hm).1 (by omega)⟩
  case round =>
    obtain ⟨k, x, hk, hx, rfl, HB, HJ⟩ := hrel
    cases k with
    | zero =>
      obtain rfl : x = -1 := by omega
      have HF : Hid (RlO w ns p s (.returned (.int .i64 (-1))) wr) := Lib.hid ⟨-1, rfl, HB.out.1, .inl ⟨rfl, T.lastN_none fun j m hm => HJ.out j m (by omega) hm⟩⟩
      clear hx
      go_wp2
      go_ret
      exact HF.out
    | succ k =>
      obtain rfl : x = (k : Int) := by omega
      have hki : (k : Int) < (ns.length : Int) := by omega
      have hk0 : (0 : Int) ≤ (k : Int) := by omega
      obtain ⟨g1, o1, d1, n, fv, e1, l1, _, _, r1⟩ := (HN.out _ HB.out.1).at_ (show k < ns.length by omega)
      simp at e1
      obtain ⟨rfl, rfl⟩ := e1
      obtain ⟨q1, q2, q3, _⟩ := rng4 r1
      have HS : Hid (RlS g1 (o1 + k * 4) n w.heap.size p (World.drew wr)) := Lib.hid (RlS.stb _ _ _ _ _ _ _ ⟨q1, q2, q3, HB.out.2⟩ (Below.refl _ _).drew)
      have HL := Lib.hid l1
      clear hx r1 q1 q2 q3 l1
      go_wp2_with fail
      refine Free.any (RlS g1 (o1 + k * 4) n w.heap.size p) (RlS.stb _ _ n _ p) HS.out (fun st => ?_)
      refine Free.tk 0 (some 15) ?_ (hy := by intro W hW; go_simp; try with_reducible rfl)
      refine Free.tk 1 (some 16) ?_ (hy := by intro W hW; go_simp; try with_reducible rfl)
      refine Free.tk 2 (some 17) (v := .pointer (some ⟨g1, o1 + k * 4, none⟩)) ?_ (hy := by intro W hW; go_simp; try with_reducible rfl)
      refine Free.tk 3 (some 18) (v := .pointer (some ⟨g1, o1 + k * 4 + 1, none⟩)) ?_ (hy := by intro W hW; go_simp; try with_reducible rfl)
      refine Free.tk 4 (some 19) (v := .agg #[.int .i64 n.pl.1, .int .i64 n.pl.2]) ?_ (hy := by intro W hW; have x1 := hW.b; have x2 := hW.c; go_simp; try with_reducible rfl)
      refine Free.tk 5 (some 20) (v := .agg #[.int .i64 p.1, .int .i64 p.2]) ?_ (hy := by intro W hW; have x1 := hW.p.cell 0; have x2 := hW.p.cell 1; simp only [List.getElem?_toArray, List.getElem?_cons_zero, List.getElem?_cons_succ] at x1 x2; go_simp; try with_reducible rfl)
      by_cases hp : n.pl = p
      · refine Free.tk 6 (some 21) (v := .bool true) ?_ (hy := by intro W hW; have he := fun w => eql_place n.pl p w; simp only [decide_eq_true hp] at he; go_simp; try with_reducible rfl)
        refine Free.tk 7 (some 22) (v := .bool true) ?_ (hy := by intro W hW; go_simp; try with_reducible rfl)
        refine Free.tk 8 (some 23) ?_ (hy := by intro W hW; go_simp; try with_reducible rfl)
        refine Free.tk 9 (some 24) ?_ (hy := by intro W hW; go_simp; try with_reducible rfl)
        refine Free.tk 10 (some 25) (v := .pointer (some ⟨g1, o1 + k * 4, none⟩)) ?_ (hy := by intro W hW; go_simp; try with_reducible rfl)
        refine Free.tk 11 (some 26) (v := .pointer (some ⟨g1, o1 + k * 4, none⟩)) ?_ (hy := by intro W hW; go_simp; try with_reducible rfl)
        refine Free.tk 12 (some 27) (v := .int .i64 n.st) ?_ (hy := by intro W hW; have x1 := hW.a; go_simp; try with_reducible rfl)
        refine Free.tk 13 (some 28) (v := .int .i64 s) ?_ (hy := by intro W hW; go_simp; try with_reducible rfl)
        by_cases hs : n.st < s
        · refine Free.tk 14 (some 29) (v := .bool true) ?_ (hy := by intro W hW; go_simp; try with_reducible rfl)
          refine Free.tk 15 (some 30) (v := .bool true) ?_ (hy := by intro W hW; go_simp; try with_reducible rfl)
          refine Free.done (fun W hb hW => ?_)
          have hbd := (Below.refl _ wr).drew.trans hb
          have HF : Hid (RlO w ns p s (.returned (.int .i64 (k : Int))) W) := Lib.hid ⟨k, rfl, belT HB.out.1 hbd, .inr ⟨k, n, rfl, HL.out, T.lastN_at HL.out ⟨hp, hs⟩ fun j m hj hm => HJ.out j m (by omega) hm⟩⟩
          clear hb hW hbd
          go_wp2
          go_ret
          exact HF.out
        · refine Free.tk 14 (some 29) (v := .bool false) ?_ (hy := by intro W hW; go_simp; try with_reducible rfl)
          refine Free.tk 15 (some 30) (v := .bool false) ?_ (hy := by intro W hW; go_simp; try with_reducible rfl)
          refine Free.done (fun W hb hW => ?_)
          have hbd := (Below.refl _ wr).drew.trans hb
          have HB2 : Hid (Below w.heap.size w W ∧ Blk W w.heap.size #[.int .i64 p.1, .int .i64 p.2] 33) := Lib.hid ⟨belT HB.out.1 hbd, HB.out.2.below hbd⟩
          have HJ2 : Hid (∀ (j : Nat) (m : T.No), k ≤ j → ns[j]? = some m → ¬ (m.pl = p ∧ m.st < s)) := Lib.hid fun j m hj hm => by
            rcases Nat.lt_or_ge k j with h | h
            · exact HJ.out j m (by omega) hm
            · obtain rfl : j = k := by omega
              rw [HL.out] at hm
              cases hm
              exact fun e => by first | exact hp e.1 | exact hs e.2
          clear hb hW hbd
          go_wp2
          exact ⟨⟨k, _, by omega, rfl, by first | rfl | (try go_num), HB2, HJ2⟩, by simp [meas]; try omega⟩
      · refine Free.tk 6 (some 21) (v := .bool false) ?_ (hy := by intro W hW; have he := fun w => eql_place n.pl p w; simp only [decide_eq_false hp] at he; go_simp; try with_reducible rfl)
        refine Free.tk 7 (some 22) (v := .bool false) ?_ (hy := by intro W hW; go_simp; try with_reducible rfl)
        refine Free.sk 8 (some 23) ?_
        refine Free.sk 9 (some 24) ?_
        refine Free.sk 10 (some 25) ?_
        refine Free.sk 11 (some 26) ?_
        refine Free.sk 12 (some 27) ?_
        refine Free.sk 13 (some 28) ?_
        refine Free.sk 14 (some 29) ?_
        refine Free.tk 15 (some 30) (v := .bool false) ?_ (hy := by intro W hW; go_simp; try with_reducible rfl)
        refine Free.done (fun W hb hW => ?_)
        have hbd := (Below.refl _ wr).drew.trans hb
        have HB2 : Hid (Below w.heap.size w W ∧ Blk W w.heap.size #[.int .i64 p.1, .int .i64 p.2] 33) := Lib.hid ⟨belT HB.out.1 hbd, HB.out.2.below hbd⟩
        have HJ2 : Hid (∀ (j : Nat) (m : T.No), k ≤ j → ns[j]? = some m → ¬ (m.pl = p ∧ m.st < s)) := Lib.hid fun j m hj hm => by
          rcases Nat.lt_or_ge k j with h | h
          · exact HJ.out j m (by omega) hm
          · obtain rfl : j = k := by omega
            rw [HL.out] at hm
            cases hm
            exact fun e => by first | exact hp e.1 | exact hs e.2
        clear hb hW hbd
        go_wp2
        exact ⟨⟨k, _, by omega, rfl, by first | rfl | (try go_num), HB2, HJ2⟩, by simp [meas]; try omega⟩
end Go.Proofs.YtiohlmccnllklaaDoor.Q
