/-
  Layer 9: cut, Push, Take, Next, Send of package net: walks. Written by gen_cut.py.
-/
import Derived.Test.YtepimbebodmajaaPut
namespace Go.Proofs.Ytepimbebodmajaa
open Go.RowKit
set_option maxHeartbeats 4000000
set_option linter.unusedVariables false
set_option linter.unusedSimpArgs false

section
variable {e : TypeId} {sz : Nat} {w w' : World} {v : Value} {n : Nat} {cs : List Value}
/-- The first element is written anew, and cut off. -/
theorem Gs.cutz (h : Gs e sz w v (n + 1) cs) (us : List Value) (hu : us.length = sz) : ∃ (g o c : Nat), v = .slice (some ⟨g, o, none⟩) (n + 1) (c + 1) ∧ n ≤ c ∧ c ≤ maxLen ∧ blkOf v = some g ∧ w.there g o sz ∧
    Gs e sz (w.setCells g o us) (.slice (if c = 0 then some ⟨g, o, none⟩ else some ⟨g, o + sz, none⟩) n c) n (cs.drop sz) := by
  obtain ⟨h0, ao, c, rfl, h2, h3, h4⟩ := h
  obtain ⟨g, o, cur, rfl, e2, e3, e4⟩ := h4 (by omega)
  obtain ⟨c, rfl⟩ : ∃ d, c = d + 1 := ⟨c - 1, by omega⟩
  rw [Nat.add_mul, Nat.one_mul] at e3
  refine ⟨g, o, c, rfl, by omega, by omega, by simp [blkOf], e2.there o sz (by omega), by rw [List.length_drop, h0, Nat.add_mul]; omega, _, c, rfl, by omega, by omega, fun hc => ⟨g, o + sz, _, by rw [if_neg (by omega)], Blk.setCells us o e2 (by omega), by simp; omega, ?_⟩⟩
  have e5 : (cur.toList.take o ++ (us ++ cur.toList.drop (o + us.length))).drop (o + sz) = cur.toList.drop (o + sz) := by
    have l1 : (cur.toList.take o).length = o := by simp; omega
    rw [← List.append_assoc, List.drop_left' (by rw [List.length_append, l1, hu]), hu]
  show List.take (n * sz) ((cur.toList.take o ++ (us ++ cur.toList.drop (o + us.length))).drop (o + sz)) = cs.drop sz
  rw [e5, ← e4, List.drop_take, List.drop_drop, Nat.add_mul, Nat.one_mul, Nat.add_sub_cancel]
end
section
variable {ops : Array Oper} {rest : List Oper} {a : Act} {w : World} {Q : Exit → Act → World → Prop} {d : Option Tmp} {x y : Operand} {ty ty2 : TypeId} {pos : String} {af : Array Edge} {n : Nat}
/-- A struct is stored into the middle of a block. -/
theorem wp_store_mid (c : Array Value) (g o : Nat) (ht : RowT ty n) (hr : w.there g o n ∧ Ok1 n c) (hx : a.eval x = .pointer (some ⟨g, o, none⟩)) (hy : a.eval y = .agg c) (h : ∀ W1, w.setCells g o c.toList = W1 → wpList Try.prog ops Q rest (a.put d undef) W1) :
    wpList Try.prog ops Q ({ dst := d, op := .store ty x y, type := ty2, pos := pos, after := af, guard := none } :: rest) a w :=
  wpList_store_mid rfl ty x y rfl g o c hx hy (by rw [hr.2.1]; exact hr.1) (ht.inf hr.2.1) hr.2.2 (h _ rfl)
end
theorem AtIs.cut {w : World} {S : Nat} {n : Nt} {cv sv : Value} {p : Pk} {r sl : List Pk} (h : AtIs w S n cv sv (p :: r) sl) (hlt : n.tk < n.cm.length) :
    ∃ (g o c : Nat), cv = .slice (some ⟨g, o, none⟩) (r.length + 1) (c + 1) ∧ r.length ≤ c ∧ c ≤ maxLen ∧ g ≠ S ∧ w.there g o 2 ∧
      Blk (w.setCells g o [.slice none 0 0, .int .i64 0]) S (ncL n cv sv) 61 ∧
      Chg w S { n with tk := n.tk + 1 } (atF S cv sv (p :: r) sl) ((w.setCells g o [.slice none 0 0, .int .i64 0]).setCell ⟨S, 1, none⟩ (.slice (if c = 0 then some ⟨g, o, none⟩ else some ⟨g, o + 2, none⟩) r.length c)) := by
  obtain ⟨g, o, c, e, hc, hm, hb, hth, hg⟩ := h.c.g.cutz [.slice none 0 0, .int .i64 0] rfl
  have hgS : g ≠ S := fun e2 => h.ne_S.1 S (.inl (by rw [hb, e2])) rfl
  have ht := turned_setCells g [.slice none 0 0, .int .i64 0] o w
  have hbk := h.blk.turned ht (fun e2 => hgS e2.symm)
  refine ⟨g, o, c, e, hc, hm, hgS, hth, hbk, ?_⟩
  have hv' : ∀ k, blkOf (.slice (if c = 0 then some ⟨g, o, none⟩ else some ⟨g, o + 2, none⟩) r.length c) = some k → blkOf cv = some k := fun k hk => by
    rw [hb]
    by_cases e2 : c = 0
    · simp [blkOf, e2] at hk
    · simp [blkOf, e2] at hk; rw [hk]
  have nS : ∀ k, k ≠ S → ((w.setCells g o [.slice none 0 0, .int .i64 0]).setCell ⟨S, 1, none⟩ (.slice (if c = 0 then some ⟨g, o, none⟩ else some ⟨g, o + 2, none⟩) r.length c)).heap[k]? = (w.setCells g o [.slice none 0 0, .int .i64 0]).heap[k]? := fun k hk => Below.heap_setCell _ _ _ _ hk
  obtain ⟨cur, hcur⟩ := h.c.g.in_ hb
  have rq : ∀ q ∈ r, Qs w q.v q.x := fun q hq => h.c.q q (by simp [hq])
  refine ⟨_, ⟨_, sv, r, sl, rfl, ?_, ⟨?_, fun q hq => ?_⟩, ?_, ?_, h.sx, ?_, fun k hk => h.ne k (hv' k hk)⟩, ?_, ?_⟩
  · refine Eq.trans (hbk.setCell 1 _) ?_
    simp [ncL]
  · exact hg.keep fun k hk => nS k (h.ne_S.1 k (.inl (hv' k hk)))
  · exact ((rq q hq).turned ht (fun k hk e2 => (rq q hq).2.ne hcur (by decide) hk e2)).keep fun k hk => nS k ((rq q hq).2.ne h.blk (by decide) hk)
  · refine (h.s.turned ht ?_).keep fun k hk => nS k (h.ne_S.2 k hk)
    rintro k (e2 | ⟨q, hq, e2⟩) e3
    · subst e3; exact h.ne k hb e2
    · subst e3; exact h.s.ne_row hcur q hq k e2 rfl
  · have hx := h.cx
    rw [Nt.wt_take hlt, List.map_cons] at hx
    exact (List.cons.inj hx).2
  · have h1 := h.cf
    have hx := h.cx
    rw [Nt.wt_take hlt, List.map_cons] at hx
    have e2 : p.x = n.nextB := (List.cons.inj hx).1
    rw [Nt.tot_next hlt, ← e2]
    exact h1.2
  · rintro k (e2 | (e2 | ⟨q, hq, e2⟩) | e2)
    · exact .inl (.inl e2)
    · exact .inl (.inr (.inl (.inl (hv' k e2))))
    · exact .inl (.inr (.inl (.inr ⟨q, by simp [hq], e2⟩)))
    · exact .inl (.inr (.inr e2))
  · exact (ht.mono (fun k hk => by subst hk; exact .inr (.inl (.inl hb)))).setCell (.inl (.inl rfl)) _
set_option maxRecDepth 100000 in
theorem cut_any {w : World} {S : Nat} {n : Nt} {F : Nat → Prop} (h : At w S n F) (hlt : n.tk < n.cm.length) (hok : n.Ok) :
    Calls Try.prog 36 #[.pointer (some ⟨S, 1, none⟩)] w fun e w' => e = .returned (.tuple #[]) ∧ Chg w S { n with tk := n.tk + 1 } F w' := by
  obtain ⟨cv, sv, cl, sl, rfl, h⟩ := h
  obtain ⟨c0, c1, _⟩ := h.cells
  cases cl with
  | nil =>
    have := h.clen
    have := Nt.wt_pos.2 hlt
    simp at *; omega
  | cons p r =>
    obtain ⟨g, o, c, rfl, hc, hm, hgS, hth, hbk, hchg⟩ := h.cut hlt
    have hrl : r.length < 256 := by have := h.clen; have := hok.wt; simp at *; omega
    have HM := Lib.hid (show w.there g o 2 ∧ Ok1 2 #[.slice none 0 0, .int .i64 0] from ⟨hth, rfl, by simp; exact ⟨rfl, rfl⟩⟩)
    unfold maxLen at hm
    rcases Nat.eq_zero_or_pos c with e0 | e0
    · subst e0
      rw [if_pos rfl] at hchg
      obtain rfl : r = [] := List.eq_nil_of_length_eq_zero (by omega)
      have HX : Hid (∀ W1, w.setCells g o [.slice none 0 0, .int .i64 0] = W1 → W1.cell? ⟨S, 1, none⟩ = some (.slice (some ⟨g, o, none⟩) 1 1) ∧ W1.frozen? ⟨S, 1, none⟩ = false ∧ Hid (Chg w S { n with tk := n.tk + 1 } (atF S (.slice (some ⟨g, o, none⟩) 1 1) sv [p] sl) (W1.setCell ⟨S, 1, none⟩ (.slice (some ⟨g, o, none⟩) 0 0)))) := fun W1 hW1 => by
        subst hW1
        exact ⟨by rw [hbk.cell]; rfl, hbk.frozen 1, hchg⟩
      clear h c0 hth hbk hchg
      go_enter Try.func36, Try.ntmps36
      go_wp2_with ((with_reducible apply wp_store_mid #[.slice none 0 0, .int .i64 0] g o rowP); (exact HM.out); (rfl); (rfl); (intro W1 hW1); (obtain ⟨q1, f1, HE⟩ := HX.out W1 hW1); (clear hW1 HX c1))
      go_end0
      exact ⟨rfl, HE.out⟩
    · have e1 : ¬ c = 0 := by omega
      rw [if_neg e1] at hchg
      have HX : Hid (∀ W1, w.setCells g o [.slice none 0 0, .int .i64 0] = W1 → W1.cell? ⟨S, 1, none⟩ = some (.slice (some ⟨g, o, none⟩) (r.length + 1) (c + 1)) ∧ W1.frozen? ⟨S, 1, none⟩ = false ∧ Hid (Chg w S { n with tk := n.tk + 1 } (atF S (.slice (some ⟨g, o, none⟩) (r.length + 1) (c + 1)) sv (p :: r) sl) (W1.setCell ⟨S, 1, none⟩ (.slice (some ⟨g, o + 2, none⟩) r.length c)))) := fun W1 hW1 => by
        subst hW1
        exact ⟨by rw [hbk.cell]; rfl, hbk.frozen 1, hchg⟩
      clear h c0 hth hbk hchg
      go_enter Try.func36, Try.ntmps36
      go_wp2_with ((with_reducible apply wp_store_mid #[.slice none 0 0, .int .i64 0] g o rowP); (exact HM.out); (rfl); (rfl); (intro W1 hW1); (obtain ⟨q1, f1, HE⟩ := HX.out W1 hW1); (clear hW1 HX c1))
      go_end0
      exact ⟨rfl, HE.out⟩

/-! ### Push, Send, Take -/
theorem Push_nil (v : Value) (xs : List Int) (w : World) (h : NumsIn .u8 w v xs) : Calls Try.prog 15 #[.pointer none, v] w fun e w' => e = .returned (.tuple #[.int .i64 0, .int .i64 1]) ∧ w = w' := by
  have HR := Lib.hid (refusal_nil 0 v xs w h)
  obtain ⟨o, c, rfl, _⟩ := h.form
  clear h
  go_enter Try.func15, Try.ntmps15
  go_wp2_with (go_at_call 34; refine HR.out.mono ?_; rintro e w' ⟨rfl, rfl⟩)
  go_ret2
  exact ⟨rfl, rfl⟩
theorem Send_nil (v : Value) (xs : List Int) (w : World) (h : NumsIn .u8 w v xs) : Calls Try.prog 25 #[.pointer none, v] w fun e w' => e = .returned (.tuple #[.int .i64 0, .int .i64 1]) ∧ w = w' := by
  have HR := Lib.hid (refusal_nil 1 v xs w h)
  obtain ⟨o, c, rfl, _⟩ := h.form
  clear h
  go_enter Try.func25, Try.ntmps25
  go_wp2_with (go_at_call 34; refine HR.out.mono ?_; rintro e w' ⟨rfl, rfl⟩)
  go_ret2
  exact ⟨rfl, rfl⟩
theorem Push_any {w : World} {S : Nat} {n : Nt} {F : Nat → Prop} (h : At w S n F) (hok : n.Ok) (hsz : n.sz ≤ 90000) (v : Value) (xs : List Int) (hx : NumsIn .u8 w v xs) :
    Calls Try.prog 15 #[.pointer (some ⟨S, 0, none⟩), v] w fun e w' => e = .returned (.tuple #[.int .i64 (n.pushN xs : Int), .int .i64 (n.pushE xs)]) ∧ Chg w S (n.pushed xs) F w' := by
  have HS := Lib.hid h.same
  have HR := Lib.hid (refusal_come h v xs hx)
  obtain ⟨cv, sv, cl, sl, rfl, h⟩ := h
  unfold Nt.sz at hsz
  have htc := hok.totc
  by_cases hm : n.mayP xs
  · have HP := Lib.hid (put1_any h hok (by omega) hm.2 v xs hx hm.1)
    have E1 : Hid (n.pushed xs = { n with cm := n.cm ++ [xs] }) := if_pos hm
    have E2 : Hid (n.pushN xs = tot n.cm) := if_pos hm
    have E3 : n.pushE xs = 0 := if_pos hm
    rw [E3] at HR ⊢
    obtain ⟨o, c, rfl, _⟩ := hx.form
    clear h hx hok hm htc hsz E3
    go_enter Try.func15, Try.ntmps15
    go_wp2_with fail
    refine HR.out.mono ?_
    rintro e w1 ⟨rfl, rfl⟩
    clear HR
    go_wp2_with fail
    refine HP.out.mono ?_
    rintro e w1 ⟨rfl, hc⟩
    have HC := Lib.hid hc
    clear hc HP
    go_wp2
    go_ret2
    refine ⟨?_, by rw [E1.out]; exact HC.out⟩
    rw [E2.out]
    first | (simp; done) | rfl
  · have E1 : Hid (n.pushed xs = n) := if_neg hm
    have E2 : Hid (n.pushN xs = 0) := if_neg hm
    have E3 : n.pushE xs = 3 := if_neg hm
    rw [E3] at HR ⊢
    obtain ⟨o, c, rfl, _⟩ := hx.form
    clear h hx hok hm htc hsz E3
    go_enter Try.func15, Try.ntmps15
    go_wp2_with fail
    refine HR.out.mono ?_
    rintro e w1 ⟨rfl, rfl⟩
    clear HR
    go_wp2
    go_ret2
    refine ⟨?_, by rw [E1.out]; exact HS.out⟩
    rw [E2.out]
    first | (simp; done) | rfl
theorem Send_any {w : World} {S : Nat} {n : Nt} {F : Nat → Prop} (h : At w S n F) (hok : n.Ok) (hsz : n.sz ≤ 90000) (v : Value) (xs : List Int) (hx : NumsIn .u8 w v xs) :
    Calls Try.prog 25 #[.pointer (some ⟨S, 0, none⟩), v] w fun e w' => e = .returned (.tuple #[.int .i64 (n.sendN xs : Int), .int .i64 (Nt.sendE xs)]) ∧ Chg w S (n.sent xs) F w' := by
  have HS := Lib.hid h.same
  have HR := Lib.hid (refusal_go h v xs hx)
  obtain ⟨cv, sv, cl, sl, rfl, h⟩ := h
  unfold Nt.sz at hsz
  have htc := hok.tots
  by_cases hm : xs.length ≤ 64
  · have HP := Lib.hid (put3_any h hok (by omega) (by omega) v xs hx hm)
    have E1 : Hid (n.sent xs = { n with sn := n.sn ++ [xs] }) := if_pos hm
    have E2 : Hid (n.sendN xs = tot n.sn) := if_pos hm
    have E3 : Nt.sendE xs = 0 := if_pos hm
    rw [E3] at HR ⊢
    obtain ⟨o, c, rfl, _⟩ := hx.form
    clear h hx hok hm htc hsz E3
    go_enter Try.func25, Try.ntmps25
    go_wp2_with fail
    refine HR.out.mono ?_
    rintro e w1 ⟨rfl, rfl⟩
    clear HR
    go_wp2_with fail
    refine HP.out.mono ?_
    rintro e w1 ⟨rfl, hc⟩
    have HC := Lib.hid hc
    clear hc HP
    go_wp2
    go_ret2
    refine ⟨?_, by rw [E1.out]; exact HC.out⟩
    rw [E2.out]
    first | (simp; done) | rfl
  · have E1 : Hid (n.sent xs = n) := if_neg hm
    have E2 : Hid (n.sendN xs = 0) := if_neg hm
    have E3 : Nt.sendE xs = 3 := if_neg hm
    rw [E3] at HR ⊢
    obtain ⟨o, c, rfl, _⟩ := hx.form
    clear h hx hok hm htc hsz E3
    go_enter Try.func25, Try.ntmps25
    go_wp2_with fail
    refine HR.out.mono ?_
    rintro e w1 ⟨rfl, rfl⟩
    clear HR
    go_wp2
    go_ret2
    refine ⟨?_, by rw [E1.out]; exact HS.out⟩
    rw [E2.out]
    first | (simp; done) | rfl
theorem Take_nil (w : World) : Calls Try.prog 17 #[.pointer none] w fun e w' => e = .returned (.bool false) ∧ w = w' := by
  go_enter Try.func17, Try.ntmps17
  go_wp2_with (go_at_call 18; refine (Waits_nil _).mono ?_; rintro e w' ⟨rfl, rfl⟩)
  go_ret
  exact ⟨rfl, rfl⟩
theorem Take_any {w : World} {S : Nat} {n : Nt} {F : Nat → Prop} (h : At w S n F) (hok : n.Ok) :
    Calls Try.prog 17 #[.pointer (some ⟨S, 0, none⟩)] w fun e w' => e = .returned (.bool n.takeY) ∧ Chg w S n.took F w' := by
  have HS := Lib.hid h.same
  have HW := Lib.hid (Waits_any h)
  by_cases hlt : n.tk < n.cm.length
  · have HC := Lib.hid (cut_any h hlt hok)
    have E1 : Hid (n.took = { n with tk := n.tk + 1 }) := if_pos hlt
    have E2 : Hid (n.takeY = true) := decide_eq_true hlt
    have hpos := Nt.wt_pos.2 hlt
    have hp : ¬ (n.wt.length : Int) = 0 := by omega
    clear h hok hlt hpos
    go_enter Try.func17, Try.ntmps17
    go_wp2_with fail
    refine HW.out.mono ?_
    rintro e w1 ⟨rfl, rfl⟩
    clear HW
    go_wp2_with fail
    refine HC.out.mono ?_
    rintro e w1 ⟨rfl, hc⟩
    have HH := Lib.hid hc
    clear hc HC
    go_wp2
    go_ret
    exact ⟨by rw [E2.out]; rfl, by rw [E1.out]; exact HH.out⟩
  · have E1 : Hid (n.took = n) := if_neg hlt
    have E2 : Hid (n.takeY = false) := decide_eq_false hlt
    have hp : n.wt.length = 0 := by have := (Nt.wt_pos (n := n)).1; omega
    rw [hp] at HW
    clear h hok hlt hp
    go_enter Try.func17, Try.ntmps17
    go_wp2_with (go_at_call 18; refine HW.out.mono ?_; rintro e w' ⟨rfl, rfl⟩)
    go_ret
    exact ⟨by rw [E2.out]; rfl, by rw [E1.out]; exact HS.out⟩
end Go.Proofs.Ytepimbebodmajaa
