/-
  Layer 14: QueryChain: walk.
-/
import Derived.Test.YtiohlmccnllklaaDoorG18
import Derived.Test.YtiohlmccnllklaaDoorG20
set_option linter.unusedVariables false
set_option linter.unusedSimpArgs false
namespace Go.Proofs.YtiohlmccnllklaaDoor.Q
open Go.RowKit
set_option maxHeartbeats 8000000
set_option maxRecDepth 100000
set_option linter.unusedVariables false
set_option linter.unusedSimpArgs false

/-- The cells of two elements of places. -/
structure Two (g o k i : Nat) (p q : T.Pl) (W : World) : Prop where
  a : W.cell? ⟨g, o + k * 2, none⟩ = some (.int .i64 p.1)
  b : W.cell? ⟨g, o + k * 2 + 1, none⟩ = some (.int .i64 p.2)
  c : W.cell? ⟨g, o + i * 2, none⟩ = some (.int .i64 q.1)
  d : W.cell? ⟨g, o + i * 2 + 1, none⟩ = some (.int .i64 q.2)
theorem Two.stb (g o k i : Nat) (p q : T.Pl) : Free.Stb (Two g o k i p q) := fun W W' h hb => ⟨cell_below h.a hb, cell_below h.b hb, cell_below h.c hb, cell_below h.d hb⟩
def Prs (l : List T.Pl) (n : Nat) : Prop := ∀ b < n, ∀ a < b, T.lat l a ≠ T.lat l b ∧ T.lat l b ≠ T.none0 ∧ T.lat l a ≠ T.none0
structure ChS (w : World) (S mb : Nat) (l : List T.Pl) (gs : List Int) (i g o g3 o3 : Nat) (W : World) : Prop where
  t : Two g o 0 i (T.lat l 0) (T.lat l i) W
  h : ChI w S mb l gs i W
  r0 : W.cell? ⟨g3, o3, none⟩ = some (.int .i64 (T.lat l 0).1)
  r1 : W.cell? ⟨g3, o3 + 1, none⟩ = some (.int .i64 (T.lat l 0).2)
theorem ChS.stb (w : World) (S mb : Nat) (l : List T.Pl) (gs : List Int) (i g o g3 o3 : Nat) : Free.Stb (ChS w S mb l gs i g o g3 o3) := fun W W' h hb => ⟨Two.stb _ _ _ _ _ _ _ _ h.t hb, h.h.below hb, cell_below h.r0 hb, cell_below h.r1 hb⟩
theorem QueryChain_walk {w : World} (he : Env w) {lv gv : Value} {l : List T.Pl} {gs : List Int} (hl : PlsIn w lv l) (hg : NIn .u8 w gv gs) (hgr : ∀ x ∈ gs, 0 ≤ x ∧ x < 256) :
    Calls Tryd.prog 6 #[lv, gv] w fun e w' => e = .returned (.bool true) ∧ Below w.heap.size w w' := by
  have HK := Lib.hid (fun W (hb : Below w.heap.size w W) => known_any (he.below hb))
  have HL := Lib.hid (fun W (hb : Below w.heap.size w W) => (show PlsIn W lv l from hl.below hb))
  have HG := Lib.hid (fun W (hb : Below w.heap.size w W) => (show NIn .u8 W gv gs from hg.below hb))
  have HGr := Lib.hid hgr
  have hzp := zero_place
  obtain ⟨ol, cl, rfl, _, _⟩ := hl.shape
  obtain ⟨og, cg, rfl, _, _⟩ := hg.shape
  have HPi := Lib.hid hl.2
  clear hl hg hgr he
  by_cases c1 : (l.length : Int) < 3
  · go_enter Tryd.func6, Tryd.ntmps6
    go_wp2_with fail
    refine (HK.out _ (Below.refl _ _)).mono ?_
    rintro e w' ⟨rfl, hb⟩
    have HB := Lib.hid hb
    clear hb
    go_wp2
    go_ret
    exact ⟨rfl, HB.out⟩
  by_cases c2 : (12 : Int) < (l.length : Int)
  · go_enter Tryd.func6, Tryd.ntmps6
    go_wp2_with fail
    refine (HK.out _ (Below.refl _ _)).mono ?_
    rintro e w' ⟨rfl, hb⟩
    have HB := Lib.hid hb
    clear hb
    go_wp2
    go_ret
    exact ⟨rfl, HB.out⟩
  by_cases c3 : (gs.length : Int) < (l.length : Int)
  · go_enter Tryd.func6, Tryd.ntmps6
    go_wp2_with fail
    refine (HK.out _ (Below.refl _ _)).mono ?_
    rintro e w' ⟨rfl, hb⟩
    have HB := Lib.hid hb
    clear hb
    go_wp2
    go_ret
    exact ⟨rfl, HB.out⟩
  by_cases c4 : (20 : Int) < (gs.length : Int)
  · go_enter Tryd.func6, Tryd.ntmps6
    go_wp2_with fail
    refine (HK.out _ (Below.refl _ _)).mono ?_
    rintro e w' ⟨rfl, hb⟩
    have HB := Lib.hid hb
    clear hb
    go_wp2
    go_ret
    exact ⟨rfl, HB.out⟩
  go_enter Tryd.func6, Tryd.ntmps6
  go_wp2_with fail
  go_loopw [5] (fun i wr => ∃ k : Nat, k ≤ l.length ∧ i = .int .i64 (k : Int) ∧ Hid (Below w.heap.size w wr) ∧ Hid (Prs l k)) (fun i _ => l.length + 1 - natI i)
  case atStart => exact ⟨0, by omega, rfl, Below.refl _ _, Lib.hid (fun b hb => absurd hb (by omega))⟩
  case round =>
    obtain ⟨i, hi, rfl, HBl, HP⟩ := hrel
    by_cases hlt : i < l.length
    · have hii : (i : Int) < (l.length : Int) := by omega
      go_wp2_with fail
      go_loopw [6] (fun a wr => ∃ k : Nat, k ≤ i ∧ a = .int .i64 (k : Int) ∧ Hid (Below w.heap.size w wr) ∧ Hid (∀ a < k, T.lat l a ≠ T.lat l i ∧ T.lat l i ≠ T.none0 ∧ T.lat l a ≠ T.none0)) (fun a _ => i + 1 - natI a)
      case atStart => exact ⟨0, by omega, rfl, HBl, Lib.hid (fun b hb => absurd hb (by omega))⟩
      case round =>
        obtain ⟨k, hk, rfl, HBk, HQ⟩ := hrel
        by_cases hlk : k < i
        · have hki : (k : Int) < (i : Int) := by omega
          have hkl : (k : Int) < (l.length : Int) := by omega
          obtain ⟨g1, o1, d1, p, e1, l1, hpi, r1⟩ := (HL.out _ HBk.out).at_ (show k < l.length by omega)
          obtain ⟨g2, o2, d2, q, e2, l2, hqi, r2⟩ := (HL.out _ HBk.out).at_ hlt
          simp at e1
          obtain ⟨rfl, rfl⟩ := e1
          simp at e2
          obtain ⟨⟨rfl, rfl⟩, rfl⟩ := e2
          obtain ⟨q1, q2⟩ := rng2 r1
          obtain ⟨q3, q4⟩ := rng2 r2
          have HS : Hid (Two g1 o1 k i p q (World.drew _)) := Lib.hid (Two.stb _ _ _ _ _ _ _ _ ⟨q1, q2, q3, q4⟩ (Below.refl _ _).drew)
          have HLp : Hid (T.lat l k = p) := Lib.hid (lat_at l1)
          have HLq : Hid (T.lat l i = q) := Lib.hid (lat_at l2)
          clear r1 r2 l1 l2 hpi hqi q1 q2 q3 q4
          go_wp2_with fail
          refine Free.any (Two g1 o1 k i p q) (Two.stb g1 o1 k i p q) HS.out (fun st => ?_)
          refine Free.tk 0 (some 44) ?_ (hy := by intro W hW; go_simp; try with_reducible rfl)
          refine Free.tk 1 (some 45) ?_ (hy := by intro W hW; go_simp; try with_reducible rfl)
          refine Free.tk 2 (some 46) ?_ (hy := by intro W hW; go_simp; try with_reducible rfl)
          refine Free.tk 3 (some 47) (v := .agg #[.int .i64 p.1, .int .i64 p.2]) ?_ (hy := by intro W hW; have x1 := hW.a; have x2 := hW.b; go_simp; try with_reducible rfl)
          refine Free.tk 4 (some 48) ?_ (hy := by intro W hW; go_simp; try with_reducible rfl)
          refine Free.tk 5 (some 49) ?_ (hy := by intro W hW; go_simp; try with_reducible rfl)
          refine Free.tk 6 (some 50) ?_ (hy := by intro W hW; go_simp; try with_reducible rfl)
          refine Free.tk 7 (some 51) (v := .agg #[.int .i64 q.1, .int .i64 q.2]) ?_ (hy := by intro W hW; have x1 := hW.c; have x2 := hW.d; go_simp; try with_reducible rfl)
          by_cases hpq : p = q
          · refine Free.tk 8 (some 52) (v := .bool true) ?_ (hy := by intro W hW; (try clear hq0); (try clear hp0); have he := fun w => eql_place p q w; simp only [decide_eq_true hpq] at he; go_simp; try with_reducible rfl)
            refine Free.tk 9 (some 53) (v := .bool true) ?_ (hy := by intro W hW; go_simp; try with_reducible rfl)
            refine Free.sk 10 (some 54) ?_
            refine Free.sk 11 (some 55) ?_
            refine Free.sk 12 (some 56) ?_
            refine Free.sk 13 (some 57) ?_
            refine Free.sk 14 (some 58) ?_
            refine Free.sk 15 (some 59) ?_
            refine Free.tk 16 (some 60) (v := .bool true) ?_ (hy := by intro W hW; go_simp; try with_reducible rfl)
            refine Free.tk 17 (some 61) (v := .bool true) ?_ (hy := by intro W hW; go_simp; try with_reducible rfl)
            refine Free.sk 18 (some 62) ?_
            refine Free.sk 19 (some 63) ?_
            refine Free.sk 20 (some 64) ?_
            refine Free.sk 21 (some 65) ?_
            refine Free.sk 22 (some 66) ?_
            refine Free.sk 23 (some 67) ?_
            refine Free.tk 24 (some 68) (v := .bool true) ?_ (hy := by intro W hW; go_simp; try with_reducible rfl)
            refine Free.done (fun W hb hW => ?_)
            have HB := Lib.hid (belT HBk.out ((Below.refl _ _).drew.trans hb))
            clear hb hW
            go_wp2_with fail
            refine (HK.out _ HB.out).mono ?_
            rintro e w' ⟨rfl, hb⟩
            have HB2 := Lib.hid (belT HB.out hb)
            clear hb
            go_wp2
            go_ret
            exact ⟨rfl, HB2.out⟩
          · by_cases hq0 : q = (0, 0)
            · refine Free.tk 8 (some 52) (v := .bool false) ?_ (hy := by intro W hW; (try clear hq0); (try clear hp0); have he := fun w => eql_place p q w; simp only [decide_eq_false hpq] at he; go_simp; try with_reducible rfl)
              refine Free.tk 9 (some 53) (v := .bool false) ?_ (hy := by intro W hW; go_simp; try with_reducible rfl)
              refine Free.tk 10 (some 54) ?_ (hy := by intro W hW; go_simp; try with_reducible rfl)
              refine Free.tk 11 (some 55) ?_ (hy := by intro W hW; go_simp; try with_reducible rfl)
              refine Free.tk 12 (some 56) ?_ (hy := by intro W hW; go_simp; try with_reducible rfl)
              refine Free.tk 13 (some 57) (v := .agg #[.int .i64 q.1, .int .i64 q.2]) ?_ (hy := by intro W hW; have x1 := hW.c; have x2 := hW.d; go_simp; try with_reducible rfl)
              refine Free.tk 14 (some 58) (v := .agg #[.int .i64 0, .int .i64 0]) ?_ (hy := by intro W hW; go_simp; try with_reducible rfl)
              refine Free.tk 15 (some 59) (v := .bool true) ?_ (hy := by intro W hW; (try clear hpq); (try clear hp0); have he := fun w => eql_place q (0, 0) w; simp only [decide_eq_true hq0] at he; go_simp; try with_reducible rfl)
              refine Free.tk 16 (some 60) (v := .bool true) ?_ (hy := by intro W hW; go_simp; try with_reducible rfl)
              refine Free.tk 17 (some 61) (v := .bool true) ?_ (hy := by intro W hW; go_simp; try with_reducible rfl)
              refine Free.sk 18 (some 62) ?_
              refine Free.sk 19 (some 63) ?_
              refine Free.sk 20 (some 64) ?_
              refine Free.sk 21 (some 65) ?_
              refine Free.sk 22 (some 66) ?_
              refine Free.sk 23 (some 67) ?_
              refine Free.tk 24 (some 68) (v := .bool true) ?_ (hy := by intro W hW; go_simp; try with_reducible rfl)
              refine Free.done (fun W hb hW => ?_)
              have HB := Lib.hid (belT HBk.out ((Below.refl _ _).drew.trans hb))
              clear hb hW
              go_wp2_with fail
              refine (HK.out _ HB.out).mono ?_
              rintro e w' ⟨rfl, hb⟩
              have HB2 := Lib.hid (belT HB.out hb)
              clear hb
              go_wp2
              go_ret
              exact ⟨rfl, HB2.out⟩
            · by_cases hp0 : p = (0, 0)
              · refine Free.tk 8 (some 52) (v := .bool false) ?_ (hy := by intro W hW; (try clear hq0); (try clear hp0); have he := fun w => eql_place p q w; simp only [decide_eq_false hpq] at he; go_simp; try with_reducible rfl)
                refine Free.tk 9 (some 53) (v := .bool false) ?_ (hy := by intro W hW; go_simp; try with_reducible rfl)
                refine Free.tk 10 (some 54) ?_ (hy := by intro W hW; go_simp; try with_reducible rfl)
                refine Free.tk 11 (some 55) ?_ (hy := by intro W hW; go_simp; try with_reducible rfl)
                refine Free.tk 12 (some 56) ?_ (hy := by intro W hW; go_simp; try with_reducible rfl)
                refine Free.tk 13 (some 57) (v := .agg #[.int .i64 q.1, .int .i64 q.2]) ?_ (hy := by intro W hW; have x1 := hW.c; have x2 := hW.d; go_simp; try with_reducible rfl)
                refine Free.tk 14 (some 58) (v := .agg #[.int .i64 0, .int .i64 0]) ?_ (hy := by intro W hW; go_simp; try with_reducible rfl)
                refine Free.tk 15 (some 59) (v := .bool false) ?_ (hy := by intro W hW; (try clear hpq); (try clear hp0); have he := fun w => eql_place q (0, 0) w; simp only [decide_eq_false hq0] at he; go_simp; try with_reducible rfl)
                refine Free.tk 16 (some 60) (v := .bool false) ?_ (hy := by intro W hW; go_simp; try with_reducible rfl)
                refine Free.tk 17 (some 61) (v := .bool false) ?_ (hy := by intro W hW; go_simp; try with_reducible rfl)
                refine Free.tk 18 (some 62) ?_ (hy := by intro W hW; go_simp; try with_reducible rfl)
                refine Free.tk 19 (some 63) ?_ (hy := by intro W hW; go_simp; try with_reducible rfl)
                refine Free.tk 20 (some 64) ?_ (hy := by intro W hW; go_simp; try with_reducible rfl)
                refine Free.tk 21 (some 65) (v := .agg #[.int .i64 p.1, .int .i64 p.2]) ?_ (hy := by intro W hW; have x1 := hW.a; have x2 := hW.b; go_simp; try with_reducible rfl)
                refine Free.tk 22 (some 66) (v := .agg #[.int .i64 0, .int .i64 0]) ?_ (hy := by intro W hW; go_simp; try with_reducible rfl)
                refine Free.tk 23 (some 67) (v := .bool true) ?_ (hy := by intro W hW; (try clear hpq); (try clear hq0); have he := fun w => eql_place p (0, 0) w; simp only [decide_eq_true hp0] at he; go_simp; try with_reducible rfl)
                refine Free.tk 24 (some 68) (v := .bool true) ?_ (hy := by intro W hW; go_simp; try with_reducible rfl)
                refine Free.done (fun W hb hW => ?_)
                have HB := Lib.hid (belT HBk.out ((Below.refl _ _).drew.trans hb))
                clear hb hW
                go_wp2_with fail
                refine (HK.out _ HB.out).mono ?_
                rintro e w' ⟨rfl, hb⟩
                have HB2 := Lib.hid (belT HB.out hb)
                clear hb
                go_wp2
                go_ret
                exact ⟨rfl, HB2.out⟩
              · have HQ2 : Hid (∀ a < k + 1, T.lat l a ≠ T.lat l i ∧ T.lat l i ≠ T.none0 ∧ T.lat l a ≠ T.none0) := Lib.hid fun a ha => by
                  rcases Nat.lt_or_ge a k with h | h
                  · exact HQ.out a h
                  · obtain rfl : a = k := by omega
                    rw [HLp.out, HLq.out]; exact ⟨hpq, hq0, hp0⟩
                refine Free.tk 8 (some 52) (v := .bool false) ?_ (hy := by intro W hW; (try clear hq0); (try clear hp0); have he := fun w => eql_place p q w; simp only [decide_eq_false hpq] at he; go_simp; try with_reducible rfl)
                refine Free.tk 9 (some 53) (v := .bool false) ?_ (hy := by intro W hW; go_simp; try with_reducible rfl)
                refine Free.tk 10 (some 54) ?_ (hy := by intro W hW; go_simp; try with_reducible rfl)
                refine Free.tk 11 (some 55) ?_ (hy := by intro W hW; go_simp; try with_reducible rfl)
                refine Free.tk 12 (some 56) ?_ (hy := by intro W hW; go_simp; try with_reducible rfl)
                refine Free.tk 13 (some 57) (v := .agg #[.int .i64 q.1, .int .i64 q.2]) ?_ (hy := by intro W hW; have x1 := hW.c; have x2 := hW.d; go_simp; try with_reducible rfl)
                refine Free.tk 14 (some 58) (v := .agg #[.int .i64 0, .int .i64 0]) ?_ (hy := by intro W hW; go_simp; try with_reducible rfl)
                refine Free.tk 15 (some 59) (v := .bool false) ?_ (hy := by intro W hW; (try clear hpq); (try clear hp0); have he := fun w => eql_place q (0, 0) w; simp only [decide_eq_false hq0] at he; go_simp; try with_reducible rfl)
                refine Free.tk 16 (some 60) (v := .bool false) ?_ (hy := by intro W hW; go_simp; try with_reducible rfl)
                refine Free.tk 17 (some 61) (v := .bool false) ?_ (hy := by intro W hW; go_simp; try with_reducible rfl)
                refine Free.tk 18 (some 62) ?_ (hy := by intro W hW; go_simp; try with_reducible rfl)
                refine Free.tk 19 (some 63) ?_ (hy := by intro W hW; go_simp; try with_reducible rfl)
                refine Free.tk 20 (some 64) ?_ (hy := by intro W hW; go_simp; try with_reducible rfl)
                refine Free.tk 21 (some 65) (v := .agg #[.int .i64 p.1, .int .i64 p.2]) ?_ (hy := by intro W hW; have x1 := hW.a; have x2 := hW.b; go_simp; try with_reducible rfl)
                refine Free.tk 22 (some 66) (v := .agg #[.int .i64 0, .int .i64 0]) ?_ (hy := by intro W hW; go_simp; try with_reducible rfl)
                refine Free.tk 23 (some 67) (v := .bool false) ?_ (hy := by intro W hW; (try clear hpq); (try clear hq0); have he := fun w => eql_place p (0, 0) w; simp only [decide_eq_false hp0] at he; go_simp; try with_reducible rfl)
                refine Free.tk 24 (some 68) (v := .bool false) ?_ (hy := by intro W hW; go_simp; try with_reducible rfl)
                refine Free.done (fun W hb hW => ?_)
                have HB := Lib.hid (belT HBk.out ((Below.refl _ _).drew.trans hb))
                clear hb hW
                go_wp2
                exact ⟨⟨k + 1, by omega, by go_num, HB, Lib.hid HQ2.out⟩, by simp [natI]; omega⟩
        · obtain rfl : k = i := by omega
          have HP2 : Hid (Prs l (k + 1)) := Lib.hid fun b hb a ha => by
            rcases Nat.lt_or_ge b k with h | h
            · exact HP.out b h a ha
            · obtain rfl : b = k := by omega
              exact HQ.out a ha
          go_wp2
          exact ⟨⟨k + 1, by omega, by go_num, HBk, HP2⟩, by simp [natI]; omega⟩
    · obtain rfl : i = l.length := by omega
      go_wp2_with fail
      refine (New_W HBl.out).mono ?_
      rintro e w1 ⟨S, mb, rfl, hw, hb1⟩
      have HN : Hid (∀ a b, a < b → b < l.length → T.lat l a ≠ T.lat l b) := Lib.hid fun a b hab hb => (HP.out b hb a hab).1
      have HZ : Hid (∀ b, b < l.length → T.lat l b ≠ T.none0) := Lib.hid fun b hb => by
        rcases Nat.eq_zero_or_pos b with e | e
        · subst e; exact (HP.out 1 (by omega) 0 (by omega)).2.2
        · exact (HP.out b hb 0 e).2.1
      have HI0 : Hid (ChI w S mb l gs 0 w1) := Lib.hid ⟨hw⟩
      clear hw hb1 HP
      go_wp2_with fail
      go_loopw [8, 9] (fun s i wr => ∃ k : Nat, k + 1 ≤ l.length ∧ s = .int .i64 (T.stF gs k) ∧ i = .int .i64 ((k : Int) + 1) ∧ Hid (ChI w S mb l gs k wr)) (fun _ i _ => l.length + 1 - natI i)
      case atStart => exact ⟨0, by omega, rfl, rfl, HI0⟩
      case round =>
        obtain ⟨k, hk, rfl, rfl, HC⟩ := hrel
        clear HI0 HBl
        by_cases hlt : k + 1 < l.length
        · have hki : (k : Int) + 1 < (l.length : Int) := by omega
          have HB := Lib.hid HC.out.h.b
          obtain ⟨gg, go_, gc, x, e1, l0, cgx⟩ := (HG.out _ HB.out).at_ (show k + 1 < gs.length by omega)
          simp at e1
          obtain ⟨rfl, rfl⟩ := e1
          have hx := HGr.out x (List.mem_of_getElem? l0)
          have hs := T.stF_le HGr.out k
          have hse : T.stF gs (k + 1) = T.stF gs k + 1 + x := by
            show T.stF gs k + 1 + gs.getD (k + 1) 0 = _
            rw [List.getD_eq_getElem?_getD, l0]; rfl
          have HSe := Lib.hid hse
          obtain ⟨g1, o1, d1, p, e1, l1, hpi, r1⟩ := (HL.out _ HB.out).at_ (show k < l.length by omega)
          simp at e1
          obtain ⟨rfl, rfl⟩ := e1
          obtain ⟨q1, q2⟩ := rng2 r1
          have HLp := Lib.hid (lat_at l1)
          clear hse r1 l1 l0 hpi
          by_cases hk1 : k = 1
          · have hka : (k : Int) ≤ 1 := by omega
            have hkb : (1 : Int) ≤ (k : Int) := by omega
            have HK1 := Lib.hid hk1
            clear hk1
            have hb6 := bel1 wr (.cells #[.int .i64 p.1, .int .i64 p.2] 33)
            have HB6 := Lib.hid (belT HB.out hb6)
            obtain ⟨g7, o7, d7, p7, e7, l7, _, r7⟩ := (HL.out _ HB6.out).at_ (show 0 < l.length by omega)
            simp at e7
            obtain ⟨⟨rfl, rfl⟩, rfl⟩ := e7
            obtain ⟨x1, x2⟩ := rng2 r7
            obtain ⟨g8, o8, d8, p8, e8, l8, _, r8⟩ := (HL.out _ HB6.out).at_ (show 1 < l.length by omega)
            simp at e8
            obtain ⟨⟨rfl, rfl⟩, rfl⟩ := e8
            obtain ⟨x3, x4⟩ := rng2 r8
            rw [← lat_at l7] at x1 x2
            rw [← lat_at l8] at x3 x4
            have HS : Hid (Two g1 o1 0 1 (T.lat l 0) (T.lat l 1) (World.drew (wr.alloc (.cells #[.int .i64 p.1, .int .i64 p.2] 33)))) := Lib.hid (Two.stb _ _ _ _ _ _ _ _ ⟨x1, x2, x3, x4⟩ (Below.refl _ _).drew)
            have HCb := Lib.hid (HC.out.below hb6)
            generalize hsk : T.stF gs k = sk at *
            have hl1 : ¬ l = [] := by rintro rfl; simp at hlt
            have hl2 : (1 : Int) < (l.length : Int) := by omega
            clear l7 l8 r7 r8 x1 x2 x3 x4 hb6
            go_wp2_with fail
            refine Free.any (Two g1 o1 0 1 (T.lat l 0) (T.lat l 1)) (Two.stb g1 o1 0 1 (T.lat l 0) (T.lat l 1)) HS.out (fun st => ?_)
            refine Free.tk 0 (some 93) ?_ (hy := by intro W hW; go_simp; try with_reducible rfl)
            refine Free.tk 1 (some 94) (v := .pointer (some ⟨g1, o1, none⟩)) ?_ (hy := by intro W hW; go_simp; try with_reducible rfl)
            refine Free.tk 2 (some 95) (v := .agg #[.int .i64 (T.lat l 0).1, .int .i64 (T.lat l 0).2]) ?_ (hy := by intro W hW; have x1 := hW.a; have x2 := hW.b; rw [Nat.zero_mul, Nat.add_zero] at x1 x2; go_simp; try with_reducible rfl)
            refine Free.tk 3 (some 96) ?_ (hy := by intro W hW; go_simp; try with_reducible rfl)
            refine Free.tk 4 (some 97) (v := .pointer (some ⟨g1, o1 + 2, none⟩)) ?_ (hy := by intro W hW; go_simp; try with_reducible rfl)
            refine Free.tk 5 (some 98) (v := .agg #[.int .i64 (T.lat l 1).1, .int .i64 (T.lat l 1).2]) ?_ (hy := by intro W hW; have x1 := hW.c; have x2 := hW.d; rw [Nat.one_mul] at x1 x2; go_simp; try with_reducible rfl)
            refine Free.one 6 (fun W6 hb6 hW6 => ?_)
            refine o_okb (some 99) (.slice (some ⟨W6.heap.size, 0, none⟩) 2 2) (W6.alloc (.cells #[.int .i64 (T.lat l 0).1, .int .i64 (T.lat l 0).2, .int .i64 (T.lat l 1).1, .int .i64 (T.lat l 1).2] 33)) (by go_simp; try rfl) ⟨st _ _ hW6 (bel1 W6 _), ?_⟩
            refine Free.tk 7 (some 10) ?_
            refine Free.done (fun W hb hW => ?_)
            have hbW := belT (belT ((Below.refl _ (wr.alloc (.cells #[.int .i64 p.1, .int .i64 p.2] 33))).drew.trans hb6) (bel1 W6 (.cells #[.int .i64 (T.lat l 0).1, .int .i64 (T.lat l 0).2, .int .i64 (T.lat l 1).1, .int .i64 (T.lat l 1).2] 33))) hb
            have ha := (blk_new W6 #[.int .i64 (T.lat l 0).1, .int .i64 (T.lat l 0).2, .int .i64 (T.lat l 1).1, .int .i64 (T.lat l 1).2] 33).below hb
            have hadd := (HCb.out.below hbW).add HGr.out (by omega) HPi.out (HZ.out _ hlt) (A := W6.heap.size) (by
              unfold T.chF; rw [if_pos (by have := HK1.out; omega)]; exact ha)
            have hch : (T.chF l (k + 1)).length = 2 := by unfold T.chF; rw [if_pos (by have := HK1.out; omega)]; rfl
            obtain ⟨g2, o2, d2, q, e2, l2, hqi, r2⟩ := (HL.out _ (belT HB6.out hbW)).at_ hlt
            simp at e2
            obtain ⟨⟨rfl, rfl⟩, rfl⟩ := e2
            have HLq := Lib.hid (lat_at l2)
            obtain ⟨q3, q4⟩ := rng2 r2
            rw [hch, HLq.out, HSe.out] at hadd
            have HAdd := Lib.hid hadd
            clear hb hb6 hbW hW hW6 ha hadd r2 l2 hch hqi HCb HB6
            go_wp2_with fail
            refine HAdd.out.mono ?_
            rintro e w5 ⟨rfl, hc5⟩
            have HC5 := Lib.hid hc5
            obtain ⟨g3, o3, d3, q', e3, l3, _, r3⟩ := (HL.out _ hc5.h.b).at_ hlt
            simp at e3
            obtain ⟨⟨rfl, rfl⟩, rfl⟩ := e3
            obtain rfl : q' = q := (lat_at l3).symm.trans HLq.out
            obtain ⟨q5, q6⟩ := rng2 r3
            have hro := (hc5.root HGr.out (by omega) (by omega) HPi.out HN.out hlt).1
            rw [HLq.out, HSe.out] at hro
            have HRo := Lib.hid hro
            clear HAdd hc5 l3 r3 hro q1 q2 q3 q4 cgx HC
            go_wp2_with fail
            refine HRo.out.mono ?_
            rintro e w6 ⟨g4, o4, c4', rfl, y1, y2, hb6⟩
            have hc6 := HC5.out.below hb6
            have HC6 := Lib.hid hc6
            obtain ⟨g7, o7, d7, p7, e7, l7, _, r7⟩ := (HL.out _ hc6.h.b).at_ (show 0 < l.length by omega)
            simp at e7
            obtain ⟨⟨rfl, rfl⟩, rfl⟩ := e7
            obtain ⟨x1, x2⟩ := rng2 r7
            obtain ⟨g8, o8, d8, p8, e8, l8, _, r8⟩ := (HL.out _ hc6.h.b).at_ hlt
            simp at e8
            obtain ⟨⟨rfl, rfl⟩, rfl⟩ := e8
            obtain ⟨x3, x4⟩ := rng2 r8
            rw [← lat_at l7] at x1 x2
            rw [← lat_at l8] at x3 x4
            have HS : Hid (ChS w S mb l gs (k + 1) g1 o1 g4 o4 (World.drew w6)) := Lib.hid (ChS.stb _ _ _ _ _ _ _ _ _ _ _ _ ⟨⟨x1, x2, x3, x4⟩, hc6, y1, y2⟩ (Below.refl _ _).drew)
            clear hc6 l7 l8 r7 r8 x1 x2 x3 x4 y1 y2 hb6 HRo HC5 q5 q6
            go_wp2_with fail
            refine Free.any (ChS w S mb l gs (k + 1) g1 o1 g4 o4) (ChS.stb w S mb l gs (k + 1) g1 o1 g4 o4) HS.out (fun st => ?_)
            refine Free.tk 0 (some 119) ?_ (hy := by intro W hW; go_simp; try with_reducible rfl)
            refine Free.tk 1 (some 120) (v := .int .i64 1) ?_ (hy := by intro W hW; go_simp; try with_reducible rfl)
            refine Free.tk 2 (some 121) (v := .bool false) ?_ (hy := by intro W hW; go_simp; try with_reducible rfl)
            refine Free.tk 3 (some 122) (v := .bool false) ?_ (hy := by intro W hW; go_simp; try with_reducible rfl)
            refine Free.tk 4 (some 123) ?_ (hy := by intro W hW; go_simp; try with_reducible rfl)
            refine Free.tk 5 (some 124) (v := .pointer (some ⟨g4, o4, none⟩)) ?_ (hy := by intro W hW; go_simp; try with_reducible rfl)
            refine Free.tk 6 (some 125) (v := .agg #[.int .i64 (T.lat l 0).1, .int .i64 (T.lat l 0).2]) ?_ (hy := by intro W hW; have x1 := hW.r0; have x2 := hW.r1; go_simp; try with_reducible rfl)
            refine Free.tk 7 (some 126) ?_ (hy := by intro W hW; go_simp; try with_reducible rfl)
            refine Free.tk 8 (some 127) (v := .pointer (some ⟨g1, o1, none⟩)) ?_ (hy := by intro W hW; have hln : ¬ l = [] := (by rintro rfl; simp at hlt); go_simp; try with_reducible rfl)
            refine Free.tk 9 (some 128) (v := .agg #[.int .i64 (T.lat l 0).1, .int .i64 (T.lat l 0).2]) ?_ (hy := by intro W hW; have x1 := hW.t.a; have x2 := hW.t.b; rw [Nat.zero_mul, Nat.add_zero] at x1 x2; go_simp; try with_reducible rfl)
            refine Free.tk 10 (some 129) (v := .bool false) ?_ (hy := by intro W hW; have he := fun w => neq_place (T.lat l 0) (T.lat l 0) w; simp only [decide_true, Bool.not_true] at he; go_simp; try with_reducible rfl)
            refine Free.tk 11 (some 130) (v := .bool false) ?_ (hy := by intro W hW; go_simp; try with_reducible rfl)
            refine Free.tk 12 (some 131) (v := .bool false) ?_ (hy := by intro W hW; go_simp; try with_reducible rfl)
            refine Free.tk 13 (some 132) ?_ (hy := by intro W hW; go_simp; try with_reducible rfl)
            refine Free.tk 14 (some 133) ?_ (hy := by intro W hW; go_simp; try with_reducible rfl)
            refine Free.tk 15 (some 134) ?_ (hy := by intro W hW; go_simp; try with_reducible rfl)
            refine Free.tk 16 (some 135) (v := .pointer (some ⟨g1, o1 + (k + 1) * 2, none⟩)) ?_ (hy := by intro W hW; have h0k : (0 : Int) ≤ (k : Int) + 1 := (by omega); go_simp; try with_reducible rfl)
            refine Free.tk 17 (some 136) (v := .agg #[.int .i64 (T.lat l (k + 1)).1, .int .i64 (T.lat l (k + 1)).2]) ?_ (hy := by intro W hW; have x1 := hW.t.c; have x2 := hW.t.d; go_simp; try with_reducible rfl)
            refine Free.tk 18 (some 137) ?_ (hy := by intro W hW; go_simp; try with_reducible rfl)
            refine Free.one 19 (fun W1 hb1 hW1 => ?_)
            refine o_callb (some 138) (by go_simp; first | exact ⟨rfl, rfl⟩ | rfl) ?_
            have hr1 := (hW1.h.root HGr.out (by omega) (by omega) HPi.out HN.out hlt).2
            rw [HSe.out] at hr1
            refine hr1.mono ?_
            rintro e V1 ⟨g11, o11, c11', rfl, z1, zz1, hbb1⟩
            refine ⟨_, rfl, st _ _ hW1 hbb1, ?_⟩
            refine Free.tk 20 (some 139) (v := .int .i64 1) ?_ (hy := by intro W hW; go_simp; try with_reducible rfl)
            refine Free.tk 21 (some 140) (v := .bool false) ?_ (hy := by intro W hW; go_simp; try with_reducible rfl)
            refine Free.tk 22 (some 141) (v := .bool false) ?_ (hy := by intro W hW; go_simp; try with_reducible rfl)
            refine Free.tk 23 (some 142) (v := .bool false) ?_ (hy := by intro W hW; go_simp; try with_reducible rfl)
            refine Free.tk 24 (some 143) ?_ (hy := by intro W hW; go_simp; try with_reducible rfl)
            refine Free.tk 25 (some 144) ?_ (hy := by intro W hW; go_simp; try with_reducible rfl)
            refine Free.tk 26 (some 145) ?_ (hy := by intro W hW; go_simp; try with_reducible rfl)
            refine Free.tk 27 (some 146) (v := .pointer (some ⟨g1, o1 + (k + 1) * 2, none⟩)) ?_ (hy := by intro W hW; have h0k : (0 : Int) ≤ (k : Int) + 1 := (by omega); go_simp; try with_reducible rfl)
            refine Free.tk 28 (some 147) (v := .agg #[.int .i64 (T.lat l (k + 1)).1, .int .i64 (T.lat l (k + 1)).2]) ?_ (hy := by intro W hW; have x1 := hW.t.c; have x2 := hW.t.d; go_simp; try with_reducible rfl)
            refine Free.tk 29 (some 148) ?_ (hy := by intro W hW; go_simp; try with_reducible rfl)
            refine Free.tk 33 (some 152) ?_ (hy := by intro W hW; go_simp; try with_reducible rfl)
            refine Free.tk 34 (some 153) ?_ (hy := by intro W hW; go_simp; try with_reducible rfl)
            refine Free.tk 35 (some 154) (v := .pointer (some ⟨g1, o1 + (k + 1) * 2, none⟩)) ?_ (hy := by intro W hW; have h0k : (0 : Int) ≤ (k : Int) + 1 := (by omega); go_simp; try with_reducible rfl)
            refine Free.tk 36 (some 155) (v := .agg #[.int .i64 (T.lat l (k + 1)).1, .int .i64 (T.lat l (k + 1)).2]) ?_ (hy := by intro W hW; have x1 := hW.t.c; have x2 := hW.t.d; go_simp; try with_reducible rfl)
            refine Free.one 30 (fun W2 hb2 hW2 => ?_)
            refine o_callb (some 149) (by go_simp; first | exact ⟨rfl, rfl⟩ | rfl) ?_
            have hr2 := (hW2.h.root HGr.out (by omega) (by omega) HPi.out HN.out hlt).2
            rw [HSe.out] at hr2
            refine hr2.mono ?_
            rintro e V2 ⟨g12, o12, c12', rfl, z2, zz2, hbb2⟩
            refine ⟨_, rfl, st _ _ hW2 hbb2, ?_⟩
            refine Free.one 31 (fun W3 hb3 hW3 => ?_)
            refine o_okb (some 150) (.pointer (some ⟨g12, o12, none⟩)) W3 (by go_simp; try with_reducible rfl) ⟨hW3, ?_⟩
            refine Free.one 32 (fun W4 hb4 hW4 => ?_)
            have u1 := cell_below (cell_below z2 hb3) hb4
            have u2 := cell_below (cell_below zz2 hb3) hb4
            refine o_okb (some 151) (.agg #[.int .i64 (T.lat l (k + 1)).1, .int .i64 (T.lat l (k + 1)).2]) W4 (by go_simp; try with_reducible rfl) ⟨hW4, ?_⟩
            refine Free.tk 37 (some 156) (v := .bool false) ?_ (hy := by intro W hW; have he := fun w => neq_place (T.lat l (k + 1)) (T.lat l (k + 1)) w; simp only [decide_true, Bool.not_true] at he; go_simp; try with_reducible rfl)
            refine Free.tk 38 (some 157) (v := .bool false) ?_ (hy := by intro W hW; go_simp; try with_reducible rfl)
            refine Free.done (fun W5 hb5 hW5 => ?_)
            have HC7 := Lib.hid hW5.h
            clear hb1 hb2 hb3 hb4 hb5 hbb1 hbb2 hW1 hW2 hW3 hW4 hW5 hr1 hr2 z1 zz1 z2 zz2 u1 u2
            go_wp2
            exact ⟨⟨k + 1, by omega, by rw [HSe.out], by go_num, HC7⟩, by simp [natI]; omega⟩
          · have hk1' : ¬ (k : Int) = 1 := by omega
            have hb6 := bel1 wr (.cells #[.int .i64 p.1, .int .i64 p.2] 33)
            have ha := blk_new wr #[.int .i64 p.1, .int .i64 p.2] 33
            have hadd := (HC.out.below hb6).add HGr.out (by omega) HPi.out (HZ.out _ hlt) (A := wr.heap.size) (by
              unfold T.chF; rw [if_neg (by omega), Nat.add_sub_cancel, HLp.out]; exact ha)
            have hch : (T.chF l (k + 1)).length = 1 := by unfold T.chF; rw [if_neg (by omega)]; rfl
            obtain ⟨g2, o2, d2, q, e2, l2, hqi, r2⟩ := (HL.out _ (belT HB.out hb6)).at_ hlt
            simp at e2
            obtain ⟨⟨rfl, rfl⟩, rfl⟩ := e2
            have HLq := Lib.hid (lat_at l2)
            obtain ⟨q3, q4⟩ := rng2 r2
            rw [hch, HLq.out, HSe.out, World.size_alloc] at hadd
            have HAdd := Lib.hid hadd
            generalize hsk : T.stF gs k = sk at *
            clear hb6 ha hadd r2 l2 hch hqi
            go_wp2_with fail
            refine HAdd.out.mono ?_
            rintro e w5 ⟨rfl, hc5⟩
            have HC5 := Lib.hid hc5
            obtain ⟨g3, o3, d3, q', e3, l3, _, r3⟩ := (HL.out _ hc5.h.b).at_ hlt
            simp at e3
            obtain ⟨⟨rfl, rfl⟩, rfl⟩ := e3
            obtain rfl : q' = q := (lat_at l3).symm.trans HLq.out
            obtain ⟨q5, q6⟩ := rng2 r3
            have hro := (hc5.root HGr.out (by omega) (by omega) HPi.out HN.out hlt).1
            rw [HLq.out, HSe.out] at hro
            have HRo := Lib.hid hro
            clear HAdd hc5 l3 r3 hro q1 q2 q3 q4 cgx HC
            go_wp2_with fail
            refine HRo.out.mono ?_
            rintro e w6 ⟨g4, o4, c4', rfl, y1, y2, hb6⟩
            have hc6 := HC5.out.below hb6
            have HC6 := Lib.hid hc6
            obtain ⟨g7, o7, d7, p7, e7, l7, _, r7⟩ := (HL.out _ hc6.h.b).at_ (show 0 < l.length by omega)
            simp at e7
            obtain ⟨⟨rfl, rfl⟩, rfl⟩ := e7
            obtain ⟨x1, x2⟩ := rng2 r7
            obtain ⟨g8, o8, d8, p8, e8, l8, _, r8⟩ := (HL.out _ hc6.h.b).at_ hlt
            simp at e8
            obtain ⟨⟨rfl, rfl⟩, rfl⟩ := e8
            obtain ⟨x3, x4⟩ := rng2 r8
            rw [← lat_at l7] at x1 x2
            rw [← lat_at l8] at x3 x4
            have HS : Hid (ChS w S mb l gs (k + 1) g1 o1 g4 o4 (World.drew w6)) := Lib.hid (ChS.stb _ _ _ _ _ _ _ _ _ _ _ _ ⟨⟨x1, x2, x3, x4⟩, hc6, y1, y2⟩ (Below.refl _ _).drew)
            clear hc6 l7 l8 r7 r8 x1 x2 x3 x4 y1 y2 hb6 HRo HC5 q5 q6
            go_wp2_with fail
            refine Free.any (ChS w S mb l gs (k + 1) g1 o1 g4 o4) (ChS.stb w S mb l gs (k + 1) g1 o1 g4 o4) HS.out (fun st => ?_)
            refine Free.tk 0 (some 119) ?_ (hy := by intro W hW; go_simp; try with_reducible rfl)
            refine Free.tk 1 (some 120) (v := .int .i64 1) ?_ (hy := by intro W hW; go_simp; try with_reducible rfl)
            refine Free.tk 2 (some 121) (v := .bool false) ?_ (hy := by intro W hW; go_simp; try with_reducible rfl)
            refine Free.tk 3 (some 122) (v := .bool false) ?_ (hy := by intro W hW; go_simp; try with_reducible rfl)
            refine Free.tk 4 (some 123) ?_ (hy := by intro W hW; go_simp; try with_reducible rfl)
            refine Free.tk 5 (some 124) (v := .pointer (some ⟨g4, o4, none⟩)) ?_ (hy := by intro W hW; go_simp; try with_reducible rfl)
            refine Free.tk 6 (some 125) (v := .agg #[.int .i64 (T.lat l 0).1, .int .i64 (T.lat l 0).2]) ?_ (hy := by intro W hW; have x1 := hW.r0; have x2 := hW.r1; go_simp; try with_reducible rfl)
            refine Free.tk 7 (some 126) ?_ (hy := by intro W hW; go_simp; try with_reducible rfl)
            refine Free.tk 8 (some 127) (v := .pointer (some ⟨g1, o1, none⟩)) ?_ (hy := by intro W hW; have hln : ¬ l = [] := (by rintro rfl; simp at hlt); go_simp; try with_reducible rfl)
            refine Free.tk 9 (some 128) (v := .agg #[.int .i64 (T.lat l 0).1, .int .i64 (T.lat l 0).2]) ?_ (hy := by intro W hW; have x1 := hW.t.a; have x2 := hW.t.b; rw [Nat.zero_mul, Nat.add_zero] at x1 x2; go_simp; try with_reducible rfl)
            refine Free.tk 10 (some 129) (v := .bool false) ?_ (hy := by intro W hW; have he := fun w => neq_place (T.lat l 0) (T.lat l 0) w; simp only [decide_true, Bool.not_true] at he; go_simp; try with_reducible rfl)
            refine Free.tk 11 (some 130) (v := .bool false) ?_ (hy := by intro W hW; go_simp; try with_reducible rfl)
            refine Free.tk 12 (some 131) (v := .bool false) ?_ (hy := by intro W hW; go_simp; try with_reducible rfl)
            refine Free.tk 13 (some 132) ?_ (hy := by intro W hW; go_simp; try with_reducible rfl)
            refine Free.tk 14 (some 133) ?_ (hy := by intro W hW; go_simp; try with_reducible rfl)
            refine Free.tk 15 (some 134) ?_ (hy := by intro W hW; go_simp; try with_reducible rfl)
            refine Free.tk 16 (some 135) (v := .pointer (some ⟨g1, o1 + (k + 1) * 2, none⟩)) ?_ (hy := by intro W hW; have h0k : (0 : Int) ≤ (k : Int) + 1 := (by omega); go_simp; try with_reducible rfl)
            refine Free.tk 17 (some 136) (v := .agg #[.int .i64 (T.lat l (k + 1)).1, .int .i64 (T.lat l (k + 1)).2]) ?_ (hy := by intro W hW; have x1 := hW.t.c; have x2 := hW.t.d; go_simp; try with_reducible rfl)
            refine Free.tk 18 (some 137) ?_ (hy := by intro W hW; go_simp; try with_reducible rfl)
            refine Free.one 19 (fun W1 hb1 hW1 => ?_)
            refine o_callb (some 138) (by go_simp; first | exact ⟨rfl, rfl⟩ | rfl) ?_
            have hr1 := (hW1.h.root HGr.out (by omega) (by omega) HPi.out HN.out hlt).2
            rw [HSe.out] at hr1
            refine hr1.mono ?_
            rintro e V1 ⟨g11, o11, c11', rfl, z1, zz1, hbb1⟩
            refine ⟨_, rfl, st _ _ hW1 hbb1, ?_⟩
            refine Free.tk 20 (some 139) (v := .int .i64 1) ?_ (hy := by intro W hW; go_simp; try with_reducible rfl)
            refine Free.tk 21 (some 140) (v := .bool false) ?_ (hy := by intro W hW; go_simp; try with_reducible rfl)
            refine Free.tk 22 (some 141) (v := .bool false) ?_ (hy := by intro W hW; go_simp; try with_reducible rfl)
            refine Free.tk 23 (some 142) (v := .bool false) ?_ (hy := by intro W hW; go_simp; try with_reducible rfl)
            refine Free.tk 24 (some 143) ?_ (hy := by intro W hW; go_simp; try with_reducible rfl)
            refine Free.tk 25 (some 144) ?_ (hy := by intro W hW; go_simp; try with_reducible rfl)
            refine Free.tk 26 (some 145) ?_ (hy := by intro W hW; go_simp; try with_reducible rfl)
            refine Free.tk 27 (some 146) (v := .pointer (some ⟨g1, o1 + (k + 1) * 2, none⟩)) ?_ (hy := by intro W hW; have h0k : (0 : Int) ≤ (k : Int) + 1 := (by omega); go_simp; try with_reducible rfl)
            refine Free.tk 28 (some 147) (v := .agg #[.int .i64 (T.lat l (k + 1)).1, .int .i64 (T.lat l (k + 1)).2]) ?_ (hy := by intro W hW; have x1 := hW.t.c; have x2 := hW.t.d; go_simp; try with_reducible rfl)
            refine Free.tk 29 (some 148) ?_ (hy := by intro W hW; go_simp; try with_reducible rfl)
            refine Free.tk 33 (some 152) ?_ (hy := by intro W hW; go_simp; try with_reducible rfl)
            refine Free.tk 34 (some 153) ?_ (hy := by intro W hW; go_simp; try with_reducible rfl)
            refine Free.tk 35 (some 154) (v := .pointer (some ⟨g1, o1 + (k + 1) * 2, none⟩)) ?_ (hy := by intro W hW; have h0k : (0 : Int) ≤ (k : Int) + 1 := (by omega); go_simp; try with_reducible rfl)
            refine Free.tk 36 (some 155) (v := .agg #[.int .i64 (T.lat l (k + 1)).1, .int .i64 (T.lat l (k + 1)).2]) ?_ (hy := by intro W hW; have x1 := hW.t.c; have x2 := hW.t.d; go_simp; try with_reducible rfl)
            refine Free.one 30 (fun W2 hb2 hW2 => ?_)
            refine o_callb (some 149) (by go_simp; first | exact ⟨rfl, rfl⟩ | rfl) ?_
            have hr2 := (hW2.h.root HGr.out (by omega) (by omega) HPi.out HN.out hlt).2
            rw [HSe.out] at hr2
            refine hr2.mono ?_
            rintro e V2 ⟨g12, o12, c12', rfl, z2, zz2, hbb2⟩
            refine ⟨_, rfl, st _ _ hW2 hbb2, ?_⟩
            refine Free.one 31 (fun W3 hb3 hW3 => ?_)
            refine o_okb (some 150) (.pointer (some ⟨g12, o12, none⟩)) W3 (by go_simp; try with_reducible rfl) ⟨hW3, ?_⟩
            refine Free.one 32 (fun W4 hb4 hW4 => ?_)
            have u1 := cell_below (cell_below z2 hb3) hb4
            have u2 := cell_below (cell_below zz2 hb3) hb4
            refine o_okb (some 151) (.agg #[.int .i64 (T.lat l (k + 1)).1, .int .i64 (T.lat l (k + 1)).2]) W4 (by go_simp; try with_reducible rfl) ⟨hW4, ?_⟩
            refine Free.tk 37 (some 156) (v := .bool false) ?_ (hy := by intro W hW; have he := fun w => neq_place (T.lat l (k + 1)) (T.lat l (k + 1)) w; simp only [decide_true, Bool.not_true] at he; go_simp; try with_reducible rfl)
            refine Free.tk 38 (some 157) (v := .bool false) ?_ (hy := by intro W hW; go_simp; try with_reducible rfl)
            refine Free.done (fun W5 hb5 hW5 => ?_)
            have HC7 := Lib.hid hW5.h
            clear hb1 hb2 hb3 hb4 hb5 hbb1 hbb2 hW1 hW2 hW3 hW4 hW5 hr1 hr2 z1 zz1 z2 zz2 u1 u2
            go_wp2
            exact ⟨⟨k + 1, by omega, by rw [HSe.out], by go_num, HC7⟩, by simp [natI]; omega⟩
        · have hkl : ¬ (k : Int) + 1 < (l.length : Int) := by omega
          have HB := Lib.hid HC.out.h.b
          go_wp2_with fail
          refine (HK.out _ HB.out).mono ?_
          rintro e w9 ⟨rfl, hb⟩
          have HB9 := Lib.hid (belT HB.out hb)
          clear hb
          go_wp2
          go_ret
          exact ⟨rfl, HB9.out⟩
end Go.Proofs.YtiohlmccnllklaaDoor.Q
