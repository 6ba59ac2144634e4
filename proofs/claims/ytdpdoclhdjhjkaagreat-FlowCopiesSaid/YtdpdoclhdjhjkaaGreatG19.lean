/-
  Layer 12: alike: walk. (written by gen_alk.py) Layer 12: Same: walk. (written by gen_sam.py)
-/
import Derived.Test.YtdpdoclhdjhjkaaGreatG18
set_option linter.unusedVariables false
set_option linter.unusedSimpArgs false
namespace Go.Proofs.YtdpdoclhdjhjkaaGreat
open Go.RowKit
set_option maxHeartbeats 8000000
set_option maxRecDepth 100000
set_option linter.unusedVariables false
set_option linter.unusedSimpArgs false

section
variable {w : World} {P P2 M M2 D D2 : Nat} {C C2 : Nat → Nat} {fr se : Int} {ps qs : List T.Pr} {FM FM2 FD FD2 : Nat → Prop}
/-- Both stand. -/
def Both (P P2 M M2 D D2 : Nat) (C C2 : Nat → Nat) (fr se : Int) (ps qs : List T.Pr) (FM FM2 FD FD2 : Nat → Prop) (W : World) : Prop := PlIs W P M D C fr se ps FM FD ∧ PlIs W P2 M2 D2 C2 fr se qs FM2 FD2
theorem Both.stb (P P2 M M2 D D2 : Nat) (C C2 : Nat → Nat) (fr se : Int) (ps qs : List T.Pr) (FM FM2 FD FD2 : Nat → Prop) : Free.Stb (Both P P2 M M2 D D2 C C2 fr se ps qs FM FM2 FD FD2) := fun W W' h hb => ⟨h.1.below hb, h.2.below hb⟩
theorem same_pl (h : Both P P2 M M2 D D2 C C2 fr se ps qs FM FM2 FD FD2 w) (hk : ∀ k : Nat, T.cntK k = true → T.kd (k : Int) ps = T.kd (k : Int) qs) :
    decide (ps = qs) = (smE (T.sm ps) (T.sm qs) && (decide (T.row ps 10 (64 * fr.toNat) = T.row qs 10 (64 * fr.toNat)) && decide (T.row ps 12 (64 * se.toNat) = T.row qs 12 (64 * se.toNat)))) := by
  obtain ⟨h1, h2⟩ := h
  rw [Bool.eq_iff_iff]
  simp only [Bool.and_eq_true, decide_eq_true_eq]
  constructor
  · rintro rfl; exact ⟨smE_iff.2 fun _ _ => rfl, rfl, rfl⟩
  · rintro ⟨a, b, c⟩
    exact T.same_of h1.ris h2.ris h1.may h2.may (by have := h1.bd.1; omega) (by have := h1.bd.2; omega) (smE_iff.1 a) b c (fun k hc n => kd_get h1.ris h2.ris (hk k hc) n)
/-- A round of alike. -/
structure AlI (w : World) (P P2 M M2 D D2 : Nat) (C C2 : Nat → Nat) (fr se : Int) (ps qs : List T.Pr) (FM FM2 FD FD2 : Nat → Prop) (j : Nat) (W : World) : Prop where
  h : Both P P2 M M2 D D2 C C2 fr se ps qs FM FM2 FD FD2 W
  b : Below w.heap.size w W
  k : ∀ k : Nat, k < j → T.cntK k = true → T.kd (k : Int) ps = T.kd (k : Int) qs
theorem alike_any (h1 : PlIs w P M D C fr se ps FM FD) (h2 : PlIs w P2 M2 D2 C2 fr se qs FM2 FD2) : Calls Tryz.prog 53 #[.pointer (some ⟨P, 0, none⟩), .pointer (some ⟨P2, 0, none⟩)] w fun e w' => e = .returned (.bool (decide (ps = qs))) ∧ Below w.heap.size w w' := by
  have HR : Hid (w.rangeAt P 146 (csV C).toList ∧ (csV C).size = 18) := ⟨cs_range h1.blk, (csV_ok C).1⟩
  have HI : Hid (AlI w P P2 M M2 D D2 C C2 fr se ps qs FM FM2 FD FD2 0 w) := ⟨⟨h1, h2⟩, Below.refl _ _, fun k hk => absurd hk (by omega)⟩
  clear h1 h2
  go_enter Tryz.func53, Tryz.ntmps53
  go_wp2_with ((with_reducible refine wp_load_VM rvCs HR.out ?_ ?_); (rfl))
  go_loopw [11] (fun i wr => ∃ j : Nat, j ≤ 18 ∧ i = .int .i64 (j : Int) ∧ Hid (AlI w P P2 M M2 D D2 C C2 fr se ps qs FM FM2 FD FD2 j wr)) (fun i _ => 19 - natI i)
  case atStart => exact ⟨0, by omega, rfl, HI.out⟩
  case round =>
    obtain ⟨j, hj, rfl, HJ⟩ := hrel
    by_cases hlt : j < 18
    · have hi : (j : Int) < 18 := by omega
      have hi0 : (0 : Int) ≤ (j : Int) := by omega
      have hix := fun W => idx_cs C hlt W
      have c0 := HJ.out.h.2.blk.cell (146 + j)
      rw [plCells_map _ _ _ _ hlt] at c0
      cases hck : T.cntK j with
      | false =>
        simp only [cmV_no hck] at hix c0
        have HK := Lib.hid hck
        clear hck
        go_wp2_with (go_at_call 84; refine (ceq_none _).mono ?_; rintro e w2 ⟨rfl, hb⟩)
        refine ⟨⟨j + 1, by omega, by go_num, Both.stb _ _ _ _ _ _ _ _ _ _ _ _ _ _ _ _ _ _ HJ.out.h hb, HJ.out.b.trans (hb.mono HJ.out.b.size), fun k hk hc => ?_⟩, by simp [natI]; omega⟩
        rcases Nat.lt_succ_iff_lt_or_eq.1 hk with e | rfl
        · exact HJ.out.k k e hc
        · rw [HK.out] at hc; cases hc
      | true =>
        simp only [cmV_yes hck] at hix c0
        have HK := Lib.hid hck
        clear hck
        have HE := Lib.hid (ceq_any (HJ.out.h.1.cnt j HK.out) (HJ.out.h.2.cnt j HK.out) HJ.out.h.1.ris HJ.out.h.2.ris HJ.out.h.1.small HJ.out.h.2.small)
        by_cases he : T.kd (j : Int) ps = T.kd (j : Int) qs
        · have hd : decide (T.kd (j : Int) ps = T.kd (j : Int) qs) = true := decide_eq_true he
          rw [hd] at HE
          have HKd := Lib.hid he
          clear he hd
          go_wp2_with (go_at_call 84; refine HE.out.mono ?_; rintro e w2 ⟨rfl, hb⟩)
          refine ⟨⟨j + 1, by omega, by go_num, Both.stb _ _ _ _ _ _ _ _ _ _ _ _ _ _ _ _ _ _ HJ.out.h hb, HJ.out.b.trans (hb.mono HJ.out.b.size), fun k hk hc => ?_⟩, by simp [natI]; omega⟩
          rcases Nat.lt_succ_iff_lt_or_eq.1 hk with e | rfl
          · exact HJ.out.k k e hc
          · exact HKd.out
        · have hd : decide (T.kd (j : Int) ps = T.kd (j : Int) qs) = false := decide_eq_false he
          rw [hd] at HE
          have HKd := Lib.hid he
          clear he hd
          go_wp2_with (go_at_call 84; refine HE.out.mono ?_; rintro e w2 ⟨rfl, hb⟩)
          go_ret
          refine ⟨by rw [decide_eq_false (fun e => HKd.out (by rw [e]))]; rfl, HJ.out.b.trans (hb.mono HJ.out.b.size)⟩
    · obtain rfl : j = 18 := by omega
      have HD := Lib.hid (same_pl HJ.out.h (fun k hk => HJ.out.k k (by unfold T.cntK at hk; simp only [decide_eq_true_eq] at hk; omega) hk))
      have HS1 : Hid (Both P P2 M M2 D D2 C C2 fr se ps qs FM FM2 FD FD2 wr.drew) := Both.stb _ _ _ _ _ _ _ _ _ _ _ _ _ _ _ _ _ _ HJ.out.h (Below.refl _ _).drew
      go_wp2
      have HSm := Lib.hid (fun W (hW : Both P P2 M M2 D D2 C C2 fr se ps qs FM FM2 FD FD2 W) => L3.Same_any hW.1.mem hW.2.mem)
      have HSd := Lib.hid (fun W (hW : Both P P2 M M2 D D2 C C2 fr se ps qs FM FM2 FD FD2 W) => L3.Same_any hW.1.disk hW.2.disk)
      generalize decide (T.row ps 10 (64 * fr.toNat) = T.row qs 10 (64 * fr.toNat)) = b1 at HD HSm
      generalize decide (T.row ps 12 (64 * se.toNat) = T.row qs 12 (64 * se.toNat)) = b2 at HD HSd
      cases hsm : smE (T.sm ps) (T.sm qs) with
      | false =>
        have HE := Lib.hid hsm
        rw [hsm] at HD
        clear hsm
        refine Free.any (Both P P2 M M2 D D2 C C2 fr se ps qs FM FM2 FD FD2) (Both.stb P P2 M M2 D D2 C C2 fr se ps qs FM FM2 FD FD2) HS1.out (fun st => ?_)
        refine Free.tk 0 (some 25) ?_
        refine Free.tk 1 (some 26) ?_ (hy := by intro W hW; have om := (ofis hW.1.blk).m; have od := (ofis hW.1.blk).d; have om2 := (ofis hW.2.blk).m; have od2 := (ofis hW.2.blk).d; go_simp; try with_reducible rfl)
        refine Free.tk 2 (some 27) ?_
        refine Free.tk 3 (some 28) ?_ (hy := by intro W hW; exact x_load_V rvSm rfl rfl (sm_range hW.1.blk) (csm_ok _))
        refine Free.tk 4 (some 29) ?_
        refine Free.tk 5 (some 30) ?_ (hy := by intro W hW; have om := (ofis hW.1.blk).m; have od := (ofis hW.1.blk).d; have om2 := (ofis hW.2.blk).m; have od2 := (ofis hW.2.blk).d; go_simp; try with_reducible rfl)
        refine Free.tk 6 (some 31) ?_
        refine Free.tk 7 (some 32) ?_ (hy := by intro W hW; exact x_load_V rvSm rfl rfl (sm_range hW.2.blk) (csm_ok _))
        refine Free.tk 8 (some 33) (v := .bool false) ?_ (hy := by intro W hW; exact x_eql_sm rfl rfl rfl HE.out)
        refine Free.tk 9 (some 34) ?_
        refine Free.sk 10 (some 35) ?_
        refine Free.sk 11 (some 36) ?_
        refine Free.sk 12 (some 37) ?_
        refine Free.sk 13 (some 38) ?_
        refine Free.sk 14 (some 39) ?_
        refine Free.sk 15 (some 40) ?_
        refine Free.sk 16 (some 41) ?_
        refine Free.sk 17 (some 42) ?_
        refine Free.sk 18 (some 43) ?_
        refine Free.tk 19 (some 44) ?_
        refine Free.tk 20 (some 45) ?_
        refine Free.sk 21 (some 46) ?_
        refine Free.sk 22 (some 47) ?_
        refine Free.sk 23 (some 48) ?_
        refine Free.sk 24 (some 49) ?_
        refine Free.sk 25 (some 50) ?_
        refine Free.sk 26 (some 51) ?_
        refine Free.sk 27 (some 52) ?_
        refine Free.sk 28 (some 53) ?_
        refine Free.sk 29 (some 54) ?_
        refine Free.tk 30 (some 55) ?_
        refine Free.tk 31 (some 4) ?_
        refine Free.done (fun W hb hW => ?_)
        go_wp2
        go_ret
        exact ⟨by rw [HD.out]; rfl, HJ.out.b.drew.trans (hb.mono (by have := HJ.out.b.size; simpa using this))⟩
      | true =>
        have HE := Lib.hid hsm
        rw [hsm] at HD
        clear hsm
        cases b1 with
        | false =>
          refine Free.any (Both P P2 M M2 D D2 C C2 fr se ps qs FM FM2 FD FD2) (Both.stb P P2 M M2 D D2 C C2 fr se ps qs FM FM2 FD FD2) HS1.out (fun st => ?_)
          refine Free.tk 0 (some 25) ?_
          refine Free.tk 1 (some 26) ?_ (hy := by intro W hW; have om := (ofis hW.1.blk).m; have od := (ofis hW.1.blk).d; have om2 := (ofis hW.2.blk).m; have od2 := (ofis hW.2.blk).d; go_simp; try with_reducible rfl)
          refine Free.tk 2 (some 27) ?_
          refine Free.tk 3 (some 28) ?_ (hy := by intro W hW; exact x_load_V rvSm rfl rfl (sm_range hW.1.blk) (csm_ok _))
          refine Free.tk 4 (some 29) ?_
          refine Free.tk 5 (some 30) ?_ (hy := by intro W hW; have om := (ofis hW.1.blk).m; have od := (ofis hW.1.blk).d; have om2 := (ofis hW.2.blk).m; have od2 := (ofis hW.2.blk).d; go_simp; try with_reducible rfl)
          refine Free.tk 6 (some 31) ?_
          refine Free.tk 7 (some 32) ?_ (hy := by intro W hW; exact x_load_V rvSm rfl rfl (sm_range hW.2.blk) (csm_ok _))
          refine Free.tk 8 (some 33) (v := .bool true) ?_ (hy := by intro W hW; exact x_eql_sm rfl rfl rfl HE.out)
          refine Free.tk 9 (some 34) ?_
          refine Free.tk 10 (some 35) ?_
          refine Free.tk 11 (some 36) ?_ (hy := by intro W hW; have om := (ofis hW.1.blk).m; have od := (ofis hW.1.blk).d; have om2 := (ofis hW.2.blk).m; have od2 := (ofis hW.2.blk).d; go_simp; try with_reducible rfl)
          refine Free.tk 12 (some 37) ?_
          refine Free.tk 13 (some 38) ?_ (hy := by intro W hW; have om := (ofis hW.1.blk).m; have od := (ofis hW.1.blk).d; have om2 := (ofis hW.2.blk).m; have od2 := (ofis hW.2.blk).d; go_simp; try with_reducible rfl)
          refine Free.tk 14 (some 39) ?_
          refine Free.tk 15 (some 40) ?_ (hy := by intro W hW; have om := (ofis hW.1.blk).m; have od := (ofis hW.1.blk).d; have om2 := (ofis hW.2.blk).m; have od2 := (ofis hW.2.blk).d; go_simp; try with_reducible rfl)
          refine Free.tk 16 (some 41) ?_
          refine Free.tk 17 (some 42) ?_ (hy := by intro W hW; have om := (ofis hW.1.blk).m; have od := (ofis hW.1.blk).d; have om2 := (ofis hW.2.blk).m; have od2 := (ofis hW.2.blk).d; go_simp; try with_reducible rfl)
          refine Free.cl 18 (some 43) st (fun W hW => HSm.out W hW) ?_ (hy := by intro W; go_simp; try rfl)
          refine Free.tk 19 (some 44) ?_
          refine Free.tk 20 (some 45) ?_
          refine Free.sk 21 (some 46) ?_
          refine Free.sk 22 (some 47) ?_
          refine Free.sk 23 (some 48) ?_
          refine Free.sk 24 (some 49) ?_
          refine Free.sk 25 (some 50) ?_
          refine Free.sk 26 (some 51) ?_
          refine Free.sk 27 (some 52) ?_
          refine Free.sk 28 (some 53) ?_
          refine Free.sk 29 (some 54) ?_
          refine Free.tk 30 (some 55) ?_
          refine Free.tk 31 (some 4) ?_
          refine Free.done (fun W hb hW => ?_)
          go_wp2
          go_ret
          exact ⟨by rw [HD.out]; rfl, HJ.out.b.drew.trans (hb.mono (by have := HJ.out.b.size; simpa using this))⟩
        | true =>
          refine Free.any (Both P P2 M M2 D D2 C C2 fr se ps qs FM FM2 FD FD2) (Both.stb P P2 M M2 D D2 C C2 fr se ps qs FM FM2 FD FD2) HS1.out (fun st => ?_)
          refine Free.tk 0 (some 25) ?_
          refine Free.tk 1 (some 26) ?_ (hy := by intro W hW; have om := (ofis hW.1.blk).m; have od := (ofis hW.1.blk).d; have om2 := (ofis hW.2.blk).m; have od2 := (ofis hW.2.blk).d; go_simp; try with_reducible rfl)
          refine Free.tk 2 (some 27) ?_
          refine Free.tk 3 (some 28) ?_ (hy := by intro W hW; exact x_load_V rvSm rfl rfl (sm_range hW.1.blk) (csm_ok _))
          refine Free.tk 4 (some 29) ?_
          refine Free.tk 5 (some 30) ?_ (hy := by intro W hW; have om := (ofis hW.1.blk).m; have od := (ofis hW.1.blk).d; have om2 := (ofis hW.2.blk).m; have od2 := (ofis hW.2.blk).d; go_simp; try with_reducible rfl)
          refine Free.tk 6 (some 31) ?_
          refine Free.tk 7 (some 32) ?_ (hy := by intro W hW; exact x_load_V rvSm rfl rfl (sm_range hW.2.blk) (csm_ok _))
          refine Free.tk 8 (some 33) (v := .bool true) ?_ (hy := by intro W hW; exact x_eql_sm rfl rfl rfl HE.out)
          refine Free.tk 9 (some 34) ?_
          refine Free.tk 10 (some 35) ?_
          refine Free.tk 11 (some 36) ?_ (hy := by intro W hW; have om := (ofis hW.1.blk).m; have od := (ofis hW.1.blk).d; have om2 := (ofis hW.2.blk).m; have od2 := (ofis hW.2.blk).d; go_simp; try with_reducible rfl)
          refine Free.tk 12 (some 37) ?_
          refine Free.tk 13 (some 38) ?_ (hy := by intro W hW; have om := (ofis hW.1.blk).m; have od := (ofis hW.1.blk).d; have om2 := (ofis hW.2.blk).m; have od2 := (ofis hW.2.blk).d; go_simp; try with_reducible rfl)
          refine Free.tk 14 (some 39) ?_
          refine Free.tk 15 (some 40) ?_ (hy := by intro W hW; have om := (ofis hW.1.blk).m; have od := (ofis hW.1.blk).d; have om2 := (ofis hW.2.blk).m; have od2 := (ofis hW.2.blk).d; go_simp; try with_reducible rfl)
          refine Free.tk 16 (some 41) ?_
          refine Free.tk 17 (some 42) ?_ (hy := by intro W hW; have om := (ofis hW.1.blk).m; have od := (ofis hW.1.blk).d; have om2 := (ofis hW.2.blk).m; have od2 := (ofis hW.2.blk).d; go_simp; try with_reducible rfl)
          refine Free.cl 18 (some 43) st (fun W hW => HSm.out W hW) ?_ (hy := by intro W; go_simp; try rfl)
          refine Free.tk 19 (some 44) ?_
          refine Free.tk 20 (some 45) ?_
          refine Free.tk 21 (some 46) ?_
          refine Free.tk 22 (some 47) ?_ (hy := by intro W hW; have om := (ofis hW.1.blk).m; have od := (ofis hW.1.blk).d; have om2 := (ofis hW.2.blk).m; have od2 := (ofis hW.2.blk).d; go_simp; try with_reducible rfl)
          refine Free.tk 23 (some 48) ?_
          refine Free.tk 24 (some 49) ?_ (hy := by intro W hW; have om := (ofis hW.1.blk).m; have od := (ofis hW.1.blk).d; have om2 := (ofis hW.2.blk).m; have od2 := (ofis hW.2.blk).d; go_simp; try with_reducible rfl)
          refine Free.tk 25 (some 50) ?_
          refine Free.tk 26 (some 51) ?_ (hy := by intro W hW; have om := (ofis hW.1.blk).m; have od := (ofis hW.1.blk).d; have om2 := (ofis hW.2.blk).m; have od2 := (ofis hW.2.blk).d; go_simp; try with_reducible rfl)
          refine Free.tk 27 (some 52) ?_
          refine Free.tk 28 (some 53) ?_ (hy := by intro W hW; have om := (ofis hW.1.blk).m; have od := (ofis hW.1.blk).d; have om2 := (ofis hW.2.blk).m; have od2 := (ofis hW.2.blk).d; go_simp; try with_reducible rfl)
          refine Free.cl 29 (some 54) st (fun W hW => HSd.out W hW) ?_ (hy := by intro W; go_simp; try rfl)
          refine Free.tk 30 (some 55) ?_
          refine Free.tk 31 (some 4) ?_
          refine Free.done (fun W hb hW => ?_)
          go_wp2
          go_ret
          exact ⟨by rw [HD.out]; simp, HJ.out.b.drew.trans (hb.mono (by have := HJ.out.b.size; simpa using this))⟩
end
end Go.Proofs.YtdpdoclhdjhjkaaGreat
namespace Go.Proofs.YtdpdoclhdjhjkaaGreat
open Go.RowKit
set_option maxHeartbeats 8000000
set_option maxRecDepth 100000
set_option linter.unusedVariables false
set_option linter.unusedSimpArgs false

theorem row_later {w w' : World} {base : Nat} {e : TypeId} {v : Value} {n : Nat} {xs : List Value} (h : w.ownsRow base e 1 v n xs) (hb : Below w.heap.size w w') : w'.ownsRow 0 e 1 v n xs := by
  refine ⟨h.1, ?_⟩
  rcases h.2 with h0 | ⟨g, cap, cur, rfl, _, hg, r⟩
  · exact .inl h0
  · exact .inr ⟨g, cap, cur, rfl, Nat.zero_le _, (hb.block g (Array.getElem?_eq_some_iff.1 hg).1).trans hg, r⟩
section
variable {w : World} {S S2 Tb Tb2 P P2 m m2 M M2 D D2 : Nat} {FT FT2 : List Nat} {C C2 : Nat → Nat} {fr se mo : Int} {ss ss2 : List Int} {ps qs : List T.Pr} {FM FM2 FD FD2 : Nat → Prop}
def BothF (S S2 Tb Tb2 P P2 m m2 M M2 D D2 : Nat) (FT FT2 : List Nat) (C C2 : Nat → Nat) (fr se mo : Int) (ss ss2 : List Int) (ps qs : List T.Pr) (FM FM2 FD FD2 : Nat → Prop) (W : World) : Prop := FlIs W S Tb P ⟨fr, se, mo, ss, ps⟩ m FT M D C FM FD ∧ FlIs W S2 Tb2 P2 ⟨fr, se, mo, ss2, qs⟩ m2 FT2 M2 D2 C2 FM2 FD2
theorem BothF.stb (S S2 Tb Tb2 P P2 m m2 M M2 D D2 : Nat) (FT FT2 : List Nat) (C C2 : Nat → Nat) (fr se mo : Int) (ss ss2 : List Int) (ps qs : List T.Pr) (FM FM2 FD FD2 : Nat → Prop) : Free.Stb (BothF S S2 Tb Tb2 P P2 m m2 M M2 D D2 FT FT2 C C2 fr se mo ss ss2 ps qs FM FM2 FD FD2) := fun W W' h hb => ⟨h.1.below hb, h.2.below hb⟩
end
theorem Same_any {w : World} {S : Nat} {f : T.Fl} {F : Nat → Prop} (h : At w S f F) {S2 : Nat} {f2 : T.Fl} {F2 : Nat → Prop} (h2 : At w S2 f2 F2) (hf : f.fr = f2.fr ∧ f.se = f2.se ∧ f.mo = f2.mo) : Calls Tryz.prog 17 #[.pointer (some ⟨S, 0, none⟩), .pointer (some ⟨S2, 0, none⟩)] w fun e w' =>
    e = .returned (.bool (decide (f.ss = f2.ss ∧ f.ps = f2.ps))) ∧ Below w.heap.size w w' := by
  obtain ⟨Tb, P, m, FT, M, D, C, FM, FD, rfl, h⟩ := h
  obtain ⟨Tb2, P2, m2, FT2, M2, D2, C2, FM2, FD2, rfl, h2⟩ := h2
  obtain ⟨fr, se, mo, ss, ps⟩ := f
  obtain ⟨fr2, se2, mo2, ss2, qs⟩ := f2
  obtain ⟨rfl, rfl, rfl⟩ : fr = fr2 ∧ se = se2 ∧ mo = mo2 := hf
  have HN1 := Lib.hid (none_some S Tb _ h.s0)
  have HN2 := Lib.hid (none_some S2 Tb2 _ h2.s0)
  have HS1 : Hid (BothF S S2 Tb Tb2 P P2 m m2 M M2 D D2 FT FT2 C C2 fr se mo ss ss2 ps qs FM FM2 FD FD2 w.drew) := ⟨h.below (Below.refl _ _).drew, h2.below (Below.refl _ _).drew⟩
  have HL : Hid (ss.length ≤ 65536) := by have h1 := h.tab.sets.len; have h2 := h.tab.sets.most; dsimp only at h1 h2; exact (show ss.length ≤ 65536 by omega)
  clear h h2
  go_enter Tryz.func17, Tryz.ntmps17
  go_wp2_with fail
  refine HN1.out.mono ?_; rintro e w' ⟨rfl, rfl⟩
  go_wp2_with fail
  refine HN2.out.mono ?_; rintro e w' ⟨rfl, rfl⟩
  go_wp2_with fail
  refine Free.any (BothF S S2 Tb Tb2 P P2 m m2 M M2 D D2 FT FT2 C C2 fr se mo ss ss2 ps qs FM FM2 FD FD2) (BothF.stb S S2 Tb Tb2 P P2 m m2 M M2 D D2 FT FT2 C C2 fr se mo ss ss2 ps qs FM FM2 FD FD2) HS1.out (fun st => ?_)
  refine Free.tk 0 (some 17) ?_
  refine Free.tk 1 (some 18) ?_ (hy := by intro W hW; have s0 := hW.1.s0; have s1 := hW.1.s1; have z0 := hW.2.s0; have z1 := hW.2.s1; go_simp; try with_reducible rfl)
  refine Free.tk 2 (some 19) ?_
  refine Free.tk 3 (some 20) ?_ (hy := by intro W hW; have s0 := hW.1.s0; have s1 := hW.1.s1; have z0 := hW.2.s0; have z1 := hW.2.s1; go_simp; try with_reducible rfl)
  refine Free.tk 5 (some 22) ?_
  refine Free.tk 6 (some 23) ?_ (hy := by intro W hW; have s0 := hW.1.s0; have s1 := hW.1.s1; have z0 := hW.2.s0; have z1 := hW.2.s1; go_simp; try with_reducible rfl)
  refine Free.tk 7 (some 24) ?_
  refine Free.tk 8 (some 25) ?_ (hy := by intro W hW; have s0 := hW.1.s0; have s1 := hW.1.s1; have z0 := hW.2.s0; have z1 := hW.2.s1; go_simp; try with_reducible rfl)
  refine Free.one 4 (fun W hb hW => ?_)
  refine o_callb (some 21) (by go_simp; first | exact ⟨rfl, rfl⟩ | rfl) ?_
  refine (L2.All_any Tb mo ss m FT _ hW.1.tab).mono ?_
  rintro e V ⟨g1, k1, rfl, hr1, hb1⟩
  have HB1 : Hid (Below w.heap.size w V) := (Below.refl _ _).drew.trans (hb.trans (hb1.mono hb.size))
  have HR1 := Lib.hid hr1
  have hSV := st _ _ hW hb1
  clear hb hW hr1 hb1
  refine ⟨_, rfl, hSV, ?_⟩
  refine Free.one 9 (fun W hb hW => ?_)
  refine o_callb (some 26) (by go_simp; first | exact ⟨rfl, rfl⟩ | rfl) ?_
  refine (L2.All_any Tb2 mo ss2 m2 FT2 _ hW.2.tab).mono ?_
  rintro e V2 ⟨g2, k2, rfl, hr2, hb2⟩
  have HB2 : Hid (Below V.heap.size V V2) := hb.trans (hb2.mono hb.size)
  have HR2 := Lib.hid hr2
  have hSV2 := st _ _ hW hb2
  clear hb hW hr2 hb2 hSV
  refine ⟨_, rfl, hSV2, ?_⟩
  clear hSV2
  refine Free.one 10 (fun W hb hW => ?_)
  refine o_callb (some 27) (by go_simp; first | exact ⟨rfl, rfl⟩ | rfl) ?_
  refine (L2.Equal_tabs g1 g2 k1 k2 ss ss2 _ HL.out (row_later HR1.out (HB2.out.trans (hb.mono HB2.out.size))) (row_later HR2.out hb)).mono ?_
  rintro e V3 ⟨rfl, q, rfl⟩
  have HB3 : Hid (Below w.heap.size w (W.drewN q)) := HB1.out.trans ((HB2.out.trans ((hb.trans ((below_drewN _ W q).mono hb.size)).mono HB2.out.size)).mono HB1.out.size)
  have hS3 := st _ _ hW (below_drewN _ W q)
  clear hb hW
  refine ⟨_, rfl, hS3, ?_⟩
  clear hS3
  by_cases he : ss = ss2
  · have hd : decide (ss = ss2) = true := decide_eq_true he
    rw [hd]
    have HE := Lib.hid he
    clear he hd
    refine Free.tk 11 (some 28) ?_
    refine Free.tk 12 (some 29) ?_
    refine Free.tk 13 (some 30) ?_ (hy := by intro W hW; have s0 := hW.1.s0; have s1 := hW.1.s1; have z0 := hW.2.s0; have z1 := hW.2.s1; go_simp; try with_reducible rfl)
    refine Free.tk 14 (some 31) ?_
    refine Free.tk 15 (some 32) ?_ (hy := by intro W hW; have s0 := hW.1.s0; have s1 := hW.1.s1; have z0 := hW.2.s0; have z1 := hW.2.s1; go_simp; try with_reducible rfl)
    refine Free.tk 16 (some 33) ?_
    refine Free.tk 17 (some 34) ?_ (hy := by intro W hW; have s0 := hW.1.s0; have s1 := hW.1.s1; have z0 := hW.2.s0; have z1 := hW.2.s1; go_simp; try with_reducible rfl)
    refine Free.tk 18 (some 35) ?_
    refine Free.tk 19 (some 36) ?_ (hy := by intro W hW; have s0 := hW.1.s0; have s1 := hW.1.s1; have z0 := hW.2.s0; have z1 := hW.2.s1; go_simp; try with_reducible rfl)
    refine Free.cl 20 (some 37) st (fun W hW => alike_any hW.1.pl hW.2.pl) ?_ (hy := by intro W; go_simp; try rfl)
    refine Free.tk 21 (some 38) ?_
    refine Free.tk 22 (some 4) ?_
    refine Free.done (fun W2 hb hW => ?_)
    go_wp2
    go_ret
    exact ⟨by simp [HE.out], HB3.out.trans (hb.mono HB3.out.size)⟩
  · have hd : decide (ss = ss2) = false := decide_eq_false he
    rw [hd]
    have HE := Lib.hid he
    clear he hd
    refine Free.tk 11 (some 28) ?_
    refine Free.sk 12 (some 29) ?_
    refine Free.sk 13 (some 30) ?_
    refine Free.sk 14 (some 31) ?_
    refine Free.sk 15 (some 32) ?_
    refine Free.sk 16 (some 33) ?_
    refine Free.sk 17 (some 34) ?_
    refine Free.sk 18 (some 35) ?_
    refine Free.sk 19 (some 36) ?_
    refine Free.sk 20 (some 37) ?_
    refine Free.tk 21 (some 38) ?_
    refine Free.tk 22 (some 4) ?_
    refine Free.done (fun W2 hb hW => ?_)
    go_wp2
    go_ret
    exact ⟨by simp [HE.out], HB3.out.trans (hb.mono HB3.out.size)⟩
end Go.Proofs.YtdpdoclhdjhjkaaGreat
