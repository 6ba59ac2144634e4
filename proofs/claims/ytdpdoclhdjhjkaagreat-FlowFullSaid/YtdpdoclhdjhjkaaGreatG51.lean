/-
  Layer 12: the statement FlowFull: a walk.
-/
import Derived.Test.YtdpdoclhdjhjkaaGreatG50
import Derived.Test.YtdpdoclhdjhjkaaGreatG44
import Derived.Test.YtdpdoclhdjhjkaaGreatG27
import Derived.Test.YtdpdoclhdjhjkaaGreatG46
set_option linter.unusedVariables false
set_option linter.unusedSimpArgs false
namespace Go.Proofs.YtdpdoclhdjhjkaaGreat
open Go.RowKit Go.Shelf
set_option maxHeartbeats 8000000
set_option maxRecDepth 100000
set_option linter.unusedVariables false
set_option linter.unusedSimpArgs false
attribute [local go_sem] Oper.semAt_some

/-- A round of the loop. -/
structure FuS (w : World) (L : List Bx) (S1 : Nat) (bd : Int) (k : Nat) (f : T.Fl) (Ds : List Nat) (W : World) : Prop where
  o : FuO w L S1 f Ds W
  mo : f.mo = bd
  ln : f.ps.length ≤ 200 * k
/-- What a slot holds. -/
def gu : List Value → Nat → Value
  | [], _ => undef
  | x :: _, 0 => x
  | _ :: r, i + 1 => gu r i
/-- The frame at a round's start. -/
def frU (w : World) (bd : Int) (oa : Option Addr) (n ca S1 k : Nat) (u : Nat → Value) : Array Value := #[.int .i64 bd, .slice oa n ca, u 2, u 3, .pointer (some ⟨w.heap.size, 0, none⟩), u 5, .pointer (some ⟨S1, 0, none⟩), u 7, .int .i64 (k : Int), u 9, u 10, u 11, u 12, u 13, u 14, u 15, u 16, u 17, u 18, u 19, u 20, u 21, u 22, u 23, u 24, u 25, u 26, u 27, u 28, u 29, u 30, u 31, u 32, u 33, u 34, u 35, u 36, u 37, u 38, u 39, u 40, u 41, u 42, u 43, u 44, u 45, u 46, u 47, u 48, u 49, u 50, u 51, u 52, u 53, u 54, u 55, u 56, u 57, u 58, u 59, u 60, u 61, u 62, u 63, u 64, u 65, u 66, u 67, u 68, u 69, u 70, u 71, u 72, u 73, u 74, u 75, u 76, u 77, u 78, u 79, u 80, u 81, u 82, u 83, u 84, u 85, u 86, u 87, u 88, u 89, u 90, u 91, u 92, u 93, u 94, u 95, u 96, u 97, u 98, u 99, u 100, u 101, u 102, u 103, u 104, u 105, u 106, u 107, u 108, u 109, u 110, u 111, u 112, u 113, u 114, u 115, u 116, u 117, u 118, u 119, u 120, u 121, u 122, u 123, u 124, u 125, u 126, u 127, u 128, u 129, u 130, u 131, u 132, u 133, u 134, u 135, u 136, u 137]
def FuL (w : World) (bd : Int) (oa : Option Addr) (n ca : Nat) (L : List Bx) (S1 : Nat) (m : Nat) (a : Act) (wr : World) : Prop :=
  ∃ (k : Nat) (f : T.Fl) (Ds : List Nat), m = n - k ∧ k ≤ n ∧ a = { tmps := frU w bd oa n ca S1 k (fun i => gu a.tmps.toList i), defers := Ds.map mkD } ∧ Hid (FuS w L S1 bd k f Ds wr)
theorem FlowFull_walk (bd : Int) {v : Value} {xs : List Ac} {w : World} (hl : I64 bd) (h : ActsIn w v xs) : Calls Tryz.prog 4 #[.int .i64 bd, v] w fun e w' => e = .returned (.bool true) ∧ Below w.heap.size w w' := by
  by_cases hq : vastS xs = true ∨ bd < 1 ∨ 40 < bd
  · exact Full_few bd h hq
  have hv : vastS xs = false := by
    cases e : vastS xs with
    | false => rfl
    | true => exact absurd (.inl e) hq
  have l0 : 1 ≤ bd := by omega
  have l16 : bd ≤ 40 := by omega
  obtain ⟨hx30, hxa⟩ := vast_no hv
  have HXs := Lib.hid h
  have hvs := vast_any (h.below (bel1 w (.cells #[.bool false] 4)))
  rw [hv] at hvs
  have HV := Lib.hid hvs
  obtain ⟨oa, ca, rfl, _, hla⟩ := h.shape
  unfold maxLen at hla
  clear h hq hv hvs hl
  refine (callsIn_wide (n := 5)).1 ?_
  refine callsIn_of_wp_marks Tryz.func4 rfl trivial ?_ rfl
  refine wpIn_wide.2 ?_
  simp only [Tryz.ntmps4, List.size_toArray, List.length_cons, List.length_nil, Nat.reduceAdd, Nat.reduceSub, Array.replicate_succ, Array.replicate_zero, List.push_toArray, List.append_toArray, List.nil_append, List.cons_append]
  go_wp2_with fail
  refine HV.out.mono ?_
  rintro e w1 ⟨rfl, hb⟩
  have H1 := Lib.hid (((Bxs.nil w).alloc #[.bool false] 4).after hb)
  have H2 := Lib.hid (H1.out.alloc #[.int .i64 2, .int .i64 2] 26)
  clear hb HV
  have x0 := (H2.out.get w1.heap.size (cs := #[.int .i64 2, .int .i64 2]) (ty := 26) (by simp)).cell 0
  have x1 := (H2.out.get w1.heap.size (cs := #[.int .i64 2, .int .i64 2]) (ty := 26) (by simp)).cell 1
  go_wp2_with fail
  refine (New_any 2 2 bd (by omega) _).mono ?_
  rintro e w2 ⟨S1, F1, rfl, hat, hF, hb⟩
  obtain ⟨L, hL⟩ : ∃ L : List Bx, L = [(w.heap.size, #[.bool false], 4)] := ⟨_, rfl⟩
  have m0 : (w.heap.size, #[.bool false], 4) ∈ L := by rw [hL]; simp
  have H3 : Hid (OnE w L S1 ⟨2, 2, bd, [0], []⟩ w2) := ⟨F1, hat, fun k hk => by have := hF k hk; have := H1.out.below.size; simp only [World.size_alloc] at *; omega, by
    rw [hL]
    have h2 := H2.out.after hb
    exact ⟨h2.below, fun p hp => h2.at_ p (by simp only [List.mem_cons, List.not_mem_nil, or_false] at hp ⊢; exact .inr hp)⟩, fun p hp e => by
    have := hF _ e
    have := (H1.out.get w.heap.size (cs := #[.bool false]) (ty := 4) (by simp)).lt
    simp only [World.size_alloc] at *
    rw [hL] at hp
    simp only [List.mem_cons, List.not_mem_nil, or_false] at hp
    obtain rfl := hp
    dsimp only at *
    omega⟩
  have hlt0 : w.heap.size < w2.heap.size := by
    have := (H1.out.get w.heap.size (cs := #[.bool false]) (ty := 4) (by simp)).lt
    have := hb.size
    simp only [World.size_alloc] at *
    omega
  have HM := Lib.hid m0
  have HS0 : Hid (FuS w L S1 bd 0 ⟨2, 2, bd, [0], []⟩ [] w2) := ⟨FuO.of H3.out, rfl, by simp⟩
  clear hat hF hb H1 H2 H3 x0 x1 hL m0
  go_wp2_with fail
  refine wp_loop_ghost (FuL w bd oa xs.length ca L S1) xs.length ⟨0, _, [], by omega, by omega, rfl, HS0.out⟩ ?_
  rintro m a wr ⟨k, f, Ds, rfl, hk1, hA, HS⟩
  obtain ⟨u, rfl⟩ : ∃ u, a = { tmps := frU w bd oa xs.length ca S1 k u, defers := Ds.map mkD } := ⟨_, hA⟩
  clear hA
  unfold frU
  clear HS0
  by_cases hlt : k < xs.length
  · have hi : (k : Int) < (xs.length : Int) := by omega
    obtain ⟨g1, o1, c1, a, tv, e1, ha1, hac, hg1, hfx⟩ := HXs.out.fix hlt
    simp at e1
    obtain ⟨rfl, rfl⟩ := e1
    obtain ⟨hnv, htl⟩ := hxa a (List.mem_of_getElem? ha1)
    have HFx := Lib.hid hfx
    have hk29 : k ≤ 29 := by omega
    have hok := HS.out.o.on.ok
    have HSe := Lib.hid (step_err hok a hac)
    have hmo := HS.out.mo
    have hln := HS.out.ln
    have hfm := (step_form f a).2.2.trans hmo
    have hfr := step_form f a
    have hl2 : (stepS f a).ps.length ≤ 200 * (k + 1) := by have := step_len f a hnv htl; omega
    have HFm := Lib.hid (And.intro hfr (And.intro hmo hfm))
    have hlo : ¬ (200 * (k + 1) > 900000) := by omega
    clear ha1 hfx hnv hmo hln hfm hfr
    obtain ⟨FC, hat, _⟩ := id HS.out.o
    have HC := Lib.hid (Copy_any hat)
    clear hat hok
    go_wp2_with fail
    refine HC.out.mono ?_; rintro e w1' ⟨S', F', rfl, hat', hF', hb1⟩
    have HE1 := Lib.hid ((HS.out.o.with hb1 hat' hF').box #[.pointer (some ⟨S', 0, none⟩)] 27)
    clear hat' hF' hb1 HC
    obtain ⟨L1, hL1⟩ : ∃ L1 : List Bx, L1 = (w1'.heap.size, #[.pointer (some ⟨S', 0, none⟩)], 27) :: L := ⟨_, rfl⟩
    rw [← hL1] at HE1
    have m9 : (w1'.heap.size, #[.pointer (some ⟨S', 0, none⟩)], 27) ∈ L1 := by rw [hL1]; simp
    have mL : ∀ p ∈ L, p ∈ L1 := fun p hp => by rw [hL1]; simp [hp]
    have HM9 := Lib.hid (And.intro m9 mL)
    clear hL1 m9 mL
    obtain ⟨hak, han, hap, has⟩ := id hac
    obtain ⟨y0, y1, y2, y3, y4, y5⟩ := (HFx.out _ HE1.out.le.b).1
    by_cases hk1 : a.k = 1
    · have HE := Lib.hid (show (f.mark a.p a.n a.s).2 = stepE f a ∧ (f.mark a.p a.n a.s).1 = stepS f a by unfold stepE stepS; rw [if_pos hk1, if_pos hk1]; exact ⟨rfl, rfl⟩)
      go_wp2_with fail
      refine wp_region_noPanic ?_
      refine Free.any (fun W => Bxs w L1 W) (fun W W' h hb => h.after hb) HE1.out.le.bx.drew (fun st => ?_)
      refine Free.tk 0 (some 49) ?_
      refine Free.tk 1 (some 50) ?_
      refine Free.tk 2 (some 51) ?_
      refine Free.tk 3 (some 52) ?_
      refine Free.tk 4 (some 53) ?_
      refine Free.tk 5 (some 54) (v := .agg #[.int .i64 a.p.1, .int .i64 a.p.2]) ?_ (hy := by intro W hW; obtain ⟨z0, z1, z2, z3, z4, z5⟩ := (HFx.out W hW.below).1; go_simp; try with_reducible rfl)
      refine Free.tk 6 (some 55) ?_
      refine Free.tk 7 (some 56) ?_
      refine Free.tk 8 (some 57) ?_
      refine Free.tk 9 (some 58) ?_
      refine Free.tk 10 (some 59) ?_ (hy := by intro W hW; obtain ⟨z0, z1, z2, z3, z4, z5⟩ := (HFx.out W hW.below).1; go_simp; try with_reducible rfl)
      refine Free.tk 11 (some 60) ?_
      refine Free.tk 12 (some 61) ?_
      refine Free.tk 13 (some 62) ?_
      refine Free.tk 14 (some 63) ?_
      refine Free.tk 15 (some 64) ?_ (hy := by intro W hW; obtain ⟨z0, z1, z2, z3, z4, z5⟩ := (HFx.out W hW.below).1; go_simp; try with_reducible rfl)
      refine Free.one 16 (fun W hb hW => ?_)
      refine o_callb (some 65) (by go_simp; first | exact ⟨rfl, rfl⟩ | rfl) ?_
      refine (((HE1.out.after (Below.refl _ _).drew).after hb).mark1 a.p hap a.n a.s han has).mono ?_
      rintro e V ⟨rfl, hle⟩
      refine ⟨_, rfl, hle.le.bx, ?_⟩
      refine Free.tk 17 (some 10) ?_
      refine Free.done (fun W2 hb2 hW2 => NoPanic.normal ?_)
      have hle2 := hle.after hb2
      rw [HE.out.1]
      rw [HE.out.2] at hle2
      have HE2 := Lib.hid hle2
      clear hb hW hle hle2 hb2 hW2 st y0 y1 y2 y3 y4 y5 HE
      generalize w1'.alloc (.cells #[.pointer (some ⟨S', 0, none⟩)] 27) = wz at HE1
      clear HE1 HFx
      generalize w1'.heap.size = B9 at HM9 HE2 ⊢
      obtain ⟨FA, FB, hI, hd⟩ := id HE2.out
      have HI := Lib.hid (fun W (hb : Below W2.heap.size W2 W) => (show LeI w L1 S1 S' (stepS f a) f FA FB W from hI.after hb))
      have hok2 := hI.a1.ok
      have hle : ((stepS f a).ss.length : Int) ≤ bd := by have := hok2.sets.len; have := HFm.out.2.2; omega
      have hcn : (stepS f a).ps.length ≤ 900000 := by omega
      have HNx : Hid (∀ Ds' W, FuE w L1 S1 S' (stepS f a) f Ds' W → FuS w L S1 bd (k + 1) (stepS f a) Ds' W) := fun Ds' W h => ⟨h.first HM9.out.2, HFm.out.2.2, hl2⟩
      have hwz : w.heap.size < W2.heap.size := (hI.bx.get _ (HM9.out.2 _ HM.out)).lt
      clear hI hd
      have hcase : stepE f a = 0 ∨ (stepE f a = 120 ∧ ((stepS f a).ss.length : Int) = bd ∧ (stepS f a).ps = f.ps) ∨ (stepE f a ≠ 0 ∧ stepE f a ≠ 120 ∧ stepS f a = f) := by
        by_cases h0 : stepE f a = 0
        · exact .inl h0
        · rcases HSe.out h0 with ⟨q1, q2, q3⟩ | ⟨q1, q2⟩
          · exact .inr (.inl ⟨q1, by rw [q2, HFm.out.2.1], q3⟩)
          · exact .inr (.inr ⟨h0, q1, q2⟩)
      have HOk2 := Lib.hid hok2
      clear HSe hok2
      rcases hcase with h0 | ⟨h0, hse, hps⟩ | ⟨h0, h1, hsf⟩
      · rw [h0]
        clear h0
        go_wp2_with fail
        refine (Sets_any (HI.out _ (Below.refl _ _)).a1).mono ?_; rintro e W3 ⟨v3, rfl, hrd, hb3⟩
        obtain ⟨ao, c3, rfl, hc3, hm3⟩ := hrd.shape
        have HB3 := Lib.hid hb3
        clear hrd hb3
        unfold maxLen at hm3
        go_wp2_with fail
        refine (Pages_any (HI.out _ HB3.out).a1).mono ?_; rintro e W5 ⟨rfl, hb5⟩
        have HB5 := Lib.hid (HB3.out.trans (hb5.mono HB3.out.size))
        clear hb5
        go_wp2_with fail
        refine (count_any (HI.out _ HB5.out).a1 10 ⟨by decide, by decide⟩ hcn).mono ?_; rintro e W6 ⟨rfl, hb6⟩
        have HB6 := Lib.hid (HB5.out.trans (hb6.mono HB5.out.size))
        clear hb6
        go_wp2_with fail
        refine (count_any (HI.out _ HB6.out).a1 12 ⟨by decide, by decide⟩ hcn).mono ?_; rintro e W7 ⟨rfl, hb7⟩
        have HB7 := Lib.hid (HB6.out.trans (hb7.mono HB6.out.size))
        clear hb7
        have HN7 := Lib.hid (HNx.out Ds _ (HE2.out.after HB7.out))
        go_wp2_with fail
        exact ⟨xs.length - (k + 1), by omega, k + 1, stepS f a, Ds, rfl, by omega, rfl, HN7.out⟩
      · rw [h0]
        clear h0
        go_wp2_with fail
        refine (Sets_any (HI.out _ (Below.refl _ _)).a1).mono ?_; rintro e W3 ⟨v3, rfl, hrd, hb3⟩
        obtain ⟨ao, c3, rfl, hc3, hm3⟩ := hrd.shape
        have HB3 := Lib.hid hb3
        clear hrd hb3
        unfold maxLen at hm3
        go_wp2_with fail
        refine (Sets_any (HI.out _ HB3.out).a1).mono ?_; rintro e W4 ⟨v4, rfl, hrd, hb4⟩
        obtain ⟨ao4, c4, rfl, hc4, hm4⟩ := hrd.shape
        have HB4 := Lib.hid (HB3.out.trans (hb4.mono HB3.out.size))
        clear hrd hb4
        go_wp2_with fail
        refine (All_any (HI.out _ HB4.out).a1).mono ?_; rintro e W5 ⟨v5, rfl, fn, lb, rfl, heg, hgv, hb5⟩
        have hgv5 := hgv (fun _ => False) (fun k hk => hk.elim) W5 (Below.refl _ _)
        have HB5 := Lib.hid (HB4.out.trans (hb5.mono HB4.out.size))
        clear hb5 hgv
        go_wp2_with fail
        refine (wpIn_wide (n := 5)).1 (wp_over_a (gf := fn) (lb := lb) rfl heg hgv5 (fun k hk => hk.elim) (fun _ => rfl)
          (fun pre W => ∃ _x : Unit, True ∧ Bxs W5 [] W)
          (fun c pre W => ∃ _x : Unit, False ∧ Bxs W5 [] W)
          (bxs_own W5 (fun _ _ => True) (fun _ _ => []) (Nat.le_refl _)) (fun c => bxs_own W5 (fun _ _ => False) (fun _ _ => []) (Nat.le_refl _)) ⟨(), trivial, Bxs.nil W5⟩
          (fun x => .cells #[.int .i64 x.1.1, .int .i64 x.1.2] 35)
          (fun tm x b => ((((tm.setIfInBounds 107 (.agg #[.int .i64 x.1.1, .int .i64 x.1.2])).setIfInBounds 108 (.int .u32 x.2)).setIfInBounds 11 (.pointer (some ⟨b, 0, none⟩))).setIfInBounds 12 (.int .u32 x.2)))
          ?assign ?body ?done (fun _ _ _ _ _ _ _ hx _ => by obtain ⟨_, h, _⟩ := hx; exact h.elim))
        case assign =>
          intro ll mm x W1 K hK
          gi_wp2
          simp only [List.setIfInBounds_toArray, List.set_cons_zero, List.set_cons_succ] at hK
          exact hK
        case body =>
          rintro ll mm pre x rest W b hf ⟨_, _, hX⟩ hob hbz hbl
          simp only [List.setIfInBounds_toArray, List.set_cons_zero, List.set_cons_succ]
          have hmem : x ∈ (stepS f a).ps := by rw [hf]; simp
          have hIW := HI.out W (HB5.out.trans (hX.below.mono HB5.out.size))
          have hm1 := HOk2.out.may x hmem
          have hm2 : T.may f.fr f.se x.1 = true := by rw [← HFm.out.1.1, ← HFm.out.1.2.1]; exact hm1
          have hgx : T.get f.ps x.1 = x.2 := by rw [← hps]; exact HOk2.out.ris.get_mem hmem
          have hG := Get_any hIW.a2 x.1 (may_pi0 HOk2.out.bd hm1).1
          rw [if_pos hm2, if_pos hm2, hgx] at hG
          have HG := Lib.hid hG
          have d9 := hIW.bx.one B9 HM9.out.1
          have hbk : Blk W b #[.int .i64 x.1.1, .int .i64 x.1.2] 35 := hob
          have y0 := hbk.cell 0
          have y1 := hbk.cell 1
          simp only [List.getElem?_toArray, List.getElem?_cons_zero, List.getElem?_cons_succ] at y0 y1
          have HX := Lib.hid hX
          clear hf hX hob hbk hmem hIW hm1 hm2 hgx hG hbz hbl hps
          obtain ⟨x1, x2⟩ := x
          have hnn : (x2 != x2) = false := by simp
          gi_wp2_with (refine ⟨trivial, fun hd => (by cases hd), ?_⟩; gi_at_call 14; refine (CallsIn.inRound ll (callsIn_wide.2 HG.out)).mono ?_; rintro e W9 ⟨rfl, hb9⟩; have HK9 := Lib.hid hb9; clear hb9 d9 y0 y1)
          exact ⟨⟨HK9.out.size, fun k hk _ => HK9.out.block k hk⟩, (), trivial, HX.out.after HK9.out⟩
        case done =>
          rintro D0 W8 hD0 ⟨_, _, hX8⟩ hK
          have HEm := Lib.hid (HE2.out.mark (HB5.out.trans (hX8.below.mono HB5.out.size)) hwz (D := D0) (Nat.le_trans HB5.out.size hD0) hK)
          obtain ⟨FA8, FB8, hI8, hd8⟩ := id HEm.out
          have HI8 := Lib.hid (fun W (hb : Below W8.heap.size W8 W) => (show LeI w L1 S1 S' (stepS f a) f FA8 FB8 W from hI8.after hb))
          have HB8 := Lib.hid (Below.refl W8.heap.size W8)
          clear hX8 hK hD0 heg hgv5 hI8 hd8
          go_wp2_with fail
          refine (Pages_any (HI8.out _ HB8.out).a1).mono ?_; rintro e W5 ⟨rfl, hb5⟩
          have HB5 := Lib.hid (HB8.out.trans (hb5.mono HB8.out.size))
          clear hb5
          go_wp2_with fail
          refine (count_any (HI8.out _ HB5.out).a1 10 ⟨by decide, by decide⟩ hcn).mono ?_; rintro e W6 ⟨rfl, hb6⟩
          have HB6 := Lib.hid (HB5.out.trans (hb6.mono HB5.out.size))
          clear hb6
          go_wp2_with fail
          refine (count_any (HI8.out _ HB6.out).a1 12 ⟨by decide, by decide⟩ hcn).mono ?_; rintro e W7 ⟨rfl, hb7⟩
          have HB7 := Lib.hid (HB6.out.trans (hb7.mono HB6.out.size))
          clear hb7
          have HN7 := Lib.hid (HNx.out (D0 :: Ds) _ (HEm.out.after HB7.out))
          go_wp2_with fail
          exact ⟨xs.length - (k + 1), by omega, k + 1, stepS f a, D0 :: Ds, rfl, by omega, rfl, HN7.out⟩
      · have d0 : decide (stepE f a = 0) = false := by simp [h0]
        have d1 : decide (stepE f a = 120) = false := by simp [h1]
        have b0 : (stepE f a == 0) = false := by simp [h0]
        have b1 : (stepE f a == 120) = false := by simp [h1]
        have n0 : (stepE f a != 0) = true := by simp [h0]
        have n1 : (stepE f a != 120) = true := by simp [h1]
        have hdec : decide ((stepS f a).ss = f.ss ∧ (stepS f a).ps = f.ps) = true := by rw [hsf]; simp
        have HDec := Lib.hid hdec
        clear hsf hdec
        generalize stepE f a = E at h0 h1 d0 d1 b0 b1 n0 n1 ⊢
        go_wp2_with fail
        refine (Sets_any (HI.out _ (Below.refl _ _)).a1).mono ?_; rintro e W3 ⟨v3, rfl, hrd, hb3⟩
        obtain ⟨ao, c3, rfl, hc3, hm3⟩ := hrd.shape
        have HB3 := Lib.hid hb3
        clear hrd hb3
        unfold maxLen at hm3
        have d9 := (HI.out _ HB3.out).bx.one B9 HM9.out.1
        go_wp2_with fail
        refine (Same_any (HI.out _ HB3.out).a1 (HI.out _ HB3.out).a2 HFm.out.1).mono ?_; rintro e W4 ⟨he4, hb4⟩
        rw [HDec.out] at he4
        obtain rfl := he4
        have HB4 := Lib.hid (HB3.out.trans (hb4.mono HB3.out.size))
        clear hb4 d9
        go_wp2_with fail
        refine (Pages_any (HI.out _ HB4.out).a1).mono ?_; rintro e W5 ⟨rfl, hb5⟩
        have HB5 := Lib.hid (HB4.out.trans (hb5.mono HB4.out.size))
        clear hb5
        go_wp2_with fail
        refine (count_any (HI.out _ HB5.out).a1 10 ⟨by decide, by decide⟩ hcn).mono ?_; rintro e W6 ⟨rfl, hb6⟩
        have HB6 := Lib.hid (HB5.out.trans (hb6.mono HB5.out.size))
        clear hb6
        go_wp2_with fail
        refine (count_any (HI.out _ HB6.out).a1 12 ⟨by decide, by decide⟩ hcn).mono ?_; rintro e W7 ⟨rfl, hb7⟩
        have HB7 := Lib.hid (HB6.out.trans (hb7.mono HB6.out.size))
        clear hb7
        have HN7 := Lib.hid (HNx.out (Ds) _ (HE2.out.after HB7.out))
        go_wp2_with fail
        exact ⟨xs.length - (k + 1), by omega, k + 1, stepS f a, Ds, rfl, by omega, rfl, HN7.out⟩
    · have HE := Lib.hid (show (f.apply a.ts).2 = stepE f a ∧ (f.apply a.ts).1 = stepS f a by unfold stepE stepS; rw [if_neg hk1, if_neg hk1]; exact ⟨rfl, rfl⟩)
      have HTs := Lib.hid (fun W (hb : Below w.heap.size w W) => (HFx.out W hb).2.1)
      go_wp2_with fail
      refine (HE1.out.apply1 HTs.out (by omega)).mono ?_
      rintro e W2 ⟨rfl, hle2⟩
      rw [HE.out.1]
      rw [HE.out.2] at hle2
      have HE2 := Lib.hid hle2
      clear hle2 y0 y1 y2 y3 y4 y5 HE HTs HE1 HFx
      generalize w1'.heap.size = B9 at HM9 HE2 ⊢
      obtain ⟨FA, FB, hI, hd⟩ := id HE2.out
      have HI := Lib.hid (fun W (hb : Below W2.heap.size W2 W) => (show LeI w L1 S1 S' (stepS f a) f FA FB W from hI.after hb))
      have hok2 := hI.a1.ok
      have hle : ((stepS f a).ss.length : Int) ≤ bd := by have := hok2.sets.len; have := HFm.out.2.2; omega
      have hcn : (stepS f a).ps.length ≤ 900000 := by omega
      have HNx : Hid (∀ Ds' W, FuE w L1 S1 S' (stepS f a) f Ds' W → FuS w L S1 bd (k + 1) (stepS f a) Ds' W) := fun Ds' W h => ⟨h.first HM9.out.2, HFm.out.2.2, hl2⟩
      have hwz : w.heap.size < W2.heap.size := (hI.bx.get _ (HM9.out.2 _ HM.out)).lt
      clear hI hd
      have hcase : stepE f a = 0 ∨ (stepE f a = 120 ∧ ((stepS f a).ss.length : Int) = bd ∧ (stepS f a).ps = f.ps) ∨ (stepE f a ≠ 0 ∧ stepE f a ≠ 120 ∧ stepS f a = f) := by
        by_cases h0 : stepE f a = 0
        · exact .inl h0
        · rcases HSe.out h0 with ⟨q1, q2, q3⟩ | ⟨q1, q2⟩
          · exact .inr (.inl ⟨q1, by rw [q2, HFm.out.2.1], q3⟩)
          · exact .inr (.inr ⟨h0, q1, q2⟩)
      have HOk2 := Lib.hid hok2
      clear HSe hok2
      rcases hcase with h0 | ⟨h0, hse, hps⟩ | ⟨h0, h1, hsf⟩
      · rw [h0]
        clear h0
        go_wp2_with fail
        refine (Sets_any (HI.out _ (Below.refl _ _)).a1).mono ?_; rintro e W3 ⟨v3, rfl, hrd, hb3⟩
        obtain ⟨ao, c3, rfl, hc3, hm3⟩ := hrd.shape
        have HB3 := Lib.hid hb3
        clear hrd hb3
        unfold maxLen at hm3
        go_wp2_with fail
        refine (Pages_any (HI.out _ HB3.out).a1).mono ?_; rintro e W5 ⟨rfl, hb5⟩
        have HB5 := Lib.hid (HB3.out.trans (hb5.mono HB3.out.size))
        clear hb5
        go_wp2_with fail
        refine (count_any (HI.out _ HB5.out).a1 10 ⟨by decide, by decide⟩ hcn).mono ?_; rintro e W6 ⟨rfl, hb6⟩
        have HB6 := Lib.hid (HB5.out.trans (hb6.mono HB5.out.size))
        clear hb6
        go_wp2_with fail
        refine (count_any (HI.out _ HB6.out).a1 12 ⟨by decide, by decide⟩ hcn).mono ?_; rintro e W7 ⟨rfl, hb7⟩
        have HB7 := Lib.hid (HB6.out.trans (hb7.mono HB6.out.size))
        clear hb7
        have HN7 := Lib.hid (HNx.out Ds _ (HE2.out.after HB7.out))
        go_wp2_with fail
        exact ⟨xs.length - (k + 1), by omega, k + 1, stepS f a, Ds, rfl, by omega, rfl, HN7.out⟩
      · rw [h0]
        clear h0
        go_wp2_with fail
        refine (Sets_any (HI.out _ (Below.refl _ _)).a1).mono ?_; rintro e W3 ⟨v3, rfl, hrd, hb3⟩
        obtain ⟨ao, c3, rfl, hc3, hm3⟩ := hrd.shape
        have HB3 := Lib.hid hb3
        clear hrd hb3
        unfold maxLen at hm3
        go_wp2_with fail
        refine (Sets_any (HI.out _ HB3.out).a1).mono ?_; rintro e W4 ⟨v4, rfl, hrd, hb4⟩
        obtain ⟨ao4, c4, rfl, hc4, hm4⟩ := hrd.shape
        have HB4 := Lib.hid (HB3.out.trans (hb4.mono HB3.out.size))
        clear hrd hb4
        go_wp2_with fail
        refine (All_any (HI.out _ HB4.out).a1).mono ?_; rintro e W5 ⟨v5, rfl, fn, lb, rfl, heg, hgv, hb5⟩
        have hgv5 := hgv (fun _ => False) (fun k hk => hk.elim) W5 (Below.refl _ _)
        have HB5 := Lib.hid (HB4.out.trans (hb5.mono HB4.out.size))
        clear hb5 hgv
        go_wp2_with fail
        refine (wpIn_wide (n := 5)).1 (wp_over_a (gf := fn) (lb := lb) rfl heg hgv5 (fun k hk => hk.elim) (fun _ => rfl)
          (fun pre W => ∃ _x : Unit, True ∧ Bxs W5 [] W)
          (fun c pre W => ∃ _x : Unit, False ∧ Bxs W5 [] W)
          (bxs_own W5 (fun _ _ => True) (fun _ _ => []) (Nat.le_refl _)) (fun c => bxs_own W5 (fun _ _ => False) (fun _ _ => []) (Nat.le_refl _)) ⟨(), trivial, Bxs.nil W5⟩
          (fun x => .cells #[.int .i64 x.1.1, .int .i64 x.1.2] 35)
          (fun tm x b => ((((tm.setIfInBounds 107 (.agg #[.int .i64 x.1.1, .int .i64 x.1.2])).setIfInBounds 108 (.int .u32 x.2)).setIfInBounds 11 (.pointer (some ⟨b, 0, none⟩))).setIfInBounds 12 (.int .u32 x.2)))
          ?assign ?body ?done (fun _ _ _ _ _ _ _ hx _ => by obtain ⟨_, h, _⟩ := hx; exact h.elim))
        case assign =>
          intro ll mm x W1 K hK
          gi_wp2
          simp only [List.setIfInBounds_toArray, List.set_cons_zero, List.set_cons_succ] at hK
          exact hK
        case body =>
          rintro ll mm pre x rest W b hf ⟨_, _, hX⟩ hob hbz hbl
          simp only [List.setIfInBounds_toArray, List.set_cons_zero, List.set_cons_succ]
          have hmem : x ∈ (stepS f a).ps := by rw [hf]; simp
          have hIW := HI.out W (HB5.out.trans (hX.below.mono HB5.out.size))
          have hm1 := HOk2.out.may x hmem
          have hm2 : T.may f.fr f.se x.1 = true := by rw [← HFm.out.1.1, ← HFm.out.1.2.1]; exact hm1
          have hgx : T.get f.ps x.1 = x.2 := by rw [← hps]; exact HOk2.out.ris.get_mem hmem
          have hG := Get_any hIW.a2 x.1 (may_pi0 HOk2.out.bd hm1).1
          rw [if_pos hm2, if_pos hm2, hgx] at hG
          have HG := Lib.hid hG
          have d9 := hIW.bx.one B9 HM9.out.1
          have hbk : Blk W b #[.int .i64 x.1.1, .int .i64 x.1.2] 35 := hob
          have y0 := hbk.cell 0
          have y1 := hbk.cell 1
          simp only [List.getElem?_toArray, List.getElem?_cons_zero, List.getElem?_cons_succ] at y0 y1
          have HX := Lib.hid hX
          clear hf hX hob hbk hmem hIW hm1 hm2 hgx hG hbz hbl hps
          obtain ⟨x1, x2⟩ := x
          have hnn : (x2 != x2) = false := by simp
          gi_wp2_with (refine ⟨trivial, fun hd => (by cases hd), ?_⟩; gi_at_call 14; refine (CallsIn.inRound ll (callsIn_wide.2 HG.out)).mono ?_; rintro e W9 ⟨rfl, hb9⟩; have HK9 := Lib.hid hb9; clear hb9 d9 y0 y1)
          exact ⟨⟨HK9.out.size, fun k hk _ => HK9.out.block k hk⟩, (), trivial, HX.out.after HK9.out⟩
        case done =>
          rintro D0 W8 hD0 ⟨_, _, hX8⟩ hK
          have HEm := Lib.hid (HE2.out.mark (HB5.out.trans (hX8.below.mono HB5.out.size)) hwz (D := D0) (Nat.le_trans HB5.out.size hD0) hK)
          obtain ⟨FA8, FB8, hI8, hd8⟩ := id HEm.out
          have HI8 := Lib.hid (fun W (hb : Below W8.heap.size W8 W) => (show LeI w L1 S1 S' (stepS f a) f FA8 FB8 W from hI8.after hb))
          have HB8 := Lib.hid (Below.refl W8.heap.size W8)
          clear hX8 hK hD0 heg hgv5 hI8 hd8
          go_wp2_with fail
          refine (Pages_any (HI8.out _ HB8.out).a1).mono ?_; rintro e W5 ⟨rfl, hb5⟩
          have HB5 := Lib.hid (HB8.out.trans (hb5.mono HB8.out.size))
          clear hb5
          go_wp2_with fail
          refine (count_any (HI8.out _ HB5.out).a1 10 ⟨by decide, by decide⟩ hcn).mono ?_; rintro e W6 ⟨rfl, hb6⟩
          have HB6 := Lib.hid (HB5.out.trans (hb6.mono HB5.out.size))
          clear hb6
          go_wp2_with fail
          refine (count_any (HI8.out _ HB6.out).a1 12 ⟨by decide, by decide⟩ hcn).mono ?_; rintro e W7 ⟨rfl, hb7⟩
          have HB7 := Lib.hid (HB6.out.trans (hb7.mono HB6.out.size))
          clear hb7
          have HN7 := Lib.hid (HNx.out (D0 :: Ds) _ (HEm.out.after HB7.out))
          go_wp2_with fail
          exact ⟨xs.length - (k + 1), by omega, k + 1, stepS f a, D0 :: Ds, rfl, by omega, rfl, HN7.out⟩
      · have d0 : decide (stepE f a = 0) = false := by simp [h0]
        have d1 : decide (stepE f a = 120) = false := by simp [h1]
        have b0 : (stepE f a == 0) = false := by simp [h0]
        have b1 : (stepE f a == 120) = false := by simp [h1]
        have n0 : (stepE f a != 0) = true := by simp [h0]
        have n1 : (stepE f a != 120) = true := by simp [h1]
        have hdec : decide ((stepS f a).ss = f.ss ∧ (stepS f a).ps = f.ps) = true := by rw [hsf]; simp
        have HDec := Lib.hid hdec
        clear hsf hdec
        generalize stepE f a = E at h0 h1 d0 d1 b0 b1 n0 n1 ⊢
        go_wp2_with fail
        refine (Sets_any (HI.out _ (Below.refl _ _)).a1).mono ?_; rintro e W3 ⟨v3, rfl, hrd, hb3⟩
        obtain ⟨ao, c3, rfl, hc3, hm3⟩ := hrd.shape
        have HB3 := Lib.hid hb3
        clear hrd hb3
        unfold maxLen at hm3
        have d9 := (HI.out _ HB3.out).bx.one B9 HM9.out.1
        go_wp2_with fail
        refine (Same_any (HI.out _ HB3.out).a1 (HI.out _ HB3.out).a2 HFm.out.1).mono ?_; rintro e W4 ⟨he4, hb4⟩
        rw [HDec.out] at he4
        obtain rfl := he4
        have HB4 := Lib.hid (HB3.out.trans (hb4.mono HB3.out.size))
        clear hb4 d9
        go_wp2_with fail
        refine (Pages_any (HI.out _ HB4.out).a1).mono ?_; rintro e W5 ⟨rfl, hb5⟩
        have HB5 := Lib.hid (HB4.out.trans (hb5.mono HB4.out.size))
        clear hb5
        go_wp2_with fail
        refine (count_any (HI.out _ HB5.out).a1 10 ⟨by decide, by decide⟩ hcn).mono ?_; rintro e W6 ⟨rfl, hb6⟩
        have HB6 := Lib.hid (HB5.out.trans (hb6.mono HB5.out.size))
        clear hb6
        go_wp2_with fail
        refine (count_any (HI.out _ HB6.out).a1 12 ⟨by decide, by decide⟩ hcn).mono ?_; rintro e W7 ⟨rfl, hb7⟩
        have HB7 := Lib.hid (HB6.out.trans (hb7.mono HB6.out.size))
        clear hb7
        have HN7 := Lib.hid (HNx.out (Ds) _ (HE2.out.after HB7.out))
        go_wp2_with fail
        exact ⟨xs.length - (k + 1), by omega, k + 1, stepS f a, Ds, rfl, by omega, rfl, HN7.out⟩
  · obtain rfl : k = xs.length := by omega
    go_wp2_with fail
    refine (known_any _).mono ?_
    rintro e w5 ⟨rfl, hb5⟩
    have H5 := Lib.hid (HS.out.o.after hb5)
    have hbx := H5.out.on.bx.get _ HM.out
    have c0 := hbx.cell 0
    have z0 := hbx.frozen 0
    have HC := Lib.hid ((hbx.setCell 0 (.bool true)).cell 0)
    have HBw := Lib.hid H5.out.on.bx.below
    clear hb5 hbx
    go_wp2_with fail
    refine leaves_cell (w := w) (Nat.le_refl _) (fun W h => by simp [results, Tryz.results4, go_sem, h]) (fun W hb => ⟨rfl, hb⟩) Ds _ H5.out.dfs.1 (fun i hi => ?_) HC.out (HBw.out.setCell (p := ⟨w.heap.size, 0, none⟩) (Nat.le_refl _) _)
    have hd := H5.out.dfs.2 i hi
    exact ⟨by omega, by omega, (Below.heap_setCell _ _ _ _ (by dsimp only; omega)).trans hd.2⟩
end Go.Proofs.YtdpdoclhdjhjkaaGreat
