/-
  Layer 12: the statement FlowLess: a walk.
-/
import Derived.Test.YtdpdoclhdjhjkaaGreatG46
import Derived.Test.YtdpdoclhdjhjkaaGreatG45
import Derived.Test.YtdpdoclhdjhjkaaGreatG44
import Derived.Test.YtdpdoclhdjhjkaaGreatG27
import Derived.Laws.ShiftsVarLaws
set_option linter.unusedVariables false
set_option linter.unusedSimpArgs false
namespace Go.Proofs.YtdpdoclhdjhjkaaGreat
open Go.RowKit Go.Shelf
set_option maxHeartbeats 8000000
set_option maxRecDepth 100000
set_option linter.unusedVariables false
set_option linter.unusedSimpArgs false
attribute [local go_sem] Oper.semAt_some

theorem Less_few (lb : Int) {v : Value} {xs : List Ac} {w : World} (h : ActsIn w v xs) (hq : vastS xs = true ∨ lb < 0 ∨ 16 ≤ lb) : Calls Tryz.prog 3 #[v, .int .i64 lb] w fun e w' => e = .returned (.bool true) ∧ Below w.heap.size w w' := by
  have H0 := Lib.hid ((Bxs.nil w).alloc #[.bool false] 4)
  have HV := Lib.hid (vast_any (h.below (bel1 w (.cells #[.bool false] 4))))
  have HQ := Lib.hid hq
  clear h hq
  go_enter Tryz.func3, Tryz.ntmps3
  go_wp2_with fail
  refine HV.out.mono ?_
  rintro e w1 ⟨rfl, hb⟩
  have H1 := Lib.hid (H0.out.after hb)
  clear hb HV H0
  have hcase : vastS xs = true ∨ (vastS xs = false ∧ lb < 0) ∨ (vastS xs = false ∧ ¬ lb < 0 ∧ 16 ≤ lb) := by
    have := HQ.out
    cases e : vastS xs with
    | true => exact .inl rfl
    | false =>
      simp only [e, Bool.false_eq_true, false_or] at this
      by_cases h : lb < 0
      · exact .inr (.inl ⟨rfl, h⟩)
      · exact .inr (.inr ⟨rfl, h, by omega⟩)
  have hbx := H1.out.get w.heap.size (cs := #[.bool false]) (ty := 4) (by simp)
  have c0 := hbx.cell 0
  have z0 := hbx.frozen 0
  have hbel := Lib.hid H1.out.below
  rcases hcase with hv | ⟨hv, hl0⟩ | ⟨hv, hl0, hl16⟩
  all_goals
    rw [hv]
    go_wp2_with fail
    refine (known_any _).mono ?_
    rintro e w2 ⟨rfl, hb2⟩
    have H2 := Lib.hid (H1.out.after hb2)
    have hbx2 := H2.out.get w.heap.size (cs := #[.bool false]) (ty := 4) (by simp)
    clear c0 z0 hbx
    have c0 := hbx2.cell 0
    have z0 := hbx2.frozen 0
    have HC := Lib.hid ((hbx2.setCell 0 (.bool true)).cell 0)
    have HB := Lib.hid (H2.out.below.setCell (p := ⟨w.heap.size, 0, none⟩) (Nat.le_refl _) (.bool true))
    clear hb2 hbx2
    go_wp2_with fail
    have hc : (w2.setCell ⟨w.heap.size, 0, none⟩ (.bool true)).cell? ⟨w.heap.size, 0, none⟩ = some (.bool true) := HC.out
    exact ⟨rfl, .bool true, by simp [results, Tryz.results3, go_sem, hc], rfl, HB.out⟩
theorem clr_bits {l : Nat} (hl : l < 16) {x : Int} (hx : W32 x) : bits .andNot .u32 x ((2 : Int) ^ l % 4294967296) = clr l x := by
  have e : ((2 : Int) ^ l % 4294967296) = ((2 ^ l : Nat) : Int) := by
    have : ∀ k : Fin 16, ((2 : Int) ^ k.val % 4294967296) = ((2 ^ k.val : Nat) : Int) := by decide
    exact this ⟨l, hl⟩
  have hp : (2 : Nat) ^ l < 65536 ∧ 4294967295 - 2 ^ l = 4294967295 ^^^ 2 ^ l := by
    have : ∀ k : Fin 16, (2 : Nat) ^ k.val < 65536 ∧ 4294967295 - 2 ^ k.val = 4294967295 ^^^ 2 ^ k.val := by decide
    exact this ⟨l, hl⟩
  rw [e, u32_andNot x _ hx.1 hx.2 (by omega) (by omega), Int.toNat_natCast, hp.2]
  rfl
theorem clr_w32 (l : Nat) {x : Int} (hx : W32 x) : W32 (clr l x) := by
  obtain ⟨h0, h1⟩ := hx
  unfold clr
  have := Nat.and_le_left (n := x.toNat) (m := 4294967295 ^^^ 2 ^ l)
  exact ⟨by omega, by omega⟩
/-- A round of the first loop. -/
structure LsR (w : World) (L : List Bx) (S1 S2 : Nat) (l : Nat) (k : Nat) (f g : T.Fl) (W : World) : Prop where
  e : LeE w L S1 S2 f g W
  lf : Lf l f g
  mo : f.mo = 65536 ∧ g.mo = 65536
  n1 : f.ss.length ≤ 1 + 21 * k
  n2 : g.ss.length ≤ 1 + 21 * k
theorem FlowLess_walk (lb : Int) {v : Value} {xs : List Ac} {w : World} (h : ActsIn w v xs) (hl : I64 lb) : Calls Tryz.prog 3 #[v, .int .i64 lb] w fun e w' => e = .returned (.bool true) ∧ Below w.heap.size w w' := by
  by_cases hq : vastS xs = true ∨ lb < 0 ∨ 16 ≤ lb
  · exact Less_few lb h hq
  have hv : vastS xs = false := by
    cases e : vastS xs with
    | false => rfl
    | true => exact absurd (.inl e) hq
  have l0 : 0 ≤ lb := by omega
  have l16 : lb < 16 := by omega
  obtain ⟨hx30, hxa⟩ := vast_no hv
  obtain ⟨l, rfl⟩ : ∃ l : Nat, lb = (l : Int) := ⟨lb.toNat, by omega⟩
  have hl16 : l < 16 := by omega
  have HXs := Lib.hid h
  have H0 := Lib.hid (show Bxs w [(w.heap.size + 1, #[.int .i64 2, .int .i64 2], 26), (w.heap.size, #[.bool false], 4)] ((w.alloc (.cells #[.bool false] 4)).alloc (.cells #[.int .i64 2, .int .i64 2] 26)) by
    have := ((Bxs.nil w).alloc #[.bool false] 4).alloc #[.int .i64 2, .int .i64 2] 26
    simp only [World.size_alloc] at this
    exact this)
  have hvs := vast_any (h.below (bel1 w (.cells #[.bool false] 4)))
  rw [hv] at hvs
  have HV := Lib.hid hvs
  obtain ⟨oa, ca, rfl, _, hla⟩ := h.shape
  unfold maxLen at hla
  clear h hq hv hvs hl
  refine (callsIn_wide (n := 5)).1 ?_
  refine callsIn_of_wp_marks Tryz.func3 rfl trivial ?_ rfl
  refine wpIn_wide.2 ?_
  simp only [Tryz.ntmps3, List.size_toArray, List.length_cons, List.length_nil, Nat.reduceAdd, Nat.reduceSub, Array.replicate_succ, Array.replicate_zero, List.push_toArray, List.append_toArray, List.nil_append, List.cons_append]
  go_wp2_with fail
  refine HV.out.mono ?_
  rintro e w1 ⟨rfl, hb⟩
  have H1 := Lib.hid (((Bxs.nil w).alloc #[.bool false] 4).after hb)
  have H2 := Lib.hid (H1.out.alloc #[.int .i64 2, .int .i64 2] 26)
  clear hb HV H0
  have x0 := (H2.out.get w1.heap.size (cs := #[.int .i64 2, .int .i64 2]) (ty := 26) (by simp)).cell 0
  have x1 := (H2.out.get w1.heap.size (cs := #[.int .i64 2, .int .i64 2]) (ty := 26) (by simp)).cell 1
  go_wp2_with fail
  refine (New_any 2 2 65536 (by omega) _).mono ?_
  rintro e w2 ⟨S1, F1, rfl, hat, hF, hb⟩
  have hlt1 : w.heap.size < w1.heap.size := (H1.out.get w.heap.size (cs := #[.bool false]) (ty := 4) (by simp)).lt
  have H3 : Hid (OnE w [(w1.heap.size, #[.int .i64 2, .int .i64 2], 26), (w.heap.size, #[.bool false], 4)] S1 ⟨2, 2, 65536, [0], []⟩ w2) := ⟨F1, hat, fun k hk => by have := hF k hk; simp only [World.size_alloc] at this; omega, H2.out.after hb, fun p hp e => by
    have := hF _ e
    simp only [World.size_alloc] at this
    simp only [List.mem_cons, List.not_mem_nil, or_false] at hp
    rcases hp with rfl | rfl
    · dsimp only at this; omega
    · dsimp only at this; omega⟩
  have H4 := Lib.hid (H3.out.box #[.pointer (some ⟨S1, 0, none⟩)] 27)
  clear hat hF hb H1 H2 H3 x0 x1
  have x0 := (H4.out.bx.get w1.heap.size (cs := #[.int .i64 2, .int .i64 2]) (ty := 26) (by simp)).cell 0
  have x1 := (H4.out.bx.get w1.heap.size (cs := #[.int .i64 2, .int .i64 2]) (ty := 26) (by simp)).cell 1
  go_wp2_with fail
  refine (New_any 2 2 65536 (by omega) _).mono ?_
  rintro e w3 ⟨S2, F2, rfl, hat, hF, hb⟩
  have H5 := Lib.hid ((H4.out.with hb hat hF).box #[.pointer (some ⟨S2, 0, none⟩)] 27)
  have hz3 := hb.size
  clear hat hF hb H4 x0 x1
  have H6 := Lib.hid (H5.out.box #[.int .u32 ((2 : Int) ^ l % 4294967296)] 31)
  rw [World.size_alloc] at H6
  have HCl := Lib.hid (fun x (hx : W32 x) => clr_bits hl16 hx)
  have HO16 := Lib.hid hl16
  clear H5
  go_wp2_with fail
  generalize (2 : Int) ^ l % 4294967296 = ov at H6 HCl ⊢
  generalize (w3.alloc (.cells #[.pointer (some ⟨S2, 0, none⟩)] 27)).alloc (.cells #[.int .u32 ov] 31) = w4 at H6 ⊢
  generalize w3.heap.size + 1 = B10 at H6 ⊢
  generalize w3.heap.size = B8 at H6 ⊢
  generalize w2.heap.size = B6 at H6 ⊢
  obtain ⟨L, hL⟩ : ∃ L : List Bx, L = [(B10, #[.int .u32 ov], 31), (B8, #[.pointer (some ⟨S2, 0, none⟩)], 27), (B6, #[.pointer (some ⟨S1, 0, none⟩)], 27), (w1.heap.size, #[.int .i64 2, .int .i64 2], 26), (w.heap.size, #[.bool false], 4)] := ⟨_, rfl⟩
  rw [← hL] at H6
  have m10 : (B10, #[.int .u32 ov], 31) ∈ L := by rw [hL]; simp
  have m8 : (B8, #[.pointer (some ⟨S2, 0, none⟩)], 27) ∈ L := by rw [hL]; simp
  have m6 : (B6, #[.pointer (some ⟨S1, 0, none⟩)], 27) ∈ L := by rw [hL]; simp
  have m0 : (w.heap.size, #[.bool false], 4) ∈ L := by rw [hL]; simp
  have HM := Lib.hid (And.intro m10 (And.intro m8 (And.intro m6 m0)))
  have HR0 : Hid (LsR w L S1 S2 l 0 ⟨2, 2, 65536, [0], []⟩ ⟨2, 2, 65536, [0], []⟩ w4) := ⟨H6.out, ⟨rfl, rfl, ls_nil l⟩, ⟨rfl, rfl⟩, by simp, by simp⟩
  clear hL m10 m8 m6 m0 H6
  go_loopw [11] (fun i wr => ∃ (k : Nat) (f g : T.Fl), k ≤ xs.length ∧ i = .int .i64 (k : Int) ∧ Hid (LsR w L S1 S2 l k f g wr)) (fun i _ => xs.length + 1 - natI i)
  case atStart => exact ⟨0, _, _, by omega, rfl, HR0.out⟩
  case round =>
    obtain ⟨k, f, g, hk, rfl, HR⟩ := hrel
    clear HR0
    by_cases hlt : k < xs.length
    · have hi : (k : Int) < (xs.length : Int) := by omega
      obtain ⟨g1, o1, c1, a, tv, e1, ha1, hac, hg1, hfx⟩ := HXs.out.fix hlt
      simp at e1
      obtain ⟨rfl, rfl⟩ := e1
      obtain ⟨hnv, htl⟩ := hxa a (List.mem_of_getElem? ha1)
      have HFx := Lib.hid hfx
      have hk29 : k ≤ 29 := by omega
      have HSt := Lib.hid (less_step HO16.out HR.out.e.ok.1 HR.out.e.ok.2 HR.out.lf a hac (by have := HR.out.n1; have := HR.out.mo.1; omega) (by have := HR.out.n2; have := HR.out.mo.2; omega))
      have HNx : Hid (∀ W, LeE w L S1 S2 (stepS f a) (stepS g (lessA l a)) W → LsR w L S1 S2 l (k + 1) (stepS f a) (stepS g (lessA l a)) W) := fun W hW => ⟨hW, HSt.out.2.1, ⟨(step_form f a).2.2.trans HR.out.mo.1, (step_form g (lessA l a)).2.2.trans HR.out.mo.2⟩, by have := HSt.out.2.2.1; have := HR.out.n1; omega, by have := HSt.out.2.2.2; have := HR.out.n2; omega⟩
      obtain ⟨y0, y1, y2, y3, y4, y5⟩ := (HFx.out wr HR.out.e.b).1
      clear hfx ha1
      obtain ⟨hak, han, hap, has⟩ := id hac
      by_cases hk1 : a.k = 1
      · have e2 : (g.mark a.p a.n (clr l a.s)).2 = (f.mark a.p a.n a.s).2 := by
          have := HSt.out.1
          unfold stepE at this
          rwa [if_pos hk1, if_pos (show (lessA l a).k = 1 from hk1)] at this
        have e3 : stepS f a = (f.mark a.p a.n a.s).1 := by unfold stepS; rw [if_pos hk1]
        have e4 : stepS g (lessA l a) = (g.mark a.p a.n (clr l a.s)).1 := by unfold stepS; rw [if_pos (show (lessA l a).k = 1 from hk1)]; rfl
        have HE := Lib.hid (And.intro e2 (And.intro e3 e4))
        clear e2 e3 e4
        go_wp2
        refine wp_region_noPanic ?_
        refine Free.any (fun W => Bxs w L W) (fun W W' h hb => h.after hb) HR.out.e.bx.drew (fun st => ?_)
        refine Free.tk 0 (some 65) ?_ (hy := by intro W hW; have d := hW.one B6 HM.out.2.2.1; go_simp; try with_reducible rfl)
        refine Free.tk 1 (some 66) ?_
        refine Free.tk 2 (some 67) ?_
        refine Free.tk 3 (some 68) ?_
        refine Free.tk 4 (some 69) ?_
        refine Free.tk 5 (some 70) (v := .agg #[.int .i64 a.p.1, .int .i64 a.p.2]) ?_ (hy := by intro W hW; obtain ⟨z0, z1, z2, z3, z4, z5⟩ := (HFx.out W hW.below).1; go_simp; try with_reducible rfl)
        refine Free.tk 6 (some 71) ?_
        refine Free.tk 7 (some 72) ?_
        refine Free.tk 8 (some 73) ?_
        refine Free.tk 9 (some 74) ?_
        refine Free.tk 10 (some 75) ?_ (hy := by intro W hW; obtain ⟨z0, z1, z2, z3, z4, z5⟩ := (HFx.out W hW.below).1; go_simp; try with_reducible rfl)
        refine Free.tk 11 (some 76) ?_
        refine Free.one 12 (fun W hb hW => ?_)
        refine o_callb (some 77) (by go_simp; first | exact ⟨rfl, rfl⟩ | rfl) ?_
        refine (((HR.out.e.after (Below.refl _ _).drew).after hb).mark1 a.p hap a.n a.s han has).mono ?_
        rintro e V ⟨rfl, hle⟩
        refine ⟨_, rfl, hle.bx, ?_⟩
        refine Free.tk 13 (some 12) ?_
        refine Free.done (fun W2 hb2 hW2 => NoPanic.normal ?_)
        have HL2 := Lib.hid (hle.after hb2)
        clear hb hW hle hb2 hW2 st HR y0 y1 y2 y3 y4 y5
        go_wp2
        refine wp_region_noPanic ?_
        refine Free.any (fun W => Bxs w L W) (fun W W' h hb => h.after hb) HL2.out.bx.drew (fun st => ?_)
        refine Free.tk 0 (some 78) ?_ (hy := by intro W hW; have d := hW.one B8 HM.out.2.1; go_simp; try with_reducible rfl)
        refine Free.tk 1 (some 79) ?_
        refine Free.tk 2 (some 80) ?_
        refine Free.tk 3 (some 81) ?_
        refine Free.tk 4 (some 82) ?_
        refine Free.tk 5 (some 83) (v := .agg #[.int .i64 a.p.1, .int .i64 a.p.2]) ?_ (hy := by intro W hW; obtain ⟨z0, z1, z2, z3, z4, z5⟩ := (HFx.out W hW.below).1; go_simp; try with_reducible rfl)
        refine Free.tk 6 (some 84) ?_
        refine Free.tk 7 (some 85) ?_
        refine Free.tk 8 (some 86) ?_
        refine Free.tk 9 (some 87) ?_
        refine Free.tk 10 (some 88) ?_ (hy := by intro W hW; obtain ⟨z0, z1, z2, z3, z4, z5⟩ := (HFx.out W hW.below).1; go_simp; try with_reducible rfl)
        refine Free.tk 11 (some 89) ?_
        refine Free.tk 12 (some 90) ?_ (hy := by intro W hW; have d := hW.one B10 HM.out.1; go_simp; try with_reducible rfl)
        refine Free.tk 13 (some 91) (v := .int .u32 (clr l a.s)) ?_ (hy := by intro W hW; have hc := HCl.out a.s has; go_simp; try simp [hc])
        refine Free.one 14 (fun W hb hW => ?_)
        refine o_callb (some 92) (by go_simp; first | exact ⟨rfl, rfl⟩ | rfl) ?_
        refine (((HL2.out.after (Below.refl _ _).drew).after hb).mark2 a.p hap a.n (clr l a.s) han (clr_w32 l has)).mono ?_
        rintro e V ⟨rfl, hle⟩
        refine ⟨_, rfl, hle.bx, ?_⟩
        rw [HE.out.1]
        refine Free.tk 15 (some 13) ?_
        refine Free.done (fun W2 hb2 hW2 => NoPanic.normal ?_)
        have hle2 := hle.after hb2
        rw [← HE.out.2.1, ← HE.out.2.2] at hle2
        have HN2 := Lib.hid (HNx.out _ hle2)
        obtain ⟨E, hE⟩ : ∃ E, Hid (E = (f.mark a.p a.n a.s).2) := ⟨_, rfl⟩
        rw [← hE.out]
        have hnn : (E != E) = false := by simp
        clear hb hW hle hle2 hb2 hW2 st HL2
        go_wp2
        exact ⟨⟨k + 1, _, _, by omega, by go_num, HN2.out⟩, by simp [natI]; omega⟩
      · have e2 : (g.apply a.ts).2 = (f.apply a.ts).2 := by
          have := HSt.out.1
          unfold stepE at this
          rwa [if_neg hk1, if_neg (show ¬ (lessA l a).k = 1 from hk1)] at this
        have e3 : stepS f a = (f.apply a.ts).1 := by unfold stepS; rw [if_neg hk1]
        have e4 : stepS g (lessA l a) = (g.apply a.ts).1 := by unfold stepS; rw [if_neg (show ¬ (lessA l a).k = 1 from hk1)]; rfl
        have HE := Lib.hid (And.intro e2 (And.intro e3 e4))
        have HTs := Lib.hid (fun W (hb : Below w.heap.size w W) => (HFx.out W hb).2.1)
        clear e2 e3 e4
        go_wp2
        refine wp_region_noPanic ?_
        refine Free.any (fun W => Bxs w L W) (fun W W' h hb => h.after hb) HR.out.e.bx.drew (fun st => ?_)
        refine Free.tk 0 (some 93) ?_ (hy := by intro W hW; have d := hW.one B6 HM.out.2.2.1; go_simp; try with_reducible rfl)
        refine Free.tk 1 (some 94) ?_
        refine Free.tk 2 (some 95) ?_
        refine Free.tk 3 (some 96) ?_
        refine Free.tk 4 (some 97) ?_
        refine Free.tk 5 (some 98) (v := tv) ?_ (hy := by intro W hW; obtain ⟨z0, z1, z2, z3, z4, z5⟩ := (HFx.out W hW.below).1; go_simp; try with_reducible rfl)
        refine Free.one 6 (fun W hb hW => ?_)
        refine o_callb (some 99) (by go_simp; first | exact ⟨rfl, rfl⟩ | rfl) ?_
        refine (((HR.out.e.after (Below.refl _ _).drew).after hb).apply1 HTs.out (by omega)).mono ?_
        rintro e V ⟨rfl, hle⟩
        refine ⟨_, rfl, hle.bx, ?_⟩
        refine Free.tk 7 (some 12) ?_
        refine Free.done (fun W2 hb2 hW2 => NoPanic.normal ?_)
        have HL2 := Lib.hid (hle.after hb2)
        clear hb hW hle hb2 hW2 st HR y0 y1 y2 y3 y4 y5
        go_wp2
        refine wp_region_noPanic ?_
        refine Free.any (fun W => Bxs w L W) (fun W W' h hb => h.after hb) HL2.out.bx.drew (fun st => ?_)
        refine Free.tk 0 (some 100) ?_ (hy := by intro W hW; have d := hW.one B8 HM.out.2.1; go_simp; try with_reducible rfl)
        refine Free.tk 1 (some 101) ?_
        refine Free.tk 2 (some 102) ?_
        refine Free.tk 3 (some 103) ?_
        refine Free.tk 4 (some 104) ?_
        refine Free.tk 5 (some 105) (v := tv) ?_ (hy := by intro W hW; obtain ⟨z0, z1, z2, z3, z4, z5⟩ := (HFx.out W hW.below).1; go_simp; try with_reducible rfl)
        refine Free.one 6 (fun W hb hW => ?_)
        refine o_callb (some 106) (by go_simp; first | exact ⟨rfl, rfl⟩ | rfl) ?_
        refine (((HL2.out.after (Below.refl _ _).drew).after hb).apply2 HTs.out (by omega)).mono ?_
        rintro e V ⟨rfl, hle⟩
        refine ⟨_, rfl, hle.bx, ?_⟩
        rw [HE.out.1]
        refine Free.tk 7 (some 13) ?_
        refine Free.done (fun W2 hb2 hW2 => NoPanic.normal ?_)
        have hle2 := hle.after hb2
        rw [← HE.out.2.1, ← HE.out.2.2] at hle2
        have HN2 := Lib.hid (HNx.out _ hle2)
        obtain ⟨E, hE⟩ : ∃ E, Hid (E = (f.apply a.ts).2) := ⟨_, rfl⟩
        rw [← hE.out]
        have hnn : (E != E) = false := by simp
        clear hb hW hle hle2 hb2 hW2 st HL2
        go_wp2
        exact ⟨⟨k + 1, _, _, by omega, by go_num, HN2.out⟩, by simp [natI]; omega⟩
    · obtain rfl : k = xs.length := by omega
      obtain ⟨F1, F2, hI⟩ := HR.out.e
      have HI := Lib.hid (fun W (hb : Below wr.heap.size wr W) => (show LeI w L S1 S2 f g F1 F2 W from hI.after hb))
      have HOk := Lib.hid HR.out.e.ok
      have HLf := Lib.hid HR.out.lf
      have hfn := fun_nilC
      have hwz := hI.bx.below.size
      have hB0 := (hI.bx.get _ HM.out.2.2.2).lt
      have d6 := hI.bx.one B6 HM.out.2.2.1
      clear hI HR
      go_wp2_with fail
      refine (All_any (HI.out wr (Below.refl _ _)).a1).mono ?_; rintro e W1 ⟨v1, rfl, fn1, lb1, rfl, _, _, hb1⟩
      have HW1 := Lib.hid hb1
      clear d6 hb1
      have d6 := (HI.out _ HW1.out).bx.one B6 HM.out.2.2.1
      go_wp2_with fail
      refine (All_any (HI.out _ HW1.out).a1).mono ?_; rintro e W2 ⟨v2, rfl, fn, lb, rfl, heg, hgv, hb2⟩
      have hgv2 := hgv (fun _ => False) (fun k hk => hk.elim) W2 (Below.refl _ _)
      have HB2 := Lib.hid (HW1.out.trans (hb2.mono HW1.out.size))
      clear d6 hb2 hgv hfn
      go_wp2_with fail
      refine (wpIn_wide (n := 5)).1 (wp_over_a (gf := fn) (lb := lb) rfl heg hgv2 (fun k hk => hk.elim) (fun _ => rfl)
        (fun pre W => ∃ _x : Unit, True ∧ Bxs W2 [] W)
        (fun c pre W => ∃ _x : Unit, False ∧ Bxs W2 [] W)
        (bxs_own W2 (fun _ _ => True) (fun _ _ => []) (Nat.le_refl _)) (fun c => bxs_own W2 (fun _ _ => False) (fun _ _ => []) (Nat.le_refl _)) ⟨(), trivial, Bxs.nil W2⟩
        (fun x => .cells #[.int .i64 x.1.1, .int .i64 x.1.2] 35)
        (fun tm x b => ((((tm.setIfInBounds 115 (.agg #[.int .i64 x.1.1, .int .i64 x.1.2])).setIfInBounds 116 (.int .u32 x.2)).setIfInBounds 15 (.pointer (some ⟨b, 0, none⟩))).setIfInBounds 16 (.int .u32 x.2)))
        ?assign ?body ?done (fun _ _ _ _ _ _ _ hx _ => by obtain ⟨_, h, _⟩ := hx; exact h.elim))
      case assign =>
        intro ll mm x W1 K hK
        gi_wp2
        simp only [List.setIfInBounds_toArray, List.set_cons_zero, List.set_cons_succ] at hK
        exact hK
      case body =>
        rintro ll mm pre x rest W b hf ⟨_, _, hX⟩ hob hbz hbl
        simp only [List.setIfInBounds_toArray, List.set_cons_zero, List.set_cons_succ]
        have hmem : x ∈ f.ps := by rw [hf]; simp
        have hIW := HI.out W (HB2.out.trans (hX.below.mono HB2.out.size))
        have hm1 := HOk.out.1.may x hmem
        have hm2 : T.may g.fr g.se x.1 = true := by rw [HLf.out.fr, HLf.out.se]; exact hm1
        have hgx : T.get g.ps x.1 = clr l x.2 := by rw [HLf.out.ls x.1, HOk.out.1.ris.get_mem hmem]
        have hx2 := HOk.out.1.small x hmem
        have hG := Get_any hIW.a2 x.1 (may_pi0 HOk.out.1.bd hm1).1
        rw [if_pos hm2, if_pos hm2, hgx] at hG
        have HG := Lib.hid hG
        have d8 := hIW.bx.one B8 HM.out.2.1
        have d10 := hIW.bx.one B10 HM.out.1
        have hbk : Blk W b #[.int .i64 x.1.1, .int .i64 x.1.2] 35 := hob
        have y0 := hbk.cell 0
        have y1 := hbk.cell 1
        simp only [List.getElem?_toArray, List.getElem?_cons_zero, List.getElem?_cons_succ] at y0 y1
        have hcl := HCl.out x.2 ⟨by omega, by omega⟩
        have HX := Lib.hid hX
        clear hf hX hob hbk hmem hIW hm1 hm2 hgx hG hx2 hbz hbl
        generalize clr l x.2 = cx at HG hcl
        have hnn : (cx != cx) = false := by simp
        gi_wp2_with (refine ⟨trivial, fun hd => (by cases hd), ?_⟩; gi_at_call 14; refine (CallsIn.inRound ll (callsIn_wide.2 HG.out)).mono ?_; rintro e W9 ⟨rfl, hb9⟩; have d19 := cell_below d10 hb9; have HK9 := Lib.hid hb9; clear hb9 d10 d8 y0 y1)
        exact ⟨⟨HK9.out.size, fun k hk _ => HK9.out.block k hk⟩, (), trivial, HX.out.after HK9.out⟩
      case done =>
        rintro D0 W3 hD0 ⟨_, _, hX3⟩ hK
        have HB3 := Lib.hid (HB2.out.trans (hX3.below.mono HB2.out.size))
        have HK0 := Lib.hid hK
        have hD0w : wr.heap.size ≤ D0 := Nat.le_trans HB2.out.size hD0
        have hD0l : D0 < W3.heap.size := by
          rcases Nat.lt_or_ge D0 W3.heap.size with h | h
          · exact h
          · rw [Array.getElem?_eq_none h] at hK; cases hK
        clear hX3 hK heg hgv2 hD0 HB2
        have d8 := (HI.out _ HB3.out).bx.one B8 HM.out.2.1
        go_wp2_with fail
        refine (All_any (HI.out _ HB3.out).a2).mono ?_; rintro e W4 ⟨v4, rfl, fn4, lb4, rfl, heg, hgv, hb4⟩
        have hgv4 := hgv (fun _ => False) (fun k hk => hk.elim) W4 (Below.refl _ _)
        have HB4 := Lib.hid (HB3.out.trans (hb4.mono HB3.out.size))
        have HK4 := Lib.hid ((hb4.block D0 hD0l).trans HK0.out)
        have hz4 : W3.heap.size ≤ W4.heap.size := hb4.size
        clear hb4 hgv d8
        go_wp2_with fail
        refine (wpIn_wide (n := 5)).1 (wp_over_a (gf := fn4) (lb := lb4) rfl heg hgv4 (fun k hk => hk.elim) (fun _ => rfl)
          (fun pre W => ∃ _x : Unit, True ∧ Bxs W4 [] W)
          (fun c pre W => ∃ _x : Unit, False ∧ Bxs W4 [] W)
          (bxs_own W4 (fun _ _ => True) (fun _ _ => []) (Nat.le_refl _)) (fun c => bxs_own W4 (fun _ _ => False) (fun _ _ => []) (Nat.le_refl _)) ⟨(), trivial, Bxs.nil W4⟩
          (fun x => .cells #[.int .i64 x.1.1, .int .i64 x.1.2] 35)
          (fun tm x b => ((((tm.setIfInBounds 134 (.agg #[.int .i64 x.1.1, .int .i64 x.1.2])).setIfInBounds 135 (.int .u32 x.2)).setIfInBounds 19 (.pointer (some ⟨b, 0, none⟩))).setIfInBounds 20 (.int .u32 x.2)))
          ?assign2 ?body2 ?done2 (fun _ _ _ _ _ _ _ hx _ => by obtain ⟨_, h, _⟩ := hx; exact h.elim))
        case assign2 =>
          intro ll mm x W1 K hK
          gi_wp2
          simp only [List.setIfInBounds_toArray, List.set_cons_zero, List.set_cons_succ] at hK
          exact hK
        case body2 =>
          rintro ll mm pre x rest W b hf ⟨_, _, hX⟩ hob hbz hbl
          simp only [List.setIfInBounds_toArray, List.set_cons_zero, List.set_cons_succ]
          have hmem : x ∈ g.ps := by rw [hf]; simp
          have hIW := HI.out W (HB4.out.trans (hX.below.mono HB4.out.size))
          have hm1 := HOk.out.2.may x hmem
          have hm2 : T.may f.fr f.se x.1 = true := by rw [← HLf.out.fr, ← HLf.out.se]; exact hm1
          have hgx : clr l (T.get f.ps x.1) = x.2 := by rw [← HLf.out.ls x.1, HOk.out.2.ris.get_mem hmem]
          have hx2 := HOk.out.1.small.get x.1
          have hG := Get_any hIW.a1 x.1 (may_pi0 HOk.out.2.bd hm1).1
          rw [if_pos hm2, if_pos hm2] at hG
          have HG := Lib.hid hG
          have d6 := hIW.bx.one B6 HM.out.2.2.1
          have d10 := hIW.bx.one B10 HM.out.1
          have hbk : Blk W b #[.int .i64 x.1.1, .int .i64 x.1.2] 35 := hob
          have y0 := hbk.cell 0
          have y1 := hbk.cell 1
          simp only [List.getElem?_toArray, List.getElem?_cons_zero, List.getElem?_cons_succ] at y0 y1
          have hcl := HCl.out (T.get f.ps x.1) ⟨by omega, by omega⟩
          rw [hgx] at hcl
          have HX := Lib.hid hX
          clear hf hX hob hbk hmem hIW hm1 hm2 hgx hG hx2 hbz hbl
          generalize T.get f.ps x.1 = cx at HG hcl
          obtain ⟨x1, x2⟩ := x
          have hnn : (x2 != x2) = false := by simp
          gi_wp2_with (refine ⟨trivial, fun hd => (by cases hd), ?_⟩; gi_at_call 14; refine (CallsIn.inRound ll (callsIn_wide.2 HG.out)).mono ?_; rintro e W9 ⟨rfl, hb9⟩; have d19 := cell_below d10 hb9; have HK9 := Lib.hid hb9; clear hb9 d10 d6 y0 y1)
          exact ⟨⟨HK9.out.size, fun k hk _ => HK9.out.block k hk⟩, (), trivial, HX.out.after HK9.out⟩
        case done2 =>
          rintro D1 W5 hD1 ⟨_, _, hX5⟩ hK
          have HB5 := Lib.hid (HB4.out.trans (hX5.below.mono HB4.out.size))
          have HK1 := Lib.hid hK
          have HK2 := Lib.hid ((hX5.below.block D0 (by omega)).trans HK4.out)
          have hD1w : W4.heap.size ≤ D1 := hD1
          have hD01 : D0 ≠ D1 := by omega
          have hD1l : D1 < W5.heap.size := by
            rcases Nat.lt_or_ge D1 W5.heap.size with h | h
            · exact h
            · rw [Array.getElem?_eq_none h] at hK; cases hK
          have hz5 : W4.heap.size ≤ W5.heap.size := hX5.below.size
          clear hX5 hK heg hgv4 hD1
          go_wp2_with fail
          refine (known_any _).mono ?_
          rintro e W6 ⟨rfl, hb6⟩
          have HB6 := Lib.hid (HB5.out.trans (hb6.mono HB5.out.size))
          have HK3 := Lib.hid ((hb6.block D1 hD1l).trans HK1.out)
          have HK4b := Lib.hid ((hb6.block D0 (by omega)).trans HK2.out)
          have hz6 : W5.heap.size ≤ W6.heap.size := hb6.size
          have c0 := (HI.out _ HB6.out).bx.one _ HM.out.2.2.2
          have z0 := (HI.out _ HB6.out).bx.fz _ HM.out.2.2.2
          have hbw : Below w.heap.size w W6 := (HI.out _ HB6.out).bx.below
          have HC := Lib.hid ((((HI.out _ HB6.out).bx.get _ HM.out.2.2.2).setCell 0 (.bool true)).cell 0)
          clear hb6
          go_wp2_with fail
          refine leaves_cell (w := w) (Nat.le_refl _) (fun W h => by simp [results, Tryz.results3, go_sem, h]) (fun W hb => ⟨rfl, hb⟩) [D1, D0] _ (by simp [Ne.symm hD01]) (fun i hi => ?_) HC.out (hbw.setCell (p := ⟨w.heap.size, 0, none⟩) (Nat.le_refl _) _)
          simp only [List.mem_cons, List.not_mem_nil, or_false] at hi
          rcases hi with rfl | rfl
          · exact ⟨by omega, by omega, (Below.heap_setCell _ _ _ _ (by dsimp only; omega)).trans HK3.out⟩
          · exact ⟨by omega, by omega, (Below.heap_setCell _ _ _ _ (by dsimp only; omega)).trans HK4b.out⟩
end Go.Proofs.YtdpdoclhdjhjkaaGreat
