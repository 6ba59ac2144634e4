/-
  Layer 14: QueryLater: walk.
-/
import Derived.Test.YtiohlmccnllklaaDoorG20
import Derived.Test.YtiohlmccnllklaaDoorG21
set_option linter.unusedVariables false
set_option linter.unusedSimpArgs false
namespace Go.Proofs.YtiohlmccnllklaaDoor.Q
open Go.RowKit
set_option maxHeartbeats 8000000
set_option maxRecDepth 100000
set_option linter.unusedVariables false
set_option linter.unusedSimpArgs false

theorem HsIs.fr {w : World} {S mb : Nat} {ns : List T.No} {la : Int} {V : T.Pl → Value} (h : HsIs w S mb ns la V) : ∀ n ∈ ns, ∀ q ∈ n.fr, Pi q := fun n hn q hq => by
  have hm : n ∈ T.ofP ns n.pl := List.mem_filter.2 ⟨hn, by simp⟩
  obtain ⟨k, hk, e⟩ := List.mem_iff_getElem.1 hm
  obtain ⟨g, o, c, n2, fv, _, h2, _, h4, _⟩ := (h.row n.pl).at_ hk
  rw [List.getElem?_eq_getElem hk, e] at h2
  cases h2
  exact h4.2 q hq
theorem Roots_md {w0 : World} {S mb : Nat} {l : List T.Ad} {W : World} (h : HsW w0 S mb (T.mdN l) W) (hv : T.NVast l) (hl : l.length ≤ 30) {p : T.Pl} (hp : Pi p) {s : Int} (hs : I64 s) :
    Calls Tryd.prog 14 #[.pointer (some ⟨S, 0, none⟩), .agg #[.int .i64 p.1, .int .i64 p.2], .int .i64 s] W fun e w' => RoO W (T.mdN l).1 (p, s) e w' := by
  obtain ⟨V, h1, _⟩ := h.h
  have hc := T.mdN_len hv
  exact Roots_any h1 (T.mdN_good l).up (by omega) h1.fr (fun n hn => (h1.pi n hn).1) (Sl := (T.mdN l).1.map T.No.st) (fun n hn => List.mem_map.2 ⟨n, hn, rfl⟩) (by rw [List.length_map]; omega) (by omega) hp hs
theorem pair_of {l : List T.Ad} (h : ∀ j (a b : T.Ad), l[j]? = some a → l[j + 1]? = some b → a.1 ≤ b.1) : l.Pairwise fun a b => a.1 ≤ b.1 := by
  have key : ∀ (d i : Nat) (a b : T.Ad), l[i]? = some a → l[i + d + 1]? = some b → a.1 ≤ b.1 := by
    intro d
    induction d with
    | zero => exact fun i a b ha hb => h i a b ha hb
    | succ d ih =>
      intro i a b ha hb
      have hlt : i + d + 1 < l.length := by have := (List.getElem?_eq_some_iff.1 hb).1; omega
      have h1 := ih i a _ ha (List.getElem?_eq_getElem hlt)
      have h2 := h (i + d + 1) _ b (List.getElem?_eq_getElem hlt) hb
      omega
  refine List.pairwise_iff_getElem.2 fun i j hi hj hij => ?_
  refine key (j - i - 1) i _ _ (List.getElem?_eq_getElem hi) ?_
  rw [show i + (j - i - 1) + 1 = j by omega]
  exact List.getElem?_eq_getElem hj
/-- What is noted behind a step changes nothing of what is asked ahead of it. -/
theorem later_root {l : List T.Ad} (hl : l.Pairwise fun a b => a.1 ≤ b.1) {c : Nat} {s : Int} (hs : c = l.length ∨ ∃ a, l[c]? = some a ∧ a.1 = s) (p q : T.Pl) : T.Root (T.mdN (l.take c)).1 (p, s) q ↔ T.Root (T.mdN l).1 (p, s) q := by
  rcases hs with e | ⟨a, ha, rfl⟩
  · rw [e, List.take_length]
  · obtain ⟨ms, h1, h2⟩ := T.md_cut hl c
    rw [h1]
    exact (T.root_later (fun m hm => h2 m hm a ha) q).symm
theorem AdsIn.cut2 {w : World} {ol : Option Addr} {c : Nat} {l : List T.Ad} (h : AdsIn w (.slice ol l.length c) l) {k : Nat} (hk : k ≤ l.length) : AdsIn w (.slice ol k c) (l.take k) := by
  obtain ⟨cs, ⟨h1, ao, c', e, h2, h3, h4⟩, h5, h6⟩ := h
  have hl : (l.take k).length = k := by rw [List.length_take]; omega
  simp at e
  obtain ⟨rfl, rfl⟩ := e
  refine ⟨cs.take (k * 2), ⟨?_, _, _, by rw [hl], by omega, by omega, fun hn => ?_⟩, AdC.cut _ _ _ h5, fun a ha => h6 a (List.mem_of_mem_take ha)⟩
  · rw [List.length_take, hl, h1]; omega
  · obtain ⟨g', o', e', hr⟩ := h4 (by omega)
    refine ⟨g', o', e', fun j u hj => hr j u ?_⟩
    rw [List.getElem?_take] at hj
    split at hj
    · exact hj
    · cases hj
theorem HsW.base {w w1 : World} {S mb : Nat} {m : List T.No × Int} {W : World} (h : HsW w1 S mb m W) (hb : Below w.heap.size w w1) : HsW w S mb m W := by
  obtain ⟨V, h1, h2⟩ := h.h
  exact ⟨belT hb h.b, V, h1, fun k hk => Nat.le_trans hb.size (h2 k hk)⟩
/-- Two adds, one behind the other. -/
structure Ad4 (g o o2 : Nat) (x y : Int) (W : World) : Prop where
  a : W.cell? ⟨g, o, none⟩ = some (.int .i64 x)
  b : W.cell? ⟨g, o2, none⟩ = some (.int .i64 y)
theorem Ad4.stb (g o o2 : Nat) (x y : Int) : Free.Stb (Ad4 g o o2 x y) := fun W W' h hb => ⟨cell_below h.a hb, cell_below h.b hb⟩
structure LtS (w : World) (S1 mb1 S2 mb2 : Nat) (l1 l2 : List T.Ad) (B : Nat) (p : T.Pl) (W : World) : Prop where
  e : Env W
  a : HsW w S1 mb1 (T.mdN l1) W
  b : HsW w S2 mb2 (T.mdN l2) W
  p : Blk W B #[.int .i64 p.1, .int .i64 p.2] 33
theorem LtS.stb (w : World) (S1 mb1 S2 mb2 : Nat) (l1 l2 : List T.Ad) (B : Nat) (p : T.Pl) : Free.Stb (LtS w S1 mb1 S2 mb2 l1 l2 B p) := fun W W' h hb => ⟨h.e.below hb, h.a.below hb, h.b.below hb, h.p.below hb⟩
theorem QueryLater_walk {w : World} (he : Env w) {lv : Value} {l : List T.Ad} {c : Int} {p : T.Pl} (hl : AdsIn w lv l) (hc : I64 c) (hp : Pi p) :
    Calls Tryd.prog 5 #[lv, .int .i64 c, .agg #[.int .i64 p.1, .int .i64 p.2]] w fun e w' => e = .returned (.bool true) ∧ Below w.heap.size w w' := by
  have HK := Lib.hid (fun W (hb : Below w.heap.size w W) => known_any (he.below hb))
  have HE := Lib.hid (fun W (hb : Below w.heap.size w W) => (show Env W from he.below hb))
  have HA := Lib.hid (fun W (hb : Below w.heap.size w W) => (show AdsIn W lv l from hl.below hb))
  have HPi := Lib.hid hp
  have hb1 := bel1 w (.cells #[.int .i64 p.1, .int .i64 p.2] 33)
  have HB1 := Lib.hid hb1
  have HP1 := Lib.hid (blk_new w #[.int .i64 p.1, .int .i64 p.2] 33)
  obtain ⟨ol, cl, rfl, hcl, hml⟩ := hl.shape
  unfold maxLen at hml
  clear hl he hb1 hp hc
  go_enter Tryd.func5, Tryd.ntmps5
  go_wp2_with fail
  generalize w.alloc (.cells #[.int .i64 p.1, .int .i64 p.2] 33) = w1 at HB1 HP1 ⊢
  refine (vast_any (HA.out w1 HB1.out)).mono ?_
  rintro e w2 ⟨b, rfl, hvb, hb2⟩
  have HB2 := Lib.hid (belT HB1.out hb2)
  have HP2 := Lib.hid (HP1.out.below hb2)
  clear hb2 HB1 HP1
  cases b with
  | true =>
    clear hvb
    go_wp2_with fail
    refine (HK.out _ HB2.out).mono ?_
    rintro e w' ⟨rfl, hb⟩
    have HB := Lib.hid (belT (by first | exact HB3.out | exact HB2.out) hb)
    clear hb
    go_wp2
    go_ret
    exact ⟨rfl, HB.out⟩
  | false =>
    obtain ⟨hl30, hv⟩ := hvb rfl
    have HV := Lib.hid hv
    clear hvb hv
    by_cases hc0 : c < 0
    · go_wp2_with fail
      refine (HK.out _ HB2.out).mono ?_
      rintro e w' ⟨rfl, hb⟩
      have HB := Lib.hid (belT (by first | exact HB3.out | exact HB2.out) hb)
      clear hb
      go_wp2
      go_ret
      exact ⟨rfl, HB.out⟩
    · by_cases hc1 : (l.length : Int) < c
      · go_wp2_with fail
        refine (HK.out _ HB2.out).mono ?_
        rintro e w' ⟨rfl, hb⟩
        have HB := Lib.hid (belT (by first | exact HB3.out | exact HB2.out) hb)
        clear hb
        go_wp2
        go_ret
        exact ⟨rfl, HB.out⟩
      · obtain ⟨n, rfl⟩ : ∃ n : Nat, c = (n : Int) := ⟨c.toNat, by omega⟩
        have hn : n ≤ l.length := by omega
        clear hc0 hc1
        go_wp2_with fail
        go_loopw [7] (fun i wr => ∃ k : Nat, (k ≤ l.length ∨ k = 1) ∧ 1 ≤ k ∧ i = .int .i64 (k : Int) ∧ Hid (Below w.heap.size w wr ∧ Blk wr w.heap.size #[.int .i64 p.1, .int .i64 p.2] 33) ∧ Hid (∀ j (a b : T.Ad), j + 1 < k → l[j]? = some a → l[j + 1]? = some b → a.1 ≤ b.1)) (fun i _ => l.length + 2 - natI i)
        case atStart => exact ⟨1, .inr rfl, by omega, rfl, Lib.hid ⟨HB2.out, HP2.out⟩, Lib.hid fun j a b h => absurd h (by omega)⟩
        case round =>
          obtain ⟨k, hk, hk1, rfl, HBP, HJ⟩ := hrel
          by_cases hlt : k < l.length
          · obtain ⟨k, rfl⟩ : ∃ k2, k = k2 + 1 := ⟨k - 1, by omega⟩
            have hi : (k : Int) + 1 < (l.length : Int) := by omega
            have hi0 : (k : Int) < (l.length : Int) := by omega
            obtain ⟨g1, o1, d1, a, ta, e1, l1, _, _, r1⟩ := (HA.out _ HBP.out.1).at_ (show k < l.length by omega)
            simp at e1
            obtain ⟨rfl, rfl⟩ := e1
            obtain ⟨g2, o2, d2, b, tb, e2, l2, _, _, r2⟩ := (HA.out _ HBP.out.1).at_ hlt
            simp at e2
            obtain ⟨⟨rfl, rfl⟩, rfl⟩ := e2
            have x1 := (rng2 r1).1
            have x2 := (rng2 r2).1
            have HS : Hid (Ad4 g1 (o1 + k * 2) (o1 + (k + 1) * 2) a.1 b.1 (World.drew wr)) := Lib.hid (Ad4.stb _ _ _ _ _ _ _ ⟨x1, x2⟩ (Below.refl _ _).drew)
            have HLab := Lib.hid (And.intro l1 l2)
            have h0k : (0 : Int) ≤ (k : Int) + 1 := by omega
            clear x1 x2 r1 r2 l1 l2
            go_wp2_with fail
            refine Free.any (Ad4 g1 (o1 + k * 2) (o1 + (k + 1) * 2) a.1 b.1) (Ad4.stb _ _ _ a.1 b.1) HS.out (fun st => ?_)
            refine Free.tk 0 (some 34) ?_ (hy := by intro W hW; go_simp; try with_reducible rfl)
            refine Free.tk 1 (some 35) ?_ (hy := by intro W hW; go_simp; try with_reducible rfl)
            refine Free.tk 2 (some 36) (v := .pointer (some ⟨g1, o1 + (k + 1) * 2, none⟩)) ?_ (hy := by intro W hW; go_simp; try with_reducible rfl)
            refine Free.tk 3 (some 37) (v := .pointer (some ⟨g1, o1 + (k + 1) * 2, none⟩)) ?_ (hy := by intro W hW; go_simp; try with_reducible rfl)
            refine Free.tk 4 (some 38) (v := .int .i64 b.1) ?_ (hy := by intro W hW; have x1 := hW.b; go_simp; try with_reducible rfl)
            refine Free.tk 5 (some 39) ?_ (hy := by intro W hW; go_simp; try with_reducible rfl)
            refine Free.tk 6 (some 40) ?_ (hy := by intro W hW; go_simp; try with_reducible rfl)
            refine Free.tk 7 (some 41) (v := .int .i64 (k : Int)) ?_ (hy := by intro W hW; go_simp; try (rw [IntKind.wrap_i64] <;> omega))
            refine Free.tk 8 (some 42) (v := .pointer (some ⟨g1, o1 + k * 2, none⟩)) ?_ (hy := by intro W hW; go_simp; try with_reducible rfl)
            refine Free.tk 9 (some 43) (v := .pointer (some ⟨g1, o1 + k * 2, none⟩)) ?_ (hy := by intro W hW; go_simp; try with_reducible rfl)
            refine Free.tk 10 (some 44) (v := .int .i64 a.1) ?_ (hy := by intro W hW; have x1 := hW.a; go_simp; try with_reducible rfl)
            by_cases hab : b.1 < a.1
            · refine Free.tk 11 (some 45) (v := .bool true) ?_ (hy := by intro W hW; go_simp; try with_reducible rfl)
              refine Free.done (fun W hb hW => ?_)
              have HB3 := Lib.hid (belT HBP.out.1 ((Below.refl _ wr).drew.trans hb))
              clear hb hW
              go_wp2_with fail
              refine (HK.out _ HB3.out).mono ?_
              rintro e w' ⟨rfl, hb⟩
              have HB := Lib.hid (belT (by first | exact HB3.out | exact HB2.out) hb)
              clear hb
              go_wp2
              go_ret
              exact ⟨rfl, HB.out⟩
            · refine Free.tk 11 (some 45) (v := .bool false) ?_ (hy := by intro W hW; go_simp; try with_reducible rfl)
              refine Free.done (fun W hb hW => ?_)
              have hbd := (Below.refl _ wr).drew.trans hb
              have HB3 : Hid (Below w.heap.size w W ∧ Blk W w.heap.size #[.int .i64 p.1, .int .i64 p.2] 33) := Lib.hid ⟨belT HBP.out.1 hbd, HBP.out.2.below hbd⟩
              have HJ2 : Hid (∀ j (a b : T.Ad), j + 1 < k + 1 + 1 → l[j]? = some a → l[j + 1]? = some b → a.1 ≤ b.1) := Lib.hid fun j x y hj hx hy => by
                rcases Nat.lt_or_ge (j + 1) (k + 1) with h | h
                · exact HJ.out j x y h hx hy
                · obtain rfl : j = k := by omega
                  rw [HLab.out.1] at hx; rw [HLab.out.2] at hy
                  cases hx; cases hy; omega
              clear hb hW hbd hab
              go_wp2
              exact ⟨⟨k + 1 + 1, .inl (by omega), by omega, by go_num, HB3, HJ2⟩, by simp [natI]; omega⟩
          · have hi : ¬ (k : Int) < (l.length : Int) := by omega
            have HPw : Hid (l.Pairwise fun a b => a.1 ≤ b.1) := Lib.hid (pair_of fun j a b ha hb => HJ.out j a b (by have := (List.getElem?_eq_some_iff.1 hb).1; omega) ha hb)
            clear HJ HB2 HP2
            have HBP' := HBP.out
            have hnc : (n : Int) ≤ (cl : Int) := by omega
            go_wp2_with fail
            have hl0 := HA.out _ HBP.out.1
            have HM1 := Lib.hid (made_any (hl0.cut2 hn) (fun a ha => HV.out a (List.mem_of_mem_take ha)) (by rw [List.length_take]; omega))
            clear hl0 HBP'
            refine HM1.out.mono ?_
            rintro e w3 ⟨S1, mb1, nv1, rfl, hm1⟩
            have HB3 := Lib.hid (belT HBP.out.1 hm1.b)
            have HP3 := Lib.hid (HBP.out.2.below hm1.b)
            have HH1 := Lib.hid (hm1.hw.base HBP.out.1)
            have HM2 := Lib.hid (made_any (HA.out _ HB3.out) HV.out (by omega))
            clear hm1 HM1 hnc
            go_wp2_with fail
            refine HM2.out.mono ?_
            rintro e w4 ⟨S2, mb2, nv2, rfl, hm2⟩
            have HB4 := Lib.hid (belT HB3.out hm2.b)
            have HH2 := Lib.hid (hm2.hw.base HB3.out)
            have HS0 : Hid (LtS w S1 mb1 S2 mb2 (l.take n) l w.heap.size p w4) := Lib.hid ⟨HE.out _ HB4.out, HH1.out.below hm2.b, HH2.out, HP3.out.below hm2.b⟩
            have HSd := Lib.hid (LtS.stb _ _ _ _ _ _ _ _ _ _ _ HS0.out (Below.refl _ _).drew)
            clear hm2 HM2 HH1 HH2 HB3 HP3
            by_cases hnl : n < l.length
            · have hnl' : (n : Int) < (l.length : Int) := by omega
              obtain ⟨g1, o1, d1, a, ta, e1, l1, h64, _, r1⟩ := (HA.out _ HB4.out).at_ hnl
              simp at e1
              obtain ⟨rfl, rfl⟩ := e1
              have x1 := (rng2 r1).1
              have hst : n = l.length ∨ ∃ b, l[n]? = some b ∧ b.1 = a.1 := .inr ⟨a, l1, rfl⟩
              have HSt := Lib.hid hst
              have H64 := Lib.hid h64
              generalize a.1 = s at *
              clear r1 l1 h64 hst
              go_wp2_with fail
              refine Free.any (LtS w S1 mb1 S2 mb2 (l.take n) l w.heap.size p) (LtS.stb _ _ _ _ _ _ _ _ p) HSd.out (fun st => ?_)
              refine Free.tk 0 (some 76) ?_ (hy := by intro W hW; go_simp; try with_reducible rfl)
              refine Free.tk 1 (some 77) (v := .agg #[.int .i64 p.1, .int .i64 p.2]) ?_ (hy := by intro W hW; have x1 := hW.p.cell 0; have x2 := hW.p.cell 1; simp only [List.getElem?_toArray, List.getElem?_cons_zero, List.getElem?_cons_succ] at x1 x2; go_simp; try with_reducible rfl)
              refine Free.tk 2 (some 78) ?_ (hy := by intro W hW; go_simp; try with_reducible rfl)
              refine Free.tk 4 (some 80) ?_ (hy := by intro W hW; go_simp; try with_reducible rfl)
              refine Free.tk 5 (some 81) (v := .agg #[.int .i64 p.1, .int .i64 p.2]) ?_ (hy := by intro W hW; have x1 := hW.p.cell 0; have x2 := hW.p.cell 1; simp only [List.getElem?_toArray, List.getElem?_cons_zero, List.getElem?_cons_succ] at x1 x2; go_simp; try with_reducible rfl)
              refine Free.tk 6 (some 82) ?_ (hy := by intro W hW; go_simp; try with_reducible rfl)
              refine Free.one 3 (fun W1 hb1 hW1 => ?_)
              refine o_callb (some 79) (by go_simp; first | exact ⟨rfl, rfl⟩ | rfl) ?_
              refine (Roots_md hW1.a (fun a ha => HV.out a (List.mem_of_mem_take ha)) (by rw [List.length_take]; omega) HPi.out H64.out).mono ?_
              rintro e W2 ⟨v1, l1, rfl, ho1, hr1, hq1, _, hbb1⟩
              refine ⟨_, rfl, st _ _ hW1 hbb1, ?_⟩
              refine Free.one 7 (fun W3 hb3 hW3 => ?_)
              refine o_callb (some 83) (by go_simp; first | exact ⟨rfl, rfl⟩ | rfl) ?_
              refine (Roots_md hW3.b HV.out (by omega) HPi.out H64.out).mono ?_
              rintro e W4 ⟨v2, l2, rfl, ho2, hr2, hq2, _, hbb2⟩
              refine ⟨_, rfl, st _ _ hW3 hbb2, ?_⟩
              have hll : l1 = l2 := hr1.ext hr2 fun q => ((hq1 q).trans (later_root HPw.out HSt.out p q)).trans (hq2 q).symm
              refine Free.one 8 (fun W5 hb5 hW5 => ?_)
              refine o_callb (some 84) (by go_simp; first | exact ⟨rfl, rfl⟩ | rfl) ?_
              refine (same_any ((((ho1.pls).below hb3).below hbb2).below hb5) ((ho2.pls).below hb5)).mono ?_
              rintro e W6 ⟨rfl, hbb3⟩
              rw [decide_eq_true hll]
              refine ⟨_, rfl, st _ _ hW5 hbb3, ?_⟩
              refine Free.tk 9 (some 85) (v := .bool true) ?_ (hy := by intro W hW; go_simp; try with_reducible rfl)
              refine Free.cl 10 (some 86) (v := .bool true) st (fun W hW => known_any hW.e) ?_
              refine Free.tk 11 (some 87) (v := .bool true) ?_ (hy := by intro W hW; go_simp; try with_reducible rfl)
              refine Free.tk 12 (some 6) ?_ (hy := by intro W hW; go_simp; try with_reducible rfl)
              refine Free.done (fun W7 hb7 hW7 => ?_)
              have HB9 := Lib.hid hW7.a.b
              clear hb1 hW1 ho1 hr1 hq1 hbb1 hb3 hW3 ho2 hr2 hq2 hbb2 hll hb5 hW5 hbb3 hb7 hW7
              go_wp2
              go_ret
              exact ⟨rfl, HB9.out⟩
            · have hnl' : ¬ (n : Int) < (l.length : Int) := by omega
              have HSt : Hid (n = l.length ∨ ∃ b, l[n]? = some b ∧ b.1 = (0 : Int)) := Lib.hid (.inl (by omega))
              have H64 : Hid (I64 0) := Lib.hid (by simp [I64])
              obtain ⟨s, hs⟩ : ∃ s : Int, s = 0 := ⟨0, rfl⟩
              rw [← hs] at HSt H64
              go_wp2_with fail
              rw [← hs]
              clear hs
              refine Free.any (LtS w S1 mb1 S2 mb2 (l.take n) l w.heap.size p) (LtS.stb _ _ _ _ _ _ _ _ p) HSd.out (fun st => ?_)
              refine Free.tk 0 (some 76) ?_ (hy := by intro W hW; go_simp; try with_reducible rfl)
              refine Free.tk 1 (some 77) (v := .agg #[.int .i64 p.1, .int .i64 p.2]) ?_ (hy := by intro W hW; have x1 := hW.p.cell 0; have x2 := hW.p.cell 1; simp only [List.getElem?_toArray, List.getElem?_cons_zero, List.getElem?_cons_succ] at x1 x2; go_simp; try with_reducible rfl)
              refine Free.tk 2 (some 78) ?_ (hy := by intro W hW; go_simp; try with_reducible rfl)
              refine Free.tk 4 (some 80) ?_ (hy := by intro W hW; go_simp; try with_reducible rfl)
              refine Free.tk 5 (some 81) (v := .agg #[.int .i64 p.1, .int .i64 p.2]) ?_ (hy := by intro W hW; have x1 := hW.p.cell 0; have x2 := hW.p.cell 1; simp only [List.getElem?_toArray, List.getElem?_cons_zero, List.getElem?_cons_succ] at x1 x2; go_simp; try with_reducible rfl)
              refine Free.tk 6 (some 82) ?_ (hy := by intro W hW; go_simp; try with_reducible rfl)
              refine Free.one 3 (fun W1 hb1 hW1 => ?_)
              refine o_callb (some 79) (by go_simp; first | exact ⟨rfl, rfl⟩ | rfl) ?_
              refine (Roots_md hW1.a (fun a ha => HV.out a (List.mem_of_mem_take ha)) (by rw [List.length_take]; omega) HPi.out H64.out).mono ?_
              rintro e W2 ⟨v1, l1, rfl, ho1, hr1, hq1, _, hbb1⟩
              refine ⟨_, rfl, st _ _ hW1 hbb1, ?_⟩
              refine Free.one 7 (fun W3 hb3 hW3 => ?_)
              refine o_callb (some 83) (by go_simp; first | exact ⟨rfl, rfl⟩ | rfl) ?_
              refine (Roots_md hW3.b HV.out (by omega) HPi.out H64.out).mono ?_
              rintro e W4 ⟨v2, l2, rfl, ho2, hr2, hq2, _, hbb2⟩
              refine ⟨_, rfl, st _ _ hW3 hbb2, ?_⟩
              have hll : l1 = l2 := hr1.ext hr2 fun q => ((hq1 q).trans (later_root HPw.out HSt.out p q)).trans (hq2 q).symm
              refine Free.one 8 (fun W5 hb5 hW5 => ?_)
              refine o_callb (some 84) (by go_simp; first | exact ⟨rfl, rfl⟩ | rfl) ?_
              refine (same_any ((((ho1.pls).below hb3).below hbb2).below hb5) ((ho2.pls).below hb5)).mono ?_
              rintro e W6 ⟨rfl, hbb3⟩
              rw [decide_eq_true hll]
              refine ⟨_, rfl, st _ _ hW5 hbb3, ?_⟩
              refine Free.tk 9 (some 85) (v := .bool true) ?_ (hy := by intro W hW; go_simp; try with_reducible rfl)
              refine Free.cl 10 (some 86) (v := .bool true) st (fun W hW => known_any hW.e) ?_
              refine Free.tk 11 (some 87) (v := .bool true) ?_ (hy := by intro W hW; go_simp; try with_reducible rfl)
              refine Free.tk 12 (some 6) ?_ (hy := by intro W hW; go_simp; try with_reducible rfl)
              refine Free.done (fun W7 hb7 hW7 => ?_)
              have HB9 := Lib.hid hW7.a.b
              clear hb1 hW1 ho1 hr1 hq1 hbb1 hb3 hW3 ho2 hr2 hq2 hbb2 hll hb5 hW5 hbb3 hb7 hW7
              go_wp2
              go_ret
              exact ⟨rfl, HB9.out⟩
end Go.Proofs.YtiohlmccnllklaaDoor.Q
