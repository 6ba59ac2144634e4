/-
  Layer 7: the walk of LinesCopies. Written by gen_copies.py.
-/
import Derived.Test.YtmnkggnghflcpaaLaws2
import Derived.Test.YtmnkggnghflcpaaSame
namespace Go.Proofs.Ytmnkggnghflcpaa
open Go.RowKit
set_option maxHeartbeats 16000000
set_option linter.unusedVariables false
set_option linter.unusedSimpArgs false

theorem acts_lit {w : World} {s : Ac} {bv : Value} (hfit : s.Fit) (hb : NumsIn .u8 w bv s.b) : ActsIn (w.alloc (.cells #[.int .i64 s.k, .int .i64 s.ln, bv, .int .u8 s.y, .int .u32 s.x, .bool s.up] 39)) (.slice (some ⟨w.heap.size, 0, none⟩) 1 1) [s] := by
  have h := blk_new w #[.int .i64 s.k, .int .i64 s.ln, bv, .int .u8 s.y, .int .u32 s.x, .bool s.up] 39
  have hb' := hb.alloc (.cells #[.int .i64 s.k, .int .i64 s.ln, bv, .int .u8 s.y, .int .u32 s.x, .bool s.up] 39)
  refine .inr ⟨⟨w.heap.size, 0, none⟩, 1, rfl, Nat.le_refl _, by simp [maxLen], fun i s' hs => ?_⟩
  have hi : i = 0 := by have := (List.getElem?_eq_some_iff.1 hs).1; simpa using this
  subst hi
  simp at hs
  subst hs
  refine ⟨hfit, bv, ?_⟩
  have e : (⟨w.heap.size, 0, none⟩ : Addr).add (0 * 6) = ⟨w.heap.size, 0, none⟩ := by rw [add_lit]
  rw [e]
  refine ⟨?_, ?_, ?_, ?_, ?_, ?_, hb'⟩ <;> (rw [h.cell]; rfl)
/-- Three lines, three of the document's, boxes: at the end. -/
structure C3 (w : World) (S1 S2 S3 B1 B2 B3 : Nat) (l1 l l3 : Ls) (c c1 c3 : Array Value) (F1 F2 F3 G G1 G3 : Nat → Prop) (W : World) : Prop where
  a1 : At W S1 l1 F1
  a2 : At W S2 l F2
  a3 : At W S3 l3 F3
  r : Rv W l c G
  r1 : Rv W l1 c1 G1
  r3 : Rv W l3 c3 G3
  b : Rf W B1 c
  b1 : Rf W B2 c1
  b3 : Rf W B3 c3
  below : Below w.heap.size w W
theorem C3.after {w : World} {S1 S2 S3 B1 B2 B3 : Nat} {l1 l l3 : Ls} {c c1 c3 : Array Value} {F1 F2 F3 G G1 G3 : Nat → Prop} {W W' : World} (h : C3 w S1 S2 S3 B1 B2 B3 l1 l l3 c c1 c3 F1 F2 F3 G G1 G3 W) (hb : Below W.heap.size W W') : C3 w S1 S2 S3 B1 B2 B3 l1 l l3 c c1 c3 F1 F2 F3 G G1 G3 W' :=
  ⟨h.a1.below hb, h.a2.below hb, h.a3.below hb, h.r.below hb, h.r1.below hb, h.r3.below hb, h.b.below hb, h.b1.below hb, h.b3.below hb, h.below.trans (hb.mono h.below.size)⟩
/-- Behind the copies: lines and two that stand alike, the document's. -/
structure C1 (w : World) (S1 S2 S3 B1 : Nat) (l : Ls) (c : Array Value) (F1 F2 F3 G : Nat → Prop) (W : World) : Prop where
  a1 : At W S1 l F1
  a2 : At W S2 l F2
  a3 : At W S3 l F3
  r : Rv W l c G
  b : Rf W B1 c
  s1 : ∀ k, F1 k → ¬ G k ∧ ¬ F2 k ∧ ¬ F3 k ∧ k ≠ B1 ∧ w.heap.size ≤ k
  s2 : ∀ k, F2 k → ¬ F3 k
  s3 : ∀ k, F3 k → ¬ G k ∧ k ≠ B1 ∧ w.heap.size ≤ k
  below : Below w.heap.size w W
theorem C1.after {w : World} {S1 S2 S3 B1 : Nat} {l : Ls} {c : Array Value} {F1 F2 F3 G : Nat → Prop} {W W' : World} (h : C1 w S1 S2 S3 B1 l c F1 F2 F3 G W) (hb : Below W.heap.size W W') : C1 w S1 S2 S3 B1 l c F1 F2 F3 G W' :=
  ⟨h.a1.below hb, h.a2.below hb, h.a3.below hb, h.r.below hb, h.b.below hb, h.s1, h.s2, h.s3, h.below.trans (hb.mono h.below.size)⟩
/-- Behind the call by the first lines, too. -/
structure C2 (w : World) (S1 S2 S3 B1 : Nat) (l1 l : Ls) (c c1 : Array Value) (F1 F2 F3 G G1 : Nat → Prop) (W : World) : Prop where
  a1 : At W S1 l1 F1
  a2 : At W S2 l F2
  a3 : At W S3 l F3
  r : Rv W l c G
  r1 : Rv W l1 c1 G1
  b : Rf W B1 c
  s2 : ∀ k, F2 k → ¬ F3 k
  s3 : ∀ k, F3 k → ¬ G k ∧ k ≠ B1 ∧ w.heap.size ≤ k ∧ ¬ F1 k ∧ ¬ G1 k
  below : Below w.heap.size w W
theorem C2.after {w : World} {S1 S2 S3 B1 : Nat} {l1 l : Ls} {c c1 : Array Value} {F1 F2 F3 G G1 : Nat → Prop} {W W' : World} (h : C2 w S1 S2 S3 B1 l1 l c c1 F1 F2 F3 G G1 W) (hb : Below W.heap.size W W') : C2 w S1 S2 S3 B1 l1 l c c1 F1 F2 F3 G G1 W' :=
  ⟨h.a1.below hb, h.a2.below hb, h.a3.below hb, h.r.below hb, h.r1.below hb, h.b.below hb, h.s2, h.s3, h.below.trans (hb.mono h.below.size)⟩
theorem C1.act {w : World} {S1 S2 S3 B1 : Nat} {l l1 : Ls} {c c1 : Array Value} {F1 F2 F3 G : Nat → Prop} {W W' : World} (h : C1 w S1 S2 S3 B1 l c F1 F2 F3 G W) (hc : ActC W S1 l1 F1 G c1 W') : ∃ F1' G1, C2 w S1 S2 S3 B1 l1 l c c1 F1' F2 F3 G G1 W' := by
  obtain ⟨F', G', hp⟩ := hc
  have hB := h.b.lt
  refine ⟨F', G', hp.at_, h.a2.turned hp.t (fun k hk e => (h.s1 k e).2.1 hk), h.a3.turned hp.t (fun k hk e => (h.s1 k e).2.2.1 hk), h.r.turned hp.t (fun k hk e => (h.s1 k e).1 hk), hp.rv, h.b.turned hp.t (fun e => (h.s1 _ e).2.2.2.1 rfl), h.s2, fun k hk => ⟨(h.s3 k hk).1, (h.s3 k hk).2.1, (h.s3 k hk).2.2, fun hF => ?_, fun hG => ?_⟩, h.below.trans (hp.t.below h.below.size (fun k hk => (h.s1 k hk).2.2.2.2))⟩
  · rcases hp.fF k hF with e | e
    · exact (h.s1 k e).2.2.1 hk
    · have := h.a3.lt k hk; omega
  · rcases hp.gG k hG with e | e
    · exact (h.s3 k hk).1 e
    · have := h.a3.lt k hk; omega
theorem C2.act {w : World} {S1 S2 S3 B1 B2 : Nat} {l1 l l3 : Ls} {c c1 c3 : Array Value} {F1 F2 F3 G G1 : Nat → Prop} {W W' : World} (h : C2 w S1 S2 S3 B1 l1 l c c1 F1 F2 F3 G G1 W) (hB2 : Rf W B2 c1) (hB2' : ∀ k, F3 k → k ≠ B2) (hc : ActC W S3 l3 F3 G c3 W') :
    ∃ F3' G3, C3 w S1 S2 S3 B1 B2 W'.heap.size l1 l l3 c c1 c3 F1 F2 F3' G G1 G3 (W'.alloc (.cells c3 30)) := by
  obtain ⟨F', G', hp⟩ := hc
  have hb2 := (Below.refl W'.heap.size W').alloc (Nat.le_refl _) (.cells c3 30)
  have hbw := h.below.trans (hp.t.below h.below.size (fun k hk => (h.s3 k hk).2.2.1))
  exact ⟨F', G', (h.a1.turned hp.t (fun k hk e => (h.s3 k e).2.2.2.1 hk)).below hb2, (h.a2.turned hp.t (fun k hk e => h.s2 k hk e)).below hb2, hp.at_.below hb2, (h.r.turned hp.t (fun k hk e => (h.s3 k e).1 hk)).below hb2, (h.r1.turned hp.t (fun k hk e => (h.s3 k e).2.2.2.2 hk)).below hb2, hp.rv.below hb2,
    (h.b.turned hp.t (fun e => (h.s3 _ e).2.1 rfl)).below hb2, (hB2.turned hp.t (fun e => hB2' _ e rfl)).below hb2, hp.rv.new W', hbw.trans (hb2.mono hbw.size)⟩
theorem ab_of {W : World} {S : Nat} {l : Ls} {c : Array Value} {F G : Nat → Prop} (a : At W S l F) (r : Rv W l c G) (s : ∀ k, F k → ¬ G k) (hok : l.Ok) (hsz : l.sz ≤ 100000) : AB W S l c F G := ⟨a, r, s, hok, hsz⟩
abbrev sZ : Ac := ⟨1, 0, [122], 0, 0, false⟩
theorem sZ_ok : sZ.Ok := ⟨by decide, by unfold W32; decide, by intro x hx; simp at hx; omega⟩
set_option maxRecDepth 100000 in
theorem LinesCopies_walk (v : Value) (xs : List Ac) (s : Ac) (bv : Value) (w : World) (h : ActsIn w v xs) (hfit : s.Fit) (hbv : NumsIn .u8 w bv s.b) : Calls Try.prog 6 #[v, .agg #[.int .i64 s.k, .int .i64 s.ln, bv, .int .u8 s.y, .int .u32 s.x, .bool s.up]] w fun e w' => e = .returned (.bool true) ∧ Below w.heap.size w w' := by
  have hb0 : Below w.heap.size w (w.alloc (.cells #[.int .i64 s.k, .int .i64 s.ln, bv, .int .u8 s.y, .int .u32 s.x, .bool s.up] 39)) := (Below.refl _ _).alloc (Nat.le_refl _) _
  have HB0 := Lib.hid hb0
  have hx0 := blk_new w #[.int .i64 s.k, .int .i64 s.ln, bv, .int .u8 s.y, .int .u32 s.x, .bool s.up] 39
  have HX0 := Lib.hid hx0
  have HI0 := Lib.hid (h.below hb0)
  have HF := Lib.hid (few_any (h.below hb0))
  have HOKS := Lib.hid h.oks
  have HFIT := Lib.hid hfit
  have HBV := Lib.hid hbv
  have HBV0 := Lib.hid (hbv.below hb0)
  clear h hfit hbv hb0 hx0
  go_enter Try.func6, Try.ntmps6
  go_wp2_with fail
  refine HF.out.mono ?_
  rintro e w1 ⟨q, rfl, hw1, hq⟩
  cases q with
  | false =>
    subst hw1
    clear hq
    go_wp2_with fail
    refine (works_any _).mono ?_
    rintro e w' ⟨rfl, hb⟩
    have HB := Lib.hid (HB0.out.trans (hb.mono HB0.out.size))
    clear hb
    go_wp2
    go_ret
    exact ⟨rfl, HB.out⟩
  | true =>
    have HC := Lib.hid (hq rfl)
    have hx1 : Blk w1 w.heap.size #[.int .i64 s.k, .int .i64 s.ln, bv, .int .u8 s.y, .int .u32 s.x, .bool s.up] 39 := by rw [← hw1]; exact HX0.out
    have HX1 := Lib.hid hx1
    have HB1 := Lib.hid (show Below w.heap.size w w1 from by rw [← hw1]; exact HB0.out)
    have HI1 := Lib.hid (show ActsIn w1 v xs from by rw [← hw1]; exact HI0.out)
    have HBV1 := Lib.hid (show NumsIn .u8 w1 bv s.b from by rw [← hw1]; exact HBV0.out)
    obtain ⟨x0, x1, x2, x3, x4, x5⟩ := ac_cells hx1
    clear hq hw1 HI0 HBV0 HB0 HX0 HF hx1
    go_wp2_with fail
    refine (few_any (acts_lit HFIT.out HBV1.out)).mono ?_
    rintro e w2 ⟨q, rfl, hw2, hq⟩
    have hbl : Below w1.heap.size w1 (w1.alloc (.cells #[.int .i64 s.k, .int .i64 s.ln, bv, .int .u8 s.y, .int .u32 s.x, .bool s.up] 39)) := (Below.refl _ _).alloc (Nat.le_refl _) _
    have hbl2 : Below w1.heap.size w1 w2 := by rw [← hw2]; exact hbl
    have HB2 := Lib.hid (HB1.out.trans (hbl2.mono HB1.out.size))
    have HI2 := Lib.hid (HI1.out.below hbl2)
    have HX2 := Lib.hid (HX1.out.below hbl2)
    clear hbl hbl2 hw2 HI1 HX1 HBV1 x0 x1 x2 x3 x4 x5
    cases q with
    | false =>
      clear hq
      go_wp2_with fail
      refine (works_any _).mono ?_
      rintro e w' ⟨rfl, hb⟩
      have HB := Lib.hid (HB2.out.trans (hb.mono HB2.out.size))
      clear hb
      go_wp2
      go_ret
      exact ⟨rfl, HB.out⟩
    | true =>
      have hcs := hq rfl
      simp only [cost] at hcs
      have HCs : Hid (s.b.length ≤ 100000) := by show _ ≤ _; omega
      clear hq hcs
      go_wp2_with fail
      refine (played_any HI2.out HC.out).mono ?_
      rintro e w3 ⟨c, rfl, F1, G, hP⟩
      have HN := Lib.hid (show zR.size = 9 ∧ c.size = 9 ∧ c.all (·.oneCell') = true from ⟨rfl, hP.rv.size, hP.rv.one⟩)
      have hok := plL_ok HOKS.out
      have hsz := plL_sz xs
      have HP := Lib.hid hP
      have HOK := Lib.hid hok
      have HSZ : Hid ((plL xs).sz ≤ 5000) := by have := HC.out; show _ ≤ _; omega
      have HWT : Hid ((plL xs).wt.length ≤ 1000000) := by have := hok.wt; show _ ≤ _; omega
      have HTD : Hid ((plL xs).td.length ≤ 1000000) := by have := HC.out; unfold Ls.sz at hsz; show _ ≤ _; omega
      clear hP hok hsz
      generalize plL xs = l at HP HOK HSZ HWT HTD
      have HA1 := Lib.hid (HP.out.at_.below ((Below.refl _ _).alloc (Nat.le_refl _) (.cells c 30)))
      go_wp2_with ((with_reducible apply wp_store_Rn _); (exact HN.out); (rfl); (rfl))
      refine (Copy_any HA1.out HWT.out HTD.out).mono ?_
      rintro e w4 ⟨S2, F2, rfl, hA2, hF2, hb4⟩
      have HA2 := Lib.hid hA2
      have HF2 := Lib.hid hF2
      have HB4 := Lib.hid hb4
      clear hA2 hF2 hb4
      go_wp2_with fail
      refine (Copy_any (HA1.out.below HB4.out) HWT.out HTD.out).mono ?_
      rintro e w5 ⟨S3, F3, rfl, hA3, hF3, hb5⟩
      have HC1 : Hid (C1 w (w2.heap.size + 1) S2 S3 w3.heap.size l c F1 F2 F3 G w5) := by
        have hF1 := HP.out.at_.lt
        have hG := HP.out.rv.lt
        have hz4 := HB4.out.size
        have hz2 := HB2.out.size
        have hf2 := HF2.out
        have ha2 := HA2.out.lt
        simp only [World.size_alloc] at hz4 hf2
        have hbn := (Below.refl w3.heap.size w3).alloc (Nat.le_refl _) (.cells c 30)
        have hw3 := HB2.out.trans (HP.out.below.mono HB2.out.size)
        refine ⟨(HA1.out.below HB4.out).below hb5, HA2.out.below hb5, hA3, ((HP.out.rv.below hbn).below HB4.out).below hb5, (((HP.out.rv.new w3).below HB4.out).below hb5), fun k hk => ⟨HP.out.sep k hk, fun e => ?_, fun e => ?_, ?_, ?_⟩, fun k hk e => ?_, fun k hk => ⟨fun e => ?_, ?_, ?_⟩, ((hw3.trans (hbn.mono hw3.size)).trans (HB4.out.mono (by simp; have := hw3.size; omega))).trans (hb5.mono (by have := hw3.size; omega))⟩
        · have := hF1 k hk; have := hf2 k e; omega
        · have := hF1 k hk; have := hF3 k e; omega
        · have := hF1 k hk; omega
        · have := HP.out.loF k hk; omega
        · have := ha2 k hk; have := hF3 k e; omega
        · have := hG k e; have := hF3 k hk; omega
        · have := hF3 k hk; omega
        · have := hF3 k hk; have := hw3.size; omega
      have HX5 := Lib.hid (HX2.out.keep (show w5.heap[w.heap.size]? = w2.heap[w.heap.size]? from by
        have h0 := HX2.out.lt
        have hz3 := HP.out.below.size
        have hz4 := HB4.out.size
        simp only [World.size_alloc] at hz4
        rw [hb5.block _ (by omega), HB4.out.block _ (by simp; omega), Below.heap_alloc _ _ _ (by omega), HP.out.below.block _ h0]))
      have HBn := Lib.hid (show c.size = 9 from HN.out.2.1)
      clear hA3 hF3 hb5 HA2 HF2 HB4 HA1 HP HN HX2 HI2 HB2 HC
      go_wp2_with fail
      refine (Same_any HC1.out.a1 HC1.out.a2).mono ?_
      rintro e w6 ⟨rfl, hb⟩
      rw [l.same_self]
      have HC2 := Lib.hid (HC1.out.after hb)
      have HX6 := Lib.hid (HX5.out.below hb)
      clear hb HC1 HX5
      have HAct := Lib.hid (act_any (ab_of HC2.out.a1 HC2.out.r (fun k hk => (HC2.out.s1 k hk).1) HOK.out (by have := HSZ.out; omega)) s HFIT.out.ok bv (HBV.out.below HC2.out.below) HCs.out (fun k hk e => by have := HBV.out.lt hk; have := (HC2.out.s1 k e).2.2.2.2; omega))
      obtain ⟨x0, x1, x2, x3, x4, x5⟩ := ac_cells HX6.out
      go_wp2_with ((with_reducible apply wp_load_R); (exact HC2.out.b); (rfl))
      refine HAct.out.mono ?_
      rintro e w7 ⟨c1, rfl, hc⟩
      obtain ⟨F1', G1, hc2⟩ := HC2.out.act hc
      have hbn := (Below.refl w7.heap.size w7).alloc (Nat.le_refl _) (.cells c1 30)
      have HN1 := Lib.hid (show zR.size = 9 ∧ c1.size = 9 ∧ c1.all (·.oneCell') = true from ⟨rfl, hc2.r1.size, hc2.r1.one⟩)
      have HC3 := Lib.hid (hc2.after hbn)
      have HBx := Lib.hid (show Rf (w7.alloc (.cells c1 30)) w7.heap.size c1 from hc2.r1.new w7)
      have HF3 := Lib.hid (show ∀ k, F3 k → k < w7.heap.size from hc2.a3.lt)
      clear hc hc2 hbn HC2 HAct HX6 x0 x1 x2 x3 x4 x5
      have hlit := nums_lit (w7.alloc (.cells c1 30)) (1, 2) (xs := [122]) sZ_ok.b (by simp [maxLen])
      simp only [World.size_alloc, List.length_cons, List.length_nil, Nat.zero_add] at hlit
      have HLit := Lib.hid hlit
      have HC4 := Lib.hid (HC3.out.after ((Below.refl _ _).alloc (Nat.le_refl _) (.cells #[.int .u8 122] 5 (1, 2))))
      have HBy := Lib.hid (HBx.out.alloc (.cells #[.int .u8 122] 5 (1, 2)))
      have HAct2 := Lib.hid (act_any (ab_of HC4.out.a3 HC4.out.r (fun k hk => (HC4.out.s3 k hk).1) HOK.out (by have := HSZ.out; omega)) sZ sZ_ok _ HLit.out (by simp) (fun k hk e => by have := HF3.out k e; simp [rdBlk] at hk; omega))
      have hcl := conv_lit (w7.alloc (.cells c1 30)) #[.int .u8 122] 1 1
      simp only [World.size_alloc] at hcl
      have hsZ : Hid (l.act sZ = l.act sZ) := rfl
      go_wp2_with (first | ((with_reducible apply wp_store_Rn _); (exact HN1.out); (rfl); (rfl)) | ((with_reducible apply wp_load_R); (exact HC3.out.b); (rfl)))
      refine HAct2.out.mono ?_
      rintro e w9 ⟨c3, rfl, hc⟩
      obtain ⟨F3', G3, hd⟩ := HC4.out.act HBy.out (fun k hk e => by have := HF3.out k hk; omega) hc
      have HN3 := Lib.hid (show zR.size = 9 ∧ c3.size = 9 ∧ c3.all (·.oneCell') = true from ⟨rfl, hd.r3.size, hd.r3.one⟩)
      have HD := Lib.hid hd
      have HO1 := Lib.hid (HOK.out.act HFIT.out.ok)
      have HO3 := Lib.hid (HOK.out.act sZ_ok)
      have HS1 : Hid ((l.act s).sz ≤ 200000) := by have h1 := l.sz_act s; have h2 := HCs.out; have h3 := HSZ.out; show _ ≤ _; omega
      have HS3 : Hid ((l.act sZ).sz ≤ 200000) := by have h1 := l.sz_act sZ; have h3 := HSZ.out; simp at h1; show _ ≤ _; omega
      have HS2 : Hid (l.sz ≤ 200000) := by have h3 := HSZ.out; show _ ≤ _; omega
      have HCM := Lib.hid ((l.act s).same_comm l)
      clear hc hd hcl hsZ hlit HAct2 HBy HLit HC4 HC3 HF3 HBx HN1 HBV HFIT HCs HSZ HWT HTD HOKS
      generalize l.act s = l1 at HD HO1 HS1 HCM
      generalize l.act sZ = l3 at HD HO3 HS3
      go_wp2_with (first | ((with_reducible apply wp_store_Rn _); (exact HN3.out); (rfl); (rfl)) | ((with_reducible apply wp_load_R); (exact HD.out.b); (rfl)) | ((with_reducible apply wp_load_R); (exact HD.out.b1); (rfl)))
      refine (RSame_any HD.out.r HD.out.r1 HOK.out.tk HO1.out.tk).mono ?_
      rintro e w10 ⟨rfl, hb⟩
      have HD2 := Lib.hid (HD.out.after hb)
      have HCM2 : Hid (l1.same l = l.same l1) := HCM.out
      clear hb HD HCM HN3
      generalize l.same l1 = q at HCM2
      go_wp2_with fail
      refine (Take_nil _).mono ?_
      rintro e w' ⟨rfl, rfl⟩
      go_wp2_with fail
      refine (Pending_nil _ _).mono ?_
      rintro e w11 ⟨rfl, hb⟩
      have HD3 := Lib.hid (HD2.out.after hb)
      clear hb HD2
      go_wp2_with fail
      refine (Push_nil _ [] _ (.inl ⟨rfl, rfl⟩)).mono ?_
      rintro e w' ⟨rfl, rfl⟩
      go_wp2_with fail
      refine (SetAlarm_nil _ _).mono ?_
      rintro e w' ⟨rfl, rfl⟩
      go_wp2_with fail
      refine (SetMask_nil _ _).mono ?_
      rintro e w' ⟨rfl, rfl⟩
      obtain ⟨pv, tv, rfl, _, _⟩ := HD3.out.r
      obtain ⟨q0, q1, q2, q3, q4, q5, q6, q7, q8⟩ := HD3.out.b.cells
      go_wp2_with fail
      refine (is_any HD3.out.a2 HD3.out.r HOK.out HS2.out).mono ?_
      rintro e w12 ⟨rfl, hb⟩
      have HD4 := Lib.hid (HD3.out.after hb)
      clear hb HD3 q0 q1 q2 q3 q4 q5 q6 q7 q8
      obtain ⟨pv1, tv1, rfl, _, _⟩ := HD4.out.r1
      obtain ⟨q0, q1, q2, q3, q4, q5, q6, q7, q8⟩ := HD4.out.b1.cells
      go_wp2_with fail
      refine (is_any HD4.out.a1 HD4.out.r1 HO1.out HS1.out).mono ?_
      rintro e w13 ⟨rfl, hb⟩
      have HD5 := Lib.hid (HD4.out.after hb)
      clear hb HD4 q0 q1 q2 q3 q4 q5 q6 q7 q8
      obtain ⟨pv3, tv3, rfl, _, _⟩ := HD5.out.r3
      obtain ⟨q0, q1, q2, q3, q4, q5, q6, q7, q8⟩ := HD5.out.b3.cells
      go_wp2_with fail
      refine (is_any HD5.out.a3 HD5.out.r3 HO3.out HS3.out).mono ?_
      rintro e w14 ⟨rfl, hb⟩
      have HD6 := Lib.hid (HD5.out.after hb)
      clear hb HD5 q0 q1 q2 q3 q4 q5 q6 q7 q8
      go_wp2_with fail
      refine (Same_any HD6.out.a1 HD6.out.a2).mono ?_
      rintro e w15 ⟨rfl, hb⟩
      rw [HCM2.out]
      have HD7 := Lib.hid (HD6.out.after hb)
      clear hb HD6
      go_wp2_with fail
      refine (Same_any HD7.out.a2 HD7.out.a1).mono ?_
      rintro e w16 ⟨rfl, hb⟩
      rw [l.same_comm l1, HCM2.out]
      have HD8 := Lib.hid (HD7.out.after hb)
      clear hb HD7
      go_wp2_with fail
      refine (num_any _ _).mono ?_
      rintro e w' ⟨rfl, rfl⟩
      go_wp2_with fail
      refine (Raise_nil _ _ _).mono ?_
      rintro e w' ⟨rfl, rfl⟩
      go_wp2_with fail
      refine (num_any _ _).mono ?_
      rintro e w' ⟨rfl, rfl⟩
      go_wp2_with fail
      refine (Alarm_nil _).mono ?_
      rintro e w' ⟨rfl, rfl⟩
      go_wp2_with fail
      refine (Waits_nil _).mono ?_
      rintro e w' ⟨rfl, rfl⟩
      go_wp2_with fail
      refine (Queue_nil _).mono ?_
      rintro e w' ⟨rfl, rfl⟩
      go_wp2_with fail
      refine (Told_nil _).mono ?_
      rintro e w' ⟨rfl, rfl⟩
      go_wp2_with fail
      refine (Tell_nil _ _).mono ?_
      rintro e w' ⟨rfl, rfl⟩
      go_wp2_with fail
      refine (Mask_nil _).mono ?_
      rintro e w' ⟨rfl, rfl⟩
      go_wp2_with fail
      refine (Raised_nil _ _).mono ?_
      rintro e w' ⟨rfl, rfl⟩
      go_wp2_with fail
      refine (Wants_nil _ _).mono ?_
      rintro e w17 ⟨rfl, hb⟩
      have HD9 := Lib.hid (HD8.out.after hb)
      clear hb HD8
      go_wp2_with fail
      refine (Copy_nil _).mono ?_
      rintro e w' ⟨rfl, rfl⟩
      go_wp2_with fail
      refine (Same_nils _).mono ?_
      rintro e w' ⟨rfl, rfl⟩
      go_wp2_with fail
      refine (Same_left HD9.out.a2).mono ?_
      rintro e w' ⟨rfl, rfl⟩
      go_wp2_with fail
      refine (Same_right HD9.out.a2).mono ?_
      rintro e w' ⟨rfl, rfl⟩
      go_wp2_with fail
      refine (works_any _).mono ?_
      rintro e w18 ⟨rfl, hb⟩
      have HE := Lib.hid (HD9.out.after hb)
      clear hb HD9
      go_wp2
      go_ret
      exact ⟨rfl, HE.out.below⟩
end Go.Proofs.Ytmnkggnghflcpaa
