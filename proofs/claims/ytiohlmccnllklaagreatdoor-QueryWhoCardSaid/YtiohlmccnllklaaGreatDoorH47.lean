/-
  Layer 14: the statement QueryWho: a walk. (written once by hand; the marks' loop is layer 13's made's)
-/
import Derived.Test.YtiohlmccnllklaaGreatDoorH44
import Derived.Test.YtiohlmccnllklaaGreatDoorH45
import Derived.Test.YtiohlmccnllklaaGreatDoorH41
import Derived.Test.YtiohlmccnllklaaGreatDoorH43
import Derived.Test.YtiohlmccnllklaaGreatDoorH46
set_option linter.unusedVariables false
set_option linter.unusedSimpArgs false
namespace Go.Proofs.YtiohlmccnllklaaGreatDoor.Q
open Go.RowKit
set_option maxHeartbeats 8000000
set_option maxRecDepth 100000
set_option linter.unusedVariables false
set_option linter.unusedSimpArgs false

theorem PrIn.fix {w : World} {v : Value} {l : List T.Pr} (h : PrIn w v l) {k : Nat} (hk : k < l.length) : ∃ g o c x, v = .slice (some ⟨g, o, none⟩) l.length c ∧ l[k]? = some x ∧ g < w.heap.size ∧ ∀ W, Below w.heap.size w W → W.cell? ⟨g, o + k * 3, none⟩ = some (.int .i64 x.1.1) ∧ W.cell? ⟨g, o + k * 3 + 1, none⟩ = some (.int .i64 x.1.2) ∧ W.cell? ⟨g, o + k * 3 + 2, none⟩ = some (.int .u32 x.2) := by
  obtain ⟨g, o, c, x, e, hl, hr⟩ := h.at_ hk
  obtain ⟨q1, q2, q3⟩ := rng3 hr
  exact ⟨g, o, c, x, e, hl, World.block_lt_of_cell? _ _ q1, fun W hb => ⟨cell_below q1 hb, cell_below q2 hb, cell_below q3 hb⟩⟩
/-- What is wanted so far: a row of a round's own, behind w3. -/
structure WwS (w3 : World) (wv : Value) (l : List T.Pl) (W : World) : Prop where
  b : Below w3.heap.size w3 W
  o : Own W wv l
  lo : ∀ k, blkOf wv = some k → w3.heap.size ≤ k
theorem WwS.app {w3 : World} {wv v' : Value} {l : List T.Pl} {p : T.Pl} {W W1 W2 : World} (h : WwS w3 wv l W) (hb : Below W.heap.size W W1) (hp : Pi p) (hg : Gs 42 2 W2 v' (l.length + 1) (l.flatMap plc ++ plc p)) (ht : Turned (fun k => blkOf wv = some k) W1 W2) (hn : ∀ k, blkOf v' = some k → blkOf wv = some k ∨ W1.heap.size ≤ k) : WwS w3 v' (l ++ [p]) W2 := by
  have hB := belT h.b hb
  refine ⟨hB.trans (ht.below hB.size h.lo), ⟨?_, fun q hq => ?_⟩, fun k hk => ?_⟩
  · have e : ((l ++ [p]).flatMap plc) = l.flatMap plc ++ plc p := by simp
    rw [List.length_append, List.length_singleton, e]; exact hg
  · rcases List.mem_append.1 hq with e | e
    · exact h.o.2 q e
    · rw [List.mem_singleton.1 e]; exact hp
  · rcases hn k hk with e | e
    · exact h.lo k e
    · have := hB.size; omega
structure Wt23 (g o : Nat) (p : T.Pl) (w0 W : World) : Prop where
  b : Below w0.heap.size w0 W
  e : Env W
  x : W.cell? ⟨g, o, none⟩ = some (.int .i64 p.1)
  y : W.cell? ⟨g, o + 1, none⟩ = some (.int .i64 p.2)
theorem Wt23.stb (g o : Nat) (p : T.Pl) (w0 : World) : Free.Stb (Wt23 g o p w0) := fun W W' h hb => ⟨belT h.b hb, h.e.below hb, cell_below h.x hb, cell_below h.y hb⟩
/-- All that is read behind the marks. -/
structure WeS (w : World) (B : Nat) (c : Array Value) (s : Int) (v : Value) (r : T.Fl) (qv : Value) (W : World) : Prop where
  b : Below w.heap.size w W
  k : Rf 37 5 W B c
  p : PrIn W qv r.ps
  c : c[4]? = some qv
  o : Own W v (whoL s r.ps)
theorem WeS.below {w : World} {B : Nat} {c : Array Value} {s : Int} {v : Value} {r : T.Fl} {qv : Value} {W W' : World} (h : WeS w B c s v r qv W) (hb : Below W.heap.size W W') : WeS w B c s v r qv W' := ⟨belT h.b hb, h.k.below hb, h.p.below hb, h.c, h.o.below hb⟩
theorem QueryWho_walk {w : World} (he : Env w) {mv : Value} {ms : List T.Pr} {s : Int} {pv : Value} {ps : List T.Pl} (hm : MksIn w mv ms) (hs : W32 s) (hp : PlsIn w pv ps) :
    Calls Tryz.prog 3 #[mv, .int .u32 s, pv] w fun e w' => e = .returned (.bool true) ∧ Below w.heap.size w w' := by
  have HK := Lib.hid (fun W (hb : Below w.heap.size w W) => known_any (he.below hb))
  have HE := Lib.hid (fun W (hb : Below w.heap.size w W) => (show Env W from he.below hb))
  have HP := Lib.hid (fun W (hb : Below w.heap.size w W) => (show PlsIn W pv ps from hp.below hb))
  have HM := Lib.hid hm
  have HS := Lib.hid hs
  have hs0 := hs.1
  obtain ⟨oa, ca, rfl, _, hla⟩ := hm.1.shape
  obtain ⟨op, cp, rfl, _, hmp⟩ := hp.shape
  unfold maxLen at hla hmp
  have hb0 := bel1 w (.cells #[.int .i64 2, .int .i64 2] 27)
  have hff := blk_new w #[.int .i64 2, .int .i64 2] 27
  have HB0 := Lib.hid hb0
  have HF0 := Lib.hid hff
  have HB00 := Lib.hid (Below.refl w.heap.size w)
  have x0 := hff.cell 0
  have x1 := hff.cell 1
  simp only [List.getElem?_toArray, List.getElem?_cons_zero, List.getElem?_cons_succ] at x0 x1
  clear hm hp he hs hff hb0
  go_enter Tryz.func3, Tryz.ntmps3
  by_cases hc0 : (30 : Int) < (ms.length : Int)
  · go_wp2_with fail
    refine (HK.out _ HB00.out).mono ?_
    rintro e w' ⟨rfl, hb⟩
    have HB := Lib.hid (belT HB00.out hb)
    clear hb
    go_wp2
    go_ret
    exact ⟨rfl, HB.out⟩
  · by_cases hc1 : (30 : Int) < (ps.length : Int)
    · go_wp2_with fail
      refine (HK.out _ HB00.out).mono ?_
      rintro e w' ⟨rfl, hb⟩
      have HB := Lib.hid (belT HB00.out hb)
      clear hb
      go_wp2
      go_ret
      exact ⟨rfl, HB.out⟩
    · go_wp2_with fail
      refine (New_any 2 2 65536 (by omega) _).mono ?_
      rintro e w2 ⟨S, F, rfl, hat, hF, hb⟩
      have HB2 := Lib.hid (HB0.out.trans (hb.mono HB0.out.size))
      have HF2 := Lib.hid (HF0.out.below hb)
      have HAt := Lib.hid hat
      have HLo : Hid (∀ k, F k → w.heap.size + 1 ≤ k) := fun k hk => by have := hF k hk; simp only [World.size_alloc] at this; omega
      clear hb hat hF x0 x1 HB0 HF0
      have x0 := HF2.out.cell 0
      have x1 := HF2.out.cell 1
      simp only [List.getElem?_toArray, List.getElem?_cons_zero, List.getElem?_cons_succ] at x0 x1
      go_wp2_with fail
      refine (RNew_any 2 2 65536 _).mono ?_
      rintro e w4 ⟨c, rfl, hro, hb⟩
      have hT := tw2_new HAt.out HLo.out HB2.out HF2.out.lt (Below.refl _ _) hb hro
      have hok := hT.ok.1
      have hba := bel1 w4 (.cells c 37)
      have HT := Lib.hid (hT.more (Y := fun k => k = w4.heap.size ∨ k = w.heap.size) hba (fun k hk => by rcases hk with e | e; exact .inr ⟨by omega, by simp; omega⟩; exact .inl e))
      have HZ : Hid ((zF.size = 5) ∧ Ok1 5 c) := ⟨rfl, hok⟩
      have HR := Lib.hid (hok.new 37 w4)
      have HRz := Lib.hid (HF2.out.below hb).lt
      clear hro hb hT hok hba x0 x1 HF2 HB2 HAt
      go_wp2_with (first | ((with_reducible apply wp_store_Rn _ rowF); (exact HZ.out); (rfl); (rfl)))
      have hBl : w.heap.size < w4.heap.size := HRz.out
      generalize w4.heap.size = B at HT HR hBl ⊢
      go_loopw [11] (fun i wr => ∃ (k : Nat) (c : Array Value), k ≤ ms.length ∧ i = .int .i64 (k : Int) ∧ (mkF (ms.take k)).ps.length ≤ k ∧ Hid (Tw2 (fun k => k = B ∨ k = w.heap.size) w S (mkF (ms.take k)) (mkF (ms.take k)) c wr) ∧ Hid (Rf 37 5 wr B c)) (fun i _ => ms.length + 1 - natI i)
      case atStart => exact ⟨0, c, by omega, rfl, by rw [List.take_zero]; exact Nat.le_refl _, by rw [List.take_zero]; exact HT.out, HR.out⟩
      case round =>
        obtain ⟨k, c, hk, rfl, hps, HT, HR⟩ := hrel
        by_cases hlt : k < ms.length
        · have hi : (k : Int) < (ms.length : Int) := by omega
          obtain ⟨g1, o1, c1, x, e1, l1, hg1, hq⟩ := PrIn.fix HM.out.1 hlt
          simp at e1
          obtain ⟨rfl, rfl⟩ := e1
          obtain ⟨hpi, hxs⟩ := HM.out.2 x (List.mem_of_getElem? l1)
          have HQ := Lib.hid hq
          have HN := Lib.hid (mkF_succ l1)
          have HL := Lib.hid (show (mkF (ms.take (k + 1))).ps.length ≤ k + 1 by rw [mkF_succ l1]; have := mark1_len (mkF (ms.take k)) x.1 x.2; omega)
          have hBw := HR.out.lt
          have HOk := Lib.hid HT.out.ok.2
          generalize mkF (ms.take k) = f at HT HN HOk hps
          have HB0 : Hid (Below w.heap.size w wr.drew) := HT.out.b.trans ((Below.refl _ _).drew.mono HT.out.b.size)
          clear hq l1
          go_wp2
          refine Free.any (fun W => Below w.heap.size w W) (fun W W' h hb => h.trans (hb.mono h.size)) HB0.out (fun st => ?_)
          refine Free.tk 0 (some 40) ?_
          refine Free.tk 1 (some 41) ?_
          refine Free.tk 2 (some 42) ?_
          refine Free.tk 3 (some 43) ?_
          refine Free.tk 4 (some 44) ?_
          refine Free.tk 5 (some 45) (v := .agg #[.int .i64 x.1.1, .int .i64 x.1.2]) ?_ (hy := by intro W hW; obtain ⟨q1, q2, q3⟩ := HQ.out W hW; go_simp; try with_reducible rfl)
          refine Free.tk 6 (some 46) ?_
          refine Free.tk 7 (some 47) ?_
          refine Free.tk 8 (some 48) ?_
          refine Free.tk 9 (some 49) ?_
          refine Free.tk 10 (some 50) ?_ (hy := by intro W hW; obtain ⟨q1, q2, q3⟩ := HQ.out W hW; go_simp; try with_reducible rfl)
          refine Free.one 11 (fun W hb hW => ?_)
          refine o_callb (some 51) (by go_simp; first | exact ⟨rfl, rfl⟩ | rfl) ?_
          refine (Tw2.mark ((HT.out.after (Below.refl _ _).drew).after hb) x.1 hpi 1 x.2 ⟨by omega, by omega⟩ hxs).mono ?_
          rintro e V ⟨rfl, hT2, ht2⟩
          have hR2 : Rf 37 5 V B c := (HR.out.drew.below hb).turned ht2 (fun e => e.2 (.inl rfl))
          refine ⟨_, rfl, hT2.b, ?_⟩
          refine Free.done (fun W2 hb2 hW2 => ?_)
          have HT2 := Lib.hid (hT2.after hb2)
          have HR2 := Lib.hid (hR2.below hb2)
          have hBw2 := HR2.out.lt
          clear hb hW hT2 ht2 hR2 hb2 hW2 HT HR HB0 st hBw
          have HB0 : Hid (Below w.heap.size w W2.drew) := HT2.out.b.trans ((Below.refl _ _).drew.mono HT2.out.b.size)
          go_wp2
          refine Free.any (fun W => Below w.heap.size w W) (fun W W' h hb => h.trans (hb.mono h.size)) HB0.out (fun st => ?_)
          refine Free.tk 1 (some 54) ?_
          refine Free.tk 2 (some 55) ?_
          refine Free.tk 3 (some 56) ?_
          refine Free.tk 4 (some 57) ?_
          refine Free.tk 5 (some 58) (v := .agg #[.int .i64 x.1.1, .int .i64 x.1.2]) ?_ (hy := by intro W hW; obtain ⟨q1, q2, q3⟩ := HQ.out W hW; go_simp; try with_reducible rfl)
          refine Free.tk 6 (some 59) ?_
          refine Free.tk 7 (some 60) ?_
          refine Free.tk 8 (some 61) ?_
          refine Free.tk 9 (some 62) ?_
          refine Free.tk 10 (some 63) ?_ (hy := by intro W hW; obtain ⟨q1, q2, q3⟩ := HQ.out W hW; go_simp; try with_reducible rfl)
          refine Free.one 0 (fun W hb hW => ?_)
          have hR3 := HR2.out.drew.below hb
          have hT3 := (HT2.out.after (Below.refl _ _).drew).after hb
          refine o_load_R (d := some 53) rfl rowF hR3 rfl rfl ?_
          refine ⟨hW, ?_⟩
          refine Free.one 11 (fun W3 hb3 hW3 => ?_)
          refine o_callb (some 64) (by go_simp; first | exact ⟨rfl, rfl⟩ | rfl) ?_
          refine (Tw2.rmark (hT3.after hb3) HOk.out x.1 hpi 1 x.2 ⟨by omega, by omega⟩ hxs (by intro _ _; omega)).mono ?_
          rintro e V ⟨c2, rfl, hT4, hb4⟩
          have hR4 := (hR3.below hb3).below hb4
          have hok2 := hT4.ok.1
          refine ⟨_, rfl, hT4.b, ?_⟩
          refine Free.tk 12 (some 52) ?_
          refine Free.tk 13 (some 65) ?_
          refine Free.tk 14 (some 66) ?_
          refine Free.one 15 (fun W5 hb5 hW5 => ?_)
          refine o_store_R (d := none) rfl c2 rowF (hR4.below hb5) hok2 rfl rfl rfl ?_
          have hT6 := (hT4.after hb5).turned (turned_setRow _ B c2) (fun k e => ⟨.inl e, by omega⟩)
          have hR6 := (hR4.below hb5).set hok2
          refine ⟨hT6.b, ?_⟩
          refine Free.done (fun W7 hb7 hW7 => ?_)
          have HT7 := Lib.hid (hT6.after hb7)
          have HR7 := Lib.hid (hR6.below hb7)
          rw [← HN.out] at HT7
          clear hb hW hR3 hT3 hb3 hW3 hT4 hb4 hR4 hb5 hW5 hT6 hR6 hb7 hW7 st HB0 HT2 HR2
          go_wp2
          exact ⟨⟨k + 1, c2, by omega, by go_num, HL.out, HT7, HR7⟩, by simp [natI]; omega⟩
        · obtain rfl : k = ms.length := by omega
          rw [List.take_length] at HT hps
          have HOk : Hid (∀ x ∈ (mkF ms).ps, Pi x.1) := Lib.hid (fun x hx => may_piW HT.out.ok.2.bd (HT.out.ok.2.may x hx))
          generalize mkF ms = f at HT hps HOk
          obtain ⟨g, ct, qv, F', hce, hat', hrv, _, _, hbw, _⟩ := HT.out
          have HPr := Lib.hid hrv.p
          have HCe := Lib.hid (show c[4]? = some qv by rw [hce]; rfl)
          have HBw := Lib.hid hbw
          have HWho := Lib.hid (Who_any hat' HS.out (by omega))
          clear hce hat' hrv hbw HT
          go_wp2_with fail
          refine HWho.out.mono ?_
          rintro e w8 ⟨v, rfl, hown, hb8⟩
          have HB8 := Lib.hid (belT HBw.out hb8)
          have HR8 := Lib.hid (HR.out.below hb8)
          have HPr8 := Lib.hid (HPr.out.below hb8)
          have HO8 := Lib.hid hown
          obtain ⟨ov, cv, rfl, _, hvm⟩ := hown.1.shape
          clear hown hb8 HWho HPr HBw HR
          by_cases h6 : s < 65536
          · rw [if_pos h6] at HO8 hvm ⊢
            rw [if_pos h6]
            have HE9 : Hid (WeS w B c s (.slice ov (whoL s f.ps).length cv) f qv w8) := Lib.hid ⟨HB8.out, HR8.out, HPr8.out, HCe.out, HO8.out⟩
            have hwl := who_len s f.ps
            have HW0 : Hid (WwS w8 (.slice none 0 0) (whoL s (f.ps.take 0)) w8) := Lib.hid ⟨Below.refl _ _, own_nil _, fun k hk => by simp [blkOf] at hk⟩
            obtain ⟨oq, cq, rfl, _, hqm⟩ := HPr8.out.shape
            unfold maxLen at hvm hqm
            have q0 := HE9.out.k.cell 4
            rw [HE9.out.c] at q0
            have hnlt : ¬ (65536 : Int) ≤ s := by omega
            clear HB8 HR8 HPr8 HO8 HCe
            go_wp2_with fail
            go_loopw [14, 15] (fun u i W => ∃ (k : Nat) (wv : Value), k ≤ f.ps.length ∧ wv = u ∧ i = .int .i64 (k : Int) ∧ Hid (WwS w8 wv (whoL s (f.ps.take k)) W)) (fun _ i _ => f.ps.length + 1 - natI i)
            case atStart => exact ⟨0, _, by omega, rfl, rfl, HW0⟩
            case round =>
              obtain ⟨k, wv, hk, rfl, rfl, HW⟩ := hrel
              clear HW0 q0
              have HE10 := Lib.hid (HE9.out.below HW.out.b)
              have q0 := HE10.out.k.cell 4
              rw [HE10.out.c] at q0
              obtain ⟨ow, cw, rfl, _, hwm⟩ := HW.out.o.1.shape
              unfold maxLen at hwm
              by_cases hlk : k < f.ps.length
              · have hki : (k : Int) < (f.ps.length : Int) := by omega
                obtain ⟨g5, o5, c5, x, e5, l5, r5⟩ := HE10.out.p.at_ hlk
                simp at e5
                obtain ⟨rfl, rfl⟩ := e5
                obtain ⟨y0, y1, y2⟩ := rng3 r5
                have hts : f.ps.take (k + 1) = f.ps.take k ++ [x] := by rw [List.take_add_one, l5]; rfl
                have hsn := who_snoc s (f.ps.take k) x
                rw [← hts] at hsn
                have HSn := Lib.hid hsn
                have hwk := who_len s (f.ps.take k)
                rw [List.length_take] at hwk
                have HPx := Lib.hid (HOk.out x (List.mem_of_getElem? l5))
                clear l5 r5 hts hsn
                by_cases hy : whP s x = true
                · have HY := Lib.hid hy
                  have hy2 : ¬ bits .and .u32 x.2 s = 0 := by unfold whP at hy; simpa using hy
                  clear hy
                  go_wp2_with (refine wp_append_g rfl _ _ rfl Tryz.underlying24 infoPl rfl (by omega) (by omega) rfl rfl ((HW.out.o.below (bel1 wr (.cells #[.int .i64 x.1.1, .int .i64 x.1.2] 42))).1) (pls_src wr x.1) (by omega) ?_; intro v6 w6 hg6 ht6 hn6; have HA := Lib.hid (HW.out.app (bel1 wr (.cells #[.int .i64 x.1.1, .int .i64 x.1.2] 42)) HPx.out hg6 ht6 hn6); clear hg6 ht6 hn6)
                  have hs9 := HSn.out
                  rw [if_pos HY.out] at hs9
                  rw [← hs9] at HA
                  go_wp2
                  exact ⟨⟨k + 1, _, by omega, rfl, by go_num, HA⟩, by simp [natI]; omega⟩
                · have HY := Lib.hid hy
                  have hy2 : bits .and .u32 x.2 s = 0 := by unfold whP at hy; simpa using hy
                  clear hy
                  have hs9 := HSn.out
                  rw [if_neg HY.out, List.append_nil] at hs9
                  rw [← hs9] at HW
                  go_wp2
                  exact ⟨⟨k + 1, _, by omega, rfl, by go_num, by rw [hs9] at HW ⊢; exact HW⟩, by simp [natI]; omega⟩
              · obtain rfl : k = f.ps.length := by omega
                rw [List.take_length] at HW hwm ⊢
                have HE11 := Lib.hid (HE9.out.below HW.out.b)
                have HW11 := Lib.hid (And.intro HW.out.o HE11.out.o)
                have HB11 := Lib.hid HE11.out.b
                clear HW HE10 HE9 HE11
                generalize wr = w10 at HW11 HB11 q0 ⊢
                go_wp2_with fail
                clear q0
                have HI0 := Lib.hid (Below.refl w10.heap.size w10)
                go_loopw [16] (fun i W => ∃ j : Nat, j ≤ ps.length ∧ i = .int .i64 (j : Int) ∧ Hid (Below w10.heap.size w10 W)) (fun i _ => ps.length + 1 - natI i)
                case atStart => exact ⟨0, by omega, rfl, HI0⟩
                case round =>
                  obtain ⟨j, hj, rfl, HI⟩ := hrel
                  clear HI0
                  have hbw := belT HB11.out HI.out
                  by_cases hlj : j < ps.length
                  · have hji : (j : Int) < (ps.length : Int) := by omega
                    obtain ⟨g6, o6, c6, p, e6, l6, hpi, r6⟩ := (HP.out _ hbw).at_ hlj
                    simp at e6
                    obtain ⟨rfl, rfl⟩ := e6
                    obtain ⟨x1, x2⟩ := rng2 r6
                    have HD : Hid (Wt23 g6 (o6 + j * 2) p w10 (World.drew wr)) := Lib.hid (Wt23.stb _ _ _ _ _ _ ⟨HI.out, HE.out _ hbw, x1, x2⟩ (Below.refl _ _).drew)
                    have HT1 := Lib.hid (fun W (hW : Env W) => Text_any hW hpi)
                    have HT2 := Lib.hid (fun W (hW : Env W) => RText_any hW hpi)
                    generalize bytesQ (txt p) = tx at HT1 HT2
                    clear hbw l6 hpi r6 x1 x2 HI
                    go_wp2_with fail
                    refine Free.any (Wt23 g6 (o6 + j * 2) p w10) (Wt23.stb g6 _ p w10) HD.out (fun st => ?_)
                    refine Free.tk 0 (some 116) ?_ (hy := by intro W hW; go_simp; try with_reducible rfl)
                    refine Free.tk 1 (some 117) ?_ (hy := by intro W hW; go_simp; try with_reducible rfl)
                    refine Free.tk 2 (some 118) (v := .pointer (some ⟨g6, o6 + j * 2, none⟩)) ?_ (hy := by intro W hW; go_simp; try with_reducible rfl)
                    refine Free.tk 3 (some 119) (v := .agg #[.int .i64 p.1, .int .i64 p.2]) ?_ (hy := by intro W hW; have x1 := hW.x; have x2 := hW.y; go_simp; try with_reducible rfl)
                    refine Free.cl 4 (some 120) (v := .string tx) st (fun W hW => HT1.out W hW.e) ?_ (hy := by intro W; go_simp; try with_reducible rfl)
                    refine Free.tk 5 (some 121) ?_ (hy := by intro W hW; go_simp; try with_reducible rfl)
                    refine Free.tk 6 (some 122) ?_ (hy := by intro W hW; go_simp; try with_reducible rfl)
                    refine Free.tk 7 (some 123) (v := .pointer (some ⟨g6, o6 + j * 2, none⟩)) ?_ (hy := by intro W hW; go_simp; try with_reducible rfl)
                    refine Free.tk 8 (some 124) (v := .agg #[.int .i64 p.1, .int .i64 p.2]) ?_ (hy := by intro W hW; have x1 := hW.x; have x2 := hW.y; go_simp; try with_reducible rfl)
                    refine Free.cl 9 (some 125) (v := .string tx) st (fun W hW => HT2.out W hW.e) ?_ (hy := by intro W; go_simp; try with_reducible rfl)
                    refine Free.tk 10 (some 126) (v := .bool false) ?_ (hy := by intro W hW; go_simp; try with_reducible rfl)
                    refine Free.done (fun W9 hb9 hW9 => ?_)
                    have HI9 := Lib.hid hW9.b
                    clear hb9 hW9
                    go_wp2
                    exact ⟨⟨j + 1, by omega, by go_num, HI9⟩, by simp [natI]; omega⟩
                  · obtain rfl : j = ps.length := by omega
                    have HSa := Lib.hid (same_any (HW11.out.2.below HI.out).pls (HW11.out.1.below HI.out).pls)
                    have HB12 := Lib.hid hbw
                    clear hbw HI
                    generalize whoL s f.ps = wl at HSa HW11 hvm hwm hwl ⊢
                    go_wp2_with fail
                    refine HSa.out.mono ?_
                    rintro e w13 ⟨rfl, hb⟩
                    simp only [decide_true]
                    have HB13 := Lib.hid (belT HB12.out hb)
                    clear hb HSa
                    go_wp2_with fail
                    refine (HK.out _ HB13.out).mono ?_
                    rintro e w' ⟨rfl, hb⟩
                    have HB := Lib.hid (belT HB13.out hb)
                    clear hb
                    go_wp2
                    go_ret
                    exact ⟨rfl, HB.out⟩
          · rw [if_neg h6] at HO8 hvm ⊢
            rw [if_neg h6]
            have hnlt : (65536 : Int) ≤ s := by omega
            go_wp2_with fail
            refine (HK.out _ HB8.out).mono ?_
            rintro e w' ⟨rfl, hb⟩
            have HB := Lib.hid (belT HB8.out hb)
            clear hb
            go_wp2
            go_ret
            exact ⟨rfl, HB.out⟩
end Go.Proofs.YtiohlmccnllklaaGreatDoor.Q
