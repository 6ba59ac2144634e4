/-
  Layer 14: QueryRoots: walk.
-/
import Derived.Test.YtiohlmccnllklaaDoorG22
import Derived.Test.YtiohlmccnllklaaDoorG25
set_option linter.unusedVariables false
set_option linter.unusedSimpArgs false
namespace Go.Proofs.YtiohlmccnllklaaDoor.Q
open Go.RowKit
set_option maxHeartbeats 8000000
set_option maxRecDepth 100000
set_option linter.unusedVariables false
set_option linter.unusedSimpArgs false

/-- What the walks behind made hold: the tables, the history, the document's notes. -/
structure QrS (w : World) (S mb : Nat) (l : List T.Ad) (nv : Value) (W : World) : Prop where
  e : Env W
  h : HsW w S mb (T.mdN l) W
  n : NsR w W nv (T.mdN l).1
theorem QrS.below {w : World} {S mb : Nat} {l : List T.Ad} {nv : Value} {W W' : World} (h : QrS w S mb l nv W) (hb : Below W.heap.size W W') : QrS w S mb l nv W' := ⟨h.e.below hb, h.h.below hb, h.n.below hb⟩
/-- .. with a place's and a step's cells, and a row that was told. -/
structure Qr12 (w : World) (S mb : Nat) (l : List T.Ad) (nv : Value) (g o : Nat) (p : T.Pl) (g2 o2 : Nat) (s : Int) (rv : Value) (r : List T.Pl) (W : World) : Prop where
  q : QrS w S mb l nv W
  x : W.cell? ⟨g, o, none⟩ = some (.int .i64 p.1)
  y : W.cell? ⟨g, o + 1, none⟩ = some (.int .i64 p.2)
  z : W.cell? ⟨g2, o2, none⟩ = some (.int .i64 s)
  r : PlsIn W rv r
theorem Qr12.stb (w : World) (S mb : Nat) (l : List T.Ad) (nv : Value) (g o : Nat) (p : T.Pl) (g2 o2 : Nat) (s : Int) (rv : Value) (r : List T.Pl) : Free.Stb (Qr12 w S mb l nv g o p g2 o2 s rv r) := fun W W' h hb => ⟨h.q.below hb, cell_below h.x hb, cell_below h.y hb, cell_below h.z hb, h.r.below hb⟩
theorem QueryRoots_walk {w : World} (he : Env w) {lv pv sv : Value} {l : List T.Ad} {ps : List T.Pl} {ss : List Int} (hl : AdsIn w lv l) (hp : PlsIn w pv ps) (hs : NIn .i64 w sv ss) (hs64 : ∀ x ∈ ss, I64 x) :
    Calls Tryd.prog 4 #[lv, pv, sv] w fun e w' => e = .returned (.bool true) ∧ Below w.heap.size w w' := by
  have HK := Lib.hid (fun W (hb : Below w.heap.size w W) => known_any (he.below hb))
  have HE := Lib.hid (fun W (hb : Below w.heap.size w W) => (show Env W from he.below hb))
  have HA := Lib.hid (fun W (hb : Below w.heap.size w W) => (show AdsIn W lv l from hl.below hb))
  have HP := Lib.hid (fun W (hb : Below w.heap.size w W) => (show PlsIn W pv ps from hp.below hb))
  have HS := Lib.hid (fun W (hb : Below w.heap.size w W) => (show NIn .i64 W sv ss from hs.below hb))
  have H64 := Lib.hid hs64
  have HV := Lib.hid (vast_any hl)
  obtain ⟨ol, cl, rfl, _, hml⟩ := hl.shape
  obtain ⟨op, cp, rfl, _, hmp⟩ := hp.shape
  obtain ⟨os, cs, rfl, _, hms⟩ := hs.shape
  unfold maxLen at hml hmp hms
  clear hl hp hs he hs64
  go_enter Tryd.func4, Tryd.ntmps4
  go_wp2_with fail
  refine HV.out.mono ?_
  rintro e w2 ⟨b, rfl, hvb, hb2⟩
  have HB2 := Lib.hid hb2
  clear hb2 HV
  cases b with
  | true =>
    clear hvb
    go_wp2_with fail
    refine (HK.out _ HB2.out).mono ?_
    rintro e w' ⟨rfl, hb⟩
    have HB := Lib.hid (belT (by first | exact HB3.out | exact HB2.out) hb)
    clear hb
    go_wp2
    go_ret
    exact ⟨rfl, HB.out⟩
  | false =>
    obtain ⟨hl30, hv⟩ := hvb rfl
    have HNV := Lib.hid hv
    clear hvb hv
    by_cases hc0 : (10 : Int) < (ps.length : Int)
    · go_wp2_with fail
      refine (HK.out _ HB2.out).mono ?_
      rintro e w' ⟨rfl, hb⟩
      have HB := Lib.hid (belT (by first | exact HB3.out | exact HB2.out) hb)
      clear hb
      go_wp2
      go_ret
      exact ⟨rfl, HB.out⟩
    · by_cases hc1 : (10 : Int) < (ss.length : Int)
      · go_wp2_with fail
        refine (HK.out _ HB2.out).mono ?_
        rintro e w' ⟨rfl, hb⟩
        have HB := Lib.hid (belT (by first | exact HB3.out | exact HB2.out) hb)
        clear hb
        go_wp2
        go_ret
        exact ⟨rfl, HB.out⟩
      · have HM := Lib.hid (made_any (HA.out _ HB2.out) HNV.out hl30)
        go_wp2_with fail
        refine HM.out.mono ?_
        rintro e w3 ⟨S, mb, nv, rfl, hm⟩
        have HQ0 : Hid (QrS w2 S mb l nv w3) := Lib.hid ⟨HE.out _ (belT HB2.out hm.b), hm.hw, hm.n⟩
        clear hm HM
        go_wp2_with fail
        go_loopw [10] (fun i wr => ∃ k : Nat, k ≤ ps.length ∧ i = .int .i64 (k : Int) ∧ Hid (QrS w2 S mb l nv wr)) (fun i _ => ps.length + 1 - natI i)
        case atStart => exact ⟨0, by omega, rfl, HQ0⟩
        case round =>
          obtain ⟨i, hi, rfl, HQ⟩ := hrel
          clear HQ0
          by_cases hlt : i < ps.length
          · have hii : (i : Int) < (ps.length : Int) := by omega
            go_wp2_with fail
            go_loopw [11] (fun a wr => ∃ k : Nat, k ≤ ss.length ∧ a = .int .i64 (k : Int) ∧ Hid (QrS w2 S mb l nv wr)) (fun a _ => ss.length + 1 - natI a)
            case atStart => exact ⟨0, by omega, rfl, HQ⟩
            case round =>
              obtain ⟨k, hk, rfl, HQ2⟩ := hrel
              clear HQ
              by_cases hlk : k < ss.length
              · have hki : (k : Int) < (ss.length : Int) := by omega
                have hbw := belT HB2.out HQ2.out.h.b
                obtain ⟨g1, o1, d1, p, e1, _, hpi, r1⟩ := (HP.out _ hbw).at_ hlt
                simp at e1
                obtain ⟨rfl, rfl⟩ := e1
                obtain ⟨g2, o2, d2, s, e2, l2, cz⟩ := (HS.out _ hbw).at_ hlk
                simp at e2
                obtain ⟨rfl, rfl⟩ := e2
                obtain ⟨x1, x2⟩ := rng2 r1
                have HPi := Lib.hid hpi
                have HSi := Lib.hid (H64.out s (List.mem_of_getElem? l2))
                have HD : Hid (Qr12 w2 S mb l nv g1 (o1 + i * 2) p g2 (o2 + k) s (.slice none 0 0) [] (World.drew wr)) := Lib.hid (Qr12.stb _ _ _ _ _ _ _ _ _ _ _ _ _ _ _ ⟨HQ2.out, x1, x2, cz, (own_nil _).pls⟩ (Below.refl _ _).drew)
                clear hbw r1 l2 cz x1 x2 hpi HQ2
                go_wp2_with fail
                refine Free.any (Qr12 w2 S mb l nv g1 (o1 + i * 2) p g2 (o2 + k) s (.slice none 0 0) []) (Qr12.stb _ _ _ _ _ _ _ p _ _ s _ _) HD.out (fun st => ?_)
                refine Free.tk 0 (some 46) ?_ (hy := by intro W hW; go_simp; try with_reducible rfl)
                refine Free.tk 1 (some 47) ?_ (hy := by intro W hW; go_simp; try with_reducible rfl)
                refine Free.tk 2 (some 48) ?_ (hy := by intro W hW; go_simp; try with_reducible rfl)
                refine Free.tk 3 (some 49) (v := .pointer (some ⟨g1, o1 + i * 2, none⟩)) ?_ (hy := by intro W hW; go_simp; try with_reducible rfl)
                refine Free.tk 4 (some 50) (v := .agg #[.int .i64 p.1, .int .i64 p.2]) ?_ (hy := by intro W hW; have x1 := hW.x; have x2 := hW.y; go_simp; try with_reducible rfl)
                refine Free.tk 5 (some 51) ?_ (hy := by intro W hW; go_simp; try with_reducible rfl)
                refine Free.tk 6 (some 52) ?_ (hy := by intro W hW; go_simp; try with_reducible rfl)
                refine Free.tk 7 (some 53) (v := .pointer (some ⟨g2, o2 + k, none⟩)) ?_ (hy := by intro W hW; go_simp; try with_reducible rfl)
                refine Free.tk 8 (some 54) (v := .int .i64 s) ?_ (hy := by intro W hW; have x1 := hW.z; go_simp; try with_reducible rfl)
                refine Free.one 9 (fun W1 hb1 hW1 => ?_)
                refine o_callb (some 55) (by go_simp; first | exact ⟨rfl, rfl⟩ | rfl) ?_
                refine (Roots_md hW1.q.h HNV.out hl30 HPi.out HSi.out).mono ?_
                rintro e W2 ⟨v1, l1, rfl, ho1, hr1, hq1, _, hbb1⟩
                refine ⟨_, rfl, st _ _ hW1 hbb1, ?_⟩
                refine Free.tk 10 (some 12) (v := v1) ?_
                refine Free.done (fun W3 hb3 hW3 => ?_)
                have HD3 : Hid (Qr12 w2 S mb l nv g1 (o1 + i * 2) p g2 (o2 + k) s v1 l1 (World.drew W3)) := Lib.hid (Qr12.stb _ _ _ _ _ _ _ _ _ _ _ _ _ _ _ ⟨hW3.q, hW3.x, hW3.y, hW3.z, (ho1.pls).below hb3⟩ (Below.refl _ _).drew)
                have HR1 := Lib.hid (And.intro hr1 hq1)
                clear hb1 hW1 ho1 hr1 hq1 hbb1 hb3 hW3 HD
                go_wp2_with fail
                refine Free.any (Qr12 w2 S mb l nv g1 (o1 + i * 2) p g2 (o2 + k) s v1 l1) (Qr12.stb _ _ _ _ _ _ _ p _ _ s _ _) HD3.out (fun st => ?_)
                refine Free.tk 0 (some 56) (v := v1) ?_ (hy := by intro W hW; go_simp; try with_reducible rfl)
                refine Free.tk 1 (some 57) ?_ (hy := by intro W hW; go_simp; try with_reducible rfl)
                refine Free.tk 2 (some 58) ?_ (hy := by intro W hW; go_simp; try with_reducible rfl)
                refine Free.tk 3 (some 59) ?_ (hy := by intro W hW; go_simp; try with_reducible rfl)
                refine Free.tk 4 (some 60) (v := .pointer (some ⟨g1, o1 + i * 2, none⟩)) ?_ (hy := by intro W hW; go_simp; try with_reducible rfl)
                refine Free.tk 5 (some 61) (v := .agg #[.int .i64 p.1, .int .i64 p.2]) ?_ (hy := by intro W hW; have x1 := hW.x; have x2 := hW.y; go_simp; try with_reducible rfl)
                refine Free.tk 6 (some 62) ?_ (hy := by intro W hW; go_simp; try with_reducible rfl)
                refine Free.tk 7 (some 63) ?_ (hy := by intro W hW; go_simp; try with_reducible rfl)
                refine Free.tk 8 (some 64) (v := .pointer (some ⟨g2, o2 + k, none⟩)) ?_ (hy := by intro W hW; go_simp; try with_reducible rfl)
                refine Free.tk 9 (some 65) (v := .int .i64 s) ?_ (hy := by intro W hW; have x1 := hW.z; go_simp; try with_reducible rfl)
                refine Free.one 10 (fun W4 hb4 hW4 => ?_)
                refine o_callb (some 66) (by go_simp; first | exact ⟨rfl, rfl⟩ | rfl) ?_
                have hcap := T.mdN_len HNV.out
                refine (RRoots_any hW4.q.n hW4.q.h.b (by omega) (by omega) HPi.out s).mono ?_
                rintro e W5 ⟨v2, l2, rfl, ho2, hr2, hq2, hbb2⟩
                refine ⟨_, rfl, st _ _ hW4 hbb2, ?_⟩
                have hll : l1 = l2 := HR1.out.1.ext hr2 fun q => (HR1.out.2 q).trans (hq2 q).symm
                refine Free.one 11 (fun W6 hb6 hW6 => ?_)
                refine o_callb (some 67) (by go_simp; first | exact ⟨rfl, rfl⟩ | rfl) ?_
                refine (same_any hW6.r (ho2.below hb6)).mono ?_
                rintro e W7 ⟨rfl, hbb3⟩
                rw [decide_eq_true hll]
                refine ⟨_, rfl, st _ _ hW6 hbb3, ?_⟩
                refine Free.tk 12 (some 68) (v := .bool false) ?_ (hy := by intro W hW; go_simp; try with_reducible rfl)
                refine Free.done (fun W8 hb8 hW8 => ?_)
                have HQ9 := Lib.hid hW8.q
                clear hb4 hW4 hcap ho2 hr2 hq2 hbb2 hll hb6 hW6 hbb3 hb8 hW8
                go_wp2
                exact ⟨⟨k + 1, by omega, by go_num, HQ9⟩, by simp [natI]; omega⟩
              · obtain rfl : k = ss.length := by omega
                go_wp2
                exact ⟨⟨i + 1, by omega, by go_num, HQ2⟩, by simp [natI]; omega⟩
          · obtain rfl : i = ps.length := by omega
            have HB3 := Lib.hid (belT HB2.out HQ.out.h.b)
            go_wp2_with fail
            refine (HK.out _ HB3.out).mono ?_
            rintro e w' ⟨rfl, hb⟩
            have HB := Lib.hid (belT (by first | exact HB3.out | exact HB2.out) hb)
            clear hb
            go_wp2
            go_ret
            exact ⟨rfl, HB.out⟩
end Go.Proofs.YtiohlmccnllklaaDoor.Q
