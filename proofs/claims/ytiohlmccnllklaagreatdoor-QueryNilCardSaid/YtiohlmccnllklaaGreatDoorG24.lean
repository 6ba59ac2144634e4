/-
  Layer 14: Who of no flow; QueryNil: walks.
-/
import Derived.Test.YtiohlmccnllklaaGreatDoorG23
import Derived.Test.YtiohlmccnllklaaGreatDoorG20
import Derived.Test.YtiohlmccnllklaaGreatDoorG21
import Derived.Test.YtiohlmccnllklaaGreatDoorG22
set_option linter.unusedVariables false
set_option linter.unusedSimpArgs false
namespace Go.Proofs.YtiohlmccnllklaaGreatDoor.Q
open Go.RowKit
set_option maxHeartbeats 8000000
set_option maxRecDepth 100000
set_option linter.unusedVariables false
set_option linter.unusedSimpArgs false

theorem flow_none (w : World) : Calls Tryz.prog 48 #[.pointer none] w fun e w' => e = .returned (.bool true) ∧ w = w' := by
  go_enter Tryz.func48, Tryz.ntmps48
  go_wp2
  go_ret
  exact ⟨rfl, rfl⟩
theorem flow_ref (v : Value) (w : World) : Calls Tryz.prog 56 #[.pointer none, v] w fun e w' => e = .returned (.int .i64 1) ∧ w = w' := by
  go_enter Tryz.func56, Tryz.ntmps56
  go_wp2_with (go_at_call 48; refine (flow_none _).mono ?_; rintro e w1 ⟨rfl, rfl⟩)
  go_ret
  exact ⟨rfl, rfl⟩
theorem flow_dec (v : Value) (w : World) : Calls Tryz.prog 34 #[.pointer none, v] w fun e w' => e = .returned (.tuple #[.int .u32 0, .int .i64 1]) ∧ w = w' := by
  go_enter Tryz.func34, Tryz.ntmps34
  go_wp2
  refine L2.wp_scope_fwd 0 rfl ?_
  go_wp2_with (go_at_call 56; refine (flow_ref _ _).mono ?_; rintro e w1 ⟨rfl, rfl⟩)
  go_step3
  refine ⟨rfl, ?_⟩
  go_wp2
  rw [Exit.noGoto_ret]
  go_ret2
  exact ⟨rfl, rfl⟩
theorem Who_nil (s : Int) (w : World) : Calls Tryz.prog 10 #[.pointer none, .int .u32 s] w fun e w' => e = .returned (.tuple #[.slice none 0 0, .int .i64 1]) ∧ Below w.heap.size w w' := by
  have HB := Lib.hid (belT (bel1 w (.cells #[.int .u32 s] 23)) (bel1 _ (.cells #[.slice none 0 0] 24)))
  go_enter Tryz.func10, Tryz.ntmps10
  go_wp2
  refine L2.wp_scope_fwd 0 rfl ?_
  go_wp2_with (go_at_call 34; refine (flow_dec _ _).mono ?_; rintro e w1 ⟨rfl, rfl⟩)
  go_step3
  refine ⟨rfl, ?_⟩
  go_wp2
  rw [Exit.noGoto_ret]
  go_ret2
  exact ⟨rfl, HB.out⟩
theorem T.md_hi {M : Int} (h0 : 0 ≤ M) : ∀ {l : List T.Ad}, (∀ a ∈ l, a.1 ≤ M) → ∀ {m : List T.No × Int}, m.2 ≤ M → (l.foldl T.stM m).2 ≤ M
  | [], _, _, h => h
  | a :: r, hl, m, h => by
    rw [List.foldl_cons]
    refine T.md_hi h0 (fun b hb => hl b (by simp [hb])) ?_
    unfold T.stM
    split
    · exact h
    · dsimp only
      split
      · exact h
      · exact hl a (by simp)
theorem pc_one (s : Int) : T.tsN s [((2, 0), [])] = [⟨s, (2, 0), []⟩] := by unfold T.tsN; rfl
theorem ts_pc {w : World} {B : Nat} {p : T.Pl} (hb : Blk w B #[.int .i64 p.1, .int .i64 p.2, .slice none 0 0] 61) (hp : Pi p) : TsIn w (.slice (some ⟨B, 0, none⟩) 1 1) [(p, [])] :=
  TsIn.lit (l := [(p, [])]) (cs := [.int .i64 p.1, .int .i64 p.2, .slice none 0 0]) hb ⟨_, [], rfl, (own_nil w).pls, rfl⟩ rfl (by simp [maxLen]) (by simpa using hp)
/-- All that the last test reads. -/
structure NiS (p : T.Pl) (P Z N S mb S2 mb2 n : Nat) (la la2 : Int) (W : World) : Prop where
  e : Env W
  p : Blk W P #[.int .i64 p.1, .int .i64 p.2] 42
  z : Blk W Z #[.map none, .int .i64 0, .int .i64 0] 58
  nb : Blk W N #[.int .i64 0, .int .i64 0, .int .i64 0, .slice none 0 0] 63
  a : Rf 58 3 W S (hc mb n la)
  c : Rf 58 3 W S2 (hc mb2 (n + 1) la2)
theorem NiS.below {p : T.Pl} {P Z N S mb S2 mb2 n : Nat} {la la2 : Int} {W W' : World} (h : NiS p P Z N S mb S2 mb2 n la la2 W) (hb : Below W.heap.size W W') : NiS p P Z N S mb S2 mb2 n la la2 W' := ⟨h.e.below hb, h.p.below hb, h.z.below hb, h.nb.below hb, h.a.below hb, h.c.below hb⟩
theorem QueryNil_walk {w : World} (he : Env w) {lv : Value} {l : List T.Ad} {p : T.Pl} (hl : AdsIn w lv l) (hp : Pi p) :
    Calls Tryz.prog 4 #[lv, .agg #[.int .i64 p.1, .int .i64 p.2]] w fun e w' => e = .returned (.bool true) ∧ Below w.heap.size w w' := by
  have HK := Lib.hid (fun W (hb : Below w.heap.size w W) => known_any (he.below hb))
  have HE := Lib.hid (fun W (hb : Below w.heap.size w W) => (show Env W from he.below hb))
  have HA := Lib.hid (fun W (hb : Below w.heap.size w W) => (show AdsIn W lv l from hl.below hb))
  have HPi := Lib.hid hp
  have hb0 := bel1 w (.cells #[.int .i64 p.1, .int .i64 p.2] 42)
  have HPb := Lib.hid (blk_new w #[.int .i64 p.1, .int .i64 p.2] 42)
  have HV := Lib.hid (vast_any (hl.below hb0))
  have HB0 := Lib.hid hb0
  have H64 : Hid (∀ a ∈ l, I64 a.1) := Lib.hid (by obtain ⟨_, _, _, h⟩ := hl; exact h)
  obtain ⟨ol, cl, rfl, _, hml⟩ := hl.shape
  unfold maxLen at hml
  clear hl he hp hb0
  go_enter Tryz.func4, Tryz.ntmps4
  go_wp2_with fail
  refine HV.out.mono ?_
  rintro e w2 ⟨b, rfl, hvb, hb2⟩
  have HB2 := Lib.hid (belT HB0.out hb2)
  have HP2 := Lib.hid (HPb.out.below hb2)
  clear hb2 HV HPb HB0
  cases b with
  | true =>
    clear hvb
    go_wp2_with fail
    refine (HK.out _ HB2.out).mono ?_
    rintro e w' ⟨rfl, hb⟩
    have HB := Lib.hid (belT HB2.out hb)
    clear hb
    go_wp2
    go_ret
    exact ⟨rfl, HB.out⟩
  | false =>
    obtain ⟨hl30, hv⟩ := hvb rfl
    have HNV := Lib.hid hv
    clear hvb hv
    have hzh := zero_hist
    have hzn := zero_note
    have hzp := zero_place
    have hzt := zero_touch
    have hb := bel1 w2 (.cells #[.map none, .int .i64 0, .int .i64 0] 58)
    have HZ3 := Lib.hid (blk_new w2 #[.map none, .int .i64 0, .int .i64 0] 58)
    have HP3 := Lib.hid (HP2.out.below hb)
    have HB3 := Lib.hid (belT HB2.out hb)
    clear hb HP2 HB2
    go_wp2_with fail
    refine (Add_nil _ _ _).mono ?_
    rintro e w4 ⟨rfl, hb⟩
    have HZ4 := Lib.hid (HZ3.out.below hb)
    have HP4 := Lib.hid (HP3.out.below hb)
    have HB4 := Lib.hid (belT HB3.out hb)
    clear hb HZ3 HP3 HB3
    have p0 := HP4.out.cell 0
    have p1 := HP4.out.cell 1
    simp only [List.getElem?_toArray, List.getElem?_cons_zero, List.getElem?_cons_succ] at p0 p1
    have hb := bel1 w4 (.cells #[.int .i64 p.1, .int .i64 p.2, .slice none 0 0] 61)
    have HZ5 := Lib.hid (HZ4.out.below hb)
    have HP5 := Lib.hid (HP4.out.below hb)
    have HB5 := Lib.hid (belT HB4.out hb)
    clear hb HZ4 HP4 HB4
    go_wp2_with fail
    refine (Add_zero _ _ _ _ (HZ5.out.cell 0)).mono ?_
    rintro e w6 ⟨rfl, hb⟩
    have HZ6 := Lib.hid (HZ5.out.below hb)
    have HP6 := Lib.hid (HP5.out.below hb)
    have HB6 := Lib.hid (belT HB5.out hb)
    clear hb HZ5 HP5 HB5 p0 p1
    have p0 := HP6.out.cell 0
    have p1 := HP6.out.cell 1
    simp only [List.getElem?_toArray, List.getElem?_cons_zero, List.getElem?_cons_succ] at p0 p1
    go_wp2_with fail
    refine (Last_nil _ _ _).mono ?_
    rintro e w7 ⟨rfl, hb⟩
    simp only [noc, no0]
    have hb8 := bel1 w7 (.cells #[.int .i64 0, .int .i64 0, .int .i64 0, .slice none 0 0] 63)
    have HN8 := Lib.hid (blk_new w7 #[.int .i64 0, .int .i64 0, .int .i64 0, .slice none 0 0] 63)
    have HZ8 := Lib.hid ((HZ6.out.below hb).below hb8)
    have HP8 := Lib.hid ((HP6.out.below hb).below hb8)
    have HB8 := Lib.hid (belT (belT HB6.out hb) hb8)
    clear hb hb8 HZ6 HP6 HB6 p0 p1
    go_wp2_with fail
    refine (Who_nil _ _).mono ?_
    rintro e w9 ⟨rfl, hb⟩
    have HN9 := Lib.hid (HN8.out.below hb)
    have HZ9 := Lib.hid (HZ8.out.below hb)
    have HP9 := Lib.hid (HP8.out.below hb)
    have HB9 := Lib.hid (belT HB8.out hb)
    clear hb HN8 HZ8 HP8 HB8
    have HM := Lib.hid (made_any (HA.out _ HB9.out) HNV.out hl30)
    go_wp2_with fail
    refine HM.out.mono ?_
    rintro e w10 ⟨S, mb, nv, rfl, hm⟩
    have hcap := T.mdN_len HNV.out
    have hgood := T.mdN_good l
    have hhi : (T.mdN l).2 ≤ 9223372036854775807 := T.md_hi (by decide) (fun a ha => (H64.out a ha).2) (by decide)
    have hnn := hgood.nn
    obtain ⟨onv, cnv, rfl, _, hmn⟩ : ∃ ao c, nv = .slice ao (T.mdN l).1.length c ∧ (T.mdN l).1.length ≤ c ∧ (T.mdN l).1.length ≤ maxLen := by obtain ⟨cs, h1, _⟩ := hm.n; exact h1.shape
    unfold maxLen at hmn
    obtain ⟨V, hh, hlo, _⟩ := hm.h
    have hb10 := hm.b
    generalize hns : (T.mdN l).1 = ns at *
    generalize hla : (T.mdN l).2 = la at *
    have HH10 := Lib.hid hh
    have HLo := Lib.hid hlo
    have HB10 := Lib.hid hb10
    have HHi := Lib.hid hhi
    have HCy := Lib.hid (Copy_any hh (by omega))
    clear hm HM hh hlo hb10 hgood hhi hns hla
    go_wp2_with fail
    refine HCy.out.mono ?_
    rintro e w11 ⟨S2, mb2, rfl, hc11, hb11, hS2, hmb2⟩
    have hs11 := hb11.size
    have hlS := HH10.out.blk.lt
    have hnS : ¬ hF S2 mb2 (fun p => clp (V p)) S := by
      rintro (e | e | ⟨q, e⟩)
      · omega
      · omega
      · exact (HH10.out.neR ((HH10.out.row q).clp_blk e)).1 rfl
    have hlo2 : ∀ k, hF S2 mb2 (fun p => clp (V p)) k → w9.heap.size ≤ k := by
      have := HB10.out.size
      rintro k (e | e | ⟨q, e⟩)
      · omega
      · omega
      · exact HLo.out k (.inr (.inr ⟨q, (HH10.out.row q).clp_blk e⟩))
    have HNS := Lib.hid hnS
    have HLo2 := Lib.hid hlo2
    have hb12 := bel1 w11 (.cells #[.int .i64 2, .int .i64 0, .slice none 0 0] 61)
    have HB12 := Lib.hid (belT (belT HB10.out hb11) hb12)
    have HS12 := Lib.hid ((HH10.out.blk.below hb11).below hb12)
    have hc12 := hc11.below hb12
    have hbk := blk_new w11 #[.int .i64 2, .int .i64 0, .slice none 0 0] 61
    have HAd := Lib.hid (Add_any hc12 (ts := [((2, 0), [])]) (fun W' ht => ts_pc (p := (2, 0)) (hbk.turned ht fun e => hc12.noBlk e hbk (by decide) (by decide)) (by simp [Pi, I64])) (by simp; omega) (by simp) (s := 9223372036854775807) (by simp [I64]))
    clear hc11 hb11 hS2 hmb2 hs11 hlS hnS hlo2 hb12 hc12 hbk HCy
    go_wp2_with fail
    refine HAd.out.mono ?_
    rintro e w13 ⟨rfl, hg⟩
    rw [if_neg (by have := HHi.out; omega)]
    have HX : Hid (Below w9.heap.size w9 w13 ∧ ∃ la2, NiS p w.heap.size w2.heap.size w7.heap.size S mb S2 mb2 ns.length la la2 w13) := Lib.hid (by
      have hbb : Below w9.heap.size w9 w13 := HB12.out.trans (hg.t.below HB12.out.size HLo2.out)
      obtain ⟨V', h1, _⟩ := hg.h
      have h2 : (T.stM (ns, la) (9223372036854775807, [((2, 0), [])])).1.length = ns.length + 1 := by
        unfold T.stM
        rw [if_neg (by have := HHi.out; simp; omega), pc_one]
        simp
      have h3 := h1.blk
      rw [h2] at h3
      exact ⟨hbb, _, HE.out _ (belT HB9.out hbb), HP9.out.below hbb, HZ9.out.below hbb, HN9.out.below hbb, HS12.out.turned hg.t HNS.out, h3⟩)
    have hn9 : (ns.length : Int) ≤ 1000 := by omega
    clear hg HAd HS12 HB12 HNS HLo2 HP9 HZ9 HN9 HH10 HLo HB10 HHi hnn hcap
    obtain ⟨hbb, la2, hx⟩ := HX.out
    have HB13 := Lib.hid (belT HB9.out hbb)
    have HX13 := Lib.hid hx
    clear hbb hx HX HB9 hmn
    simp only [List.append]
    have p0 := HX13.out.p.cell 0
    have p1 := HX13.out.p.cell 1
    have n0 := HX13.out.nb.cell 0
    have n1 := HX13.out.nb.cell 1
    have n2 := HX13.out.nb.cell 2
    have n3 := HX13.out.nb.cell 3
    simp only [List.getElem?_toArray, List.getElem?_cons_zero, List.getElem?_cons_succ] at p0 p1 n0 n1 n2 n3
    go_wp2_with fail
    refine (alike_any (n := no0) (own_nil _).pls (own_nil _).pls).mono ?_
    rintro e w14 ⟨rfl, hb⟩
    have HX14 := Lib.hid (HX13.out.below hb)
    have HB14 := Lib.hid (belT HB13.out hb)
    clear hb HX13 HB13 p0 p1 n0 n1 n2 n3
    have p0 := HX14.out.p.cell 0
    have p1 := HX14.out.p.cell 1
    have n0 := HX14.out.nb.cell 0
    have n1 := HX14.out.nb.cell 1
    have n2 := HX14.out.nb.cell 2
    have n3 := HX14.out.nb.cell 3
    simp only [List.getElem?_toArray, List.getElem?_cons_zero, List.getElem?_cons_succ] at p0 p1 n0 n1 n2 n3
    go_wp2_with fail
    refine (Roots_nil _ _ _).mono ?_
    rintro e w15 ⟨rfl, hb⟩
    have HX15 := Lib.hid (HX14.out.below hb)
    have HB15 := Lib.hid (belT HB14.out hb)
    clear hb HX14 HB14 p0 p1 n0 n1 n2 n3
    have p0 := HX15.out.p.cell 0
    have p1 := HX15.out.p.cell 1
    have n0 := HX15.out.nb.cell 0
    have n1 := HX15.out.nb.cell 1
    have n2 := HX15.out.nb.cell 2
    have n3 := HX15.out.nb.cell 3
    simp only [List.getElem?_toArray, List.getElem?_cons_zero, List.getElem?_cons_succ] at p0 p1 n0 n1 n2 n3
    go_wp2_with fail
    refine (Notes_zero _ _ _ (HX15.out.z.cell 0)).mono ?_
    rintro e w16 ⟨rfl, hb⟩
    have HX16 := Lib.hid (HX15.out.below hb)
    have HB16 := Lib.hid (belT HB15.out hb)
    clear hb HX15 HB15 p0 p1 n0 n1 n2 n3
    have p0 := HX16.out.p.cell 0
    have p1 := HX16.out.p.cell 1
    have n0 := HX16.out.nb.cell 0
    have n1 := HX16.out.nb.cell 1
    have n2 := HX16.out.nb.cell 2
    have n3 := HX16.out.nb.cell 3
    simp only [List.getElem?_toArray, List.getElem?_cons_zero, List.getElem?_cons_succ] at p0 p1 n0 n1 n2 n3
    go_wp2_with fail
    refine (len_nil _).mono ?_
    rintro e w17 ⟨rfl, rfl⟩
    clear p0 p1 n0 n1 n2 n3
    have p0 := HX16.out.p.cell 0
    have p1 := HX16.out.p.cell 1
    have n0 := HX16.out.nb.cell 0
    have n1 := HX16.out.nb.cell 1
    have n2 := HX16.out.nb.cell 2
    have n3 := HX16.out.nb.cell 3
    simp only [List.getElem?_toArray, List.getElem?_cons_zero, List.getElem?_cons_succ] at p0 p1 n0 n1 n2 n3
    go_wp2_with fail
    refine (Copy_zero _ _ (HX16.out.z.cell 0)).mono ?_
    rintro e w18 ⟨rfl, rfl⟩
    clear p0 p1 n0 n1 n2 n3
    have p0 := HX16.out.p.cell 0
    have p1 := HX16.out.p.cell 1
    have n0 := HX16.out.nb.cell 0
    have n1 := HX16.out.nb.cell 1
    have n2 := HX16.out.nb.cell 2
    have n3 := HX16.out.nb.cell 3
    simp only [List.getElem?_toArray, List.getElem?_cons_zero, List.getElem?_cons_succ] at p0 p1 n0 n1 n2 n3
    go_wp2_with fail
    refine (len_any HX16.out.a).mono ?_
    rintro e w19 ⟨rfl, rfl⟩
    clear p0 p1 n0 n1 n2 n3
    have p0 := HX16.out.p.cell 0
    have p1 := HX16.out.p.cell 1
    have n0 := HX16.out.nb.cell 0
    have n1 := HX16.out.nb.cell 1
    have n2 := HX16.out.nb.cell 2
    have n3 := HX16.out.nb.cell 3
    simp only [List.getElem?_toArray, List.getElem?_cons_zero, List.getElem?_cons_succ] at p0 p1 n0 n1 n2 n3
    go_wp2_with fail
    refine (len_any HX16.out.c).mono ?_
    rintro e w20 ⟨rfl, rfl⟩
    clear p0 p1 n0 n1 n2 n3
    rw [show ((ns.length + 1 : Nat) : Int) = (ns.length : Int) + 1 by omega]
    have p0 := HX16.out.p.cell 0
    have p1 := HX16.out.p.cell 1
    have n0 := HX16.out.nb.cell 0
    have n1 := HX16.out.nb.cell 1
    have n2 := HX16.out.nb.cell 2
    have n3 := HX16.out.nb.cell 3
    simp only [List.getElem?_toArray, List.getElem?_cons_zero, List.getElem?_cons_succ] at p0 p1 n0 n1 n2 n3
    go_wp2_with fail
    refine (len_any HX16.out.a).mono ?_
    rintro e w21 ⟨rfl, rfl⟩
    clear p0 p1 n0 n1 n2 n3
    go_wp2_with fail
    refine (HK.out _ HB16.out).mono ?_
    rintro e w' ⟨rfl, hb⟩
    have HB := Lib.hid (belT HB16.out hb)
    clear hb
    go_wp2
    go_ret
    exact ⟨rfl, HB.out⟩
end Go.Proofs.YtiohlmccnllklaaGreatDoor.Q
