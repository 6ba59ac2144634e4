/-
  Layer 12: Get, Decides, Pages, Sets of a flow: walks. (written by gen_gd.py)
-/
import Derived.Test.YtiohlmccnllklaaGreatDoorH18
set_option linter.unusedVariables false
set_option linter.unusedSimpArgs false
namespace Go.Proofs.YtiohlmccnllklaaGreatDoor
open Go.RowKit
set_option maxHeartbeats 8000000
set_option maxRecDepth 100000
set_option linter.unusedVariables false
set_option linter.unusedSimpArgs false

/-! ### what decides -/
theorem dec_app (l : List T.Pr) : ∀ (r1 r2 : List T.Tc) (s : Int), T.dec l s (r1 ++ r2) = T.dec l (T.dec l s r1) r2
  | [], _, _ => rfl
  | _ :: r, r2, s => dec_app l r r2 _
theorem dec_snoc {l : List T.Pr} {ts : List T.Tc} {k : Nat} {t : T.Tc} (h : ts[k]? = some t) : T.dec l 0 (ts.take (k + 1)) = if t.1 = T.none0 then T.orI (T.dec l 0 (ts.take k)) (T.tog l 0 t.2) else T.dec l 0 (ts.take k) := by
  rw [List.take_add_one, h]
  simp only [Option.toList_some]
  rw [dec_app]; rfl
theorem dec_bnd {l : List T.Pr} (h : T.Small l) : ∀ (ts : List T.Tc) (s : Int), 0 ≤ s ∧ s < 65536 → 0 ≤ T.dec l s ts ∧ T.dec l s ts < 65536
  | [], _, hs => hs
  | t :: r, s, hs => by
    refine dec_bnd h r _ ?_
    split
    · exact T.orI_bd hs (h.tog (by omega) _)
    · exact hs
theorem Decides_any {w : World} {S : Nat} {f : T.Fl} {F : Nat → Prop} (h : At w S f F) {v : Value} {ts : List T.Tc} (hv : TsIn w v ts) : Calls Tryz.prog 34 #[.pointer (some ⟨S, 0, none⟩), v] w fun e w' =>
    e = .returned (.tuple #[.int .u32 (f.decides ts).1, .int .i64 (f.decides ts).2]) ∧ Below w.heap.size w w' := by
  obtain ⟨Tb, P, m, FT, M, D, C, FM, FD, rfl, hf⟩ := h
  have HR := Lib.hid (ref_any hf hv)
  have HA := Lib.hid (fun W (hb : Below w.heap.size w W) => And.intro (hf.below hb) (hv.below hb))
  have HSm := Lib.hid hf.pl.small
  have HD : Hid (f.decides ts = if T.mayAll f.fr f.se ts = false then (0, 2) else (T.dec f.ps 0 ts, 0)) := rfl
  have HT : Hid (refT f.fr f.se ts = if T.mayAll f.fr f.se ts = true then 0 else 2) := rfl
  obtain ⟨oa, ca, rfl, _, hla⟩ := hv.shape
  unfold maxLen at hla
  clear hf hv
  cases hm : T.mayAll f.fr f.se ts with
  | false =>
    rw [hm] at HD HT
    simp only [Bool.false_eq_true, if_false, if_true] at HD HT
    rw [HT.out] at HR
    have HH := Lib.hid hm
    clear hm
    go_enter Tryz.func34, Tryz.ntmps34
    go_wp2
    refine L2.wp_scope_fwd 0 rfl ?_
    go_wp2_with (go_at_call 56; refine HR.out.mono ?_; rintro e w1 ⟨rfl, hb⟩)
    go_step3
    refine ⟨rfl, ?_⟩
    go_wp2
    rw [Exit.noGoto_ret]
    go_ret2
    rw [HD.out]
    exact ⟨rfl, hb⟩
  | true =>
    rw [hm] at HD HT
    simp only [Bool.true_eq_false, if_false, if_true] at HD HT
    rw [HT.out] at HR
    have HM := Lib.hid (List.all_eq_true.1 hm)
    clear hm
    go_enter Tryz.func34, Tryz.ntmps34
    go_wp2
    refine L2.wp_scope_fwd 0 rfl ?_
    go_wp2_with (go_at_call 56; refine HR.out.mono ?_; rintro e w1 ⟨rfl, hb⟩)
    have HB1 := Lib.hid hb
    clear hb
    go_loopw [6, 17] (fun s i wr => ∃ k : Nat, k ≤ ts.length ∧ s = .int .u32 (T.dec f.ps 0 (ts.take k)) ∧ i = .int .i64 (k : Int) ∧ Hid (Below w.heap.size w wr)) (fun _ i _ => ts.length + 1 - natI i)
    case atStart => exact ⟨0, by omega, by rw [List.take_zero]; rfl, rfl, HB1.out⟩
    case round =>
      obtain ⟨k, hk, rfl, rfl, HBl⟩ := hrel
      by_cases hlt : k < ts.length
      · have hi : (k : Int) < (ts.length : Int) := by omega
        obtain ⟨hfl, hvl⟩ := HA.out _ HBl.out
        obtain ⟨g1, o1, c1, t, fv, e1, l1, hpi, hpl, r1⟩ := hvl.at_ hlt
        obtain ⟨q1, q2, q3⟩ := rng3 r1
        simp at e1
        obtain ⟨rfl, rfl⟩ := e1
        obtain ⟨of, cf, rfl, _, _⟩ := hpl.shape
        have hb1 := bel1 wr (.cells #[.int .i64 t.1.1, .int .i64 t.1.2, .slice of t.2.length cf] 61)
        have HB2 := Lib.hid (HBl.out.alloc HBl.out.size (.cells #[.int .i64 t.1.1, .int .i64 t.1.2, .slice of t.2.length cf] 61))
        have hF := hfl.below hb1
        have HS1 : Hid (TcS S Tb P wr.heap.size t (.slice of t.2.length cf) M D C f.fr f.se f.ps FM FD (wr.alloc (.cells #[.int .i64 t.1.1, .int .i64 t.1.2, .slice of t.2.length cf] 61))) := ⟨hF.s0, hF.s1, (blk_new wr _ _).cell 0, (blk_new wr _ _).cell 1, (blk_new wr _ _).cell 2, hpl.below hb1, hF.pl⟩
        have hmt := HM.out t (List.mem_of_getElem? l1)
        unfold T.mayT at hmt
        have HMt := Lib.hid (show t.2.all (T.may f.fr f.se) = true by simp only [Bool.and_eq_true] at hmt; exact hmt.2)
        have HN := Lib.hid (dec_snoc (l := f.ps) l1)
        have hdb := dec_bnd HSm.out (ts.take k) 0 (by omega)
        have htb := HSm.out.tog (s := 0) (by omega) t.2
        have HO := Lib.hid (L2.orI_bits (T.dec f.ps 0 (ts.take k)) (T.tog f.ps 0 t.2) ⟨hdb.1, by omega⟩ ⟨htb.1, by omega⟩)
        clear hfl hvl l1 r1 hpl hpi hb1 hF hmt hdb htb
        generalize T.dec f.ps 0 (ts.take k) = u at HN HO ⊢
        cases hd : decide (t.1 = T.none0) with
        | false =>
          have HDc := Lib.hid (fun W => (decides_any t.1 (.slice of t.2.length cf) W))
          rw [hd] at HDc
          rw [if_neg (of_decide_eq_false hd)] at HN
          clear hd
          go_wp2_with (go_at_call 57; refine (HDc.out _).mono ?_; rintro e w2 ⟨rfl, hb⟩)
          exact ⟨⟨k + 1, by omega, by rw [HN.out], by go_num, HB2.out.trans (hb.mono HB2.out.size)⟩, by simp [natI]; omega⟩
        | true =>
          have HDc := Lib.hid (fun W => (decides_any t.1 (.slice of t.2.length cf) W))
          rw [hd] at HDc
          rw [if_pos (of_decide_eq_true hd)] at HN
          clear hd
          go_wp2_with (go_at_call 57; refine (HDc.out _).mono ?_; rintro e w2 ⟨rfl, hb⟩)
          have HB3 := Lib.hid (HB2.out.trans (hb.mono HB2.out.size))
          have HS3 : Hid (TcS S Tb P wr.heap.size t (.slice of t.2.length cf) M D C f.fr f.se f.ps FM FD w2.drew) := TcS.stb S Tb P wr.heap.size t (.slice of t.2.length cf) M D C f.fr f.se f.ps FM FD w2 w2.drew (TcS.stb S Tb P wr.heap.size t (.slice of t.2.length cf) M D C f.fr f.se f.ps FM FD _ w2 HS1.out hb) (Below.refl _ _).drew
          clear hb
          refine Free.any (TcS S Tb P wr.heap.size t (.slice of t.2.length cf) M D C f.fr f.se f.ps FM FD) (TcS.stb S Tb P wr.heap.size t (.slice of t.2.length cf) M D C f.fr f.se f.ps FM FD) HS3.out (fun st => ?_)
          refine Free.tk 0 (some 23) ?_
          refine Free.tk 1 (some 24) ?_
          refine Free.tk 2 (some 25) ?_ (hy := by intro W hW; have s0 := hW.s0; have s1 := hW.s1; have b0 := hW.b0; have b1 := hW.b1; have b2 := hW.b2; go_simp; try with_reducible rfl)
          refine Free.tk 3 (some 26) ?_
          refine Free.tk 4 (some 27) ?_ (hy := by intro W hW; have s0 := hW.s0; have s1 := hW.s1; have b0 := hW.b0; have b1 := hW.b1; have b2 := hW.b2; go_simp; try with_reducible rfl)
          refine Free.tk 5 (some 28) ?_
          refine Free.tk 6 (some 29) ?_ (hy := by intro W hW; have s0 := hW.s0; have s1 := hW.s1; have b0 := hW.b0; have b1 := hW.b1; have b2 := hW.b2; go_simp; try with_reducible rfl)
          refine Free.cl 7 (some 30) st (fun W hW => togp_any hW.pl hW.fv HMt.out) ?_ (hy := by intro W; go_simp; try rfl)
          refine Free.tk 8 (some 31) ?_
          refine Free.tk 9 (some 6) ?_
          refine Free.done (fun W hb hW => ?_)
          have HB4 := Lib.hid (HB3.out.drew.trans (hb.mono (by have := HB3.out.size; simpa using this)))
          clear hb hW
          go_wp2
          refine ⟨⟨k + 1, by omega, by rw [HN.out, HO.out], by go_num, HB4.out⟩, by simp [natI]; omega⟩
      · obtain rfl : k = ts.length := by omega
        have HQ := Lib.hid (List.take_length (l := ts))
        go_wp2
        rw [L2.Fwd_ret]
        go_ret2
        rw [HD.out, HQ.out]
        exact ⟨rfl, HBl.out⟩

/-! ### pages, sets -/
theorem row_pages {fr se : Int} {ps : List T.Pr} (hr : T.Ris ps) {k : Int} {P : Nat} (hb : ∀ x ∈ ps, x.1.1 = k → 0 ≤ x.1.2 ∧ x.1.2 < 64 * P) : ((L3.privs (T.row ps k (64 * P)) P).length : Int) = T.pgs k (-1) 0 ps := by
  rw [T.pgs_count hr hb (f := L3.priv (T.row ps k (64 * P))) fun p hp => ?_]
  · rfl
  · have hl : (T.row ps k (64 * P)).length = 64 * P := T.row_len _ _ _
    constructor
    · intro h
      obtain ⟨i, hi, hz⟩ := L3.priv_has hl h
      refine ⟨i, hi, ?_⟩
      have hlt : 64 * p + i < 64 * P := by omega
      unfold L3.nz at hz
      rw [T.row_at hlt] at hz
      simpa using hz
    · rintro ⟨i, hi, hz⟩
      have hlt : 64 * p + i < 64 * P := by omega
      refine L3.is_priv hl hi ?_
      unfold L3.nz
      rw [T.row_at hlt]
      simpa using hz
theorem may_mem {fr se : Int} {ps : List T.Pr} (h : ∀ x ∈ ps, T.may fr se x.1 = true) (hb : Bd fr se) : ∀ x ∈ ps, x.1.1 = 10 → 0 ≤ x.1.2 ∧ x.1.2 < 64 * (fr.toNat : Int) := fun x hx e => by
  have := T.may_iff.1 (h x hx)
  rw [e, most_mem] at this
  have := hb.f; omega
theorem may_dsk {fr se : Int} {ps : List T.Pr} (h : ∀ x ∈ ps, T.may fr se x.1 = true) (hb : Bd fr se) : ∀ x ∈ ps, x.1.1 = 12 → 0 ≤ x.1.2 ∧ x.1.2 < 64 * (se.toNat : Int) := fun x hx e => by
  have := T.may_iff.1 (h x hx)
  rw [e, most_dsk] at this
  have := hb.s; omega
/-- What the region of Pages knows. -/
structure PgS (S Tb P M D : Nat) (C : Nat → Nat) (fr se : Int) (ps : List T.Pr) (FM FD : Nat → Prop) (W : World) : Prop where
  s1 : W.cell? ⟨S, 1, none⟩ = some (.pointer (some ⟨P, 0, none⟩))
  o : OfIs W P M D C
  pl : PlIs W P M D C fr se ps FM FD
theorem PgS.stb (S Tb P M D : Nat) (C : Nat → Nat) (fr se : Int) (ps : List T.Pr) (FM FD : Nat → Prop) : Free.Stb (PgS S Tb P M D C fr se ps FM FD) := fun W W' h hb => ⟨cell_below h.s1 hb, h.o.below hb, h.pl.below hb⟩
theorem rd_row {w : World} {base : Nat} {e : TypeId} {v : Value} {n : Nat} {xs : List Value} (h : w.ownsRow base e 1 v n xs) (hn : n ≤ maxLen) : Rd 1 w v n xs := by
  refine ⟨h.1, ?_⟩
  rcases h.2 with ⟨rfl, rfl⟩ | ⟨g, cap, cur, rfl, hb, hg, h1, h2, h3, h4⟩
  · exact ⟨none, 0, rfl, Nat.le_refl _, hn, fun e => by omega⟩
  · refine ⟨_, cap, rfl, h1, hn, fun _ => ⟨g, 0, rfl, fun j u hj => ?_⟩⟩
    have hjl := (List.getElem?_eq_some_iff.1 hj).1
    simp only [World.cell?, hg, Nat.zero_add]
    rw [← h4, List.getElem?_take, if_pos (by have := h.1; omega)] at hj
    simpa using hj
end Go.Proofs.YtiohlmccnllklaaGreatDoor
