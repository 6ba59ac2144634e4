/-
  Layer 12: the places, made anew: walk. (written by gen_anew.py) Layer 12: Copy: walk. (written by gen_cpy.py) Layer 12: maps.Equal over two maps of sets: walk. Layer 12: small arrays of sets, compared.
-/
import Derived.Test.YtiohlmccnllklaaGreatDoorH21
import Derived.Test.YtiohlmccnllklaaGreatDoorH20
set_option linter.unusedVariables false
set_option linter.unusedSimpArgs false
namespace Go.Proofs.YtiohlmccnllklaaGreatDoor
open Go.RowKit
set_option maxHeartbeats 8000000
set_option maxRecDepth 100000
set_option linter.unusedVariables false
set_option linter.unusedSimpArgs false

theorem zero_pl : (Tryz.zeroCells89).size = 164 := by kernel_rfl
/-- A round of anew: j maps have been cloned. -/
structure AnI (w : World) (P M D : Nat) (C : Nat → Nat) (fr se : Int) (ps : List T.Pr) (FM FD : Nat → Prop) (M' D' : Nat) (FM' FD' : Nat → Prop) (j : Nat) (W : World) : Prop where
  pl : PlIs W P M D C fr se ps FM FD
  lo : ∀ k, plB P C FM FD k → k < w.heap.size
  b : Below w.heap.size w W
  mem : L3.Sh W M' fr.toNat (T.row ps 10 (64 * fr.toNat)) FM'
  disk : L3.Sh W D' se.toNat (T.row ps 12 (64 * se.toNat)) FD'
  lm : ∀ k, FM' k → w.heap.size < k
  ld : ∀ k, FD' k → w.heap.size < k
  md : ∀ k, FM' k → ¬ FD' k
  c : ∃ C', Blk W w.heap.size (plCells M' D' (T.sm ps) C') 89 ∧ (∀ k, j ≤ k → C' k = C k) ∧ (∀ k : Nat, k < j → T.cntK k = true → CntIs W (C' k) ps (k : Int) ∧ w.heap.size < C' k ∧ ¬ FM' (C' k) ∧ ¬ FD' (C' k)) ∧ (∀ k i : Nat, k < j → i < j → T.cntK k = true → T.cntK i = true → C' k = C' i → k = i)
section
variable {w : World} {P M D : Nat} {C : Nat → Nat} {fr se : Int} {ps : List T.Pr} {FM FD : Nat → Prop} {M' D' : Nat} {FM' FD' : Nat → Prop} {j : Nat} {W W' : World}
theorem AnI.keep (h : AnI w P M D C fr se ps FM FD M' D' FM' FD' j W) (hb : Below W.heap.size W W') : AnI w P M D C fr se ps FM FD M' D' FM' FD' j W' := by
  obtain ⟨C', h1, h2, h3, h4⟩ := h.c
  exact ⟨h.pl.below hb, h.lo, h.b.trans (hb.mono h.b.size), h.mem.below hb, h.disk.below hb, h.lm, h.ld, h.md, C', h1.below hb, h2, fun k hk hc => ⟨(h3 k hk hc).1.keep (hb.block _ (h3 k hk hc).1.lt), (h3 k hk hc).2⟩, h4⟩
/-- The new block is written. -/
theorem AnI.turn (h : AnI w P M D C fr se ps FM FD M' D' FM' FD' j W) (ht : Turned (fun k => k = w.heap.size) W W') : PlIs W' P M D C fr se ps FM FD ∧ Below w.heap.size w W' ∧ L3.Sh W' M' fr.toNat (T.row ps 10 (64 * fr.toNat)) FM' ∧ L3.Sh W' D' se.toNat (T.row ps 12 (64 * se.toNat)) FD' :=
  ⟨h.pl.keep fun k hk => ht.block k (h.pl.lt k hk) (fun e => by have := h.lo k hk; omega), h.b.trans (ht.below h.b.size (fun k e => by omega)), h.mem.kept' fun k hk => ht.block k (h.mem.lt k hk) (fun e => by have := h.lm k hk; omega), h.disk.kept' fun k hk => ht.block k (h.disk.lt k hk) (fun e => by have := h.ld k hk; omega)⟩
end
theorem o_skipN {op : Oper} {a : Act} {w : World} {K : Act → World → Prop} {Q : Exit → Act → World → Prop} (w1 : World) (h : (execOp a.eval op).run Tryz.prog w = .ok .skip w1) (hK : K a w1) (hd : op.dst = none := by rfl) : op.wp Tryz.prog a w K Q :=
  o_skip hd w1 h hK
/-- Both shadows have been copied; the new block's cells are X. -/
structure AnP (w : World) (P M D : Nat) (C : Nat → Nat) (fr se : Int) (ps : List T.Pr) (FM FD : Nat → Prop) (M' D' : Nat) (FM' FD' : Nat → Prop) (X : Array Value) (W : World) : Prop where
  pl : PlIs W P M D C fr se ps FM FD
  lo : ∀ k, plB P C FM FD k → k < w.heap.size
  b : Below w.heap.size w W
  mem : L3.Sh W M' fr.toNat (T.row ps 10 (64 * fr.toNat)) FM'
  disk : L3.Sh W D' se.toNat (T.row ps 12 (64 * se.toNat)) FD'
  lm : ∀ k, FM' k → w.heap.size < k
  ld : ∀ k, FD' k → w.heap.size < k
  md : ∀ k, FM' k → ¬ FD' k
  blk : Blk W w.heap.size X 89
section
variable {w : World} {P M D : Nat} {C : Nat → Nat} {fr se : Int} {ps : List T.Pr} {FM FD : Nat → Prop} {M' D' : Nat} {FM' FD' : Nat → Prop} {X : Array Value} {W W' : World}
theorem AnP.keep (h : AnP w P M D C fr se ps FM FD M' D' FM' FD' X W) (hb : Below W.heap.size W W') : AnP w P M D C fr se ps FM FD M' D' FM' FD' X W' :=
  ⟨h.pl.below hb, h.lo, h.b.trans (hb.mono h.b.size), h.mem.below hb, h.disk.below hb, h.lm, h.ld, h.md, h.blk.below hb⟩
theorem AnP.set (h : AnP w P M D C fr se ps FM FD M' D' FM' FD' X W) (j : Nat) (v : Value) : AnP w P M D C fr se ps FM FD M' D' FM' FD' (X.setIfInBounds j v) (W.setCell ⟨w.heap.size, j, none⟩ v) := by
  have ht : Turned (fun k => k = w.heap.size) W (W.setCell ⟨w.heap.size, j, none⟩ v) := (Turned.refl (fun k => k = w.heap.size) W).setCell (p := ⟨w.heap.size, j, none⟩) (.inl rfl) v
  exact ⟨h.pl.keep fun k hk => ht.block k (h.pl.lt k hk) (fun e => by have := h.lo k hk; omega), h.lo, h.b.trans (ht.below h.b.size (fun k e => by omega)), h.mem.kept' fun k hk => ht.block k (h.mem.lt k hk) (fun e => by have := h.lm k hk; omega), h.disk.kept' fun k hk => ht.block k (h.disk.lt k hk) (fun e => by have := h.ld k hk; omega), h.lm, h.ld, h.md, h.blk.setCell j v⟩
theorem AnP.start (h : AnP w P M D C fr se ps FM FD M' D' FM' FD' (plCells M' D' (T.sm ps) C) W) : AnI w P M D C fr se ps FM FD M' D' FM' FD' 0 W :=
  ⟨h.pl, h.lo, h.b, h.mem, h.disk, h.lm, h.ld, h.md, C, h.blk, fun _ _ => rfl, fun k hk => absurd hk (by omega), fun k i hk => absurd hk (by omega)⟩
variable {j : Nat}
/-- A round with nothing to clone. -/
theorem AnI.skip (h : AnI w P M D C fr se ps FM FD M' D' FM' FD' j W) (hk : T.cntK j = false) (hj : j < 18) : AnI w P M D C fr se ps FM FD M' D' FM' FD' (j + 1) (W.setCell ⟨w.heap.size, 146 + j, none⟩ (.map none)) := by
  obtain ⟨C', h1, h2, h3, h4⟩ := h.c
  rw [setCell_same h1 (by rw [plCells_map _ _ _ _ hj, cmV_no hk])]
  refine { h with c := ⟨C', h1, fun k e => h2 k (by omega), fun k e hc => ?_, fun k i e e2 hc hc2 => ?_⟩ }
  · rcases Nat.lt_succ_iff_lt_or_eq.1 e with e | rfl
    · exact h3 k e hc
    · rw [hk] at hc; cases hc
  · rcases Nat.lt_succ_iff_lt_or_eq.1 e with e | rfl
    · rcases Nat.lt_succ_iff_lt_or_eq.1 e2 with e2 | rfl
      · exact h4 k i e e2 hc hc2
      · rw [hk] at hc2; cases hc2
    · rw [hk] at hc; cases hc
/-- A round in which the kind's map was cloned, behind W0. -/
theorem AnI.clone {W0 : World} (h : AnI w P M D C fr se ps FM FD M' D' FM' FD' j W0) (hk : T.cntK j = true) (hj : j < 18) (hc : CntIs W W0.heap.size ps (j : Int)) (hb : Below W0.heap.size W0 W) : AnI w P M D C fr se ps FM FD M' D' FM' FD' (j + 1) (W.setCell ⟨w.heap.size, 146 + j, none⟩ (.map (some W0.heap.size))) := by
  have hlt := hc.lt
  have hz := h.b.size
  have hn := h.c.choose_spec.1.lt
  obtain ⟨g1, g2, g3, g4⟩ := (h.keep hb).turn (W' := W.setCell ⟨w.heap.size, 146 + j, none⟩ (.map (some W0.heap.size))) ((Turned.refl (fun k => k = w.heap.size) W).setCell (p := ⟨w.heap.size, 146 + j, none⟩) (.inl rfl) _)
  obtain ⟨C', h1, h2, h3, h4⟩ := h.c
  have kp : ∀ k, k ≠ w.heap.size → (W.setCell ⟨w.heap.size, 146 + j, none⟩ (.map (some W0.heap.size))).heap[k]? = W.heap[k]? := fun k hk => Below.heap_setCell _ _ _ _ hk
  refine ⟨g1, h.lo, g2, g3, g4, h.lm, h.ld, h.md, fun i => if i = j then W0.heap.size else C' i, ?_, fun k e => ?_, fun k e hck => ?_, fun k i e e2 hck hci he => ?_⟩
  · rw [← plCells_setC _ _ _ _ hk hj]; exact (h1.below hb).setCell _ _
  · show (if k = j then _ else _) = _
    rw [if_neg (by omega)]; exact h2 k (by omega)
  · by_cases ek : k = j
    · subst ek
      simp only [if_true]
      exact ⟨hc.keep (kp _ (by omega)), hn, fun e => by have := h.mem.lt _ e; omega, fun e => by have := h.disk.lt _ e; omega⟩
    · simp only [if_neg ek]
      obtain ⟨q1, q2, q3, q4⟩ := h3 k (by omega) hck
      exact ⟨(q1.keep (hb.block _ q1.lt)).keep (kp _ (by omega)), q2, q3, q4⟩
  · dsimp only at he
    by_cases ek : k = j
    · by_cases ei : i = j
      · omega
      · rw [if_pos ek, if_neg ei] at he
        have := (h3 i (by omega) hci).1.lt
        omega
    · by_cases ei : i = j
      · rw [if_neg ek, if_pos ei] at he
        have := (h3 k (by omega) hck).1.lt
        omega
      · rw [if_neg ek, if_neg ei] at he
        exact h4 k i (by omega) (by omega) hck hci he
theorem AnI.done (h : AnI w P M D C fr se ps FM FD M' D' FM' FD' 18 W) : ∃ C', PlIs W w.heap.size M' D' C' fr se ps FM' FD' ∧ (∀ k, plB w.heap.size C' FM' FD' k → w.heap.size ≤ k) := by
  obtain ⟨C', h1, h2, h3, h4⟩ := h.c
  have c18 : ∀ k, T.cntK k = true → k < 18 := fun k hk => by unfold T.cntK at hk; simp only [decide_eq_true_eq] at hk; omega
  refine ⟨C', { bd := h.pl.bd, ris := h.pl.ris, small := h.pl.small, may := h.pl.may, blk := h1, mem := h.mem, disk := h.disk, cnt := fun k hk => (h3 k (c18 k hk) hk).1, inj := fun k i hk hi e => h4 k i (c18 k hk) (c18 i hi) hk hi e, pM := fun e => by have := h.lm _ e; omega, pD := fun e => by have := h.ld _ e; omega, md := h.md, cM := fun k hk => (h3 k (c18 k hk) hk).2.2.1, cD := fun k hk => (h3 k (c18 k hk) hk).2.2.2 }, ?_⟩
  rintro k (rfl | e | e | ⟨i, hi, rfl⟩)
  · omega
  · exact Nat.le_of_lt (h.lm _ e)
  · exact Nat.le_of_lt (h.ld _ e)
  · exact Nat.le_of_lt (h3 i (c18 i hi) hi).2.1
end
theorem anew_any {w : World} {P M D : Nat} {C : Nat → Nat} {fr se : Int} {ps : List T.Pr} {FM FD : Nat → Prop} (h : PlIs w P M D C fr se ps FM FD) : Calls Tryz.prog 60 #[.pointer (some ⟨P, 0, none⟩)] w fun e w' =>
    ∃ P' M' D' C' FM' FD', e = .returned (.pointer (some ⟨P', 0, none⟩)) ∧ PlIs w' P' M' D' C' fr se ps FM' FD' ∧ (∀ k, plB P' C' FM' FD' k → w.heap.size ≤ k) ∧ Below w.heap.size w w' := by
  have HRf : Hid (Rf 89 164 w P (plCells M D (T.sm ps) C)) := ⟨h.blk, plCells_size _ _ _ _, plCells_one _ _ _ _⟩
  have HP := Lib.hid h
  have hb1 := bel1 w (.cells (plCells M D (T.sm ps) C) 89)
  have HN : Hid (Blk (w.alloc (.cells (plCells M D (T.sm ps) C) 89)) w.heap.size (plCells M D (T.sm ps) C) 89) := blk_new w _ _
  have HB1 := Lib.hid hb1
  have HLo := Lib.hid h.lt
  have HS1 : Hid (PlIs (w.alloc (.cells (plCells M D (T.sm ps) C) 89)).drew P M D C fr se ps FM FD) := (h.below hb1).below (Below.refl _ _).drew
  clear h hb1
  go_enter Tryz.func60, Tryz.ntmps60
  go_wp2_with (first
    | ((with_reducible refine wp_load_V rvPlaces HRf.out ?_ ?_); (rfl))
    | ((with_reducible refine wp_store_Vn (plCells M D (T.sm ps) C) rvPlaces ⟨zero_pl, HRf.out.ok⟩ ?_ ?_ ?_); (rfl); (rfl)))
  refine Free.any (fun W => PlIs W P M D C fr se ps FM FD) (fun W W' hW hb => hW.below hb) HS1.out (fun st => ?_)
  refine Free.tk 0 (some 9) ?_
  refine Free.tk 1 (some 10) ?_ (hy := by intro W hW; have om := (ofis hW.blk).m; have od := (ofis hW.blk).d; go_simp; try with_reducible rfl)
  refine Free.tk 2 (some 11) ?_
  refine Free.tk 3 (some 12) ?_ (hy := by intro W hW; have om := (ofis hW.blk).m; have od := (ofis hW.blk).d; go_simp; try with_reducible rfl)
  refine Free.tk 5 (some 14) ?_
  refine Free.tk 6 (some 15) ?_ (hy := by intro W hW; have om := (ofis hW.blk).m; have od := (ofis hW.blk).d; go_simp; try with_reducible rfl)
  refine Free.tk 7 (some 16) ?_
  refine Free.tk 8 (some 17) ?_ (hy := by intro W hW; have om := (ofis hW.blk).m; have od := (ofis hW.blk).d; go_simp; try with_reducible rfl)
  refine Free.one 4 (fun W hb hW => ?_)
  refine o_callb (some 13) (by go_simp; first | exact ⟨rfl, rfl⟩ | rfl) ?_
  refine (shCopy hW.mem).mono ?_
  rintro e V ⟨M', FM', rfl, hm, hmF, hmb⟩
  have HBV := Lib.hid (HB1.out.drew.trans ((hb.trans (hmb.mono hb.size)).mono (by simp)))
  have HNV := Lib.hid ((HN.out.below ((Below.refl _ _).drew.trans hb)).below hmb)
  have HMm := Lib.hid hm
  have HMF : Hid (∀ k, FM' k → w.heap.size < k) := fun k hk => by have := hmF k hk; have := hb.size; simp at this; omega
  have hSV := hW.below hmb
  clear hb hW hm hmF hmb
  refine ⟨_, rfl, hSV, ?_⟩
  refine Free.one 9 (fun W hb hW => ?_)
  refine o_callb (some 18) (by go_simp; first | exact ⟨rfl, rfl⟩ | rfl) ?_
  refine (shCopy hW.disk).mono ?_
  rintro e V2 ⟨D', FD', rfl, hd, hdF, hdb⟩
  have HBV2 := Lib.hid (HBV.out.trans ((hb.trans (hdb.mono hb.size)).mono HBV.out.size))
  have hnb2 := (HNV.out.below hb).below hdb
  have HNV2 := Lib.hid hnb2
  have hm2 := (HMm.out.below hb).below hdb
  have HMd : Hid (∀ k, FM' k → ¬ FD' k) := fun k e e2 => by have h1 := HMm.out.lt k e; have h2 := hdF k e2; have := hb.size; omega
  have HDF : Hid (∀ k, FD' k → w.heap.size < k) := fun k hk => by have := hdF k hk; have := hb.size; have := HNV.out.lt; omega
  have HMm2 := Lib.hid hm2
  have HDd := Lib.hid hd
  have HSV2 := Lib.hid (hW.below hdb)
  clear hb hW hd hdF hdb hm2 hnb2
  refine ⟨_, rfl, HSV2.out, ?_⟩
  have HA0 : Hid (AnP w P M D C fr se ps FM FD M' D' FM' FD' (plCells M D (T.sm ps) C) V2) := ⟨HSV2.out, HLo.out, HBV2.out, HMm2.out, HDd.out, HMF.out, HDF.out, HMd.out, HNV2.out⟩
  clear HBV HNV HMm HMF HMd HDF HMm2 HDd HSV2 HBV2 HNV2
  refine Free.tk 10 (some 19) ?_
  refine Free.one 11 (fun W hb hW => ?_)
  have HA1 := Lib.hid ((HA0.out.keep hb).set 0 (.pointer (some ⟨M', 0, none⟩)))
  have c0 := (HA0.out.keep hb).blk.cell 0
  have f0 := (HA0.out.keep hb).blk.frozen 0
  rw [plCells_0] at c0
  clear hb hW
  refine o_skipN _ (by go_simp) ⟨HA1.out.pl, ?_⟩
  clear c0 f0
  refine Free.tk 12 (some 20) ?_
  refine Free.one 13 (fun W hb hW => ?_)
  have HA2 := Lib.hid ((HA1.out.keep hb).set 1 (.pointer (some ⟨D', 0, none⟩)))
  have c0 := (HA1.out.keep hb).blk.cell 1
  have f0 := (HA1.out.keep hb).blk.frozen 1
  rw [plCells_set0, plCells_1] at c0
  rw [plCells_set0, plCells_set1] at HA2
  clear hb hW
  refine o_skipN _ (by go_simp) ⟨HA2.out.pl, Free.done (fun W hb hW => ?_)⟩
  clear c0 f0
  have HI := Lib.hid (HA2.out.keep hb).start
  clear hb hW
  have HR : Hid (W.rangeAt P 146 (csV C).toList ∧ (csV C).size = 18) := ⟨cs_range HI.out.pl.blk, (csV_ok C).1⟩
  go_wp2_with ((with_reducible refine wp_load_VM rvCs HR.out ?_ ?_); (rfl))
  go_loopw [25] (fun i wr => ∃ j : Nat, j ≤ 18 ∧ i = .int .i64 (j : Int) ∧ Hid (AnI w P M D C fr se ps FM FD M' D' FM' FD' j wr)) (fun i _ => 19 - natI i)
  case atStart => exact ⟨0, by omega, rfl, HI.out⟩
  case round =>
    obtain ⟨j, hj, rfl, HJ⟩ := hrel
    by_cases hlt : j < 18
    · have hi : (j : Int) < 18 := by omega
      have hi0 : (0 : Int) ≤ (j : Int) := by omega
      have hix := fun W => idx_cs C hlt W
      cases hck : T.cntK j with
      | false =>
        simp only [cmV_no hck] at hix
        obtain ⟨c0, f0⟩ : wr.cell? ⟨w.heap.size, 146 + j, none⟩ = some (.map none) ∧ wr.frozen? ⟨w.heap.size, 146 + j, none⟩ = false := by
          obtain ⟨C', h1, h2, h3, h4⟩ := HJ.out.c
          exact ⟨by rw [h1.cell, plCells_map _ _ _ _ hlt, cmV_no hck], h1.frozen _⟩
        have HK := Lib.hid hck
        clear hck
        go_wp2_with (go_at_call 76; refine (cclone_nil _).mono ?_; rintro e w2 ⟨rfl, rfl⟩)
        exact ⟨⟨j + 1, by omega, by go_num, HJ.out.skip HK.out hlt⟩, by simp [natI]; omega⟩
      | true =>
        simp only [cmV_yes hck] at hix
        have HK := Lib.hid hck
        clear hck
        go_wp2_with (go_at_call 76
                     refine (cclone_any (HJ.out.pl.cnt j HK.out)).mono ?_
                     rintro e w2 ⟨rfl, hc, hb⟩
                     obtain ⟨c0, f0⟩ : w2.cell? ⟨w.heap.size, 146 + j, none⟩ = some (.map (some (C j))) ∧ w2.frozen? ⟨w.heap.size, 146 + j, none⟩ = false := by
                       obtain ⟨C', h1, h2, h3, h4⟩ := (HJ.out.keep hb).c
                       exact ⟨by rw [h1.cell, plCells_map _ _ _ _ hlt, cmV_yes HK.out, h2 j (by omega)], h1.frozen _⟩)
        exact ⟨⟨j + 1, by omega, by go_num, HJ.out.clone HK.out hlt hc hb⟩, by simp [natI]; omega⟩
    · obtain rfl : j = 18 := by omega
      go_wp2
      obtain ⟨C', k1, k2⟩ := HJ.out.done
      go_ret
      exact ⟨_, M', D', C', FM', FD', rfl, k1, k2, HJ.out.b⟩
end Go.Proofs.YtiohlmccnllklaaGreatDoor
namespace Go.Proofs.YtiohlmccnllklaaGreatDoor
open Go.RowKit
set_option maxHeartbeats 8000000
set_option maxRecDepth 100000
set_option linter.unusedVariables false
set_option linter.unusedSimpArgs false

theorem o_okb {op : Oper} {a b : Act} {w : World} {K : Act → World → Prop} {Q : Exit → Act → World → Prop} (d : Option Tmp) (v : Value) (w1 : World) (h : (execOp a.eval op).run Tryz.prog w = .ok (.value v) w1) (hK : K b w1)
    (hd : op.dst = d := by rfl) (ha : a.put d v = b := by (simp only [Act.put, List.setIfInBounds_toArray, List.set_cons_zero, List.set_cons_succ]; rfl)) : op.wp Tryz.prog a w K Q := by
  subst ha
  exact o_ok hd v w1 h hK
/-- The copy, from its parts. -/
theorem copy_flow {w0 w1 w2 : World} {Tb P M D : Nat} {C : Nat → Nat} {f : T.Fl} {FT : List Nat} {FM FD : Nat → Prop}
    (ht : L2.Tab w1 Tb f.mo f.ss 0 FT) (hT : ∀ k ∈ FT, w0.heap.size ≤ k) (b1 : Below w0.heap.size w0 w1)
    (hp : PlIs w2 P M D C f.fr f.se f.ps FM FD) (hP : ∀ k, plB P C FM FD k → w1.heap.size ≤ k) (b2 : Below w1.heap.size w1 w2) :
    ∃ F, At (w2.alloc (.cells #[.pointer (some ⟨Tb, 0, none⟩), .pointer (some ⟨P, 0, none⟩)] 91)) w2.heap.size f F ∧ ∀ k, F k → w0.heap.size ≤ k := by
  have z1 := b1.size
  have z2 := b2.size
  have b3 := bel1 w2 (.cells #[.pointer (some ⟨Tb, 0, none⟩), .pointer (some ⟨P, 0, none⟩)] 91)
  refine ⟨_, ⟨Tb, P, 0, FT, M, D, C, FM, FD, rfl, blk_new w2 _ _, (ht.below b2).below b3, hp.below b3, fun e => ?_, fun e => ?_, fun k hk e => ?_⟩, ?_⟩
  · have := (ht.below b2).lt _ e; omega
  · have := hp.lt _ e; omega
  · have := ht.lt _ hk; have := hP _ e; omega
  · rintro k (rfl | e | e)
    · omega
    · exact hT k e
    · have := hP k e; omega
end Go.Proofs.YtiohlmccnllklaaGreatDoor
namespace Go.Proofs.YtiohlmccnllklaaGreatDoor
open Go.RowKit
set_option maxHeartbeats 8000000
set_option maxRecDepth 100000
set_option linter.unusedVariables false
set_option linter.unusedSimpArgs false

theorem CntIs.look_ok {w : World} {b : Nat} {ps : List T.Pr} {k : Int} (h : CntIs w b ps k) {n : Int} (hn : I64 n) : (Instr.lookup 83 (.map (some b)) (.int .i64 n) true).run Tryz.prog w = .ok (.tuple #[.int .u32 (T.get ps (k, n)), .bool (decide (T.get ps (k, n) ≠ 0))]) w := by
  obtain ⟨D, c, h1, h2, h3⟩ := h
  obtain ⟨v, p, hr, hv⟩ := h2.look_ok cntLaw Tryz.underlying83 (zeroU w) (cR_mk (x := 0) ⟨by omega, by omega⟩) (key_i hn)
  obtain ⟨a, rfl, ha, _⟩ := plainElem_int_inv Tryz.underlying23 hv
  simp only [Prod.mk.injEq] at ha
  rw [hr, h3.has]
  by_cases e : T.get ps (k, n) ≠ 0
  · have := ha.1
    rw [h3.at_ n e] at this
    simp at this
    rw [this]
  · have hh : Maps.has D (.int .i64 n) = false := by rw [h3.has]; simpa using e
    have := ha.1
    rw [Maps.atKey_of_not_has hh] at this
    simp at this
    have e0 : T.get ps (k, n) = 0 := by simpa using e
    rw [e0, ← this]
theorem sub_len {α : Type} (r : α → Int) : ∀ (A B : List α), A.Pairwise (fun a b => r a < r b) → B.Pairwise (fun a b => r a < r b) → (∀ x ∈ A, x ∈ B) → A.length ≤ B.length
  | [], _, _, _, _ => by simp
  | a :: A, [], _, _, h => by have := h a (by simp); cases this
  | a :: A, b :: B, hA, hB, h => by
    obtain ⟨a1, a2⟩ := List.pairwise_cons.1 hA
    obtain ⟨b1, b2⟩ := List.pairwise_cons.1 hB
    have hA' : ∀ x ∈ A, x ∈ B := fun x hx => by
      rcases List.mem_cons.1 (h x (by simp [hx])) with e | e
      · have h1 := a1 x hx
        rw [e] at h1
        rcases List.mem_cons.1 (h a (by simp)) with e2 | e2
        · rw [e2] at h1; omega
        · have := b1 a e2; omega
      · exact e
    have := sub_len r A B a2 b2 hA'
    simp; omega
theorem sub_eq {α : Type} (r : α → Int) : ∀ (A B : List α), A.Pairwise (fun a b => r a < r b) → B.Pairwise (fun a b => r a < r b) → (∀ x ∈ A, x ∈ B) → A.length = B.length → A = B
  | [], [], _, _, _, _ => rfl
  | [], b :: B, _, _, _, h => by simp at h
  | a :: A, [], _, _, _, h => by simp at h
  | a :: A, b :: B, hA, hB, h, hl => by
    obtain ⟨a1, a2⟩ := List.pairwise_cons.1 hA
    obtain ⟨b1, b2⟩ := List.pairwise_cons.1 hB
    have hab : a = b := by
      rcases List.mem_cons.1 (h a (by simp)) with e | e
      · exact e
      · have hs := sub_len r (a :: A) B hA b2 (fun x hx => by
          rcases List.mem_cons.1 (h x hx) with e2 | e2
          · rcases List.mem_cons.1 hx with e3 | e3
            · rw [e3]; exact e
            · have h1 := a1 x e3; have h2 := b1 a e; rw [e2] at h1; omega
          · exact e2)
        simp at hs hl; omega
    subst hab
    rw [sub_eq r A B a2 b2 (fun x hx => by
      rcases List.mem_cons.1 (h x (by simp [hx])) with e | e
      · have := a1 x hx; rw [e] at this; omega
      · exact e) (by simpa using hl)]
/-- A round of the comparison. -/
structure CeI (w : World) (b1 b2 : Nat) (ps qs : List T.Pr) (k : Int) (D : DataW Unit) (n : Nat) (left : Lit → Bool) (cnt : Nat) (W : World) : Prop where
  r : W.ranges Tryz.prog 3 (plainElem Tryz.prog 23) b1 w.heap.size n D left cnt
  c : CntIs W b2 qs k
  g : ∀ m : Int, T.get ps (k, m) ≠ 0 → left (.int .i64 m) = false → T.get qs (k, m) = T.get ps (k, m)
  b : Below w.heap.size w W
theorem ceq_end {ps qs : List T.Pr} {k : Int} (hp : T.Ris ps) (hq : T.Ris qs) (hg : ∀ m : Int, T.get ps (k, m) ≠ 0 → T.get qs (k, m) = T.get ps (k, m)) (hl : (T.kd k ps).length = (T.kd k qs).length) : T.kd k ps = T.kd k qs :=
  sub_eq (fun y : Int × Int => y.1) _ _ (T.kd_sorted hp k) (T.kd_sorted hq k) (fun y hy => by
    obtain ⟨h1, h2⟩ := (T.kd_mem hp).1 hy
    exact (T.kd_mem hq).2 ⟨h1, by rw [hg y.1 (by rw [h2]; exact h1), h2]⟩) hl
theorem kd_get {ps qs : List T.Pr} {k : Int} (hp : T.Ris ps) (hq : T.Ris qs) (h : T.kd k ps = T.kd k qs) (n : Int) : T.get ps (k, n) = T.get qs (k, n) := by
  by_cases e : T.get ps (k, n) = 0
  · by_cases e2 : T.get qs (k, n) = 0
    · rw [e, e2]
    · have := (T.kd_mem hq (k := k) (y := (n, T.get qs (k, n)))).2 ⟨e2, rfl⟩
      rw [← h] at this
      exact ((T.kd_mem hp).1 this).2
  · have := (T.kd_mem hp (k := k) (y := (n, T.get ps (k, n)))).2 ⟨e, rfl⟩
    rw [h] at this
    exact (((T.kd_mem hq).1 this).2).symm
end Go.Proofs.YtiohlmccnllklaaGreatDoor
namespace Go.Proofs.YtiohlmccnllklaaGreatDoor
open Go.RowKit
set_option maxHeartbeats 4000000
set_option maxRecDepth 100000
set_option linter.unusedVariables false
set_option linter.unusedSimpArgs false

theorem eq_loopG {P : Program} {t : TypeId} {A B : Array Value} {sz d N : Nat} {pa pb : Nat → Value} {e : Nat → Bool} {w : World} (hA : ∀ i, i < N → (part t A (i * sz)).run P w = .ok (pa i) w) (hB : ∀ i, i < N → (part t B (i * sz)).run P w = .ok (pb i) w)
    (hE : ∀ i, i < N → (Op.equalIn d t (pa i) (pb i)).run P w = .ok (e i) w) : ∀ (n s : Nat), s + n ≤ N →
    Sem.run P (forIn (List.range' s n) ((none, ()) : Option Bool × Unit) fun i __s => do
      let __do_lift ← part t A (i * sz)
      let __do_lift_1 ← part t B (i * sz)
      let __do_lift ← Op.equalIn d t __do_lift __do_lift_1
      if (!__do_lift) = true then pure (ForInStep.done (some false, ())) else pure (ForInStep.yield (none, ()))) w = .ok (if (List.range' s n).all e = true then (none, ()) else (some false, ())) w
  | 0, s, _ => by simp
  | n + 1, s, h => by
    rw [List.range'_succ, List.forIn_cons]
    simp only [Sem.run_bind, hA s (by omega), hB s (by omega), hE s (by omega), Result.andThen_ok]
    have ih := eq_loopG hA hB hE n (s + 1) (by omega)
    cases he : e s with
    | true =>
      simp only [Bool.not_true, Bool.false_eq_true, if_false, Sem.run_pure, Result.andThen_ok]
      rw [ih, List.all_cons, he, Bool.true_and]
    | false => simp [he]
theorem eq_arr {P : Program} {t0 t : TypeId} {A B : Array Value} {sz d N : Nat} {pa pb : Nat → Value} {e : Nat → Bool} {w : World} (hu : P.underlying t0 = some (.array N t)) (hs : (sizeOf t).run P w = .ok sz w)
    (hA : ∀ i, i < N → (part t A (i * sz)).run P w = .ok (pa i) w) (hB : ∀ i, i < N → (part t B (i * sz)).run P w = .ok (pb i) w) (hE : ∀ i, i < N → (Op.equalIn d t (pa i) (pb i)).run P w = .ok (e i) w) :
    (Op.equalIn (d + 1) t0 (.agg A) (.agg B)).run P w = .ok ((List.range' 0 N).all e) w := by
  rw [Op.equalIn]
  simp only [Sem.run_bind, run_underlying hu, Result.andThen_ok]
  simp only [Std.Legacy.Range.forIn_eq_forIn_range', Std.Legacy.Range.size, Nat.sub_zero, Nat.add_sub_cancel, Nat.div_one, hs, Result.andThen_ok]
  rw [eq_loopG hA hB hE N 0 (by omega)]
  by_cases h : (List.range' 0 N).all e = true
  · simp only [h, if_true, Result.andThen_ok, Sem.run_pure]
  · simp only [h, if_false, Result.andThen_ok, Sem.run_pure]
    simp at h
    simp

def csm (s : Nat → Int) : Array Value := ((List.range 144).map fun i => Value.int .u32 (s i)).toArray
theorem csm_at (s : Nat → Int) {i : Nat} (h : i < 144) : (csm s)[i]? = some (.int .u32 (s i)) := by simp [csm, h]
theorem csm_ok (s : Nat → Int) : (csm s).size = 144 := by simp [csm]
theorem part_8 (s : Nat → Int) (i : Nat) (w : World) : (part 86 (csm s) (i * 8)).run Tryz.prog w = .ok (.agg ((csm s).extract (i * 8) (i * 8 + 8))) w := by
  have u3 := Tryz.underlying86
  have hs : (sizeOf 86).run Tryz.prog w = .ok 8 w := by kernel_rfl
  unfold part
  go_simp
theorem part_1 (s : Nat → Int) {i j : Nat} (hi : i < 18) (hj : j < 8) (w : World) : (part 23 ((csm s).extract (i * 8) (i * 8 + 8)) (j * 1)).run Tryz.prog w = .ok (.int .u32 (s (i * 8 + j))) w := by
  have u3 := Tryz.underlying23
  have hg : ((csm s).extract (i * 8) (i * 8 + 8))[j]? = some (.int .u32 (s (i * 8 + j))) := by
    rw [Array.getElem?_extract, csm_ok, if_pos (by omega), csm_at _ (by omega)]
  unfold part
  rw [Nat.mul_one]
  go_simp
theorem eq_u32n (d : Nat) (a b : Int) (w : World) : (Op.equalIn (d + 1) 23 (.int .u32 a) (.int .u32 b)).run Tryz.prog w = .ok (a == b) w := by
  rw [Op.equalIn]
  simp [Sem.run_bind, run_underlying Tryz.underlying23, Result.andThen_ok]
def smE (s s' : Nat → Int) : Bool := (List.range' 0 18).all fun i => (List.range' 0 8).all fun j => s (i * 8 + j) == s' (i * 8 + j)
theorem smE_iff {s s' : Nat → Int} : smE s s' = true ↔ ∀ i, i < 144 → s i = s' i := by
  unfold smE
  simp only [List.all_eq_true, List.mem_range', beq_iff_eq]
  constructor
  · intro h i hi
    have := h (i / 8) ⟨i / 8, by omega, by omega⟩ (i % 8) ⟨i % 8, by omega, by omega⟩
    rwa [show i / 8 * 8 + i % 8 = i by omega] at this
  · rintro h i ⟨i', hi, rfl⟩ j ⟨j', hj, rfl⟩
    exact h _ (by omega)
theorem equalIn_sm (s s' : Nat → Int) (w : World) : (Op.equalIn 10000 87 (.agg (csm s)) (.agg (csm s'))).run Tryz.prog w = .ok (smE s s') w :=
  eq_arr (d := 9999) (t := 86) (sz := 8) Tryz.underlying87 (by kernel_rfl) (fun i hi => part_8 s i w) (fun i hi => part_8 s' i w) (fun i hi =>
    eq_arr (d := 9998) (t := 23) (sz := 1) Tryz.underlying86 (by kernel_rfl) (fun j hj => part_1 s hi hj w) (fun j hj => part_1 s' hi hj w) (fun j hj => eq_u32n 9997 _ _ w))
theorem guard_sm (x y : Operand) (xs ys : Array Value) (w : World) : (eqGuard .eql 87 x y (.agg xs) (.agg ys)).run Tryz.prog w = .ok () w := by
  have : Tryz.prog.eqGuardType Tryz.prog.depth 87 = false := by kernel_rfl
  unfold eqGuard
  simp [this]
theorem eql_sm (s s' : Nat → Int) (w : World) : (binOp .eql 87 (.agg (csm s)) (.agg (csm s'))).run Tryz.prog w = .ok (.bool (smE s s')) w := by
  simp [binOp, Op.equal, Op.maxDepth, equalIn_sm s s', Sem.run_bind, Result.andThen]
theorem sm_range {w : World} {P M D : Nat} {s : Nat → Int} {C : Nat → Nat} (h : Blk w P (plCells M D s C) 89) : w.rangeAt P 2 (csm s).toList := fun j u hj => by
  have hl : j < 144 := by
    have := (List.getElem?_eq_some_iff.1 hj).1
    simpa [csm] using this
  rw [h.cell, plCells_sm _ _ _ _ hl]
  simp [csm, hl] at hj
  rw [hj]
theorem x_load_V {n R o : Nat} {c : Array Value} {ty : TypeId} {x : Operand} {op : Oper} {ev : Operand → Value} {W : World} (ht : RowV ty n) (ho : op.op = .load ty x) (hx : ev x = .pointer (some ⟨R, o, none⟩)) (hr : W.rangeAt R o c.toList) (hs : c.size = n) : (execOp ev op).run Tryz.prog W = .ok (.value (.agg c)) W := by
  have : (Instr.loadAt ty (.pointer (some ⟨R, o, none⟩))).run Tryz.prog W = .ok (.agg c.toList.toArray) W := by
    rcases ht.u with ⟨fs, hu⟩ | ⟨k, e, hu⟩
    · exact run_loadAt_mid (P := Tryz.prog) W R o ty c.toList _ hr hu rfl (by rw [ht.i]; simp [hs])
    · exact run_loadAt_mid (P := Tryz.prog) W R o ty c.toList _ hr hu rfl (by rw [ht.i]; simp [hs])
  unfold execOp
  simp only [ho, hx, Sem.run_bind, this, Result.andThen_ok]
  rfl
theorem x_eql_sm {x y : Operand} {op : Oper} {ev : Operand → Value} {W : World} {s s' : Nat → Int} {t2 : TypeId} {b : Bool} (ho : op.op = .binOp .eql 87 x y t2) (hx : ev x = .agg (csm s)) (hy : ev y = .agg (csm s')) (hb : smE s s' = b) : (execOp ev op).run Tryz.prog W = .ok (.value (.bool b)) W := by
  have h1 := guard_sm x y (csm s) (csm s') W
  have h2 := eql_sm s s' W
  unfold execOp
  subst hb
  simp only [ho, hx, hy, Sem.run_bind, h1, h2, Result.andThen_ok]
  rfl
end Go.Proofs.YtiohlmccnllklaaGreatDoor
