/-
  Layer 14: places put in order by the library's sort: walks. Layer 14: the library's sort over places of one's own. No walk.
-/
import Derived.Test.YtiohlmccnllklaaGreatDoorH32
import Derived.Test.YtiohlmccnllklaaGreatDoorH33
import Derived.Test.YtiohlmccnllklaaGreatDoorH25
import Derived.Shelf.SlSortCmp.NoneTotal
set_option linter.unusedVariables false
set_option linter.unusedSimpArgs false
namespace Go.Proofs.YtiohlmccnllklaaGreatDoor.Q
open Go.RowKit Go.Sort Go.Shelf Go.Proofs.YtiohlmccnllklaaGreatDoor.FreeG
set_option maxHeartbeats 16000000
set_option maxRecDepth 100000
set_option linter.unusedVariables false
set_option linter.unusedSimpArgs false

/-! ### the comparison -/
def orI2 (a b : Int) : Int := if a = 0 then b else a
theorem or_any {w : World} {B : Nat} (a b : Int) (h : Blk w B #[.int .i64 a, .int .i64 b] 3) : Calls Tryz.prog 69 #[.slice (some ⟨B, 0, none⟩) 2 2] w fun e w' => e = .returned (.int .i64 (orI2 a b)) ∧ w = w' := by
  have c0 := h.cell 0
  have c1 := h.cell 1
  simp only [List.getElem?_toArray, List.getElem?_cons_zero, List.getElem?_cons_succ] at c0 c1
  clear h
  unfold orI2
  by_cases ha : a = 0
  · subst ha
    rw [if_pos rfl]
    by_cases hb : b = 0
    · subst hb
      go_enter Tryz.func69, Tryz.ntmps69
      go_wp2
      refine wp_loop_rounds 3 ?_
      rw [rounds_succ]
      go_wp2
      rw [rounds_succ]
      go_wp2
      rw [rounds_succ]
      go_wp2
      go_ret
      exact ⟨rfl, rfl⟩
    · go_enter Tryz.func69, Tryz.ntmps69
      go_wp2
      refine wp_loop_rounds 2 ?_
      rw [rounds_succ]
      go_wp2
      rw [rounds_succ]
      go_wp2
      go_ret
      exact ⟨rfl, rfl⟩
  · rw [if_neg ha]
    go_enter Tryz.func69, Tryz.ntmps69
    go_wp2
    refine wp_loop_rounds 1 ?_
    rw [rounds_succ]
    go_wp2
    go_ret
    exact ⟨rfl, rfl⟩
def cfP (x y : T.Pl) : Int := orI2 (cmpI x.1 y.1) (cmpI x.2 y.2)
structure ByS (A B : Nat) (x y : T.Pl) (W : World) : Prop where
  a : Blk W A #[.int .i64 x.1, .int .i64 x.2] 42
  b : Blk W B #[.int .i64 y.1, .int .i64 y.2] 42
theorem ByS.stb (A B : Nat) (x y : T.Pl) : FreeG.Stb (ByS A B x y) := fun W W' h hb => ⟨h.a.below hb.below, h.b.below hb.below⟩
theorem by_any (x y : T.Pl) (w : World) : Calls Tryz.prog 47 #[.agg #[.int .i64 x.1, .int .i64 x.2], .agg #[.int .i64 y.1, .int .i64 y.2]] w fun e w' => e = .returned (.int .i64 (cfP x y)) ∧ Gr w w' := by
  have hb1 := bel1 (w.alloc (.cells #[.int .i64 x.1, .int .i64 x.2] 42)) (.cells #[.int .i64 y.1, .int .i64 y.2] 42)
  have HS : Hid (ByS w.heap.size (w.heap.size + 1) x y ((w.alloc (.cells #[.int .i64 x.1, .int .i64 x.2] 42)).alloc (.cells #[.int .i64 y.1, .int .i64 y.2] 42)).drew) := by
    have h2 := blk_new (w.alloc (.cells #[.int .i64 x.1, .int .i64 x.2] 42)) #[.int .i64 y.1, .int .i64 y.2] 42
    rw [size1] at h2
    exact Lib.hid ⟨((blk_new w _ 42).below hb1).drew, h2.drew⟩
  have HG := Lib.hid (((Gr.alloc w (.cells #[.int .i64 x.1, .int .i64 x.2] 42)).trans (Gr.alloc _ (.cells #[.int .i64 y.1, .int .i64 y.2] 42))).trans (Gr.drew _))
  clear hb1
  go_enter Tryz.func47, Tryz.ntmps47
  go_wp2
  refine FreeG.any (ByS w.heap.size (w.heap.size + 1) x y) (ByS.stb _ _ x y) HS.out (fun st => ?_)
  refine FreeG.tk 0 (some 5) ?_
  refine FreeG.tk 1 (some 6) ?_ (hy := by intro W hW; have c0 := hW.a.cell 0; simp only [List.getElem?_toArray, List.getElem?_cons_zero, List.getElem?_cons_succ] at c0; go_simp; try with_reducible rfl)
  refine FreeG.tk 2 (some 7) ?_
  refine FreeG.tk 3 (some 8) ?_ (hy := by intro W hW; have c0 := hW.b.cell 0; simp only [List.getElem?_toArray, List.getElem?_cons_zero, List.getElem?_cons_succ] at c0; go_simp; try with_reducible rfl)
  refine FreeG.cl 4 (some 9) (v := .int .i64 (cmpI x.1 y.1)) st (fun W hW => (cmpK _ _ W).mono (fun e w2 h2 => ⟨h2.1, h2.2 ▸ Gr.refl _⟩)) ?_ (hy := by intro W; go_simp; try with_reducible rfl)
  refine FreeG.tk 5 (some 10) ?_
  refine FreeG.tk 6 (some 11) ?_ (hy := by intro W hW; have c0 := hW.a.cell 1; simp only [List.getElem?_toArray, List.getElem?_cons_zero, List.getElem?_cons_succ] at c0; go_simp; try with_reducible rfl)
  refine FreeG.tk 7 (some 12) ?_
  refine FreeG.tk 8 (some 13) ?_ (hy := by intro W hW; have c0 := hW.b.cell 1; simp only [List.getElem?_toArray, List.getElem?_cons_zero, List.getElem?_cons_succ] at c0; go_simp; try with_reducible rfl)
  refine FreeG.cl 9 (some 14) (v := .int .i64 (cmpI x.2 y.2)) st (fun W hW => (cmpII _ _ W).mono (fun e w2 h2 => ⟨h2.1, h2.2 ▸ Gr.refl _⟩)) ?_ (hy := by intro W; go_simp; try with_reducible rfl)
  refine FreeG.one 10 (fun W hb hW => ?_)
  refine o_okb (some 15) (.slice (some ⟨W.heap.size, 0, none⟩) 2 2) (W.alloc (.cells #[.int .i64 (cmpI x.1 y.1), .int .i64 (cmpI x.2 y.2)] 3)) (by go_simp; try rfl) ⟨st _ _ hW (Gr.alloc W _), ?_⟩
  have HG1 := Lib.hid ((HG.out.trans hb).trans (Gr.alloc W (.cells #[.int .i64 (cmpI x.1 y.1), .int .i64 (cmpI x.2 y.2)] 3)))
  have HK := Lib.hid (blk_new W #[.int .i64 (cmpI x.1 y.1), .int .i64 (cmpI x.2 y.2)] 3)
  clear hb hW HG HS
  refine FreeG.one 11 (fun W2 hb2 hW2 => ?_)
  have hor := or_any (cmpI x.1 y.1) (cmpI x.2 y.2) (HK.out.below hb2.below)
  refine o_callb (some 16) (by go_simp; first | exact ⟨rfl, rfl⟩ | rfl) ?_
  refine hor.mono ?_
  rintro e W3 ⟨rfl, rfl⟩
  refine ⟨_, rfl, hW2, ?_⟩
  have HG2 := Lib.hid (HG1.out.trans hb2)
  clear hb2 hW2 hor HG1 HK
  refine FreeG.tk 12 (some 4) ?_
  refine FreeG.done (fun W4 hb4 hW4 => ?_)
  have HG3 := Lib.hid (HG2.out.trans hb4)
  clear hb4 hW4 HG2
  go_wp2
  go_ret
  exact ⟨rfl, HG3.out⟩
end Go.Proofs.YtiohlmccnllklaaGreatDoor.Q
namespace Go.Proofs.YtiohlmccnllklaaGreatDoor.Q
open Go.RowKit Go.Sort Go.Shelf Go.Proofs.YtiohlmccnllklaaGreatDoor.FreeG
set_option maxHeartbeats 8000000
set_option maxRecDepth 100000
set_option linter.unusedVariables false
set_option linter.unusedSimpArgs false

theorem cfP_lt (x y : T.Pl) : ltOf cfP x y = T.lt x y := by
  obtain ⟨a, b⟩ := x
  obtain ⟨c, d⟩ := y
  unfold ltOf cfP orI2 cmpI T.lt
  simp only
  rcases Int.lt_trichotomy a c with h | h | h
  · have h2 : ¬ a = c := by omega
    simp [h, h2]
  · subst h
    rcases Int.lt_trichotomy b d with k | k | k
    · simp [k]
    · subst k; simp
    · have : ¬ b < d := by omega
      simp [k, this]
  · have h2 : ¬ a < c := by omega
    have h3 : ¬ a = c := by omega
    simp [h, h2, h3]
theorem cfP_swo : SWO (ltOf cfP) where
  irrefl x := by rw [cfP_lt]; exact T.lt_irrefl x
  trans x y z h1 h2 := by rw [cfP_lt] at *; exact T.lt_trans h1 h2
  ntrans x y z h1 h2 := by
    rw [cfP_lt] at *
    have a1 : ¬ (T.lt x y = true) := by simp [h1]
    have a2 : ¬ (T.lt y z = true) := by simp [h2]
    have : ¬ (T.lt x z = true) := by rw [T.lt_iff] at *; omega
    simpa using this
theorem cfP_total (x y : T.Pl) (h1 : ltOf cfP x y = false) (h2 : ltOf cfP y x = false) : x = y := by
  rw [cfP_lt] at h1 h2
  by_cases e : x = y
  · exact e
  · have := T.lt_tri h1 e
    rw [this] at h2; cases h2
theorem by_lays (blk off size : Nat) (w : World) : CmpLays Tryz.prog 47 #[] plc 2 cfP blk off size w := fun m os dk _ x y => by
  exact by_any x y _
/-- Places, sorted: each ahead of the next. -/
theorem ris_sorted {l : List T.Pl} (h : l.Nodup) : T.RisP (l.mergeSort fun x y => !(ltOf cfP) y x) := by
  have hp := List.mergeSort_perm l fun x y => !(ltOf cfP) y x
  have hs : (l.mergeSort fun x y => !(ltOf cfP) y x).Pairwise fun x y => (!(ltOf cfP) y x) = true := by
    refine List.pairwise_mergeSort (le := fun x y => !(ltOf cfP) y x) (fun a b c h1 h2 => ?_) (fun a b => ?_) l
    · simp only [Bool.not_eq_true'] at *
      exact cfP_swo.ntrans c b a h2 h1
    · simp only [Bool.or_eq_true, Bool.not_eq_true']
      rw [cfP_lt, cfP_lt]
      cases e : T.lt b a with
      | false => exact .inl rfl
      | true => exact .inr (T.lt_asymm e)
  have hn : (l.mergeSort fun x y => !(ltOf cfP) y x).Nodup := hp.nodup_iff.2 h
  unfold T.RisP
  have := hs.and hn
  refine this.imp fun {a b} h => ?_
  obtain ⟨h1, h2⟩ := h
  simp only [Bool.not_eq_true'] at h1
  rw [cfP_lt] at h1
  exact T.lt_tri h1 (fun e => h2 e.symm)
theorem flatK_plc (d : Array T.Pl) : (flatK plc 2 d).toList = d.toList.flatMap plc := by
  apply List.ext_getElem?
  intro t
  have hl : (d.toList.flatMap plc).length = d.size * 2 := by rw [flat_len plc plc_sz]; simp
  have hs : (flatK plc 2 d).size = d.size * 2 := by simp
  by_cases h : t < d.size * 2
  · have h2 : t / 2 < d.size := by omega
    have e1 : (flatK plc 2 d).toList[t]? = some (flatK plc 2 d)[t]! := by
      rw [Array.getElem?_toList, Array.getElem?_eq_getElem (by omega), getElem!_pos (flatK plc 2 d) t (by omega)]
    rw [e1, get_flatK _ _ _ _ h]
    have e2 : d.toList[t / 2]? = some d[t / 2]! := by
      rw [Array.getElem?_toList, Array.getElem?_eq_getElem h2, getElem!_pos d (t / 2) h2]
    have e3 := flat_at plc plc_sz d.toList (t / 2) _ e2
    have e4 : (d.toList.flatMap plc)[t]? = (((d.toList.flatMap plc).drop ((t / 2) * 2)).take 2)[t % 2]? := by
      rw [List.getElem?_take, if_pos (by omega), List.getElem?_drop]
      congr 1; omega
    rw [e4, e3]
    have h3 : t % 2 < 2 := by omega
    generalize t % 2 = r at h3
    rcases (show r = 0 ∨ r = 1 by omega) with rfl | rfl <;> rfl
  · rw [List.getElem?_eq_none (by rw [Array.length_toList]; omega), List.getElem?_eq_none (by omega)]
theorem putCells_drop (o : Nat) (f cur : Array Value) (h : o + f.size ≤ cur.size) : ((putCells id o f cur).toList.drop o).take f.size = f.toList := by
  apply List.ext_getElem?
  intro j
  rw [List.getElem?_take]
  by_cases hj : j < f.size
  · rw [if_pos hj, List.getElem?_drop]
    unfold putCells
    simp only [Array.getElem?_toList, Array.getElem?_mapIdx]
    rw [Array.getElem?_eq_getElem (show o + j < cur.size by omega), Array.getElem?_eq_getElem hj]
    simp [hj]
  · rw [if_neg hj, List.getElem?_eq_none (by rw [Array.length_toList]; omega)]
/-- What the sort leaves. -/
def SoO (w : World) (v : Value) (l : List T.Pl) (e : Ending) (w' : World) : Prop :=
  e = .returned (.tuple #[]) ∧ ∃ l' : List T.Pl, T.RisP l' ∧ (∀ q, q ∈ l' ↔ q ∈ l) ∧ Own w' v l' ∧ Turned (fun k => blkOf v = some k) w w'
theorem sort_any {w : World} {v : Value} {l : List T.Pl} (h : Own w v l) (hn : l.Nodup) (hl : l.length ≤ 1000000) : Calls Tryz.prog 46 #[v, .func (.func 47) #[] #[]] w fun e w' => SoO w v l e w' := by
  obtain ⟨⟨h0, ao, c, rfl, h2, h3, h4⟩, hp⟩ := h
  rcases Nat.eq_zero_or_pos l.length with e0 | e0
  · have hl0 : l = [] := List.length_eq_zero_iff.1 e0
    subst hl0
    have hcon := AnyF.slices_SortFunc_none Tryz.sortPl ao c (.func (.func 47) #[] #[]) w
    change Calls Tryz.prog 46 _ _ _ at hcon
    refine hcon.mono ?_
    rintro e w' ⟨rfl, rfl⟩
    exact ⟨rfl, [], List.Pairwise.nil, fun q => Iff.rfl, ⟨⟨h0, ao, c, rfl, h2, h3, h4⟩, hp⟩, Turned.refl _ _⟩
  · obtain ⟨g, o, cur, rfl, e2, e3, e4⟩ := h4 (by omega)
    have hfl : (flatK plc 2 l.toArray).toList = l.flatMap plc := flatK_plc l.toArray
    have hfs : (flatK plc 2 l.toArray).size = l.length * 2 := by simp
    have hH : HoldsK plc 2 w g o l.toArray := fun j hj => by
      rw [hfs] at hj
      refine ⟨?_, e2.frozen _⟩
      rw [e2.cell]
      have e5 : (l.flatMap plc)[j]? = some (flatK plc 2 l.toArray)[j]! := by
        rw [← hfl, Array.getElem?_toList, Array.getElem?_eq_getElem (by omega), getElem!_pos (flatK plc 2 l.toArray) j (by omega)]
      rw [← e4, List.getElem?_take, if_pos (by omega), List.getElem?_drop] at e5
      simpa using e5
    have hcon := AnyQ.slices_SortFunc_total Tryz.sortPl 2 Tryz.isAgg42 Tryz.sizeOf42 plc (fun _ => rfl) (fun x u hu => by simp [plc] at hu; rcases hu with rfl | rfl <;> rfl) cfP cfP_swo 47 #[] g o c l.toArray w
      (enters_of Tryz.func47 (by kernel_rfl) rfl) (by_lays g o _ w) hH e2.lt (by simp; omega) cfP_total
    change Calls Tryz.prog 46 _ _ _ at hcon
    have hsz : l.toArray.size = l.length := by simp
    rw [hsz] at hcon
    refine hcon.mono ?_
    rintro e w' ⟨rfl, n, os, rfl⟩
    have hR := ris_sorted hn
    have hP := List.mergeSort_perm l fun x y => !(ltOf cfP) y x
    change T.RisP (l.toArray.toList.mergeSort fun x y => !(ltOf cfP) y x) at hR
    change (l.toArray.toList.mergeSort fun x y => !(ltOf cfP) y x).Perm l at hP
    generalize l.toArray.toList.mergeSort (fun x y => !(ltOf cfP) y x) = l' at hR hP ⊢
    have hll : l'.length = l.length := hP.length_eq
    have hfl' : (flatK plc 2 l'.toArray).toList = l'.flatMap plc := flatK_plc l'.toArray
    have hfs' : (flatK plc 2 l'.toArray).size = l.length * 2 := by simp [hll]
    have hmul : l.length * 2 ≤ c * 2 := Nat.mul_le_mul_right _ h2
    have hblk : Blk (sortWorldK plc 2 w g o n l'.toArray os) g (putCells id o (flatK plc 2 l'.toArray) cur) 42 := by
      unfold Blk at e2 ⊢
      show (w.heap.modify g (onCells (putCells id o (flatK plc 2 l'.toArray))) ++ os)[g]? = _
      have hlt := (Array.getElem?_eq_some_iff.1 e2).1
      rw [Array.getElem?_append_left (by simpa using hlt), Array.getElem?_modify, if_pos rfl, e2]
      rfl
    refine ⟨rfl, l', hR, fun q => hP.mem_iff, ⟨⟨by rw [flat_len plc plc_sz], some ⟨g, o, none⟩, c, by rw [hll], by rw [hll]; exact h2, h3, fun _ => ⟨g, o, _, rfl, hblk, ?_, ?_⟩⟩, fun q hq => hp q (hP.mem_iff.1 hq)⟩, ?_⟩
    · unfold putCells; simp; omega
    · have := putCells_drop o (flatK plc 2 l'.toArray) cur (by omega)
      rw [hfs', hfl'] at this
      rw [hll]; exact this
    · refine ⟨rfl, rfl, rfl, by simp [sortWorldK, grow, putRowK, putRow, mapBlock, ahead], fun k hk hne => ?_⟩
      have hkg : k ≠ g := fun e => hne (by simp [blkOf, e]; omega)
      show (w.heap.modify g (onCells (putCells id o (flatK plc 2 l'.toArray))) ++ os)[k]? = _
      rw [Array.getElem?_append_left (by simpa using hk), Array.getElem?_modify, if_neg (fun e => hkg e.symm)]
end Go.Proofs.YtiohlmccnllklaaGreatDoor.Q
