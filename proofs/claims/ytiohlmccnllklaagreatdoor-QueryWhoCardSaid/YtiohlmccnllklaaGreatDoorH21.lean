/-
  Layer 12: the places, made anew: walks. Layer 12: New of a flow: walks.
-/
import Derived.Test.YtiohlmccnllklaaGreatDoorH17
import Derived.Shelf.SlMaps.Clone
set_option linter.unusedVariables false
set_option linter.unusedSimpArgs false
namespace Go.Proofs.YtiohlmccnllklaaGreatDoor
open Go.RowKit
set_option maxHeartbeats 8000000
set_option maxRecDepth 100000
set_option linter.unusedVariables false
set_option linter.unusedSimpArgs false

def csV (C : Nat → Nat) : Array Value := ((List.range 18).map (cmV C)).toArray
theorem csV_ok (C : Nat → Nat) : Ok1 18 (csV C) := ⟨by simp [csV], by simp [csV, cmV, Value.oneCell']⟩
theorem cmap_eql_nil (w : World) (r : Option Nat) : (binOp .eql 83 (.map r) (.map none)).run Tryz.prog w = .ok (.bool r.isNone) w := run_eql_map_nil_sl w 83 _ _ r Tryz.underlying83
theorem cclone_nil (w : World) : Calls Tryz.prog 76 #[.map none] w fun e w' => e = .returned (.map none) ∧ w = w' := by
  have hq := fun w => cmap_eql_nil w none
  go_enter Tryz.func76, Tryz.ntmps76
  go_wp2
  go_ret
  exact ⟨rfl, rfl⟩
theorem cclone_any {w : World} {b : Nat} {ps : List T.Pr} {k : Int} (h : CntIs w b ps k) : Calls Tryz.prog 76 #[.map (some b)] w fun e w' => e = .returned (.map (some w.heap.size)) ∧ CntIs w' w.heap.size ps k ∧ Below w.heap.size w w' := by
  obtain ⟨D, n, hn, hown, hD⟩ := h
  obtain ⟨es, clock, hb, F, hs, hDD⟩ := hown
  have HK : Hid (CntIs (w.alloc (.map es clock)) w.heap.size ps k) := ⟨D, n, hn, ⟨es, clock, (MapKept.heap_alloc w _).1, F, hs, hDD⟩, hD⟩
  have HB := Lib.hid hb
  clear hb F hs hDD hD
  have hq := fun w => cmap_eql_nil w (some b)
  go_enter Tryz.func76, Tryz.ntmps76
  go_wp2
  rw [run_callFunc_extern Tryz.func113 (by kernel_rfl) (by kernel_rfl) (by kernel_rfl) (e := Extern.MapsClone.clone) (by kernel_rfl), run_maps_clone_sl w 83 HB.out]
  simp only [Result.andThen]
  rw [Oper.upon_value]
  go_wp2
  rw [run_typeAssert_map_sl _ 83 _ _ _ _ Tryz.underlying83]
  simp only [Result.andThen]
  rw [Oper.upon_value]
  go_wp2
  go_ret
  exact ⟨rfl, HK.out, (Below.refl _ _).alloc (Nat.le_refl _) _⟩
theorem shCopy {w : World} {S P : Nat} {l : List Int} {F : Nat → Prop} (h : L3.Sh w S P l F) : Calls Tryz.prog 75 #[.pointer (some ⟨S, 0, none⟩)] w fun e w' => ∃ S' F', e = .returned (.pointer (some ⟨S', 0, none⟩)) ∧ L3.Sh w' S' P l F' ∧ (∀ k, F' k → w.heap.size ≤ k) ∧ Below w.heap.size w w' := by
  obtain ⟨mb, G, D, rfl, h⟩ := h
  exact L3.Copy_any h
section
variable (M D : Nat) (s : Nat → Int) (C : Nat → Nat)
theorem plCells_set0 (M' : Nat) : (plCells M D s C).setIfInBounds 0 (.pointer (some ⟨M', 0, none⟩)) = plCells M' D s C :=
  plCells_ext _ _ _ _ (by simp [plCells_size]) (by rw [Array.getElem?_setIfInBounds_self_of_lt (by rw [plCells_size]; omega)]) (by rw [Array.getElem?_setIfInBounds_ne (by omega), plCells_1])
    (fun i hi => by rw [Array.getElem?_setIfInBounds_ne (by omega), plCells_sm _ _ _ _ hi]) (fun k hk => by rw [Array.getElem?_setIfInBounds_ne (by omega), plCells_map _ _ _ _ hk])
theorem plCells_set1 (D' : Nat) : (plCells M D s C).setIfInBounds 1 (.pointer (some ⟨D', 0, none⟩)) = plCells M D' s C :=
  plCells_ext _ _ _ _ (by simp [plCells_size]) (by rw [Array.getElem?_setIfInBounds_ne (by omega), plCells_0]) (by rw [Array.getElem?_setIfInBounds_self_of_lt (by rw [plCells_size]; omega)])
    (fun i hi => by rw [Array.getElem?_setIfInBounds_ne (by omega), plCells_sm _ _ _ _ hi]) (fun k hk => by rw [Array.getElem?_setIfInBounds_ne (by omega), plCells_map _ _ _ _ hk])
theorem plCells_setC {k : Nat} (hk : T.cntK k = true) (h18 : k < 18) (x : Nat) : (plCells M D s C).setIfInBounds (146 + k) (.map (some x)) = plCells M D s (fun i => if i = k then x else C i) :=
  plCells_ext _ _ _ _ (by simp [plCells_size]) (by rw [Array.getElem?_setIfInBounds_ne (by omega), plCells_0]) (by rw [Array.getElem?_setIfInBounds_ne (by omega), plCells_1])
    (fun i hi => by rw [Array.getElem?_setIfInBounds_ne (by omega), plCells_sm _ _ _ _ hi])
    (fun i hi => by
      by_cases e : i = k
      · subst e; rw [Array.getElem?_setIfInBounds_self_of_lt (by rw [plCells_size]; omega)]; simp [cmV, hk]
      · rw [Array.getElem?_setIfInBounds_ne (by omega), plCells_map _ _ _ _ hi]; simp [cmV, e])
end
theorem cmV_yes {C : Nat → Nat} {k : Nat} (h : T.cntK k = true) : cmV C k = .map (some (C k)) := by unfold cmV; rw [if_pos h]
theorem cmV_no {C : Nat → Nat} {k : Nat} (h : T.cntK k = false) : cmV C k = .map none := by unfold cmV; rw [h]; rfl
theorem idx_cs (C : Nat → Nat) {k : Nat} (h : k < 18) (W : World) : (Instr.index 84 (.agg (csV C)) (.int .i64 (k : Int))).run Tryz.prog W = .ok (cmV C k) W := by
  rcases (show k = 0 ∨ k = 1 ∨ k = 2 ∨ k = 3 ∨ k = 4 ∨ k = 5 ∨ k = 6 ∨ k = 7 ∨ k = 8 ∨ k = 9 ∨ k = 10 ∨ k = 11 ∨ k = 12 ∨ k = 13 ∨ k = 14 ∨ k = 15 ∨ k = 16 ∨ k = 17 by omega) with rfl | rfl | rfl | rfl | rfl | rfl | rfl | rfl | rfl | rfl | rfl | rfl | rfl | rfl | rfl | rfl | rfl | rfl <;> kernel_rfl
theorem cs_range {w : World} {P M D : Nat} {s : Nat → Int} {C : Nat → Nat} (h : Blk w P (plCells M D s C) 89) : w.rangeAt P 146 (csV C).toList := fun j u hj => by
  have hl : j < 18 := by
    have := (List.getElem?_eq_some_iff.1 hj).1
    simpa [csV] using this
  rw [h.cell, plCells_map _ _ _ _ hl]
  simp [csV, hl] at hj
  rw [hj]
end Go.Proofs.YtiohlmccnllklaaGreatDoor
namespace Go.Proofs.YtiohlmccnllklaaGreatDoor
open Go.RowKit
set_option maxHeartbeats 8000000
set_option maxRecDepth 100000
set_option linter.unusedVariables false
set_option linter.unusedSimpArgs false

section
variable {ops : Array Oper} {rest : List Oper} {a : Act} {w : World} {Q : Exit → Act → World → Prop} {R : Nat} {c old : Array Value} {d : Option Tmp} {x y : Operand} {ty ty2 : TypeId} {pos : String} {af : Array Edge} {n : Nat}
theorem wp_store_V (c : Array Value) (ht : RowV ty n) (hr : Rf ty n w R old ∧ Ok1 n c) (hx : a.eval x = .pointer (some ⟨R, 0, none⟩)) (hy : a.eval y = .agg c) (h : wpList Tryz.prog ops Q rest (a.put d undef) (w.setRow R c)) :
    wpList Tryz.prog ops Q ({ dst := d, op := .store ty x y, type := ty2, pos := pos, after := af, guard := none } :: rest) a w :=
  wpList_store_blk rfl ty x y rfl R c old hx hy ty hr.1.blk (ht.inf hr.2.1) (by rw [hr.1.size, hr.2.1]) hr.2.2 h
end
/-- Four maps, made one behind the other. -/
def cnt4 (b : Nat) (k : Nat) : Nat := b + (k - 13)
theorem build_cs (b : Nat) (w : World) : (Instr.build 84 #[(13, .map (some b)), (14, .map (some (b + 1))), (15, .map (some (b + 2))), (16, .map (some (b + 3)))]).run Tryz.prog w = .ok (.agg (csV (cnt4 b))) w := by kernel_rfl
theorem cnt_later {w : World} {b : Nat} {k : Int} (h : CntIs w b [] k) (o : Obj) : CntIs (w.alloc o) b [] k := h.keep (Below.heap_alloc _ _ _ h.lt)
theorem noneC_any (w : World) : Calls Tryz.prog 26 #[] w fun e w' => e = .returned (.agg (csV (cnt4 (w.heap.size + 1)))) ∧ (∀ k : Nat, T.cntK k = true → CntIs w' (cnt4 (w.heap.size + 1) k) [] (k : Int)) ∧ Below w.heap.size w w' := by
  have hmm := @run_makeMap Tryz.prog
  have HO := Lib.hid (csV_ok (cnt4 (w.heap.size + 1)))
  have HE : Hid (csV (cnt4 (w.heap.size + 1)) = #[.map none, .map none, .map none, .map none, .map none, .map none, .map none, .map none, .map none, .map none, .map none, .map none, .map none, .map (some (w.heap.size + 1)), .map (some (w.heap.size + 1 + 1)), .map (some (w.heap.size + 1 + 1 + 1)), .map (some (w.heap.size + 1 + 1 + 1 + 1)), .map none]) := rfl
  go_enter Tryz.func26, Tryz.ntmps26
  go_wp2
  rw [← HE.out]
  have z1 : (w.alloc (.cells (csV (cnt4 (w.heap.size + 1))) 84)).heap.size = w.heap.size + 1 := by simp
  refine bodyPost_ret (res_V rvCs rfl _ (((((HO.out.new 84 w).alloc _).alloc _).alloc _).alloc _) rfl) rfl ⟨rfl, fun k hk => ?_, ?_⟩
  · unfold T.cntK at hk
    simp only [decide_eq_true_eq] at hk
    generalize w.alloc (.cells (csV (cnt4 (w.heap.size + 1))) 84) = w1 at z1 ⊢
    have c0 := fun k => cnt_new w1 k
    have c1 := fun k => cnt_new (w1.alloc (.map #[] 0)) k
    have c2 := fun k => cnt_new ((w1.alloc (.map #[] 0)).alloc (.map #[] 0)) k
    have c3 := fun k => cnt_new (((w1.alloc (.map #[] 0)).alloc (.map #[] 0)).alloc (.map #[] 0)) k
    simp only [World.size_alloc, z1] at c0 c1 c2 c3
    rcases (show k = 13 ∨ k = 14 ∨ k = 15 ∨ k = 16 by omega) with rfl | rfl | rfl | rfl
    · exact cnt_later (cnt_later (cnt_later (c0 _) _) _) _
    · exact cnt_later (cnt_later (c1 _) _) _
    · exact cnt_later (c2 _) _
    · exact c3 _
  · exact ((((bel1 w _).alloc (by simp) _).alloc (by simp; omega) _).alloc (by simp; omega) _).alloc (by simp; omega) _
theorem fold_pl (M D b : Nat) : Array.foldl (fun cs (x : Value × Nat) => Array.setIfInBounds cs (146 + x.snd) x.fst) ((Tryz.zeroCells89.setIfInBounds 0 (.pointer (some ⟨M, 0, none⟩))).setIfInBounds 1 (.pointer (some ⟨D, 0, none⟩))) (csV (cnt4 b)).zipIdx 0 18 = plCells M D (fun _ => 0) (cnt4 b) := by kernel_rfl
theorem sh_row (ps : List T.Pr) (h : ps = []) (k : Int) (n : Nat) : T.row ps k n = List.replicate n 0 := by
  subst h
  unfold T.row
  refine List.ext_getElem (by simp) fun i h1 h2 => by simp
theorem tabNew (mo : Int) (h1 : 1 ≤ mo) (h2 : mo ≤ 65536) (w : World) : Calls Tryz.prog 24 #[.int .i64 mo] w fun e w' => ∃ Tb FT, e = .returned (.tuple #[.pointer (some ⟨Tb, 0, none⟩), .int .i64 0]) ∧ L2.Tab w' Tb mo [0] 0 FT ∧ (∀ k ∈ FT, w.heap.size ≤ k) ∧ Below w.heap.size w w' :=
  (L2.New_good mo h1 h2 w).mono fun e w' ⟨he, ht, hb⟩ => ⟨_, _, he, ht, fun k hk => by simp at hk; omega, hb⟩
theorem shNew (P : Nat) (h0 : 1 ≤ P) (h1 : P ≤ 32) (w : World) : Calls Tryz.prog 25 #[.int .i64 (P : Int)] w fun e w' => ∃ S F, e = .returned (.tuple #[.pointer (some ⟨S, 0, none⟩), .int .i64 0]) ∧ L3.Sh w' S P (List.replicate (64 * P) 0) F ∧ (∀ k, F k → w.heap.size ≤ k) ∧ Below w.heap.size w w' :=
  (L3.New_any P h0 h1 w).mono fun e w' ⟨F, he, ht, hF, hb⟩ => ⟨_, F, he, ht, hF, hb⟩
/-- The new flow, from its parts. -/
theorem new_flow {w0 w1 w2 w3 w4 : World} {Tb M D b : Nat} {FT : List Nat} {FM FD : Nat → Prop} {mo : Int} {fr se : Nat} (hfr : 1 ≤ fr ∧ fr ≤ 32) (hse : 1 ≤ se ∧ se ≤ 32)
    (ht : L2.Tab w1 Tb mo [0] 0 FT) (hT : ∀ k ∈ FT, w0.heap.size ≤ k) (b1 : Below w0.heap.size w0 w1)
    (hm : L3.Sh w2 M fr (List.replicate (64 * fr) 0) FM) (hM : ∀ k, FM k → w1.heap.size ≤ k) (b2 : Below w1.heap.size w1 w2)
    (hd : L3.Sh w3 D se (List.replicate (64 * se) 0) FD) (hD : ∀ k, FD k → w2.heap.size ≤ k) (b3 : Below w2.heap.size w2 w3)
    (hc : ∀ k : Nat, T.cntK k = true → CntIs w4 (cnt4 b k) [] (k : Int)) (hb : w3.heap.size ≤ b) (b4 : Below w3.heap.size w3 w4) :
    ∃ F, At ((w4.alloc (.cells (plCells M D (fun _ => 0) (cnt4 b)) 89)).alloc (.cells #[.pointer (some ⟨Tb, 0, none⟩), .pointer (some ⟨w4.heap.size, 0, none⟩)] 91)) (w4.heap.size + 1) ⟨(fr : Int), (se : Int), mo, [0], []⟩ F ∧ ∀ k, F k → w0.heap.size ≤ k := by
  have z1 := b1.size
  have z2 := b2.size
  have z3 := b3.size
  have z4 := b4.size
  obtain ⟨WF, hWF⟩ : ∃ WF, WF = (w4.alloc (.cells (plCells M D (fun _ => 0) (cnt4 b)) 89)).alloc (.cells #[.pointer (some ⟨Tb, 0, none⟩), .pointer (some ⟨w4.heap.size, 0, none⟩)] 91) := ⟨_, rfl⟩
  have b5 : Below w4.heap.size w4 WF := by rw [hWF]; exact bel2 w4 _ _
  have hS : Blk WF (w4.heap.size + 1) #[.pointer (some ⟨Tb, 0, none⟩), .pointer (some ⟨w4.heap.size, 0, none⟩)] 91 := by
    have := blk_new (w4.alloc (.cells (plCells M D (fun _ => 0) (cnt4 b)) 89)) #[.pointer (some ⟨Tb, 0, none⟩), .pointer (some ⟨w4.heap.size, 0, none⟩)] 91
    rw [World.size_alloc] at this
    rw [hWF]; exact this
  have hP : Blk WF w4.heap.size (plCells M D (fun _ => 0) (cnt4 b)) 89 := by rw [hWF]; exact (blk_new w4 _ _).alloc _
  rw [← hWF]
  have cl : ∀ k, T.cntK k = true → cnt4 b k < w4.heap.size := fun k hk => (hc k hk).lt
  have cg : ∀ k, T.cntK k = true → w3.heap.size ≤ cnt4 b k := fun k hk => by unfold cnt4; omega
  have c13 : ∀ k, T.cntK k = true → 13 ≤ k := fun k hk => by unfold T.cntK at hk; simp only [decide_eq_true_eq] at hk; omega
  have hpl : PlIs WF w4.heap.size M D (cnt4 b) (fr : Int) (se : Int) [] FM FD := {
    bd := ⟨⟨by omega, by omega⟩, ⟨by omega, by omega⟩⟩
    ris := trivial
    small := fun x hx => by cases hx
    may := fun x hx => by cases hx
    blk := by
      rw [show T.sm [] = fun _ => 0 from funext fun i => T.sm_nil i]; exact hP
    mem := by
      rw [sh_row [] rfl, Int.toNat_natCast]
      exact ((hm.below b3).below (b4.mono (by omega) |> fun h => by exact b4)).below b5
    disk := by
      rw [sh_row [] rfl, Int.toNat_natCast]
      exact (hd.below b4).below b5
    cnt := fun k hk => (hc k hk).keep (b5.block _ (cl k hk))
    inj := fun k j hk hj e => by have := c13 k hk; have := c13 j hj; unfold cnt4 at e; omega
    pM := fun e => by have := hm.lt _ e; omega
    pD := fun e => by have := hd.lt _ e; omega
    md := fun j e e2 => by have := hm.lt _ e; have := hD _ e2; omega
    cM := fun k hk e => by have := hm.lt _ e; have := cg k hk; omega
    cD := fun k hk e => by have := hd.lt _ e; have := cg k hk; omega }
  have hin : ∀ j, plB w4.heap.size (cnt4 b) FM FD j → w1.heap.size ≤ j ∧ j < w4.heap.size + 1 := by
    rintro j (rfl | e | e | ⟨k, hk, rfl⟩)
    · omega
    · have := hM _ e; have := hm.lt _ e; omega
    · have := hD _ e; have := hd.lt _ e; omega
    · have := cg k hk; have := cl k hk; omega
  refine ⟨_, ⟨Tb, w4.heap.size, 0, FT, M, D, cnt4 b, FM, FD, rfl, hS, ?_, hpl, fun e => ?_, fun e => ?_, fun k hk e => ?_⟩, ?_⟩
  · exact (((ht.below b2).below b3).below b4).below b5
  · have := ht.lt _ e; omega
  · have := hin _ e; omega
  · have := ht.lt _ hk; have := hin _ e; omega
  · rintro k (rfl | e | e)
    · omega
    · exact hT k e
    · have := hin _ e; omega
theorem New_any (fr se mo : Int) (h : (1 ≤ fr ∧ fr ≤ 32) ∧ (1 ≤ se ∧ se ≤ 32) ∧ 1 ≤ mo ∧ mo ≤ 65536) (w : World) : Calls Tryz.prog 6 #[.agg #[.int .i64 fr, .int .i64 se], .int .i64 mo] w fun e w' => ∃ S F, e = .returned (.tuple #[.pointer (some ⟨S, 0, none⟩), .int .i64 0]) ∧ At w' S ⟨fr, se, mo, [0], []⟩ F ∧ (∀ k, F k → w.heap.size ≤ k) ∧ Below w.heap.size w w' := by
  obtain ⟨⟨f0, f1⟩, ⟨s0, s1⟩, m0, m1⟩ := h
  obtain ⟨a, rfl⟩ := Int.eq_ofNat_of_zero_le (show 0 ≤ fr by omega)
  obtain ⟨b, rfl⟩ := Int.eq_ofNat_of_zero_le (show 0 ≤ se by omega)
  have HB0 := Lib.hid (bel1 w (.cells #[.int .i64 (a : Int), .int .i64 (b : Int)] 27))
  have hbk := blk_new w #[.int .i64 (a : Int), .int .i64 (b : Int)] 27
  have HBk := Lib.hid hbk
  have HM := Lib.hid (And.intro m0 m1)
  have HA1 : Hid (1 ≤ a ∧ a ≤ 32) := ⟨by omega, by omega⟩
  have HA2 : Hid (1 ≤ b ∧ b ≤ 32) := ⟨by omega, by omega⟩
  clear hbk f0 f1 s0 s1 m0 m1
  go_enter Tryz.func6, Tryz.ntmps6
  go_wp2
  refine L2.wp_scope_fwd 0 rfl ?_
  go_wp2_with fail
  refine (tabNew mo HM.out.1 HM.out.2 _).mono ?_
  rintro e w1 ⟨Tb, FT, rfl, ht, hT, hb⟩
  have HT := Lib.hid (And.intro ht (And.intro hT hb))
  have hbk1 := HBk.out.below hb
  have HBk1 := Lib.hid hbk1
  have c0 : w1.cell? ⟨w.heap.size, 0, none⟩ = some (.int .i64 (a : Int)) := hbk1.cell 0
  clear ht hT hb hbk1
  go_wp2_with fail
  refine (shNew a HA1.out.1 HA1.out.2 _).mono ?_
  rintro e w2 ⟨M, FM, rfl, hm, hM, hb⟩
  have HMm := Lib.hid (And.intro hm (And.intro hM hb))
  have hbk2 := HBk1.out.below hb
  have c1 : w2.cell? ⟨w.heap.size, 1, none⟩ = some (.int .i64 (b : Int)) := hbk2.cell 1
  clear hm hM hb hbk2 c0
  go_wp2_with fail
  refine (shNew b HA2.out.1 HA2.out.2 _).mono ?_
  rintro e w3 ⟨D, FD, rfl, hd, hD, hb⟩
  have HDd := Lib.hid (And.intro hd (And.intro hD hb))
  clear hd hD hb c1
  go_wp2_with fail
  refine (noneC_any _).mono ?_
  rintro e w4 ⟨rfl, hc, hb⟩
  have HCc := Lib.hid (And.intro hc hb)
  have hsz := (csV_ok (cnt4 (w3.heap.size + 1))).1
  have HFo := Lib.hid (fold_pl M D (w3.heap.size + 1))
  clear hc hb
  go_wp2
  rw [HFo.out, L2.Fwd_ret]
  go_ret2
  obtain ⟨ht, hT, hb1⟩ := HT.out
  obtain ⟨hm, hM, hb2⟩ := HMm.out
  obtain ⟨hd, hD, hb3⟩ := HDd.out
  obtain ⟨hc, hb4⟩ := HCc.out
  obtain ⟨F, hA, hF⟩ := new_flow HA1.out HA2.out ht hT hb1 hm hM hb2 hd hD hb3 hc (by omega) hb4
  refine ⟨_, F, rfl, hA, fun k hk => ?_, ?_⟩
  · have := hF k hk
    rw [World.size_alloc] at this
    omega
  · have z := HB0.out.size
    have b1 := HB0.out.trans (hb1.mono z)
    have b2 := b1.trans (hb2.mono b1.size)
    have b3 := b2.trans (hb3.mono b2.size)
    have b4 := b3.trans (hb4.mono b3.size)
    exact b4.trans ((bel2 w4 _ _).mono b4.size)
theorem New_no (fr se mo : Int) (h : ¬ ((1 ≤ fr ∧ fr ≤ 32) ∧ (1 ≤ se ∧ se ≤ 32) ∧ 1 ≤ mo ∧ mo ≤ 65536)) (hf : I64 fr) (hs : I64 se) (hm : I64 mo) (w : World) : Calls Tryz.prog 6 #[.agg #[.int .i64 fr, .int .i64 se], .int .i64 mo] w fun e w' => e = .returned (.tuple #[.pointer none, .int .i64 2]) ∧ Below w.heap.size w w' := by
  have HB0 := Lib.hid (bel1 w (.cells #[.int .i64 fr, .int .i64 se] 27))
  have hbk := blk_new w #[.int .i64 fr, .int .i64 se] 27
  have HBk := Lib.hid hbk
  have HH := Lib.hid h
  clear hbk h
  by_cases hmo : 1 ≤ mo ∧ mo ≤ 65536
  · obtain ⟨m0, m1⟩ := hmo
    have HMo := Lib.hid (And.intro m0 m1)
    clear m0 m1
    by_cases hfr : 1 ≤ fr ∧ fr ≤ 32
    · obtain ⟨f0, f1⟩ := hfr
      obtain ⟨a, rfl⟩ := Int.eq_ofNat_of_zero_le (show 0 ≤ fr by omega)
      have HFr : Hid (1 ≤ a ∧ a ≤ 32) := ⟨by omega, by omega⟩
      have HSe : Hid (se < 1 ∨ 32 < se) := by
        have := HH.out; have := HMo.out
        by_cases e : se < 1
        · exact .inl e
        · by_cases e2 : 32 < se
          · exact .inr e2
          · exact absurd ⟨⟨f0, f1⟩, ⟨by omega, by omega⟩, HMo.out⟩ HH.out
      clear f0 f1 hf hs hm
      go_enter Tryz.func6, Tryz.ntmps6
      go_wp2
      refine L2.wp_scope_fwd 0 rfl ?_
      go_wp2_with fail
      refine (tabNew mo HMo.out.1 HMo.out.2 _).mono ?_
      rintro e w1 ⟨Tb, FT, rfl, ht, hT, hb⟩
      have HB1 := Lib.hid (HB0.out.trans (hb.mono HB0.out.size))
      have hbk1 := HBk.out.below hb
      have HBk1 := Lib.hid hbk1
      have c0 : w1.cell? ⟨w.heap.size, 0, none⟩ = some (.int .i64 (a : Int)) := hbk1.cell 0
      clear ht hT hb hbk1
      go_wp2_with fail
      refine (shNew a HFr.out.1 HFr.out.2 _).mono ?_
      rintro e w2 ⟨M, FM, rfl, hm, hM, hb⟩
      have HB2 := Lib.hid (HB1.out.trans (hb.mono HB1.out.size))
      have hbk2 := HBk1.out.below hb
      have c1 : w2.cell? ⟨w.heap.size, 1, none⟩ = some (.int .i64 se) := hbk2.cell 1
      clear hm hM hb hbk2 c0
      go_wp2_with fail
      refine (L3.New_bad se HSe.out _).mono ?_
      rintro e w3 ⟨rfl, rfl⟩
      go_wp2
      go_step3
      refine ⟨rfl, ?_⟩
      go_wp2
      rw [Exit.noGoto_ret]
      go_ret2
      exact ⟨rfl, HB2.out⟩
    · have HFr : Hid (fr < 1 ∨ 32 < fr) := by
        by_cases e : fr < 1
        · exact .inl e
        · exact .inr (by omega)
      clear hfr hf hs hm
      go_enter Tryz.func6, Tryz.ntmps6
      go_wp2
      refine L2.wp_scope_fwd 0 rfl ?_
      go_wp2_with fail
      refine (tabNew mo HMo.out.1 HMo.out.2 _).mono ?_
      rintro e w1 ⟨Tb, FT, rfl, ht, hT, hb⟩
      have HB1 := Lib.hid (HB0.out.trans (hb.mono HB0.out.size))
      have hbk1 := HBk.out.below hb
      have c0 : w1.cell? ⟨w.heap.size, 0, none⟩ = some (.int .i64 fr) := hbk1.cell 0
      clear ht hT hb hbk1
      go_wp2_with fail
      refine (L3.New_bad fr HFr.out _).mono ?_
      rintro e w2 ⟨rfl, rfl⟩
      go_wp2
      go_step3
      refine ⟨rfl, ?_⟩
      go_wp2
      rw [Exit.noGoto_ret]
      go_ret2
      exact ⟨rfl, HB1.out⟩
  · have HMo : Hid (mo < 1 ∨ 65536 < mo) := by
      by_cases e : mo < 1
      · exact .inl e
      · exact .inr (by omega)
    clear hmo hf hs hm
    go_enter Tryz.func6, Tryz.ntmps6
    go_wp2
    refine L2.wp_scope_fwd 0 rfl ?_
    go_wp2_with fail
    refine (L2.New_bad mo (by have := HMo.out; omega) _).mono ?_
    rintro e w1 ⟨rfl, rfl⟩
    go_wp2
    go_step3
    refine ⟨rfl, ?_⟩
    go_wp2
    rw [Exit.noGoto_ret]
    go_ret2
    exact ⟨rfl, HB0.out⟩
end Go.Proofs.YtiohlmccnllklaaGreatDoor
