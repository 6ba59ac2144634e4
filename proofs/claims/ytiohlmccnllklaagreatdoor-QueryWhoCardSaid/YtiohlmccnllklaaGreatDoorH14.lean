/-
  Layer 12: what a put makes of where the sets stand, of each class of kinds. No walk. Layer 12: places get a set: the table of function values is asked, then what it gave: walks. (written by gen_pput.py) Layer 12: what places have together; may each of them be; does a touch decide: walks.
-/
import Derived.Test.YtiohlmccnllklaaGreatDoorH13
import Derived.Test.YtiohlmccnllklaaGreatDoorH07
set_option linter.unusedVariables false
set_option linter.unusedSimpArgs false
namespace Go.Proofs.YtiohlmccnllklaaGreatDoor
open Go.RowKit
set_option linter.unusedVariables false

section
variable {w w' : World} {P M D : Nat} {C : Nat → Nat} {fr se : Int} {ps : List T.Pr} {FM FD : Nat → Prop}
theorem few_ne {k : Nat} (hk : T.fewK k = true) : k ≠ 10 ∧ k ≠ 12 ∧ T.cntK k = false := by
  unfold T.fewK at hk; simp only [decide_eq_true_eq] at hk
  unfold T.cntK
  refine ⟨by omega, by omega, ?_⟩
  simp only [decide_eq_false_iff_not]; omega
theorem cnt_ne {k : Nat} (hk : T.cntK k = true) : k ≠ 10 ∧ k ≠ 12 ∧ T.fewK k = false := by
  unfold T.cntK at hk; simp only [decide_eq_true_eq] at hk
  unfold T.fewK
  refine ⟨by omega, by omega, ?_⟩
  simp only [decide_eq_false_iff_not]; omega
theorem cast_ne {a b : Nat} (h : a ≠ b) : (a : Int) ≠ (b : Int) := by omega
/-- A kind's sets are as they were, where another kind's are put. -/
theorem get_else (hr : T.Ris ps) {k : Int} {j : Int} (h : k ≠ j) (a : Int) (s : Int) (m : Nat) (n : Int) : T.get (T.marks (k, a) s m ps) (j, n) = T.get ps (j, n) := by
  rw [T.marks_get hr, if_neg (fun e => h e.1.symm)]
theorem PlIs.put_few (h : PlIs w P M D C fr se ps FM FD) {k a m : Nat} {s : Int} (hk : T.fewK k = true) (ha : a + m ≤ 8) (hm : ∀ i : Nat, i < m → T.may fr se ((k : Int), (a : Int) + i) = true) (hs : 0 ≤ s ∧ s < 65536)
    (hB : Blk w' P (plCells M D (fil (T.sm ps) (8 * k + a) m s) C) 89) (ht : Turned (fun j => j = P) w w') : PlIs w' P M D C fr se (T.marks ((k : Int), (a : Int)) s m ps) FM FD := by
  obtain ⟨n10, n12, nc⟩ := few_ne hk
  refine { h with ris := T.marks_ris h.ris _ _ _, small := T.marks_small h.small hs _ _, may := T.marks_may h.may _ _ _ hm, blk := ?_, mem := ?_, disk := ?_, cnt := ?_ }
  · have e : fil (T.sm ps) (8 * k + a) m s = T.sm (T.marks ((k : Int), (a : Int)) s m ps) := funext fun i => by rw [T.sm_marks h.ris hk ha]; rfl
    rw [← e]; exact hB
  · rw [T.row_other h.ris (show (k : Int) ≠ 10 by omega)]
    exact h.mem.kept' fun j hj => ht.block j (h.mem.lt j hj) (fun e => h.pM (e ▸ hj))
  · rw [T.row_other h.ris (show (k : Int) ≠ 12 by omega)]
    exact h.disk.kept' fun j hj => ht.block j (h.disk.lt j hj) (fun e => h.pD (e ▸ hj))
  · intro j hj
    refine ((h.cnt j hj).keep (ht.block _ (h.cnt j hj).lt (h.cP hj))).congr fun n => get_else h.ris ?_ _ _ _ _
    rintro e
    have : k = j := by omega
    rw [this, hj] at nc; cases nc
theorem PlIs.put_cnt (h : PlIs w P M D C fr se ps FM FD) {k a m : Nat} {s : Int} (hk : T.cntK k = true) (hm : ∀ i : Nat, i < m → T.may fr se ((k : Int), (a : Int) + i) = true) (hs : 0 ≤ s ∧ s < 65536)
    (hc : CntIs w' (C k) (T.marks ((k : Int), (a : Int)) s m ps) (k : Int)) (ht : Turned (fun j => j = C k) w w') : PlIs w' P M D C fr se (T.marks ((k : Int), (a : Int)) s m ps) FM FD := by
  obtain ⟨n10, n12, nf⟩ := cnt_ne hk
  refine { h with ris := T.marks_ris h.ris _ _ _, small := T.marks_small h.small hs _ _, may := T.marks_may h.may _ _ _ hm, blk := ?_, mem := ?_, disk := ?_, cnt := ?_ }
  · have e : T.sm (T.marks ((k : Int), (a : Int)) s m ps) = T.sm ps := funext fun i => T.sm_elsewhere h.ris nf _ _ _ _
    rw [e]; exact h.blk.turned ht (fun e => h.cP hk e.symm)
  · rw [T.row_other h.ris (show (k : Int) ≠ 10 by omega)]
    exact h.mem.kept' fun j hj => ht.block j (h.mem.lt j hj) (fun e => h.cM k hk (e ▸ hj))
  · rw [T.row_other h.ris (show (k : Int) ≠ 12 by omega)]
    exact h.disk.kept' fun j hj => ht.block j (h.disk.lt j hj) (fun e => h.cD k hk (e ▸ hj))
  · intro j hj
    by_cases e : j = k
    · subst e; exact hc
    · exact ((h.cnt j hj).keep (ht.block _ (h.cnt j hj).lt (fun e2 => e (h.inj j k hj hk e2)))).congr fun n => get_else h.ris (fun e2 => e (by omega)) _ _ _ _
theorem PlIs.put_mem (h : PlIs w P M D C fr se ps FM FD) {a m : Nat} {s : Int} (hm : ∀ i : Nat, i < m → T.may fr se (10, (a : Int) + i) = true) (hs : 0 ≤ s ∧ s < 65536)
    (hp : L3.PutPost w M fr.toNat (T.row (T.marks (10, (a : Int)) s m ps) 10 (64 * fr.toNat)) FM w') : ∃ FM', PlIs w' P M D C fr se (T.marks (10, (a : Int)) s m ps) FM' FD ∧ Turned FM w w' ∧ ∀ j, FM' j → FM j ∨ w.heap.size ≤ j := by
  obtain ⟨FM', h1, h2, h3⟩ := hp
  have ht := Turned.of3 h2
  refine ⟨FM', { h with ris := T.marks_ris h.ris _ _ _, small := T.marks_small h.small hs _ _, may := T.marks_may h.may _ _ _ hm, blk := ?_, mem := h1, disk := ?_, cnt := ?_, pM := ?_, md := ?_, cM := ?_ }, ht, h3⟩
  · have e : T.sm (T.marks (10, (a : Int)) s m ps) = T.sm ps := funext fun i => T.sm_elsewhere (k := 10) h.ris (by rfl) _ _ _ _
    rw [e]; exact h.blk.turned ht h.pM
  · rw [T.row_other h.ris (by omega)]
    exact h.disk.kept' fun j hj => ht.block j (h.disk.lt j hj) (fun e => h.md j e hj)
  · intro j hj
    have := (cnt_ne hj).1
    exact ((h.cnt j hj).keep (ht.block _ (h.cnt j hj).lt (h.cM j hj))).congr fun n => get_else h.ris (by omega) _ _ _ _
  · intro e
    rcases h3 P e with e | e
    · exact h.pM e
    · have := h.blk.lt; omega
  · intro j hj hd
    rcases h3 j hj with e | e
    · exact h.md j e hd
    · have := h.disk.lt j hd; omega
  · intro k hk e
    rcases h3 _ e with e | e
    · exact h.cM k hk e
    · have := (h.cnt k hk).lt; omega
theorem PlIs.put_dsk (h : PlIs w P M D C fr se ps FM FD) {a m : Nat} {s : Int} (hm : ∀ i : Nat, i < m → T.may fr se (12, (a : Int) + i) = true) (hs : 0 ≤ s ∧ s < 65536)
    (hp : L3.PutPost w D se.toNat (T.row (T.marks (12, (a : Int)) s m ps) 12 (64 * se.toNat)) FD w') : ∃ FD', PlIs w' P M D C fr se (T.marks (12, (a : Int)) s m ps) FM FD' ∧ Turned FD w w' ∧ ∀ j, FD' j → FD j ∨ w.heap.size ≤ j := by
  obtain ⟨FD', h1, h2, h3⟩ := hp
  have ht := Turned.of3 h2
  refine ⟨FD', { h with ris := T.marks_ris h.ris _ _ _, small := T.marks_small h.small hs _ _, may := T.marks_may h.may _ _ _ hm, blk := ?_, mem := ?_, disk := h1, cnt := ?_, pD := ?_, md := ?_, cD := ?_ }, ht, h3⟩
  · have e : T.sm (T.marks (12, (a : Int)) s m ps) = T.sm ps := funext fun i => T.sm_elsewhere (k := 12) h.ris (by rfl) _ _ _ _
    rw [e]; exact h.blk.turned ht h.pD
  · rw [T.row_other h.ris (by omega)]
    exact h.mem.kept' fun j hj => ht.block j (h.mem.lt j hj) (fun e => h.md j hj e)
  · intro j hj
    have := (cnt_ne hj).2.1
    exact ((h.cnt j hj).keep (ht.block _ (h.cnt j hj).lt (h.cD j hj))).congr fun n => get_else h.ris (by omega) _ _ _ _
  · intro e
    rcases h3 P e with e | e
    · exact h.pD e
    · have := h.blk.lt; omega
  · intro j hj hd
    rcases h3 j hd with e | e
    · exact h.md j hj e
    · have := h.mem.lt j hj; omega
  · intro k hk e
    rcases h3 _ e with e | e
    · exact h.cD k hk e
    · have := (h.cnt k hk).lt; omega
theorem ref_ok {l : List Int} {P a m : Nat} {s : Int} (hs : 0 ≤ s ∧ s < 65536) (h : a + m ≤ 64 * P) : L3.fillR P l (a : Int) (m : Int) s = L3.fillL l a s m := by
  unfold L3.fillR
  rw [if_pos]
  · simp
  · unfold L3.refR
    rw [if_neg (by omega), if_pos (by simp [L3.insB]; omega)]
end
end Go.Proofs.YtiohlmccnllklaaGreatDoor
namespace Go.Proofs.YtiohlmccnllklaaGreatDoor
open Go.RowKit
set_option maxHeartbeats 4000000
set_option maxRecDepth 100000
set_option linter.unusedVariables false
set_option linter.unusedSimpArgs false

theorem o_call {P : Program} {op : Oper} {a : Act} {w : World} {K : Act → World → Prop} {Q : Exit → Act → World → Prop} {F : FuncId} {args : Array Value} (he : (execOp a.eval op).run P w = .ok (.enter F args) w)
    (hc : Calls P F args w fun e w' => ∃ v, e = .returned v ∧ K (a.put op.dst v) w') : op.wp P a w K Q := by
  unfold Oper.wp
  rw [he]
  refine Calls.mono hc ?_
  rintro e w' ⟨v, rfl, hk⟩
  exact hk
/-- What a region that puts a place's set knows. -/
structure PutS (B : Nat) (p : T.Pl) (P M D : Nat) (C : Nat → Nat) (W : World) : Prop where
  b : Blk W B #[.int .i64 p.1, .int .i64 p.2] 42
  o : OfIs W P M D C
theorem PutS.stb (B : Nat) (p : T.Pl) (P M D : Nat) (C : Nat → Nat) : Free.Stb (PutS B p P M D C) := fun W W' h hb => ⟨h.b.below hb, h.o.below hb⟩
theorem PutS.c0 {B : Nat} {p : T.Pl} {P M D : Nat} {C : Nat → Nat} {W : World} (h : PutS B p P M D C W) : W.cell? ⟨B, 0, none⟩ = some (.int .i64 p.1) := h.b.cell 0
theorem PutS.c1 {B : Nat} {p : T.Pl} {P M D : Nat} {C : Nat → Nat} {W : World} (h : PutS B p P M D C W) : W.cell? ⟨B, 1, none⟩ = some (.int .i64 p.2) := h.b.cell 1
/-- From a world that has grown out of w. -/
theorem plaTo_end {w W V W2 : World} {P : Nat} {C : Nat → Nat} {fr se : Int} {ps : List T.Pr} {M D : Nat} {FM FD G : Nat → Prop} {FM' FD' : Nat → Prop} (h0 : ∀ j, plB P C FM FD j → j < w.heap.size) (hb : Below w.heap.size w W) (h : PlIs V P M D C fr se ps FM' FD') (ht : Turned G W V) (hG : ∀ j, G j → plB P C FM FD j ∨ w.heap.size ≤ j) (hF : ∀ j, plB P C FM' FD' j → plB P C FM FD j ∨ w.heap.size ≤ j)
    (hb2 : Below V.heap.size V W2) : PlaTo w P fr se ps (plB P C FM FD) W2 :=
  ⟨_, ⟨M, D, C, FM', FD', rfl, h.below hb2⟩, ((Turned.of_below hb _).trans ht hG).trans (Turned.of_below hb2 (fun _ => False)) (fun _ h => h.elim), hF⟩
section
variable {w : World} {P M D : Nat} {C : Nat → Nat} {fr se : Int} {ps : List T.Pr} {FM FD : Nat → Prop}

theorem pput_few (h : PlIs w P M D C fr se ps FM FD) (k : Nat) (hk : T.fewK k = true) (x m : Nat) (hx : x + m ≤ mst k) {s : Int} (hs : 0 ≤ s ∧ s < 65536) (hm : ∀ i : Nat, i < m → T.may fr se ((k : Int), (x : Int) + i) = true) :
    Calls Tryz.prog 30 #[.pointer (some ⟨P, 0, none⟩), .agg #[.int .i64 (k : Int), .int .i64 (x : Int)], .int .i64 (m : Int), .int .u32 s] w fun e w' => (∃ u, e = .returned u) ∧ PlaTo w P fr se (T.marks ((k : Int), (x : Int)) s m ps) (plB P C FM FD) w' := by
  have hb := bel1 w (.cells #[.int .i64 (k : Int), .int .i64 (x : Int)] 42)
  have hS : PutS w.heap.size ((k : Int), (x : Int)) P M D C (w.alloc (.cells #[.int .i64 (k : Int), .int .i64 (x : Int)] 42)).drew := ⟨blk_new w _ _, ofis (h.below hb.drew).blk⟩
  obtain ⟨h1, h2⟩ := cls_few hk
  have HO := Lib.hid (fun W (hW : PutS w.heap.size ((k : Int), (x : Int)) P M D C W) => of_any hW.o k h1 h2)
  have hm8 := (most_few hk fr se).2
  have hk17 := cls_few hk
  rw [ofV_few hk] at HO
  have HK := Lib.hid hk
  clear hk
  have HM := Lib.hid hm
  have HS := Lib.hid hS
  have HB := Lib.hid hb
  have HP := Lib.hid h
  have HL := Lib.hid h.lt
  clear hS h hb hm
  go_enter Tryz.func30, Tryz.ntmps30
  go_wp2
  refine Free.any _ (PutS.stb w.heap.size ((k : Int), (x : Int)) P M D C) HS.out (fun st => ?_)
  refine Free.tk 0 (some 8) ?_
  refine Free.tk 1 (some 9) ?_
  refine Free.tk 2 (some 10) ?_ (hy := by intro W hW; have c0 := hW.c0; have c1 := hW.c1; go_simp; try with_reducible rfl)
  refine Free.cl 3 (some 11) st HO.out ?_
  refine Free.tk 4 (some 12) ?_
  refine Free.tk 5 (some 13) ?_ (hy := by intro W hW; have c0 := hW.c0; have c1 := hW.c1; go_simp; try with_reducible rfl)
  refine Free.tk 6 (some 14) ?_
  refine Free.tk 7 (some 15) ?_
  refine Free.one 8 (fun W hb hW => ?_)
  have hBW : Below w.heap.size w W := HB.out.drew.trans (hb.mono (by simp))
  have hPW : PlIs W P M D C fr se ps FM FD := HP.out.below hBW
  refine o_call (by go_simp; rfl) ?_
  refine (fput_any hPW.blk (2 + 8 * k) (mst k) 8 x m (8 * k + x) (by omega) hx (by omega) hm8 s).mono ?_
  rintro e V ⟨⟨u, rfl⟩, hB, hT⟩
  have hV := hPW.put_few HK.out (by omega) HM.out hs hB hT
  refine ⟨u, rfl, ⟨hW.b.turned hT (fun e => by have := HL.out P (.inl rfl); omega), ofis hV.blk⟩, Free.done (fun W2 hb2 hW2 => ?_)⟩
  have HF : Hid (PlaTo w P fr se (T.marks ((k : Int), (x : Int)) s m ps) (plB P C FM FD) W2) := plaTo_end HL.out hBW hV hT (fun j e => .inl (.inl e)) (fun j e => .inl e) hb2
  go_wp2
  go_end0
  exact ⟨⟨_, rfl⟩, HF.out⟩

theorem pput_mem (h : PlIs w P M D C fr se ps FM FD) (k : Nat) (hk : k = 10) (x m : Nat) (hx : x + m ≤ 64 * fr.toNat) {s : Int} (hs : 0 ≤ s ∧ s < 65536) (hm : ∀ i : Nat, i < m → T.may fr se ((k : Int), (x : Int) + i) = true) :
    Calls Tryz.prog 30 #[.pointer (some ⟨P, 0, none⟩), .agg #[.int .i64 (k : Int), .int .i64 (x : Int)], .int .i64 (m : Int), .int .u32 s] w fun e w' => (∃ u, e = .returned u) ∧ PlaTo w P fr se (T.marks ((k : Int), (x : Int)) s m ps) (plB P C FM FD) w' := by
  have hb := bel1 w (.cells #[.int .i64 (k : Int), .int .i64 (x : Int)] 42)
  have hS : PutS w.heap.size ((k : Int), (x : Int)) P M D C (w.alloc (.cells #[.int .i64 (k : Int), .int .i64 (x : Int)] 42)).drew := ⟨blk_new w _ _, ofis (h.below hb.drew).blk⟩
  obtain ⟨h1, h2⟩ := cls_mem hk
  have HO := Lib.hid (fun W (hW : PutS w.heap.size ((k : Int), (x : Int)) P M D C W) => of_any hW.o k h1 h2)
  skip
  rw [ofV_mem hk] at HO
  have HK := Lib.hid hk
  clear hk
  have HM := Lib.hid hm
  have HS := Lib.hid hS
  have HB := Lib.hid hb
  have HP := Lib.hid h
  have HL := Lib.hid h.lt
  clear hS h hb hm
  go_enter Tryz.func30, Tryz.ntmps30
  go_wp2
  refine Free.any _ (PutS.stb w.heap.size ((k : Int), (x : Int)) P M D C) HS.out (fun st => ?_)
  refine Free.tk 0 (some 8) ?_
  refine Free.tk 1 (some 9) ?_
  refine Free.tk 2 (some 10) ?_ (hy := by intro W hW; have c0 := hW.c0; have c1 := hW.c1; go_simp; try with_reducible rfl)
  refine Free.cl 3 (some 11) st HO.out ?_
  refine Free.tk 4 (some 12) ?_
  refine Free.tk 5 (some 13) ?_ (hy := by intro W hW; have c0 := hW.c0; have c1 := hW.c1; go_simp; try with_reducible rfl)
  refine Free.tk 6 (some 14) ?_
  refine Free.tk 7 (some 15) ?_
  refine Free.one 8 (fun W hb hW => ?_)
  have hBW : Below w.heap.size w W := HB.out.drew.trans (hb.mono (by simp))
  have hPW : PlIs W P M D C fr se ps FM FD := HP.out.below hBW
  refine o_call (by go_simp; rfl) ?_
  refine (sput_any hPW.mem (x : Int) (m : Int) s ⟨hs.1, by omega⟩).mono ?_
  rintro e V ⟨⟨u, rfl⟩, hp⟩
  obtain rfl := HK.out
  rw [ref_ok hs hx, T.row_fill hPW.ris _ _ _ _ hx] at hp
  obtain ⟨F', hV, hT, hn⟩ := hPW.put_mem HM.out hs hp
  refine ⟨u, rfl, ⟨hW.b.turned hT (fun e => by have := HL.out w.heap.size (.inr (.inl e)); omega), ofis hV.blk⟩, Free.done (fun W2 hb2 hW2 => ?_)⟩
  have hbz := hBW.size
  have HF : Hid (PlaTo w P fr se (T.marks (((10 : Nat) : Int), (x : Int)) s m ps) (plB P C FM FD) W2) := plaTo_end HL.out hBW hV hT (fun j e => .inl (.inr (.inl e))) (fun j e => ?cc) hb2
  case cc =>
    rcases e with e | e | e | e
    · exact .inl (.inl e)
    · rcases hn j e with e | e
      · exact .inl (.inr (.inl e))
      · exact .inr (by omega)
    · exact .inl (.inr (.inr (.inl e)))
    · exact .inl (.inr (.inr (.inr e)))
  go_wp2
  go_end0
  exact ⟨⟨_, rfl⟩, HF.out⟩

theorem pput_dsk (h : PlIs w P M D C fr se ps FM FD) (k : Nat) (hk : k = 12) (x m : Nat) (hx : x + m ≤ 64 * se.toNat) {s : Int} (hs : 0 ≤ s ∧ s < 65536) (hm : ∀ i : Nat, i < m → T.may fr se ((k : Int), (x : Int) + i) = true) :
    Calls Tryz.prog 30 #[.pointer (some ⟨P, 0, none⟩), .agg #[.int .i64 (k : Int), .int .i64 (x : Int)], .int .i64 (m : Int), .int .u32 s] w fun e w' => (∃ u, e = .returned u) ∧ PlaTo w P fr se (T.marks ((k : Int), (x : Int)) s m ps) (plB P C FM FD) w' := by
  have hb := bel1 w (.cells #[.int .i64 (k : Int), .int .i64 (x : Int)] 42)
  have hS : PutS w.heap.size ((k : Int), (x : Int)) P M D C (w.alloc (.cells #[.int .i64 (k : Int), .int .i64 (x : Int)] 42)).drew := ⟨blk_new w _ _, ofis (h.below hb.drew).blk⟩
  obtain ⟨h1, h2⟩ := cls_dsk hk
  have HO := Lib.hid (fun W (hW : PutS w.heap.size ((k : Int), (x : Int)) P M D C W) => of_any hW.o k h1 h2)
  skip
  rw [ofV_dsk hk] at HO
  have HK := Lib.hid hk
  clear hk
  have HM := Lib.hid hm
  have HS := Lib.hid hS
  have HB := Lib.hid hb
  have HP := Lib.hid h
  have HL := Lib.hid h.lt
  clear hS h hb hm
  go_enter Tryz.func30, Tryz.ntmps30
  go_wp2
  refine Free.any _ (PutS.stb w.heap.size ((k : Int), (x : Int)) P M D C) HS.out (fun st => ?_)
  refine Free.tk 0 (some 8) ?_
  refine Free.tk 1 (some 9) ?_
  refine Free.tk 2 (some 10) ?_ (hy := by intro W hW; have c0 := hW.c0; have c1 := hW.c1; go_simp; try with_reducible rfl)
  refine Free.cl 3 (some 11) st HO.out ?_
  refine Free.tk 4 (some 12) ?_
  refine Free.tk 5 (some 13) ?_ (hy := by intro W hW; have c0 := hW.c0; have c1 := hW.c1; go_simp; try with_reducible rfl)
  refine Free.tk 6 (some 14) ?_
  refine Free.tk 7 (some 15) ?_
  refine Free.one 8 (fun W hb hW => ?_)
  have hBW : Below w.heap.size w W := HB.out.drew.trans (hb.mono (by simp))
  have hPW : PlIs W P M D C fr se ps FM FD := HP.out.below hBW
  refine o_call (by go_simp; rfl) ?_
  refine (sput_any hPW.disk (x : Int) (m : Int) s ⟨hs.1, by omega⟩).mono ?_
  rintro e V ⟨⟨u, rfl⟩, hp⟩
  obtain rfl := HK.out
  rw [ref_ok hs hx, T.row_fill hPW.ris _ _ _ _ hx] at hp
  obtain ⟨F', hV, hT, hn⟩ := hPW.put_dsk HM.out hs hp
  refine ⟨u, rfl, ⟨hW.b.turned hT (fun e => by have := HL.out w.heap.size (.inr (.inr (.inl e))); omega), ofis hV.blk⟩, Free.done (fun W2 hb2 hW2 => ?_)⟩
  have hbz := hBW.size
  have HF : Hid (PlaTo w P fr se (T.marks (((12 : Nat) : Int), (x : Int)) s m ps) (plB P C FM FD) W2) := plaTo_end HL.out hBW hV hT (fun j e => .inl (.inr (.inr (.inl e)))) (fun j e => ?cc) hb2
  case cc =>
    rcases e with e | e | e | e
    · exact .inl (.inl e)
    · exact .inl (.inr (.inl e))
    · rcases hn j e with e | e
      · exact .inl (.inr (.inr (.inl e)))
      · exact .inr (by omega)
    · exact .inl (.inr (.inr (.inr e)))
  go_wp2
  go_end0
  exact ⟨⟨_, rfl⟩, HF.out⟩

theorem pput_cnt (h : PlIs w P M D C fr se ps FM FD) (k : Nat) (hk : T.cntK k = true) (x m : Nat) (hx : x + m ≤ 2147483648) {s : Int} (hs : 0 ≤ s ∧ s < 65536) (hm : ∀ i : Nat, i < m → T.may fr se ((k : Int), (x : Int) + i) = true) :
    Calls Tryz.prog 30 #[.pointer (some ⟨P, 0, none⟩), .agg #[.int .i64 (k : Int), .int .i64 (x : Int)], .int .i64 (m : Int), .int .u32 s] w fun e w' => (∃ u, e = .returned u) ∧ PlaTo w P fr se (T.marks ((k : Int), (x : Int)) s m ps) (plB P C FM FD) w' := by
  have hb := bel1 w (.cells #[.int .i64 (k : Int), .int .i64 (x : Int)] 42)
  have hS : PutS w.heap.size ((k : Int), (x : Int)) P M D C (w.alloc (.cells #[.int .i64 (k : Int), .int .i64 (x : Int)] 42)).drew := ⟨blk_new w _ _, ofis (h.below hb.drew).blk⟩
  obtain ⟨h1, h2⟩ := cls_cnt hk
  have HO := Lib.hid (fun W (hW : PutS w.heap.size ((k : Int), (x : Int)) P M D C W) => of_any hW.o k h1 h2)
  skip
  rw [ofV_cnt hk] at HO
  have HK := Lib.hid hk
  clear hk
  have HM := Lib.hid hm
  have HS := Lib.hid hS
  have HB := Lib.hid hb
  have HP := Lib.hid h
  have HL := Lib.hid h.lt
  clear hS h hb hm
  go_enter Tryz.func30, Tryz.ntmps30
  go_wp2
  refine Free.any _ (PutS.stb w.heap.size ((k : Int), (x : Int)) P M D C) HS.out (fun st => ?_)
  refine Free.tk 0 (some 8) ?_
  refine Free.tk 1 (some 9) ?_
  refine Free.tk 2 (some 10) ?_ (hy := by intro W hW; have c0 := hW.c0; have c1 := hW.c1; go_simp; try with_reducible rfl)
  refine Free.cl 3 (some 11) st HO.out ?_
  refine Free.tk 4 (some 12) ?_
  refine Free.tk 5 (some 13) ?_ (hy := by intro W hW; have c0 := hW.c0; have c1 := hW.c1; go_simp; try with_reducible rfl)
  refine Free.tk 6 (some 14) ?_
  refine Free.tk 7 (some 15) ?_
  refine Free.one 8 (fun W hb hW => ?_)
  have hBW : Below w.heap.size w W := HB.out.drew.trans (hb.mono (by simp))
  have hPW : PlIs W P M D C fr se ps FM FD := HP.out.below hBW
  refine o_call (by go_simp; rfl) ?_
  refine (cput_any (hPW.cnt k HK.out) hPW.ris (fun y hy e => by have := T.may_iff.1 (hPW.may y hy); rw [e, most_cnt HK.out] at this; exact this) x m hx ⟨hs.1, by omega⟩).mono ?_
  rintro e V ⟨⟨u, rfl⟩, hB, hT⟩
  have hV := hPW.put_cnt HK.out HM.out hs hB hT
  refine ⟨u, rfl, ⟨hW.b.turned hT (fun e => by have := HL.out (C k) (.inr (.inr (.inr ⟨k, HK.out, rfl⟩))); omega), ofis hV.blk⟩, Free.done (fun W2 hb2 hW2 => ?_)⟩
  have HF : Hid (PlaTo w P fr se (T.marks ((k : Int), (x : Int)) s m ps) (plB P C FM FD) W2) := plaTo_end HL.out hBW hV hT (fun j e => .inl (.inr (.inr (.inr ⟨k, HK.out, e⟩)))) (fun j e => .inl e) hb2
  go_wp2
  go_end0
  exact ⟨⟨_, rfl⟩, HF.out⟩

theorem pput_any (h : PlIs w P M D C fr se ps FM FD) (p : T.Pl) (hp : T.may fr se p = true) (m : Nat) {s : Int} (hs : 0 ≤ s ∧ s < 65536) (hm : 0 < m → T.may fr se (p.1, p.2 + m - 1) = true) :
    Calls Tryz.prog 30 #[.pointer (some ⟨P, 0, none⟩), .agg (pla p), .int .i64 (m : Int), .int .u32 s] w fun e w' => (∃ u, e = .returned u) ∧ PlaTo w P fr se (T.marks p s m ps) (plB P C FM FD) w' := by
  obtain ⟨k, n⟩ := p
  obtain ⟨h0, h1⟩ := T.may_iff.1 hp
  simp only at h0 h1
  have hk : ¬ (k < 1 ∨ 17 < k) := fun e => by rw [most_out e] at h1; omega
  obtain ⟨k, rfl⟩ := Int.eq_ofNat_of_zero_le (show 0 ≤ k by omega)
  obtain ⟨x, rfl⟩ := Int.eq_ofNat_of_zero_le h0
  have hx : (x : Int) + m ≤ T.most fr se (k : Int) := by
    by_cases e : 0 < m
    · have := (T.may_iff.1 (hm e)).2
      simp only at this
      omega
    · omega
  have ha : ∀ i : Nat, i < m → T.may fr se ((k : Int), (x : Int) + i) = true := fun i hi => T.may_iff.2 ⟨by show 0 ≤ (x : Int) + i; omega, by show (x : Int) + i < T.most fr se (k : Int); omega⟩
  rcases cls (k := k) (by omega) (by omega) with hc | hc | hc | hc
  · exact pput_few h k hc x m (by rw [(most_few hc fr se).1] at hx; omega) hs ha
  · exact pput_mem h k hc x m (by subst hc; have hx : (x : Int) + m ≤ T.most fr se 10 := hx; rw [most_mem] at hx; omega) hs ha
  · exact pput_dsk h k hc x m (by subst hc; have hx : (x : Int) + m ≤ T.most fr se 12 := hx; rw [most_dsk] at hx; omega) hs ha
  · exact pput_cnt h k hc x m (by rw [most_cnt hc] at hx; omega) hs ha
end
end Go.Proofs.YtiohlmccnllklaaGreatDoor
namespace Go.Proofs.YtiohlmccnllklaaGreatDoor
open Go.RowKit
set_option maxHeartbeats 4000000
set_option maxRecDepth 100000
set_option linter.unusedVariables false
set_option linter.unusedSimpArgs false

section
variable {w : World} {P M D : Nat} {C : Nat → Nat} {fr se : Int} {ps : List T.Pr} {FM FD : Nat → Prop}
theorem togp_any (h : PlIs w P M D C fr se ps FM FD) {v : Value} {l : List T.Pl} (hv : PlsIn w v l) (hm : l.all (T.may fr se) = true) : Calls Tryz.prog 58 #[.pointer (some ⟨P, 0, none⟩), v] w fun e w' => e = .returned (.int .u32 (T.tog ps 0 l)) ∧ Below w.heap.size w w' := by
  obtain ⟨q, hq⟩ : ∃ q, Hid (q = T.tog ps 0 l) := ⟨_, rfl⟩
  rw [← hq.out]
  have HA := Lib.hid (fun W (hb : Below w.heap.size w W) => And.intro (h.below hb) (hv.below hb))
  have HM := Lib.hid (List.all_eq_true.1 hm)
  have HS := Lib.hid h.small
  obtain ⟨oa, ca, rfl, _, hla⟩ := hv.shape
  unfold maxLen at hla
  clear h hv hm
  go_enter Tryz.func58, Tryz.ntmps58
  go_wp2
  go_loopw [5, 10] (fun s i wr => ∃ k : Nat, k ≤ l.length ∧ s = .int .u32 (T.tog ps 0 (l.take k)) ∧ i = .int .i64 (k : Int) ∧ Hid (Below w.heap.size w wr)) (fun _ i _ => l.length + 1 - natI i)
  case atStart => exact ⟨0, by omega, by rw [List.take_zero]; rfl, rfl, Below.refl _ _⟩
  case round =>
    obtain ⟨k, hk, rfl, rfl, HBl⟩ := hrel
    by_cases hlt : k < l.length
    · have hi : (k : Int) < (l.length : Int) := by omega
      obtain ⟨hpl, hvl⟩ := HA.out _ HBl.out
      obtain ⟨g1, o1, c1, p, e1, l1, hpi, r1⟩ := hvl.at_ hlt
      obtain ⟨q1, q2⟩ := rng2 r1
      simp at e1
      obtain ⟨rfl, rfl⟩ := e1
      have hmp := HM.out p (List.mem_of_getElem? l1)
      have HN := Lib.hid (tog_succ ps 0 l k p l1)
      have hsb := HS.out.tog (s := 0) (by omega) (l.take k)
      have hgb := HS.out.get p
      have HO := Lib.hid (L2.orI_bits (T.tog ps 0 (l.take k)) (T.get ps p) ⟨hsb.1, by omega⟩ ⟨hgb.1, by omega⟩)
      have HG := Lib.hid (fun (W : World) (hW : Below wr.heap.size wr W) => get_any (hpl.below hW) p hmp)
      have HB2 := Lib.hid (HBl.out.alloc HBl.out.size (.cells (pla p) 42))
      have hb1 := bel1 wr (.cells (pla p) 42)
      clear l1 r1 hpl hvl hsb hgb hmp hpi
      generalize T.tog ps 0 (l.take k) = u at HN HO ⊢
      unfold pla at HG hb1 HB2
      go_wp2_with (go_at_call 74; refine (HG.out _ hb1).mono ?_; rintro e w2 ⟨rfl, hb⟩)
      have HB3 := Lib.hid (HB2.out.trans (hb.mono HB2.out.size))
      refine ⟨⟨k + 1, by omega, by rw [HN.out, HO.out], by go_num, HB3⟩, by simp [natI]; omega⟩
    · obtain rfl : k = l.length := by omega
      have hq2 := hq.out
      rw [List.take_length]
      rw [← hq2]
      clear hq2
      go_wp2
      go_ret
      exact ⟨rfl, HBl.out⟩

/-! ### may each of them be -/
theorem hasAll1_any (h : PlIs w P M D C fr se ps FM FD) (p : T.Pl) (B : Nat) (hB : w.cell? ⟨B, 0, none⟩ = some (.pointer (some ⟨P, 0, none⟩))) : Calls Tryz.prog 110 #[.agg (pla p), .pointer (some ⟨B, 0, none⟩)] w fun e w' => e = .returned (.bool (!T.may fr se p)) ∧ Below w.heap.size w w' := by
  have hb1 := bel1 w (.cells (pla p) 42)
  have HG := Lib.hid (has_any (h.below hb1) p)
  have HB := Lib.hid hb1
  have hB' := cell_below hB hb1
  clear h hb1 hB
  unfold pla at HG HB hB' ⊢
  go_enter Tryz.func110, Tryz.ntmps110
  go_wp2_with (go_at_call 49; refine HG.out.mono ?_; rintro e w2 ⟨rfl, hb⟩)
  go_ret
  exact ⟨rfl, HB.out.trans (hb.mono HB.out.size)⟩
theorem take_all {α : Type} (f : α → Bool) (l : List α) (k : Nat) (x : α) (h : l[k]? = some x) (h0 : (l.take k).all f = true) (h1 : f x = true) : (l.take (k + 1)).all f = true := by
  rw [List.take_add_one, h]; simp [h0, h1]
theorem all_miss {α : Type} {f : α → Bool} {l : List α} {k : Nat} {x : α} (h : l[k]? = some x) (h1 : f x = false) : l.all f = false := by
  cases e : l.all f with
  | false => rfl
  | true => have := List.all_eq_true.1 e x (List.mem_of_getElem? h); rw [h1] at this; cases this
theorem index_any (h : PlIs w P M D C fr se ps FM FD) {v : Value} {l : List T.Pl} (hv : PlsIn w v l) (B : Nat) (hB : w.cell? ⟨B, 0, none⟩ = some (.pointer (some ⟨P, 0, none⟩))) :
    Calls Tryz.prog 123 #[v, .func (.func 110) #[] #[.pointer (some ⟨B, 0, none⟩)]] w fun e w' => (∃ i, e = .returned (.int .i64 i) ∧ (decide (0 ≤ i) = !l.all (T.may fr se))) ∧ Below w.heap.size w w' := by
  obtain ⟨q, hq⟩ : ∃ q, Hid (q = l.all (T.may fr se)) := ⟨_, rfl⟩
  rw [← hq.out]
  have HA := Lib.hid (fun W (hb : Below w.heap.size w W) => And.intro (h.below hb) (And.intro (hv.below hb) (cell_below hB hb)))
  obtain ⟨oa, ca, rfl, _, hla⟩ := hv.shape
  unfold maxLen at hla
  clear h hv hB
  go_enter Tryz.func123, Tryz.ntmps123
  go_wp2
  go_loopw [8] (fun i wr => ∃ k : Nat, k ≤ l.length ∧ i = .int .i64 (k : Int) ∧ Hid (Below w.heap.size w wr) ∧ Hid ((l.take k).all (T.may fr se) = true)) (fun i _ => l.length + 1 - natI i)
  case atStart => exact ⟨0, by omega, rfl, Below.refl _ _, Lib.hid (by rw [List.take_zero]; rfl)⟩
  case round =>
    obtain ⟨k, hk, rfl, HBl, HN⟩ := hrel
    by_cases hlt : k < l.length
    · have hi : (k : Int) < (l.length : Int) := by omega
      obtain ⟨hpl, hvl, hcl⟩ := HA.out _ HBl.out
      obtain ⟨g1, o1, c1, p, e1, l1, hpi, r1⟩ := hvl.at_ hlt
      obtain ⟨q1, q2⟩ := rng2 r1
      simp at e1
      obtain ⟨rfl, rfl⟩ := e1
      have HG := Lib.hid (hasAll1_any hpl p B hcl)
      have HL := Lib.hid l1
      clear l1 r1 hpl hvl hpi
      unfold pla at HG
      cases hmp : T.may fr se p with
      | true =>
        have HT := Lib.hid (take_all (T.may fr se) l k p HL.out HN.out hmp)
        rw [hmp] at HG
        clear hmp
        go_wp2_with (go_at_call 110; refine HG.out.mono ?_; rintro e w2 ⟨rfl, hb⟩)
        exact ⟨⟨k + 1, by omega, by go_num, HBl.out.trans (hb.mono HBl.out.size), HT⟩, by simp [natI]; omega⟩
      | false =>
        have hq2 : q = false := by rw [hq.out, all_miss HL.out hmp]
        subst hq2
        rw [hmp] at HG
        clear hmp
        go_wp2_with (go_at_call 110; refine HG.out.mono ?_; rintro e w2 ⟨rfl, hb⟩)
        go_ret
        exact ⟨⟨_, rfl, by simp⟩, HBl.out.trans (hb.mono HBl.out.size)⟩
    · obtain rfl : k = l.length := by omega
      have hn := HN.out
      rw [List.take_length] at hn
      have hq2 : q = true := by rw [hq.out, hn]
      subst hq2
      go_wp2
      go_ret
      exact ⟨⟨_, rfl, rfl⟩, HBl.out⟩
theorem contains_any (h : PlIs w P M D C fr se ps FM FD) {v : Value} {l : List T.Pl} (hv : PlsIn w v l) (B : Nat) (hB : w.cell? ⟨B, 0, none⟩ = some (.pointer (some ⟨P, 0, none⟩))) :
    Calls Tryz.prog 109 #[v, .func (.func 110) #[] #[.pointer (some ⟨B, 0, none⟩)]] w fun e w' => e = .returned (.bool (!l.all (T.may fr se))) ∧ Below w.heap.size w w' := by
  have HI := Lib.hid (index_any h hv B hB)
  obtain ⟨oa, ca, rfl, _, hla⟩ := hv.shape
  clear h hv hB
  go_enter Tryz.func109, Tryz.ntmps109
  go_wp2_with (go_at_call 123; refine HI.out.mono ?_; rintro e w2 ⟨⟨i, rfl, hi⟩, hb⟩)
  go_ret
  exact ⟨by rw [← hi]; rfl, hb⟩
theorem hasAll_any (h : PlIs w P M D C fr se ps FM FD) {v : Value} {l : List T.Pl} (hv : PlsIn w v l) : Calls Tryz.prog 73 #[.pointer (some ⟨P, 0, none⟩), v] w fun e w' => e = .returned (.bool (l.all (T.may fr se))) ∧ Below w.heap.size w w' := by
  have hmf : ∀ (fn : Fn) (first cap : Array Value) (w : World), (Instr.makeFunc fn first cap).run Tryz.prog w = .ok (.func fn first cap) w := fun _ _ _ _ => rfl
  have hb1 := bel1 w (.cells #[.pointer (some ⟨P, 0, none⟩)] 81)
  have HI := Lib.hid (contains_any (h.below hb1) (hv.below hb1) w.heap.size ((blk_new w _ _).cell 0))
  have HB := Lib.hid hb1
  obtain ⟨oa, ca, rfl, _, hla⟩ := hv.shape
  clear h hv hb1
  go_enter Tryz.func73, Tryz.ntmps73
  go_wp2_with (go_at_call 109; refine HI.out.mono ?_; rintro e w2 ⟨rfl, hb⟩)
  go_ret
  exact ⟨by simp, HB.out.trans (hb.mono HB.out.size)⟩
end

/-- Does a touch decide? -/
theorem zero_place (w : World) : (zeroValue 42).run Tryz.prog w = .ok (.agg #[.int .i64 0, .int .i64 0]) w := by kernel_rfl
theorem decides_any (p : T.Pl) (fv : Value) (w : World) : Calls Tryz.prog 57 #[.agg #[.int .i64 p.1, .int .i64 p.2, fv]] w fun e w' => e = .returned (.bool (decide (p = T.none0))) ∧ Below w.heap.size w w' := by
  have hz := zero_place
  have he := fun w => eql_place p (0, 0) w
  have HB := Lib.hid (bel1 w (.cells #[.int .i64 p.1, .int .i64 p.2, fv] 61))
  go_enter Tryz.func57, Tryz.ntmps57
  go_wp2
  go_ret
  exact ⟨rfl, HB.out⟩
end Go.Proofs.YtiohlmccnllklaaGreatDoor
