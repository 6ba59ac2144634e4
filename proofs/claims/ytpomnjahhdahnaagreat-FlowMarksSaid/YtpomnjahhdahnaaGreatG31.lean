/-
  Layer 12: the statement FlowMarks: a walk. Written by gen_ref.py.
-/
import Derived.Test.YtpomnjahhdahnaaGreatG28
import Derived.Test.YtpomnjahhdahnaaGreatG29
set_option linter.unusedVariables false
set_option linter.unusedSimpArgs false
namespace Go.Proofs.YtpomnjahhdahnaaGreat
open Go.RowKit
set_option maxHeartbeats 8000000
set_option maxRecDepth 100000
set_option linter.unusedVariables false
set_option linter.unusedSimpArgs false

theorem max_if (x : Int) : max x 0 = if x < 0 then 0 else x := by split <;> omega
theorem mset_eq (x : Int) : IntKind.u32.wrap ((if x < 0 then 0 else x).tmod 70000) = if 0 ≤ x then x % 70000 else 0 := by
  by_cases h : 0 ≤ x
  · rw [if_neg (by omega), if_pos h, Int.tmod_eq_emod_of_nonneg h]
    simp [IntKind.wrap, IntKind.signed, IntKind.bits]
    omega
  · rw [if_pos (by omega), if_neg h]; rfl
theorem cell_turned {W W' : World} {g o : Nat} {u : Value} (h : W.cell? ⟨g, o, none⟩ = some u) {G : Nat → Prop} (ht : Turned G W W') (hn : ¬ G g) : W'.cell? ⟨g, o, none⟩ = some u := by
  have hg := World.block_lt_of_cell? _ _ h
  unfold World.cell? at h ⊢
  rw [ht.block g hg hn]; exact h
theorem infoAct : (Tryz.prog.info? 48).map (fun i => (i.zero, i.size, i.bytes)) = some (some (.agg #[.int .i64 0, .int .i64 0, .int .i64 0, .int .i64 0, .int .u32 0, .slice none 0 0]), 6, 64) := by kernel_rfl
/-- A row of one call. -/
theorem act_src (w : World) (a : Ac) : Src Tryz.prog 6 24 (.slice (some ⟨w.heap.size, 0, none⟩) 1 1) 1 (acc a (.slice none 0 0)).toList (w.alloc (.cells (acc a (.slice none 0 0)) 48)) := by
  refine Src.ofSlice _ Tryz.underlying24 _ 1 1 _ rfl (fun j u hj => ?_) (fun u hu => ?_)
  · rw [add_lit, (blk_new w _ _).cell, Nat.zero_add]
    simpa using hj
  · simp [acc] at hu
    rcases hu with rfl | rfl | rfl | rfl | rfl | rfl <;> rfl
def acz (a : Ac) : List Value := (acc a (.slice none 0 0)).toList
/-- Calls that were laid so far. -/
structure MaI (w : World) (av : Value) (l : List Ac) (W : World) : Prop where
  b : Below w.heap.size w W
  g : Gs 48 6 W av l.length (l.flatMap acz)
  lo : ∀ k, blkOf av = some k → w.heap.size ≤ k
theorem MaI.after {w W W' : World} {av : Value} {l : List Ac} (h : MaI w av l W) (hb : Below W.heap.size W W') : MaI w av l W' := ⟨h.b.trans (hb.mono h.b.size), h.g.below hb, h.lo⟩
theorem MaI.app {w W W' : World} {av v' : Value} {l : List Ac} {a : Ac} (h : MaI w av l W) (hg : Gs 48 6 W' v' (l.length + 1) (l.flatMap acz ++ (acc a (.slice none 0 0)).toList)) (ht : Turned (fun k => blkOf av = some k) W W') (hn : ∀ k, blkOf v' = some k → blkOf av = some k ∨ W.heap.size ≤ k) : MaI w v' (l ++ [a]) W' := by
  refine ⟨h.b.trans (ht.below h.b.size (fun k e => h.lo k e)), ?_, fun k hk => ?_⟩
  · have e : (l ++ [a]).flatMap acz = l.flatMap acz ++ (acc a (.slice none 0 0)).toList := by simp [acz]
    rw [List.length_append, List.length_singleton, e]; exact hg
  · rcases hn k hk with e | e
    · exact h.lo k e
    · have := h.b.size; omega
theorem MaI.acts {w W : World} {av : Value} {l : List Ac} (h : MaI w av l W) (hk : ∀ a ∈ l, a.Ok ∧ a.ts = []) : ActsIn W av l := by
  refine ⟨_, h.g.rd, ?_, fun a ha => (hk a ha).1⟩
  clear h
  induction l with
  | nil => rfl
  | cons a r ih =>
    refine ⟨.slice none 0 0, r.flatMap acz, rfl, ?_, ih fun b hb => hk b (by simp [hb])⟩
    rw [(hk a (by simp)).2]
    exact ⟨[], Rd.nil _ _ _ _, rfl, by simp⟩
/-- A mark of three numbers. -/
def acM (d : Bool) (x : Tr3) : Ac := ⟨1, x.2.1, (if d = true then 12 else 10, x.1), (if 0 ≤ x.2.2 then x.2.2 % 70000 else 0), []⟩
theorem acM_ok (d : Bool) {x : Tr3} (h : I64 x.1 ∧ I64 x.2.1 ∧ I64 x.2.2) : (acM d x).Ok ∧ (acM d x).ts = [] := by
  obtain ⟨h0, h1, h2⟩ := h
  unfold I64 at *
  refine ⟨⟨by simp [acM, I64], h1, ⟨?_, h0⟩, ?_⟩, rfl⟩
  · unfold acM I64; cases d <;> simp
  · unfold acM W32; simp only; split <;> omega
theorem TriIn.below {w w' : World} {v : Value} {l : List Tr3} (h : TriIn w v l) (hb : Below w.heap.size w w') : TriIn w' v l := ⟨h.1.below hb, h.2⟩
theorem tri_sz (x : Tr3) : (tri x).length = 3 := rfl
theorem TriIn.at_ {w : World} {v : Value} {l : List Tr3} (h : TriIn w v l) {k : Nat} (hk : k < l.length) : ∃ g o c p, v = .slice (some ⟨g, o, none⟩) l.length c ∧ l[k]? = some p ∧ (I64 p.1 ∧ I64 p.2.1 ∧ I64 p.2.2) ∧ w.rangeAt g (o + k * 3) (tri p) := by
  obtain ⟨g, o, c, e, _, hr⟩ := h.1.elem hk
  have hp : l[k]? = some l[k] := List.getElem?_eq_getElem hk
  rw [flat_at tri tri_sz l k _ hp] at hr
  exact ⟨g, o, c, _, e, hp, h.2 _ (List.getElem_mem hk), hr⟩
theorem FlowMarks_walk (disk : Bool) {w : World} {v : Value} {l : List Tr3} (h : TriIn w v l) :
    Calls Tryz.prog 8 #[v, .bool disk] w fun e w' => e = .returned (.bool true) ∧ Below w.heap.size w w' := by
  have HA := Lib.hid (fun W (hb : Below w.heap.size w W) => (show TriIn W v l from h.below hb))
  obtain ⟨oa, ca, rfl, _, hla⟩ := h.1.shape
  unfold maxLen at hla
  clear h
  go_enter Tryz.func8, Tryz.ntmps8
  by_cases h12 : 12 < l.length
  · have h12' : (12 : Int) < (l.length : Int) := by omega
    go_wp2_with fail
    refine (known_any _).mono ?_
    rintro e w2 ⟨rfl, hb⟩
    have HB2 := Lib.hid hb
    clear hb
    go_wp2
    go_ret
    exact ⟨rfl, HB2.out⟩
  · have h12' : (l.length : Int) ≤ 12 := by omega
    go_wp2
    go_loopw [5, 6] (fun av i wr => ∃ (k : Nat) (avv : Value), k ≤ l.length ∧ av = avv ∧ i = .int .i64 (k : Int) ∧ Hid (MaI w avv ((l.take k).map (acM disk)) wr)) (fun _ i _ => l.length + 1 - natI i)
    case atStart => exact ⟨0, _, by omega, rfl, rfl, Below.refl _ _, Gs.nil _ _ _, fun k hk => by simp [blkOf] at hk⟩
    case round =>
      obtain ⟨k, avv, hk, rfl, rfl, HM⟩ := hrel
      obtain ⟨AL, hAL⟩ : ∃ AL, Hid (AL = (l.take k).map (acM disk)) := ⟨_, rfl⟩
      rw [← hAL.out] at HM
      have hal : AL.length = k := by rw [hAL.out]; simp; omega
      obtain ⟨ob, cb, eb, _⟩ := HM.out.g.shape
      rw [hal] at eb
      subst eb
      by_cases hlt : k < l.length
      · have hi : (k : Int) < (l.length : Int) := by omega
        obtain ⟨g1, o1, c1, ⟨x0, x1, x2⟩, e1, l1, hx, r1⟩ := (HA.out _ HM.out.b).at_ hlt
        obtain ⟨q0, q1, q2⟩ := rng3 r1
        simp at e1
        obtain ⟨rfl, rfl⟩ := e1
        have HL := Lib.hid l1
        have HXo := Lib.hid hx
        clear l1 r1 hx
        have hgw : g1 < w.heap.size := by
          obtain ⟨g3, o3, c3, p3, e3, _, _, r3⟩ := (HA.out _ (Below.refl _ _)).at_ hlt
          simp at e3
          rw [e3.1.1]
          exact World.block_lt_of_cell? _ _ (rng3 r3).1
        have hwB := HM.out.b.size
        cases disk with
        | true =>
          have bb := blk_new wr #[.int .i64 12, .int .i64 x0] 44
          have hba := bel1 wr (.cells #[.int .i64 12, .int .i64 x0] 44)
          have b00 := (blk_new wr #[.int .i64 10, .int .i64 x0] 44).cell 0
          have b01 := (blk_new wr #[.int .i64 10, .int .i64 x0] 44).frozen 0
          have HM5 := Lib.hid (HM.out.after hba)
          have z1 := cell_below q1 hba
          have z2 := cell_below q2 hba
          have b0 := bb.cell 0
          have b1 := bb.cell 1
          go_wp2_with fail
          have HBk : Hid (∀ j, blkOf (.slice ob k cb) = some j → j < wr.heap.size) := Lib.hid fun j hj => HM.out.g.lt hj
          generalize (wr.alloc (.cells #[.int .i64 12, .int .i64 x0] 44)) = W5 at HM5 z1 z2 b0 b1 ⊢
          generalize hBB : wr.heap.size = B at b0 b1 HBk ⊢
          have hS : Hl (fun W => W.cell? ⟨g1, o1 + k * 3 + 1, none⟩ = some (.int .i64 x1) ∧ W.cell? ⟨g1, o1 + k * 3 + 2, none⟩ = some (.int .i64 x2) ∧ W.cell? ⟨B, 0, none⟩ = some (.int .i64 12) ∧ W.cell? ⟨B, 1, none⟩ = some (.int .i64 x0)) W5 W5.drew := Hl.start ((st_cell _ _).and ((st_cell _ _).and ((st_cell _ _).and (st_cell _ _)))) ⟨z1, z2, b0, b1⟩
          obtain ⟨M, hM⟩ : ∃ M, Hid (M = if 0 ≤ x2 then x2 % 70000 else 0) := ⟨_, rfl⟩
          have hMw : Hid (IntKind.u32.wrap ((if x2 < 0 then 0 else x2).tmod 70000) = M) := by rw [hM.out]; exact Lib.hid (mset_eq x2)
          clear z1 z2 b0 b1
          refine wp_region_held_drew (S := fun W => W.cell? ⟨g1, o1 + k * 3 + 1, none⟩ = some (.int .i64 x1) ∧ W.cell? ⟨g1, o1 + k * 3 + 2, none⟩ = some (.int .i64 x2) ∧ W.cell? ⟨B, 0, none⟩ = some (.int .i64 12) ∧ W.cell? ⟨B, 1, none⟩ = some (.int .i64 x0)) (by kernel_rfl) hS.i (fun _ => ?_)
          refine Dense.tk 0 (some 26) hS.i ?_
          refine Dense.tk 1 (some 27) hS.i ?_
          refine Dense.tk 2 (some 28) hS.i ?_
          refine Dense.tk 3 (some 29) hS.i ?_ (hy := by intro W hW; obtain ⟨p1, p2, p3, p4⟩ := hW; go_simp; try with_reducible rfl)
          refine Dense.tk 4 (some 30) hS.i ?_ (hy := by intro W hW; obtain ⟨p1, p2, p3, p4⟩ := hW; go_simp; try with_reducible rfl)
          refine Dense.tk 5 (some 31) hS.i ?_ (hy := by intro W hW; obtain ⟨p1, p2, p3, p4⟩ := hW; go_simp; try with_reducible rfl)
          refine Dense.tk 6 (some 32) hS.i ?_ (hy := by intro W hW; obtain ⟨p1, p2, p3, p4⟩ := hW; go_simp; try with_reducible rfl)
          refine Dense.tk 7 (some 33) hS.i ?_
          refine Dense.tk 8 (some 34) hS.i ?_
          refine Dense.tk 9 (some 35) hS.i ?_ (hy := by intro W hW; obtain ⟨p1, p2, p3, p4⟩ := hW; go_simp; try with_reducible rfl)
          refine Dense.tk 10 (some 36) hS.i ?_ (hy := by intro W hW; obtain ⟨p1, p2, p3, p4⟩ := hW; go_simp; try with_reducible rfl)
          refine Dense.tk 11 (some 37) hS.i ?_ (hy := by intro W hW; obtain ⟨p1, p2, p3, p4⟩ := hW; go_simp; try with_reducible rfl)
          refine Dense.tk 12 (some 38) hS.i ?_ (hy := by intro W hW; obtain ⟨p1, p2, p3, p4⟩ := hW; go_simp; try with_reducible rfl)
          refine Dense.tk 13 (some 39) hS.i ?_ (hy := by intro W hW; obtain ⟨p1, p2, p3, p4⟩ := hW; go_simp; try with_reducible rfl)
          refine Dense.tk 14 (some 40) hS.i ?_
          refine Dense.tk 15 (some 41) hS.i ?_
          refine Dense.o1 16 ?_
          refine o_ok (d := some 42) rfl (.slice (some ⟨W5.drew.heap.size, 0, none⟩) 1 1) (W5.drew.alloc (.cells (acc (⟨1, x1, (12, x0), M, []⟩ : Ac) (.slice none 0 0)) 48)) (by go_simp; (try rw [max_if]); rw [hMw.out]; try rfl) ?_
          replace hS := hS.after ((st_cell _ _).and ((st_cell _ _).and ((st_cell _ _).and (st_cell _ _)))) (bel1 W5.drew (.cells (acc (⟨1, x1, (12, x0), M, []⟩ : Ac) (.slice none 0 0)) 48))
          refine ⟨hS.i, ?_⟩
          refine Dense.nm ?_
          refine Dense.o1 17 ?_
          have hm6 := (HM5.out.after (Below.refl _ _).drew).after (bel1 W5.drew (.cells (acc (⟨1, x1, (12, x0), M, []⟩ : Ac) (.slice none 0 0)) 48))
          refine o_append_g (d := some 43) _ _ rfl rfl Tryz.underlying24 infoAct rfl (by omega) (by omega) rfl rfl hm6.g (act_src W5.drew (⟨1, x1, (12, x0), M, []⟩ : Ac)) (by omega) ?_
          intro v6 w6 hg ht hn
          have hm7 := hm6.app (a := (⟨1, x1, (12, x0), M, []⟩ : Ac)) hg ht hn
          have hlo := hm6.lo
          obtain ⟨p1, p2, p3, p4⟩ := hS.i
          have nB : ¬ blkOf (.slice ob k cb) = some B := fun e => by have := HBk.out B e; omega
          have nG : ¬ blkOf (.slice ob k cb) = some g1 := fun e => by have := hlo g1 e; omega
          have hi7 := And.intro (cell_turned p1 ht nG) (And.intro (cell_turned p2 ht nG) (And.intro (cell_turned p3 ht nB) (cell_turned p4 ht nB)))
          clear hS p1 p2 p3 p4
          have hS : Hl (fun W => W.cell? ⟨g1, o1 + k * 3 + 1, none⟩ = some (.int .i64 x1) ∧ W.cell? ⟨g1, o1 + k * 3 + 2, none⟩ = some (.int .i64 x2) ∧ W.cell? ⟨B, 0, none⟩ = some (.int .i64 12) ∧ W.cell? ⟨B, 1, none⟩ = some (.int .i64 x0)) w6 w6 := ⟨hi7, Below.refl _ _⟩
          refine ⟨hS.i, ?_⟩
          refine Dense.nm ?_
          refine Dense.tk 18 (some 5) hS.i ?_
          refine wpAnyH_done (by kernel_rfl) ?_ _
          have HM7 := Lib.hid hm7
          clear hS hm7 hm6 hg ht hn hi7
          obtain ⟨o6, c6, e6, _⟩ := HM7.out.g.shape
          rw [List.length_append, List.length_singleton, hal] at e6
          subst e6
          go_wp2
          refine ⟨⟨k + 1, _, by omega, rfl, by go_num, ?_⟩, ?_⟩
          · rw [List.take_add_one, HL.out]
            simp only [Option.toList_some, List.map_append, List.map_cons, List.map_nil]
            rw [← hAL.out, show acM true (x0, x1, x2) = (⟨1, x1, (12, x0), M, []⟩ : Ac) by rw [hM.out]; rfl]
            exact HM7
          · simp [natI]; omega
        | false =>
          have bb := blk_new wr #[.int .i64 10, .int .i64 x0] 44
          have hba := bel1 wr (.cells #[.int .i64 10, .int .i64 x0] 44)
          have HM5 := Lib.hid (HM.out.after hba)
          have z1 := cell_below q1 hba
          have z2 := cell_below q2 hba
          have b0 := bb.cell 0
          have b1 := bb.cell 1
          go_wp2_with fail
          have HBk : Hid (∀ j, blkOf (.slice ob k cb) = some j → j < wr.heap.size) := Lib.hid fun j hj => HM.out.g.lt hj
          generalize (wr.alloc (.cells #[.int .i64 10, .int .i64 x0] 44)) = W5 at HM5 z1 z2 b0 b1 ⊢
          generalize hBB : wr.heap.size = B at b0 b1 HBk ⊢
          have hS : Hl (fun W => W.cell? ⟨g1, o1 + k * 3 + 1, none⟩ = some (.int .i64 x1) ∧ W.cell? ⟨g1, o1 + k * 3 + 2, none⟩ = some (.int .i64 x2) ∧ W.cell? ⟨B, 0, none⟩ = some (.int .i64 10) ∧ W.cell? ⟨B, 1, none⟩ = some (.int .i64 x0)) W5 W5.drew := Hl.start ((st_cell _ _).and ((st_cell _ _).and ((st_cell _ _).and (st_cell _ _)))) ⟨z1, z2, b0, b1⟩
          obtain ⟨M, hM⟩ : ∃ M, Hid (M = if 0 ≤ x2 then x2 % 70000 else 0) := ⟨_, rfl⟩
          have hMw : Hid (IntKind.u32.wrap ((if x2 < 0 then 0 else x2).tmod 70000) = M) := by rw [hM.out]; exact Lib.hid (mset_eq x2)
          clear z1 z2 b0 b1
          refine wp_region_held_drew (S := fun W => W.cell? ⟨g1, o1 + k * 3 + 1, none⟩ = some (.int .i64 x1) ∧ W.cell? ⟨g1, o1 + k * 3 + 2, none⟩ = some (.int .i64 x2) ∧ W.cell? ⟨B, 0, none⟩ = some (.int .i64 10) ∧ W.cell? ⟨B, 1, none⟩ = some (.int .i64 x0)) (by kernel_rfl) hS.i (fun _ => ?_)
          refine Dense.tk 0 (some 26) hS.i ?_
          refine Dense.tk 1 (some 27) hS.i ?_
          refine Dense.tk 2 (some 28) hS.i ?_
          refine Dense.tk 3 (some 29) hS.i ?_ (hy := by intro W hW; obtain ⟨p1, p2, p3, p4⟩ := hW; go_simp; try with_reducible rfl)
          refine Dense.tk 4 (some 30) hS.i ?_ (hy := by intro W hW; obtain ⟨p1, p2, p3, p4⟩ := hW; go_simp; try with_reducible rfl)
          refine Dense.tk 5 (some 31) hS.i ?_ (hy := by intro W hW; obtain ⟨p1, p2, p3, p4⟩ := hW; go_simp; try with_reducible rfl)
          refine Dense.tk 6 (some 32) hS.i ?_ (hy := by intro W hW; obtain ⟨p1, p2, p3, p4⟩ := hW; go_simp; try with_reducible rfl)
          refine Dense.tk 7 (some 33) hS.i ?_
          refine Dense.tk 8 (some 34) hS.i ?_
          refine Dense.tk 9 (some 35) hS.i ?_ (hy := by intro W hW; obtain ⟨p1, p2, p3, p4⟩ := hW; go_simp; try with_reducible rfl)
          refine Dense.tk 10 (some 36) hS.i ?_ (hy := by intro W hW; obtain ⟨p1, p2, p3, p4⟩ := hW; go_simp; try with_reducible rfl)
          refine Dense.tk 11 (some 37) hS.i ?_ (hy := by intro W hW; obtain ⟨p1, p2, p3, p4⟩ := hW; go_simp; try with_reducible rfl)
          refine Dense.tk 12 (some 38) hS.i ?_ (hy := by intro W hW; obtain ⟨p1, p2, p3, p4⟩ := hW; go_simp; try with_reducible rfl)
          refine Dense.tk 13 (some 39) hS.i ?_ (hy := by intro W hW; obtain ⟨p1, p2, p3, p4⟩ := hW; go_simp; try with_reducible rfl)
          refine Dense.tk 14 (some 40) hS.i ?_
          refine Dense.tk 15 (some 41) hS.i ?_
          refine Dense.o1 16 ?_
          refine o_ok (d := some 42) rfl (.slice (some ⟨W5.drew.heap.size, 0, none⟩) 1 1) (W5.drew.alloc (.cells (acc (⟨1, x1, (10, x0), M, []⟩ : Ac) (.slice none 0 0)) 48)) (by go_simp; (try rw [max_if]); rw [hMw.out]; try rfl) ?_
          replace hS := hS.after ((st_cell _ _).and ((st_cell _ _).and ((st_cell _ _).and (st_cell _ _)))) (bel1 W5.drew (.cells (acc (⟨1, x1, (10, x0), M, []⟩ : Ac) (.slice none 0 0)) 48))
          refine ⟨hS.i, ?_⟩
          refine Dense.nm ?_
          refine Dense.o1 17 ?_
          have hm6 := (HM5.out.after (Below.refl _ _).drew).after (bel1 W5.drew (.cells (acc (⟨1, x1, (10, x0), M, []⟩ : Ac) (.slice none 0 0)) 48))
          refine o_append_g (d := some 43) _ _ rfl rfl Tryz.underlying24 infoAct rfl (by omega) (by omega) rfl rfl hm6.g (act_src W5.drew (⟨1, x1, (10, x0), M, []⟩ : Ac)) (by omega) ?_
          intro v6 w6 hg ht hn
          have hm7 := hm6.app (a := (⟨1, x1, (10, x0), M, []⟩ : Ac)) hg ht hn
          have hlo := hm6.lo
          obtain ⟨p1, p2, p3, p4⟩ := hS.i
          have nB : ¬ blkOf (.slice ob k cb) = some B := fun e => by have := HBk.out B e; omega
          have nG : ¬ blkOf (.slice ob k cb) = some g1 := fun e => by have := hlo g1 e; omega
          have hi7 := And.intro (cell_turned p1 ht nG) (And.intro (cell_turned p2 ht nG) (And.intro (cell_turned p3 ht nB) (cell_turned p4 ht nB)))
          clear hS p1 p2 p3 p4
          have hS : Hl (fun W => W.cell? ⟨g1, o1 + k * 3 + 1, none⟩ = some (.int .i64 x1) ∧ W.cell? ⟨g1, o1 + k * 3 + 2, none⟩ = some (.int .i64 x2) ∧ W.cell? ⟨B, 0, none⟩ = some (.int .i64 10) ∧ W.cell? ⟨B, 1, none⟩ = some (.int .i64 x0)) w6 w6 := ⟨hi7, Below.refl _ _⟩
          refine ⟨hS.i, ?_⟩
          refine Dense.nm ?_
          refine Dense.tk 18 (some 5) hS.i ?_
          refine wpAnyH_done (by kernel_rfl) ?_ _
          have HM7 := Lib.hid hm7
          clear hS hm7 hm6 hg ht hn hi7
          obtain ⟨o6, c6, e6, _⟩ := HM7.out.g.shape
          rw [List.length_append, List.length_singleton, hal] at e6
          subst e6
          go_wp2
          refine ⟨⟨k + 1, _, by omega, rfl, by go_num, ?_⟩, ?_⟩
          · rw [List.take_add_one, HL.out]
            simp only [Option.toList_some, List.map_append, List.map_cons, List.map_nil]
            rw [← hAL.out, show acM false (x0, x1, x2) = (⟨1, x1, (10, x0), M, []⟩ : Ac) by rw [hM.out]; rfl]
            exact HM7
          · simp [natI]; omega
      · obtain rfl : k = l.length := by omega
        rw [List.take_length] at hAL
        have hac := HM.out.acts (fun a ha => by
          rw [hAL.out] at ha
          obtain ⟨x, hx, rfl⟩ := List.mem_map.1 ha
          exact acM_ok disk ((HA.out w (Below.refl _ _)).2 x hx))
        have HB5 := Lib.hid HM.out.b
        have HAc := Lib.hid hac
        clear hac HM
        go_wp2_with fail
        refine (FlowPlay_walk 2 2 9 ⟨by decide, by decide⟩ ⟨by decide, by decide⟩ ⟨by decide, by decide⟩ HAc.out).mono ?_
        rintro e w7 ⟨rfl, hb⟩
        have HB7 := Lib.hid (HB5.out.trans (hb.mono HB5.out.size))
        clear hb
        go_wp2
        go_ret
        exact ⟨rfl, HB7.out⟩
end Go.Proofs.YtpomnjahhdahnaaGreat
