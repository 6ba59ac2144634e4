/-
  Layer 2: number and join of package labels: a set's number, kept if it was not; a joined pair's number, remembered: walks.
-/
import Derived.Test.YtafnclkkncokpaaDoorRows
import Derived.Test.YtafnclkkncokpaaDoorTab
import Derived.Test.YtafnclkkncokpaaDoorScope
import Derived.Test.YtafnclkkncokpaaDoorLeaf
import Derived.WalkKit
import Derived.WalkSpells
import Derived.WalkLawsBesides
import Derived.Lib.Hide
import Derived.Maps.OwnSet
import Derived.Maps.AppendAt
import Derived.Deep.QuietTactic
import Derived.BigQuiet
namespace Go.Proofs.YtafnclkkncokpaaDoor
open Go.RowKit
set_option maxHeartbeats 400000

theorem number_old (T : Nat) (most : Int) (ss : List Int) (m : Nat) (F : List Nat) (x : Int) (hx : W32 x) (hm : x ∈ ss) (w : World) (h : Tab w T most ss m F) :
    Calls Tryd.prog 33 #[.pointer (some ⟨T, 0, none⟩), .int .u32 x] w fun e w' => e = .returned (.tuple #[.int .i64 (pos ss x : Int), .int .i64 0]) ∧ w = w' := by
  obtain ⟨g, c, mb, jb, D, J, rfl, h⟩ := h
  obtain ⟨c0, c1, c2, c3⟩ := h.cell
  have hl := look_num h hx
  simp only [hm, if_true, decide_true] at hl
  go_enter Tryd.func33, Tryd.ntmps33
  go_wp2
  refine wp_scope_fwd 0 rfl ?_
  go_wp2
  rw [Fwd_ret]
  go_ret2
  exact ⟨rfl, rfl⟩

theorem number_full (T : Nat) (most : Int) (ss : List Int) (m : Nat) (F : List Nat) (x : Int) (hx : W32 x) (hm : x ∉ ss) (hf : most ≤ (ss.length : Int)) (w : World) (h : Tab w T most ss m F) :
    Calls Tryd.prog 33 #[.pointer (some ⟨T, 0, none⟩), .int .u32 x] w fun e w' => e = .returned (.tuple #[.int .i64 0, .int .i64 120]) ∧ Below w.heap.size w w' := by
  obtain ⟨g, c, mb, jb, D, J, rfl, h⟩ := h
  obtain ⟨c0, c1, c2, c3⟩ := h.cell
  have hl := look_num h hx
  simp only [hm, if_false, decide_false] at hl
  go_enter Tryd.func33, Tryd.ntmps33
  go_wp2
  refine wp_scope_fwd 0 rfl ?_
  go_wp2
  go_quiet (fail)
  go_wp2
  go_step3
  refine ⟨rfl, ?_⟩
  go_wp2
  rw [Exit.noGoto_ret]
  go_ret2
  exact ⟨rfl, below_drewN _ _ _⟩

theorem A.infoE : (Tryd.prog.info? 35).map (fun i => (i.zero, i.size, i.bytes)) = some (some (.int .u32 0), 1, 4) := by kernel_rfl

theorem ints_one (k : IntKind) : ∀ xs : List Int, ∀ u ∈ xs.map (Value.int k), u.oneCell' = true := by
  intro xs u hu
  obtain ⟨x, _, rfl⟩ := List.mem_map.1 hu
  rfl

set_option maxHeartbeats 1000000 in
/-- A row that owns something begins at the head of a block. -/
theorem row_head {w : World} {base : Nat} {e : TypeId} {v : Value} {n : Nat} {xs : List Value} (h : w.ownsRow base e 1 v (n + 1) xs) : ∃ g c, v = .slice (some ⟨g, 0, none⟩) (n + 1) c := by
  rcases h.2 with ⟨_, h0⟩ | ⟨g, cap, cur, rfl, _⟩
  · omega
  · exact ⟨g, cap, rfl⟩
/-- What append, the store of the field and the store in the map leave. -/
theorem tab_grown {w0 w1 w3 : World} {T g c mb jb : Nat} {most : Int} {ss : List Int} {m : Nat} {D J : DataW Unit} {x : Int} {g' c' : Nat} (h : TabIs w0 T g c mb jb most ss m D J) (hx : S16 x) (hm : x ∉ ss) (hf : (ss.length : Int) < most)
    (hown : w1.ownsRow 0 35 1 (.slice (some ⟨g', 0, none⟩) (ss.length + 1) c') (ss.length + 1) (ss.map (Value.int .u32) ++ [.int .u32 x]))
    (hgrow : (w0.alloc (.cells #[.int .u32 x] 35)).grownBy w1 (some g))
    (hloc : g' = g ∨ g' = w0.heap.size + 1)
    (hown3 : w3.ownsMap Tryd.prog 35 (plainElem Tryd.prog 3) mb (ss.length + 1) (D.put (.int .u32 x) (.lit (.int .i64 (ss.length : Int)))))
    (hgrow3 : (w1.setCell ⟨T, 1, none⟩ (.slice (some ⟨g', 0, none⟩) (ss.length + 1) c')).grownBy w3 (some mb)) :
    TabIs w3 T g' c' mb jb most (ss ++ [x]) m (D.put (.int .u32 x) (.lit (.int .i64 (ss.length : Int)))) J ∧ Turned [T, g, mb, jb] w0 w3 ∧ ∀ k ∈ [T, g', mb, jb], k ∈ [T, g, mb, jb] ∨ w0.heap.size ≤ k := by
  obtain ⟨d1, d2, d3, d4, d5⟩ := h.differ
  have hlt := h.lt
  have lT := hlt T (by simp); have lg := hlt g (by simp); have lm := hlt mb (by simp); have lj := hlt jb (by simp)
  have hne := h.ne
  have t1 : Turned [g] w0 w1 := ((Turned.refl [g] w0).alloc _).trans (Turned.of_grown (F := [g]) hgrow (fun k e => by cases e; simp)) (fun k hk => .inl hk)
  have t3 : Turned [mb] (w1.setCell ⟨T, 1, none⟩ (.slice (some ⟨g', 0, none⟩) (ss.length + 1) c')) w3 := Turned.of_grown hgrow3 (fun k e => by cases e; simp)
  have t2 : Turned [T] w1 (w1.setCell ⟨T, 1, none⟩ (.slice (some ⟨g', 0, none⟩) (ss.length + 1) c')) := (Turned.refl [T] w1).setCell (.inl (by simp)) _
  have hb1 := t1.keep h.blk (by simpa using d1)
  have hb2 : (w1.setCell ⟨T, 1, none⟩ (.slice (some ⟨g', 0, none⟩) (ss.length + 1) c')).heap[T]? = some (.cells (cellsTab most g' (ss ++ [x]).length c' mb jb) 61 (0, 0)) := by
    simp [World.setCell, Array.getElem?_modify, hb1, cellsTab]
  have hg' : g' ≠ T ∧ g' ≠ mb := by
    rcases hloc with rfl | rfl
    · exact ⟨fun e => d1 e.symm, d4⟩
    · exact ⟨by omega, by omega⟩
  refine ⟨⟨t3.keep hb2 (by simpa using d2), ?_, by simpa using hown3, h.numD.snoc h.num.isMap hm, ?_, h.joinD.snoc x, h.ne, h.sets.snoc hx hm hf⟩, ?_, ?_⟩
  · have r1 := t2.row hown (fun k e => by simp [Value.ownBlock] at e; subst e; simpa using hg'.1)
    have r2 := t3.row r1 (fun k e => by simp [Value.ownBlock] at e; subst e; simpa using hg'.2)
    simpa using r2
  · exact t3.map (t2.map (t1.map h.jnd (by simpa using fun e => d5 e.symm)) (by simpa using fun e => d3 e.symm)) (by simpa using fun e => hne e.symm)
  · exact ((t1.mono (G := [T, g, mb, jb]) (by simp)).trans t2 (by simp)).trans t3 (by simp)
  · intro k hk
    simp at hk ⊢
    rcases hk with rfl | rfl | rfl | rfl
    · simp
    · rcases hloc with rfl | rfl
      · simp
      · right; omega
    · simp
    · simp

set_option maxRecDepth 100000 in
theorem number_new (T : Nat) (most : Int) (ss : List Int) (m : Nat) (F : List Nat) (x : Int) (hx : S16 x) (hm : x ∉ ss) (hf : (ss.length : Int) < most) (w : World) (h : Tab w T most ss m F) :
    Calls Tryd.prog 33 #[.pointer (some ⟨T, 0, none⟩), .int .u32 x] w fun e w' => e = .returned (.tuple #[.int .i64 (ss.length : Int), .int .i64 0]) ∧
      ∃ F', Tab w' T most (ss ++ [x]) m F' ∧ Turned F w w' ∧ ∀ k ∈ F', k ∈ F ∨ w.heap.size ≤ k := by
  obtain ⟨g, c, mb, jb, D, J, rfl, h⟩ := h
  obtain ⟨c0, c1, c2, c3⟩ := h.cell
  obtain ⟨f0, f1, f2, f3⟩ := h.free
  have hl := look_num h hx.w32
  simp only [hm, if_false, decide_false] at hl
  have hrow := h.row
  have hnum := h.num
  have hlt : ss.length < 65536 := by have := h.sets.most; omega
  obtain ⟨i0, hi, hz0, hz1, hz2⟩ := info_parts A.infoE
  have HT := Lib.hid h
  have HD := Lib.hid (h.numD.snoc h.num.isMap hm)
  clear h
  go_enter Tryd.func33, Tryd.ntmps33
  go_wp2
  refine wp_scope_fwd 0 rfl ?_
  go_wp2
  go_quiet (fail)
  have B0 := below_drewN w.heap.size w nq
  have T0 := HT.out.kept (Turned.of_below B0 []) (fun _ _ hk => by cases hk)
  have hs0 : (w.drewN nq).heap.size = w.heap.size := rfl
  generalize w.drewN nq = w0 at B0 T0 hs0 ⊢
  clear HT c0 c1 c2 c3 f0 f1 f2 f3 hrow hnum hl
  have HS := Lib.hid hs0
  clear hs0
  obtain ⟨c0, c1, c2, c3⟩ := T0.cell
  obtain ⟨f0, f1, f2, f3⟩ := T0.free
  have hrow := T0.row
  have HT := Lib.hid T0
  clear T0
  go_wp2_with (at_builtin; refine wpList_append_own_at _ rfl _ _ 28 rfl 0 35 i0 (.int .u32 0) 1 4 Tryd.underlying28 hi hz0 hz1 hz2 rfl (by decide) _ _ _ rfl (hrow.alloc _) ⟨w0.heap.size, 0, none⟩ 1 1 [.int .u32 x] rfl rfl (cell_one_new _ _ _) (ints_one .u32 [x]) (by unfold maxLen; omega) (by omega) (by simp) ?_)
  intro v' w1 hown hgrow _ hloc
  obtain ⟨g', c', rfl⟩ := row_head hown
  simp only [Value.ownBlock, Option.some.injEq] at hloc hgrow
  have HT' := HT.out
  obtain ⟨d1, d2, d3, d4, d5⟩ := HT'.differ
  have lT := HT'.lt T (by simp)
  have t1 : Turned [g] w0 w1 := ((Turned.refl [g] w0).alloc _).trans (Turned.of_grown (F := [g]) hgrow (fun k e => by cases e; simp)) (fun k hk => .inl hk)
  have hb1 := t1.keep HT'.blk (by simpa using d1)
  have e0 : w1.cell? ⟨T, 0, none⟩ = some (.int .i64 most) := by simp [World.cell?, hb1, cellsTab]
  have e1 : w1.cell? ⟨T, 1, none⟩ = some (.slice (some ⟨g, 0, none⟩) ss.length c) := by simp [World.cell?, hb1, cellsTab]
  have e2 : w1.cell? ⟨T, 2, none⟩ = some (.map (some mb)) := by simp [World.cell?, hb1, cellsTab]
  have e3 : w1.frozen? ⟨T, 1, none⟩ = false := by simp [World.frozen?, hb1]
  have t2 : Turned [T] w1 (w1.setCell ⟨T, 1, none⟩ (.slice (some ⟨g', 0, none⟩) (ss.length + 1) c')) := (Turned.refl [T] w1).setCell (.inl (by simp)) _
  have hnum := t2.map (t1.map HT'.num (by simpa using fun e => d4 e.symm)) (by simpa using fun e => d2 e.symm)
  clear HT' t1 t2 hb1 c0 c1 c2 c3 f0 f1 f2 f3 hrow hi hz0 hz1 hz2
  go_wp2_with (at_mapUpdate; refine wpList_mapUpdate_own _ rfl _ _ _ 58 rfl 35 3 numLaw Tryd.underlying58 _ mb ss.length _ rfl hnum (by unfold maxLen; omega) _ _ _ rfl rfl (key_u32 hx.w32) _ [] (plainElem_int Tryd.underlying3 (wf_i64 (by omega) (by omega))) ?_; intro w3 hown3 hgrow3)
  rw [Fwd_ret]
  go_ret2
  obtain ⟨r1, r2, r3⟩ := tab_grown HT.out hx hm hf hown hgrow hloc hown3 hgrow3
  refine ⟨rfl, _, ⟨g', c', mb, jb, _, J, rfl, r1⟩, ?_, ?_⟩
  · exact (Turned.of_below B0 [T, g, mb, jb]).trans r2 (fun k hk => .inl hk)
  · rw [← HS.out]; exact r3
end Go.Proofs.YtafnclkkncokpaaDoor
