/-
  Layer 2: the maker of eachLabel; slices.AppendSeq and Collect over it; Labels.
-/
import Derived.Test.YtafnclkkncokpaaDoorIter
namespace Go.Proofs.YtafnclkkncokpaaDoor
open Go.RowKit Go.Shelf
attribute [local go_sem] Oper.semAt_some
set_option maxHeartbeats 1000000

/-- The iterator's value over the box B. -/
abbrev seqV (B : Nat) : Value := .func (.func 46) #[] #[.pointer (some ⟨B, 0, none⟩)]
theorem eachLabel_any (x : Int) (w : World) :
    Calls Tryd.prog 40 #[.int .u32 x] w fun e w' => e = .returned (seqV w.heap.size) ∧ w' = w.alloc (.cells #[.int .u32 x] 35) := by
  have hmf : ∀ (fn : Fn) (first cap : Array Value) (w : World), (Instr.makeFunc fn first cap).run Tryd.prog w = .ok (.func fn first cap) w := fun _ _ _ _ => rfl
  go_enter Tryd.func40, Tryd.ntmps40
  go_wp2
  go_ret
  exact ⟨rfl, rfl⟩
theorem A.infoI : (Tryd.prog.info? 3).map (fun i => (i.zero, i.size, i.bytes)) = some (some (.int .i64 0), 1, 8) := by kernel_rfl
/-- The labels that have come, as cells. -/
def labV (xs : List (Fin 16)) : List Value := xs.map fun i => .int .i64 (i.val : Int)
theorem labV_snoc (xs : List (Fin 16)) (i : Fin 16) : labV (xs ++ [i]) = labV xs ++ [.int .i64 (i.val : Int)] := by simp [labV]

set_option maxRecDepth 100000 in
theorem AppendSeq_any (B : Nat) (x : Int) (hx : W32 x) (w : World) (hB : w.heap[B]? = some (.cells #[.int .u32 x] 35)) :
    Calls Tryd.prog 45 #[.slice none 0 0, seqV B] w fun e w' => ∃ v, e = .returned v ∧ w'.ownsRow w.heap.size 3 1 v (labN x 16).length (labV (labN x 16)) ∧ Below w.heap.size w w' := by
  obtain ⟨i0, hi, hz0, hz1, hz2⟩ := info_parts A.infoI
  have hBl : B < w.heap.size := (Array.getElem?_eq_some_iff.1 hB).1
  refine (callsIn_wide (n := 5)).1 ?_
  refine callsIn_of_wp_marks Tryd.func45 rfl trivial ?_ rfl
  simp only [Tryd.ntmps45, List.size_toArray, List.length_cons, List.length_nil, Nat.reduceAdd, Nat.reduceSub, Array.replicate_succ, Array.replicate_zero, List.push_toArray, List.append_toArray, List.nil_append, List.cons_append]
  gi_wp2
  have bO := Boxed.new w 51 (.slice none 0 0)
  have hB0 : Below w.heap.size w (w.alloc (.cells #[.slice none 0 0] 51)) := (Below.refl _ w).alloc (Nat.le_refl _) _
  refine wpIn_rangeFunc_ownF rfl (by omega) (gf := 46) (lb := #[.pointer (some ⟨B, 0, none⟩)]) rfl trivial (enters_of Tryd.func46 (by kernel_rfl) rfl)
    (each_stops _ (by omega) B x hx _ ?box) (fun h k => k.trans h) ?keep (Below.refl _ _) (fun _ => rfl)
    (fun pre W => (∃ v, Boxed W w.heap.size 51 v ∧ W.ownsRow w.heap.size 3 1 v pre.length (labV pre) ∧ True) ∧ Below w.heap.size w W)
    (fun _ _ _ => False)
    (OwnFrom.and (Own.from (holdsRow_own w.heap.size w.heap.size 51 3 1 (fun pre => pre.length) (fun pre => labV pre) (fun _ _ => True)) _) (ownFrom_below (Nat.le_refl _) (by simp)))
    (fun _ _ _ _ _ hs _ _ => hs)
    ⟨⟨_, bO, World.ownsRow_nil _ _ _ _, trivial⟩, hB0⟩
    (fun y => { tmps := #[.slice none 0 0, seqV B, .pointer (some ⟨w.heap.size, 0, none⟩), undef, .slice none 0 0, .int .i64 (y.val : Int), seqV B, .int .i64 (y.val : Int), undef, undef, undef, undef, undef], defers := [] }) ?assign ?body ?done ?stop
  case box => rw [Below.heap_alloc _ _ _ hBl]; exact hB
  case keep =>
    intro W l o o' hl ho hc _
    exact World.putObj_heap_other (by simp at hl; omega)
  case assign =>
    intro l x W K hK
    gi_wp2
    exact hK
  case body =>
    rintro l pre y W ⟨⟨v, hv, hrow, _⟩, hb⟩ hlt
    have hc := hv.cell
    gi_wp2_with (gi_at_builtin; refine wpListIn_append_own _ rfl _ _ 51 rfl w.heap.size 3 i0 (.int .i64 0) 1 8 Tryd.underlying51 hi hz0 hz1 hz2 rfl (by decide) _ _ _ rfl (hrow.alloc _) ⟨W.heap.size, 0, none⟩ 1 1 [.int .i64 (y.val : Int)] rfl rfl (cell_one_new _ _ _) (by simp [Value.oneCell']) (by unfold maxLen; omega) (by omega) (by have := hb.size; simp; omega) ?_; intro v' w1 hown' hgrow _; obtain ⟨g', cap', rfl⟩ := ownsRow_succ hown'; obtain ⟨hv1, hv2, hr2, hk2, hb2⟩ := hv.appended (by decide) hrow hb.size (Nat.le_refl _) hown' hgrow; have hc1 := hv1.cell; have hf1 := hv1.frozen)
    exact ⟨hk2, hb2.block B hBl, ⟨_, hv2, by simpa [labV_snoc] using hr2, trivial⟩, hb.trans hb2⟩
  case done =>
    rintro D ys W hD rfl ⟨⟨v, hv, hrow, _⟩, hb⟩ hK
    have hc := hv.cell
    gi_wp2
    refine ⟨by simp, .inl ⟨_, _, rfl, run_takeDeferred hK, ?_⟩⟩
    exact ⟨_, results_tmp rfl _ _ _, v, rfl, ownsRow_putObj hrow _ hK rfl, hb.trans (belowK_b (w := w) (Nat.le_refl _) W D _ _ (by simp at hD; omega) hK rfl rfl)⟩
  case stop =>
    rintro D c pre W _ _ h _
    exact h.elim

theorem Collect_any (B : Nat) (x : Int) (hx : W32 x) (w : World) (hB : w.heap[B]? = some (.cells #[.int .u32 x] 35)) :
    Calls Tryd.prog 39 #[seqV B] w fun e w' => ∃ v, e = .returned v ∧ w'.ownsRow w.heap.size 3 1 v (labN x 16).length (labV (labN x 16)) ∧ Below w.heap.size w w' := by
  have HC := Lib.hid (AppendSeq_any B x hx w hB)
  clear hB
  go_enter Tryd.func39, Tryd.ntmps39
  go_wp2_with (go_at_call 45; refine HC.out.mono ?_; rintro e w1 ⟨v, rfl, hr, hb⟩)
  go_ret
  exact ⟨v, rfl, hr, hb⟩
theorem Labels_any (x : Int) (hx : W32 x) (w : World) :
    Calls Tryd.prog 21 #[.int .u32 x] w fun e w' => ∃ v, e = .returned v ∧ w'.ownsRow w.heap.size 3 1 v (labN x 16).length (labV (labN x 16)) ∧ Below w.heap.size w w' := by
  have HC := Lib.hid (Collect_any w.heap.size x hx (w.alloc (.cells #[.int .u32 x] 35)) (heap_alloc_new w _))
  go_enter Tryd.func21, Tryd.ntmps21
  go_wp2_with (first | (go_at_call 40; refine (eachLabel_any x _).mono ?_; rintro e w' ⟨rfl, rfl⟩) | (go_at_call 39; refine HC.out.mono ?_; rintro e w1 ⟨v, rfl, hr, hb⟩))
  go_ret
  have hA : Below w.heap.size w (w.alloc (.cells #[.int .u32 x] 35)) := (Below.refl _ _).alloc (Nat.le_refl _) _
  refine ⟨v, rfl, ?_, hA.trans (hb.mono (by simp))⟩
  refine ⟨hr.1, ?_⟩
  rcases hr.2 with h2 | ⟨g, cap, cur, hv, hg, r⟩
  · exact .inl h2
  · exact .inr ⟨g, cap, cur, hv, by simp at hg; omega, r⟩
end Go.Proofs.YtafnclkkncokpaaDoor
