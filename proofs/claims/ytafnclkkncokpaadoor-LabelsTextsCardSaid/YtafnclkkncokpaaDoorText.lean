/-
  Layer 2: Text of package labels.
-/
import Derived.Test.YtafnclkkncokpaaDoorCollect
import Derived.Test.YtafnclkkncokpaaDoorShelf
import Derived.Test.YtafnclkkncokpaaDoorRound
namespace Go.Proofs.YtafnclkkncokpaaDoor
open Go.RowKit Go.Shelf
attribute [local go_sem] Oper.semAt_some
set_option maxHeartbeats 1000000

theorem A.infoS : (Tryd.prog.info? 9).map (fun i => (i.zero, i.size, i.bytes)) = some (some (.string ⟨#[]⟩), 1, 16) := by kernel_rfl
def dig (i : Fin 16) : ByteArray := ⟨(Lib.decDigits i.val).toArray⟩
def strV (xs : List (Fin 16)) : List Value := xs.map fun i => .string (dig i)
theorem strV_snoc (xs : List (Fin 16)) (i : Fin 16) : strV (xs ++ [i]) = strV xs ++ [.string (dig i)] := by simp [strV]
/-- The text of a list of labels. -/
def txt (xs : List (Fin 16)) : ByteArray := if xs = [] then ⟨#[45]⟩ else ⟨(Lib.join (xs.map fun i => Lib.decDigits i.val) [32]).toArray⟩

theorem dig_len (i : Fin 16) : (Lib.decDigits i.val).length ≤ 2 := by
  by_cases h : i.val < 10
  · rw [Lib.decDigits_one h]; simp
  · rw [Lib.decDigits_two h (by omega)]; simp

theorem joinTailLen : ∀ (r : List (List UInt8)), (∀ x ∈ r, x.length ≤ 2) → (Lib.joinTail [32] r).length ≤ 3 * r.length
  | [], _ => by simp [Lib.joinTail]
  | x :: r, h => by
    have h1 := joinTailLen r (fun z hz => h z (List.mem_cons_of_mem _ hz))
    have h2 := h x (List.mem_cons_self ..)
    have e : Lib.joinTail [32] (x :: r) = 32 :: x ++ Lib.joinTail [32] r := by simp [Lib.joinTail]
    rw [e]; simp; omega
theorem joinLen (xs : List (List UInt8)) (h : ∀ x ∈ xs, x.length ≤ 2) : (Lib.join xs [32]).length ≤ 3 * xs.length := by
  cases xs with
  | nil => simp [Lib.join_nil]
  | cons x r =>
    have h1 := joinTailLen r (fun z hz => h z (List.mem_cons_of_mem _ hz))
    have h2 := h x (List.mem_cons_self ..)
    rw [Lib.join_cons]; simp; omega

set_option maxRecDepth 100000 in
theorem Text_any (x : Int) (hx : W32 x) (w : World) :
    Calls Tryd.prog 23 #[.int .u32 x] w fun e w' => e = .returned (.string (txt (labN x 16))) ∧ Below w.heap.size w w' := by
  have hmo : Tryd.prog.follows .mixedOrders = true := by kernel_rfl
  obtain ⟨i0, hi, hz0, hz1, hz2⟩ := info_parts A.infoS
  refine (callsIn_wide (n := 5)).1 ?_
  refine callsIn_of_wp_marks Tryd.func23 rfl trivial ?_ rfl
  simp only [Tryd.ntmps23, List.size_toArray, List.length_cons, List.length_nil, Nat.reduceAdd, Nat.reduceSub, Array.replicate_succ, Array.replicate_zero, List.push_toArray, List.append_toArray, List.nil_append, List.cons_append]
  gi_wp2_with (refine ⟨trivial, ?_⟩; gi_at_call 40; refine (callsIn_wide.2 (eachLabel_any x _)).mono ?_; rintro e w1 ⟨rfl, rfl⟩)
  have bO := Boxed.new w 82 (.slice none 0 0)
  have hB0 : Below w.heap.size w ((w.alloc (.cells #[.slice none 0 0] 82)).alloc (.cells #[.int .u32 x] 35)) := ((Below.refl _ w).alloc (Nat.le_refl _) _).alloc (by simp) _
  have hBx : ((w.alloc (.cells #[.slice none 0 0] 82)).alloc (.cells #[.int .u32 x] 35)).heap[w.heap.size + 1]? = some (.cells #[.int .u32 x] 35) := by
    have := heap_alloc_new (w.alloc (.cells #[.slice none 0 0] 82)) (.cells #[.int .u32 x] 35)
    rwa [World.size_alloc] at this
  refine wpIn_rangeFunc_ownF rfl (by omega) (gf := 46) (lb := #[.pointer (some ⟨w.heap.size + 1, 0, none⟩)]) rfl trivial (enters_of Tryd.func46 (by kernel_rfl) rfl)
    (each_stops _ (by omega) (w.heap.size + 1) x hx _ hBx) (fun h k => k.trans h) ?keep (Below.refl _ _) (fun _ => rfl)
    (fun pre W => (∃ v, Boxed W w.heap.size 82 v ∧ W.ownsRow w.heap.size 9 1 v pre.length (strV pre) ∧ (v = .slice none 0 0 ↔ pre = [])) ∧ W.heap[w.heap.size + 1]? = some (.cells #[.int .u32 x] 35) ∧ Below w.heap.size w W)
    (fun _ _ _ => False)
    ?own
    (fun _ _ _ _ _ hs _ _ => hs)
    ⟨⟨_, bO.alloc _, World.ownsRow_nil _ _ _ _, by simp⟩, hBx, hB0⟩
    (fun y => { tmps := #[.int .u32 x, undef, .string ⟨#[]⟩, .pointer (some ⟨w.heap.size, 0, none⟩), .int .i64 (y.val : Int), .int .u32 x, seqV (w.heap.size + 1), .int .i64 (y.val : Int), undef, undef, undef, undef, undef, undef, undef, undef, undef, undef], defers := [] }) ?assign ?body ?done ?stop
  case own =>
    refine OwnFrom.and (Own.from (holdsRow_own w.heap.size w.heap.size 82 9 1 (fun pre => pre.length) (fun pre => strV pre) (fun pre v => v = .slice none 0 0 ↔ pre = [])) _) (OwnFrom.and ?_ (ownFrom_below (Nat.le_refl _) (by simp; omega)))
    intro s W W' row hs hg hr
    refine Boxed.kept (B := w.heap.size + 1) (t := 35) hs hg (fun e' => ?_)
    obtain ⟨_, o, ho, hc⟩ := hr _ e'.symm
    rw [hs] at ho; cases ho; cases hc
  case keep =>
    intro W l o o' hl ho hc _
    exact World.putObj_heap_other (by simp at hl; omega)
  case assign =>
    intro l x W K hK
    gi_wp2
    exact hK
  case body =>
    rintro l pre y W ⟨⟨v, hv, hrow, hnil⟩, hbx, hb⟩ hlt
    have hc := hv.cell
    have hI := fun W => Tryd.strconv_Itoa_small y.val (by omega) W
    have hcD : W.drew.cell? ⟨w.heap.size, 0, none⟩ = some v := hc
    have hcA : (W.alloc (.cells #[.string ⟨(Lib.decDigits y.val).toArray⟩] 9)).cell? ⟨w.heap.size, 0, none⟩ = some v := (World.cell?_alloc_lt _ _ _ (World.block_lt_of_cell? _ _ hc)).trans hc
    gi_wp2
    refine wpIn_region_round_plain hmo (by kernel_rfl) (fun _ _ h => h) ?_
    refine wpAny_take (i := 1) (v := .int .i64 (y.val : Int)) rfl (by kernel_rfl) (by kernel_rfl) (by kernel_rfl) (fun _ _ _ h => h) ?yl ?_
    case yl => exact .inl ⟨by rfl, fun W' => by go_simp⟩
    try simp only [Act.put, List.setIfInBounds_toArray, List.set_cons_zero, List.set_cons_succ]
    refine wpAny_ready (rs := [0, 2]) (by kernel_rfl) (by simp) (ready_shut rfl (fun K hK => ?_) (ready_shut rfl (fun K hK => ?_) AllReady.nil))
    · go_simp
      refine hK.out _ _ ?_
      clear hK K
      try simp only [Act.put, List.setIfInBounds_toArray, List.set_cons_zero, List.set_cons_succ]
      refine wpAny_ready (rs := [2]) (by kernel_rfl) (by simp) (ready_shut rfl (fun K hK => ?_) AllReady.nil)
      go_simp
      refine (hI _).mono ?_
      rintro e w2 ⟨rfl, rfl⟩
      refine hK.out _ _ ?_
      clear hK K
      try simp only [Act.put, List.setIfInBounds_toArray, List.set_cons_zero, List.set_cons_succ]
      refine wpAny_ready (rs := [3]) (by kernel_rfl) (by simp) (ready_shut rfl (fun K hK => ?_) AllReady.nil)
      go_simp
      refine hK.out _ _ ?_
      clear hK K
      try simp only [Act.put, List.setIfInBounds_toArray, List.set_cons_zero, List.set_cons_succ]
      refine wpAny_ready (rs := [4]) (by kernel_rfl) (by simp) (ready_shut rfl (fun K hK => ?_) AllReady.nil)
      refine take_step (by rfl) ?_
      refine wp_append_own _ (.tmp 8) (.tmp 11) 82 rfl w.heap.size 9 i0 (.string ⟨#[]⟩) 1 16 Tryd.underlying82 hi hz0 hz1 hz2 rfl (by decide) v pre.length (strV pre) rfl (World.ownsRow.alloc (w := W.drew) hrow _) ⟨W.heap.size, 0, none⟩ 1 1 [.string (dig y)] rfl rfl (cell_one_new W.drew _ _) (by simp [Value.oneCell']) (by unfold maxLen; omega) (by omega) (by have := hb.size; simp; omega) ?_
      intro v' w1 hown' hgrow hn1
      obtain ⟨g', cap', rfl⟩ := ownsRow_succ hown'
      obtain ⟨hv1, hv2, hr2, hk2, hb2⟩ := Boxed.appended (W := W.drew) hv (by decide) hrow hb.size (Nat.le_refl _) hown' hgrow
      have hc1 := hv1.cell
      have hf1 := hv1.frozen
      have hx1 := Boxed.kept (Boxed.alloc (W := W.drew) (B := w.heap.size + 1) (t := 35) hbx _) hgrow (Boxed.not_row (W := W.drew) (B := w.heap.size + 1) (t := 35) hbx (by decide) (World.ownsRow.drew hrow))
      refine hK.out _ _ ?_
      clear hK K
      try simp only [Act.put, List.setIfInBounds_toArray, List.set_cons_zero, List.set_cons_succ]
      refine wpAny_ready (rs := [5]) (by kernel_rfl) (by simp) (ready_shut rfl (fun K hK => ?_) AllReady.nil)
      go_simp
      refine hK.out _ _ ?_
      clear hK K
      try simp only [Act.put, List.setIfInBounds_toArray, List.set_cons_zero, List.set_cons_succ]
      refine wpAny_done (by kernel_rfl) ?_ _
      have hx2 := Boxed.kept hx1 (grownBy_setCell' w1 w.heap.size (.slice (some ⟨g', 0, none⟩) (pre.length + 1) cap')) (by simp)
      have hlk : lKeep (w.heap.size + 1) W (w1.setCell ⟨w.heap.size, 0, none⟩ (.slice (some ⟨g', 0, none⟩) (pre.length + 1) cap')) := Eq.trans hx2 (Eq.symm hbx)
      exact ⟨(KeepsOthers.drew W).trans hk2, hlk, ⟨⟨_, hv2, by simpa [strV_snoc] using hr2, by simp⟩, hx2, hb.trans (((Below.refl _ W).drew).trans hb2)⟩⟩
    · go_simp
      refine (hI _).mono ?_
      rintro e w2 ⟨rfl, rfl⟩
      refine hK.out _ _ ?_
      clear hK K
      try simp only [Act.put, List.setIfInBounds_toArray, List.set_cons_zero, List.set_cons_succ]
      refine wpAny_ready (rs := [0, 3]) (by kernel_rfl) (by simp) (ready_shut rfl (fun K hK => ?_) (ready_shut rfl (fun K hK => ?_) AllReady.nil))
      · go_simp
        refine hK.out _ _ ?_
        clear hK K
        try simp only [Act.put, List.setIfInBounds_toArray, List.set_cons_zero, List.set_cons_succ]
        refine wpAny_ready (rs := [3]) (by kernel_rfl) (by simp) (ready_shut rfl (fun K hK => ?_) AllReady.nil)
        go_simp
        refine hK.out _ _ ?_
        clear hK K
        try simp only [Act.put, List.setIfInBounds_toArray, List.set_cons_zero, List.set_cons_succ]
        refine wpAny_ready (rs := [4]) (by kernel_rfl) (by simp) (ready_shut rfl (fun K hK => ?_) AllReady.nil)
        refine take_step (by rfl) ?_
        refine wp_append_own _ (.tmp 8) (.tmp 11) 82 rfl w.heap.size 9 i0 (.string ⟨#[]⟩) 1 16 Tryd.underlying82 hi hz0 hz1 hz2 rfl (by decide) v pre.length (strV pre) rfl (World.ownsRow.alloc (w := W.drew) hrow _) ⟨W.heap.size, 0, none⟩ 1 1 [.string (dig y)] rfl rfl (cell_one_new W.drew _ _) (by simp [Value.oneCell']) (by unfold maxLen; omega) (by omega) (by have := hb.size; simp; omega) ?_
        intro v' w1 hown' hgrow hn1
        obtain ⟨g', cap', rfl⟩ := ownsRow_succ hown'
        obtain ⟨hv1, hv2, hr2, hk2, hb2⟩ := Boxed.appended (W := W.drew) hv (by decide) hrow hb.size (Nat.le_refl _) hown' hgrow
        have hc1 := hv1.cell
        have hf1 := hv1.frozen
        have hx1 := Boxed.kept (Boxed.alloc (W := W.drew) (B := w.heap.size + 1) (t := 35) hbx _) hgrow (Boxed.not_row (W := W.drew) (B := w.heap.size + 1) (t := 35) hbx (by decide) (World.ownsRow.drew hrow))
        refine hK.out _ _ ?_
        clear hK K
        try simp only [Act.put, List.setIfInBounds_toArray, List.set_cons_zero, List.set_cons_succ]
        refine wpAny_ready (rs := [5]) (by kernel_rfl) (by simp) (ready_shut rfl (fun K hK => ?_) AllReady.nil)
        go_simp
        refine hK.out _ _ ?_
        clear hK K
        try simp only [Act.put, List.setIfInBounds_toArray, List.set_cons_zero, List.set_cons_succ]
        refine wpAny_done (by kernel_rfl) ?_ _
        have hx2 := Boxed.kept hx1 (grownBy_setCell' w1 w.heap.size (.slice (some ⟨g', 0, none⟩) (pre.length + 1) cap')) (by simp)
        have hlk : lKeep (w.heap.size + 1) W (w1.setCell ⟨w.heap.size, 0, none⟩ (.slice (some ⟨g', 0, none⟩) (pre.length + 1) cap')) := Eq.trans hx2 (Eq.symm hbx)
        exact ⟨(KeepsOthers.drew W).trans hk2, hlk, ⟨⟨_, hv2, by simpa [strV_snoc] using hr2, by simp⟩, hx2, hb.trans (((Below.refl _ W).drew).trans hb2)⟩⟩
      · go_simp
        refine hK.out _ _ ?_
        clear hK K
        try simp only [Act.put, List.setIfInBounds_toArray, List.set_cons_zero, List.set_cons_succ]
        refine wpAny_ready (rs := [0]) (by kernel_rfl) (by simp) (ready_shut rfl (fun K hK => ?_) AllReady.nil)
        go_simp
        refine hK.out _ _ ?_
        clear hK K
        try simp only [Act.put, List.setIfInBounds_toArray, List.set_cons_zero, List.set_cons_succ]
        refine wpAny_ready (rs := [4]) (by kernel_rfl) (by simp) (ready_shut rfl (fun K hK => ?_) AllReady.nil)
        refine take_step (by rfl) ?_
        refine wp_append_own _ (.tmp 8) (.tmp 11) 82 rfl w.heap.size 9 i0 (.string ⟨#[]⟩) 1 16 Tryd.underlying82 hi hz0 hz1 hz2 rfl (by decide) v pre.length (strV pre) rfl (World.ownsRow.alloc (w := W.drew) hrow _) ⟨W.heap.size, 0, none⟩ 1 1 [.string (dig y)] rfl rfl (cell_one_new W.drew _ _) (by simp [Value.oneCell']) (by unfold maxLen; omega) (by omega) (by have := hb.size; simp; omega) ?_
        intro v' w1 hown' hgrow hn1
        obtain ⟨g', cap', rfl⟩ := ownsRow_succ hown'
        obtain ⟨hv1, hv2, hr2, hk2, hb2⟩ := Boxed.appended (W := W.drew) hv (by decide) hrow hb.size (Nat.le_refl _) hown' hgrow
        have hc1 := hv1.cell
        have hf1 := hv1.frozen
        have hx1 := Boxed.kept (Boxed.alloc (W := W.drew) (B := w.heap.size + 1) (t := 35) hbx _) hgrow (Boxed.not_row (W := W.drew) (B := w.heap.size + 1) (t := 35) hbx (by decide) (World.ownsRow.drew hrow))
        refine hK.out _ _ ?_
        clear hK K
        try simp only [Act.put, List.setIfInBounds_toArray, List.set_cons_zero, List.set_cons_succ]
        refine wpAny_ready (rs := [5]) (by kernel_rfl) (by simp) (ready_shut rfl (fun K hK => ?_) AllReady.nil)
        go_simp
        refine hK.out _ _ ?_
        clear hK K
        try simp only [Act.put, List.setIfInBounds_toArray, List.set_cons_zero, List.set_cons_succ]
        refine wpAny_done (by kernel_rfl) ?_ _
        have hx2 := Boxed.kept hx1 (grownBy_setCell' w1 w.heap.size (.slice (some ⟨g', 0, none⟩) (pre.length + 1) cap')) (by simp)
        have hlk : lKeep (w.heap.size + 1) W (w1.setCell ⟨w.heap.size, 0, none⟩ (.slice (some ⟨g', 0, none⟩) (pre.length + 1) cap')) := Eq.trans hx2 (Eq.symm hbx)
        exact ⟨(KeepsOthers.drew W).trans hk2, hlk, ⟨⟨_, hv2, by simpa [strV_snoc] using hr2, by simp⟩, hx2, hb.trans (((Below.refl _ W).drew).trans hb2)⟩⟩
  case done =>
    rintro D ys W hD rfl ⟨⟨v, hv, hrow, hnil⟩, hbx, hb⟩ hK
    have hc := hv.cell
    have hDl : D < W.heap.size := (Array.getElem?_eq_some_iff.1 hK).1
    rcases Nat.eq_zero_or_pos (labN x 16).length with h0 | h0
    · have he : labN x 16 = [] := List.eq_nil_of_length_eq_zero h0
      obtain rfl := hnil.2 he
      gi_wp2
      refine ⟨by simp, .inl ⟨_, _, rfl, run_takeDeferred hK, ?_⟩⟩
      exact ⟨_, results_tmp rfl _ _ _, by simp [txt], hb.trans (belowK_b (w := w) (Nat.le_refl _) W D _ _ (by simp at hD; omega) hK rfl rfl)⟩
    · obtain ⟨g, cap, rfl, hgl⟩ : ∃ g cap, v = .slice (some ⟨g, 0, none⟩) (labN x 16).length cap ∧ g < W.heap.size := by
        rcases hrow.2 with ⟨_, h⟩ | ⟨g, cap, cur, h, _, hg, _⟩
        · omega
        · exact ⟨g, cap, h, (Array.getElem?_eq_some_iff.1 hg).1⟩
      have hcap := hrow
      have hJ := Tryd.strings_Join g 0 cap ((labN x 16).map dig) ⟨#[32]⟩ W ?cells hgl ?hN ?hcap ?hlen
      case cells =>
        intro j u hu
        rw [Nat.zero_add, World.ownsRow.cellAt hrow j ?_, strV, List.getElem?_map]
        · rw [List.getElem?_map] at hu
          cases hq : (labN x 16)[j]? with
          | none => rw [hq] at hu; cases hu
          | some y => rw [hq] at hu; cases hu; rfl
        · have := (List.getElem?_eq_some_iff.1 hu).1
          simp at this; omega
      case hN => have := labN_len x 16; simp; omega
      case hcap =>
        rcases hrow.2 with ⟨h, _⟩ | ⟨_, _, _, h, _, _, hc, _⟩
        · cases h
        · cases h; simpa using hc
      case hlen =>
        have h1 := joinLen (((labN x 16).map dig).map (·.data.toList)) (by
          intro z hz
          obtain ⟨u, hu, rfl⟩ := List.mem_map.1 hz
          obtain ⟨i, _, rfl⟩ := List.mem_map.1 hu
          exact dig_len i)
        have := labN_len x 16
        simp at h1
        simp
        omega
      simp only [List.length_map] at hJ
      gi_wp2_with (refine ⟨trivial, ?_⟩; gi_at_call 43; refine (callsIn_wide.2 hJ).mono ?_; rintro e w1 ⟨rfl, hb1⟩)
      have hK1 := (hb1.block D hDl).trans hK
      refine ⟨by simp, .inl ⟨_, _, rfl, run_takeDeferred hK1, ?_⟩⟩
      refine ⟨_, results_tmp rfl _ _ _, ?_, (hb.trans (hb1.mono hb.size)).trans (belowK_b (w := w) (Nat.le_refl _) w1 D _ _ (by simp at hD; omega) hK1 rfl rfl)⟩
      have hne : labN x 16 ≠ [] := by intro h; rw [h] at h0; simp at h0
      simp [txt, hne, Function.comp_def, dig]
  case stop =>
    rintro D c pre W _ _ h _
    exact h.elim
end Go.Proofs.YtafnclkkncokpaaDoor
