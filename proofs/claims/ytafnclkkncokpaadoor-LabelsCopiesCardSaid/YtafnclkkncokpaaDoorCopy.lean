/-
  Layer 2: Copy and Same of package labels: walks.
-/
import Derived.Test.YtafnclkkncokpaaDoorRows
import Derived.Test.YtafnclkkncokpaaDoorTab
import Derived.Test.YtafnclkkncokpaaDoorLeaf
import Derived.Test.YtafnclkkncokpaaDoorJoin
import Derived.Test.YtafnclkkncokpaaDoorMake
import Derived.WalkKit
import Derived.WalkSpells
import Derived.WalkLawsBesides
import Derived.Lib.Hide
import Derived.Maps.OwnSet
import Derived.Deep.QuietTactic
import Derived.BigQuiet
import Derived.Deep.RegionHeld3
namespace Go.Proofs.YtafnclkkncokpaaDoor
open Go.RowKit
set_option maxHeartbeats 400000

theorem Copy_nil (w : World) : Calls Tryd.prog 19 #[.pointer none] w fun e w' => e = .returned (.pointer none) ∧ w = w' := by
  go_enter Tryd.func19, Tryd.ntmps19
  go_wp2_with (go_at_call 31; refine (none_nil _).mono ?_; rintro e w' ⟨rfl, rfl⟩)
  go_ret
  exact ⟨rfl, rfl⟩

theorem copy_keep {w W W1 : World} {T g c mb jb : Nat} {most : Int} {ss : List Int} {m : Nat} {D J : DataW Unit} (h : TabIs W T g c mb jb most ss m D J) (hB : Below w.heap.size w W) (hb : Below W.heap.size W W1) :
    W1.cell? ⟨T, 0, none⟩ = some (.int .i64 most) ∧ W1.cell? ⟨T, 1, none⟩ = some (.slice (some ⟨g, 0, none⟩) ss.length c) ∧ W1.cell? ⟨T, 2, none⟩ = some (.map (some mb)) ∧ TabIs W1 T g c mb jb most ss m D J ∧ Below w.heap.size w W1 := by
  have h1 := h.kept (Turned.of_below hb []) (fun _ _ hk => by cases hk)
  obtain ⟨c0, c1, c2, c3⟩ := h1.cell
  exact ⟨c0, c1, c2, h1, hB.trans (hb.mono hB.size)⟩

theorem row_base {w : World} {base : Nat} {e : TypeId} {size : Nat} {v : Value} {n : Nat} {xs : List Value} (h : w.ownsRow base e size v n xs) : w.ownsRow 0 e size v n xs := by
  refine ⟨h.1, ?_⟩
  rcases h.2 with h2 | ⟨g, cap, cur, hv, _, r⟩
  · exact .inl h2
  · exact .inr ⟨g, cap, cur, hv, Nat.zero_le _, r⟩
/-- The copy, from its parts. -/
theorem copy_tab {w W : World} {g' c' mb' jb' : Nat} {most : Int} {ss : List Int} {D : DataW Unit} (hn : NumD ss D) (hs : Sets most ss)
    (row : W.ownsRow w.heap.size 35 1 (.slice (some ⟨g', 0, none⟩) ss.length c') ss.length (ss.map (Value.int .u32)))
    (num : W.ownsMap Tryd.prog 35 (plainElem Tryd.prog 3) mb' ss.length D) (jnd : W.ownsMap Tryd.prog 73 (plainElem Tryd.prog 3) jb' 0 (DataW.map (H := Unit) []))
    (hne : mb' ≠ jb') (h1 : w.heap.size ≤ mb') (h2 : w.heap.size ≤ jb') (hB : Below w.heap.size w W) :
    ∃ F', Tab (W.alloc (.cells #[.int .i64 most, .slice (some ⟨g', 0, none⟩) ss.length c', .map (some mb'), .map (some jb')] 61)) W.heap.size most ss 0 F' ∧ (∀ k ∈ F', w.heap.size ≤ k) ∧
      Below w.heap.size w (W.alloc (.cells #[.int .i64 most, .slice (some ⟨g', 0, none⟩) ss.length c', .map (some mb'), .map (some jb')] 61)) := by
  refine ⟨_, ⟨g', c', mb', jb', D, _, rfl, heap_alloc_new W _, (row_base row).alloc _, num.alloc _, hn, jnd.alloc _, joinD_new _, hne, hs⟩, ?_, hB.alloc hB.size _⟩
  have h3 := (row.lt g' rfl).1
  have := hB.size
  intro k hk
  simp at hk
  rcases hk with rfl | rfl | rfl | rfl <;> assumption
theorem row_keep {w W : World} {base base' : Nat} {e : TypeId} {v : Value} {n : Nat} {xs : List Value} (h : w.ownsRow base e 1 v n xs) (hb : Below w.heap.size w W) (hbb : base' ≤ base) : W.ownsRow base' e 1 v n xs := by
  have h1 := (Turned.of_below hb []).row h (fun _ _ hk => by cases hk)
  refine ⟨h1.1, ?_⟩
  rcases h1.2 with h2 | ⟨g, cap, cur, hv, hg, r⟩
  · exact .inl h2
  · exact .inr ⟨g, cap, cur, hv, by omega, r⟩
theorem map_keep {w W : World} {H : Type} {P : Program} {k : TypeId} {R : Value → Option (DataW H × List MemPlace)} {b n : Nat} {D : DataW H} (h : w.ownsMap P k R b n D) (hb : Below w.heap.size w W) : W.ownsMap P k R b n D :=
  (Turned.of_below hb []).map h (fun hk => by cases hk)
def CopyPost (w w' : World) (v : Value) (most : Int) (ss : List Int) : Prop := ∃ T' F', v = .pointer (some ⟨T', 0, none⟩) ∧ Tab w' T' most ss 0 F' ∧ (∀ k ∈ F', w.heap.size ≤ k) ∧ Below w.heap.size w w'

set_option maxRecDepth 100000 in
set_option maxHeartbeats 1000000 in
theorem Copy_any (T : Nat) (most : Int) (ss : List Int) (m : Nat) (F : List Nat) (w : World) (h : Tab w T most ss m F) :
    Calls Tryd.prog 19 #[.pointer (some ⟨T, 0, none⟩)] w fun e w' => ∃ T' F', e = .returned (.pointer (some ⟨T', 0, none⟩)) ∧ Tab w' T' most ss 0 F' ∧ (∀ k ∈ F', w.heap.size ≤ k) ∧ Below w.heap.size w w' := by
  obtain ⟨g, c, mb, jb, D, J, rfl, h⟩ := h
  obtain ⟨c0, c1, c2, c3⟩ := h.cell
  have hm : 1 ≤ most := by have := h.sets.pos; have := h.sets.len; omega
  have hmm := @run_makeMap Tryd.prog
  have hN := Lib.hid h.numD
  have hS := Lib.hid h.sets
  have H0 := copy_keep (w := w) (W := w) (W1 := w.drew) h (Below.refl _ _) (Below.refl _ _).drew
  clear h
  go_enter Tryd.func19, Tryd.ntmps19
  go_wp2_with (go_at_call 31; refine (none_some T most _ c0 hm).mono ?_; rintro e w' ⟨rfl, rfl⟩)
  go_region_held3 (fun W => W.cell? ⟨T, 0, none⟩ = some (.int .i64 most) ∧ W.cell? ⟨T, 1, none⟩ = some (.slice (some ⟨g, 0, none⟩) ss.length c) ∧ W.cell? ⟨T, 2, none⟩ = some (.map (some mb)) ∧ TabIs W T g c mb jb most ss m D J ∧ Below w.heap.size w W)
    (first
      | exact H0
      | (go_split_ands; exact copy_keep (by assumption) (by assumption) (by assumption))
      | (go_split_ands; exact copy_keep (by assumption) (by assumption) ((Below.refl _ _).alloc (Nat.le_refl _) _)))
    (first
      | (go_at_call 36; go_split_ands; refine (Clone_tab (by assumption)).mono ?_; rintro e w1 ⟨g', c', rfl, ho, hb⟩)
      | (go_at_call 37; go_split_ands; refine (MClone_any _ _ _ _ (TabIs.num (by assumption))).mono ?_; rintro e w2 ⟨rfl, ho2, hb2⟩))
  all_goals go_wp2
  all_goals go_ret
  all_goals have z1 := hb.size
  all_goals have z2 := hb2.size
  all_goals have z3 := ho2.lt
  · simp at z1 z2
    have hB1 : Below w.heap.size w w1 := (Below.refl _ w).drew.trans hb
    have hB2 : Below w.heap.size w w2 := hB1.trans (hb2.mono hB1.size)
    have jn := World.ownsMap_made w2 Tryd.prog 73 (plainElem (H := Unit) Tryd.prog 3)
    obtain ⟨F', r1, r2, r3⟩ := copy_tab (w := w) hN.out hS.out ((row_keep ho hb2 (by simp)).alloc _) (ho2.alloc _) jn (by omega) (by omega) (by omega) (hB2.alloc hB2.size _)
    exact ⟨(w2.alloc (.map #[] 0)).heap.size, F', by simp, r1, r2, r3⟩
  · simp at z1 z2 z3
    have hB1 : Below w.heap.size w w1 := (Below.refl _ w).drew.trans hb
    have hM : Below w1.heap.size w1 (w1.alloc (.map #[] 0)) := (Below.refl _ _).alloc (Nat.le_refl _) _
    have hB2 : Below w.heap.size w w2 := hB1.trans ((hM.mono hB1.size).trans (hb2.mono (by simp; omega)))
    have jn := World.ownsMap_made w1 Tryd.prog 73 (plainElem (H := Unit) Tryd.prog 3)
    simp at ho2
    obtain ⟨F', r1, r2, r3⟩ := copy_tab (w := w) hN.out hS.out (row_keep (ho.alloc _) hb2 (by simp)) ho2 (map_keep jn hb2) (by omega) (by omega) (by omega) hB2
    exact ⟨w2.heap.size, F', by simp, r1, r2, r3⟩
  · simp at z1 z2 z3
    have hM : Below w.heap.size w (w.alloc (.map #[] 0)).drew := ((Below.refl _ _).alloc (Nat.le_refl _) _).drew
    have hB1 : Below w.heap.size w w1 := hM.trans (hb.mono (by simp))
    have hB2 : Below w.heap.size w w2 := hB1.trans (hb2.mono hB1.size)
    have jn : (w.alloc (.map #[] 0)).drew.ownsMap Tryd.prog 73 (plainElem (H := Unit) Tryd.prog 3) w.heap.size 0 (.map []) := World.ownsMap_made w Tryd.prog 73 (plainElem (H := Unit) Tryd.prog 3)
    obtain ⟨F', r1, r2, r3⟩ := copy_tab (w := w) hN.out hS.out (row_keep ho hb2 (by simp)) ho2 (map_keep (map_keep jn hb) hb2) (by omega) (by omega) (by omega) hB2
    exact ⟨w2.heap.size, F', by simp, r1, r2, r3⟩

/-! ### Same -/
theorem Same_none (p q : Option Addr) (va vb : Bool) (w : World) (hor : (va || vb) = true) (ha : Calls Tryd.prog 31 #[.pointer p] w fun e w' => e = .returned (.bool va) ∧ w = w') (hb : Calls Tryd.prog 31 #[.pointer q] w fun e w' => e = .returned (.bool vb) ∧ w = w') :
    Calls Tryd.prog 20 #[.pointer p, .pointer q] w fun e w' => e = .returned (.bool (va && vb)) ∧ w = w' := by
  have HA := Lib.hid ha
  have HB := Lib.hid hb
  clear ha hb
  cases va <;> cases vb
  · simp at hor
  · go_enter Tryd.func20, Tryd.ntmps20
    go_wp2_with fail
    refine HA.out.mono ?_; rintro e w' ⟨rfl, rfl⟩
    go_wp2_with fail
    refine HB.out.mono ?_; rintro e w' ⟨rfl, rfl⟩
    go_wp2_with fail
    refine HA.out.mono ?_; rintro e w' ⟨rfl, rfl⟩
    go_wp2_with fail
    go_ret
    exact ⟨rfl, rfl⟩
  · go_enter Tryd.func20, Tryd.ntmps20
    go_wp2_with fail
    refine HA.out.mono ?_; rintro e w' ⟨rfl, rfl⟩
    go_wp2_with fail
    refine HA.out.mono ?_; rintro e w' ⟨rfl, rfl⟩
    go_wp2_with fail
    refine HB.out.mono ?_; rintro e w' ⟨rfl, rfl⟩
    go_wp2_with fail
    go_ret
    exact ⟨rfl, rfl⟩
  · go_enter Tryd.func20, Tryd.ntmps20
    go_wp2_with fail
    refine HA.out.mono ?_; rintro e w' ⟨rfl, rfl⟩
    go_wp2_with fail
    refine HA.out.mono ?_; rintro e w' ⟨rfl, rfl⟩
    go_wp2_with fail
    refine HB.out.mono ?_; rintro e w' ⟨rfl, rfl⟩
    go_wp2_with fail
    go_ret
    exact ⟨rfl, rfl⟩

theorem Equal_tabs (g1 g2 c1 c2 : Nat) (xs ys : List Int) (w : World) (hl : xs.length ≤ 65536) 
    (r1 : w.ownsRow 0 35 1 (.slice (some ⟨g1, 0, none⟩) xs.length c1) xs.length (xs.map (Value.int .u32))) (r2 : w.ownsRow 0 35 1 (.slice (some ⟨g2, 0, none⟩) ys.length c2) ys.length (ys.map (Value.int .u32))) :
    Calls Tryd.prog 38 #[.slice (some ⟨g1, 0, none⟩) xs.length c1, .slice (some ⟨g2, 0, none⟩) ys.length c2] w fun e w' => e = .returned (.bool (decide (xs = ys))) ∧ ∃ q, w' = w.drewN q := by
  by_cases hn : xs.length = ys.length
  · rw [← hn] at r2 ⊢
    exact Equal_same g1 g2 c1 c2 xs ys xs.length rfl hn.symm w hl r1 r2
  · refine (Equal_lens _ _ _ _ c1 c2 hn w).mono fun e w' ⟨he, hw⟩ => ⟨?_, 0, hw ▸ rfl⟩
    have : xs ≠ ys := fun e => hn (by rw [e])
    rw [he]; simp [this]

set_option maxRecDepth 100000 in
theorem Same_tabs (T1 T2 : Nat) (most1 most2 : Int) (ss1 ss2 : List Int) (m1 m2 : Nat) (F1 F2 : List Nat) (w : World) (h1 : Tab w T1 most1 ss1 m1 F1) (h2 : Tab w T2 most2 ss2 m2 F2) :
    Calls Tryd.prog 20 #[.pointer (some ⟨T1, 0, none⟩), .pointer (some ⟨T2, 0, none⟩)] w fun e w' => e = .returned (.bool (decide (most1 = most2) && decide (ss1 = ss2))) ∧ ∃ q, w' = w.drewN q := by
  obtain ⟨g1, k1, mb1, jb1, D1, J1, rfl, h1⟩ := h1
  obtain ⟨g2, k2, mb2, jb2, D2, J2, rfl, h2⟩ := h2
  obtain ⟨c0, c1, c2, c3⟩ := h1.cell
  obtain ⟨d0, d1, d2, d3⟩ := h2.cell
  have hm1 : 1 ≤ most1 := by have := h1.sets.pos; have := h1.sets.len; omega
  have hm2 : 1 ≤ most2 := by have := h2.sets.pos; have := h2.sets.len; omega
  have HE : Hid (∀ n, Calls Tryd.prog 38 #[.slice (some ⟨g1, 0, none⟩) ss1.length k1, .slice (some ⟨g2, 0, none⟩) ss2.length k2] (w.drewN n) fun e w' => e = .returned (.bool (decide (ss1 = ss2))) ∧ ∃ q, w' = (w.drewN n).drewN q) :=
    fun n => Equal_tabs g1 g2 k1 k2 ss1 ss2 (w.drewN n) (by have := h1.sets.len; have := h1.sets.most; omega) h1.row h2.row
  clear h1 h2
  generalize decide (ss1 = ss2) = q at HE ⊢
  by_cases he : most1 = most2
  · subst he
    go_enter Tryd.func20, Tryd.ntmps20
    go_wp2_with fail
    refine (none_some T1 most1 _ c0 hm1).mono ?_; rintro e w' ⟨rfl, rfl⟩
    go_wp2_with fail
    refine (none_some T2 most1 _ d0 hm1).mono ?_; rintro e w' ⟨rfl, rfl⟩
    go_wp2_with fail
    go_quiet ((go_at_call 38; exact Calls.quiet_of (HE.out _)))
    go_wp2
    go_ret
    exact ⟨by simp, _, rfl⟩
  · have hd : (most1 == most2) = false := by simpa using he
    have hd2 : decide (most1 = most2) = false := by simpa using he
    clear he
    go_enter Tryd.func20, Tryd.ntmps20
    go_wp2_with fail
    refine (none_some T1 most1 _ c0 hm1).mono ?_; rintro e w' ⟨rfl, rfl⟩
    go_wp2_with fail
    refine (none_some T2 most2 _ d0 hm2).mono ?_; rintro e w' ⟨rfl, rfl⟩
    go_wp2_with fail
    go_quiet (fail)
    go_wp2
    go_ret
    exact ⟨by simp [hd2], _, rfl⟩
end Go.Proofs.YtafnclkkncokpaaDoor
