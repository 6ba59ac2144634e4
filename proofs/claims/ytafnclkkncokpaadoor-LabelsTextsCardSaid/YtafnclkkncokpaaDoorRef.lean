/-
  Layer 2: what the document's own answers (package pomanderref02) give: walks.
-/
import Derived.Test.YtafnclkkncokpaaDoorRows
import Derived.Test.YtafnclkkncokpaaDoorTab
import Derived.Test.YtafnclkkncokpaaDoorNumber
import Derived.Test.YtafnclkkncokpaaDoorMake
import Derived.WalkKit
import Derived.WalkSpells
import Derived.WalkLawsBesides
import Derived.Lib.Hide
import Derived.Maps.AppendAt
import Derived.Deep.QuietTactic
import Derived.BigQuiet
import Derived.Deep.RegionHeld3
import Derived.RegionTactic
namespace Go.Proofs.YtafnclkkncokpaaDoor
open Go.RowKit
set_option maxHeartbeats 400000

theorem half_succ (a : Int) (k : Nat) : a / 2 ^ (k + 1) = a / 2 ^ k / 2 := by
  rw [Int.pow_succ, Int.ediv_ediv_of_nonneg (Int.le_of_lt (Int.pow_pos (by omega)))]
theorem half_bd {a : Int} (h : W32 a) (k : Nat) : W32 (a / 2 ^ k) := by
  unfold W32 at *
  have hp : (0 : Int) < 2 ^ k := Int.pow_pos (by omega)
  exact ⟨Int.ediv_nonneg h.1 (Int.le_of_lt hp), Int.lt_of_le_of_lt (Int.ediv_le_self _ h.1) h.2⟩
theorem RBit_any (a : Int) (ha : W32 a) (n : Nat) (hn : n ≤ 32) (w : World) :
    Calls Tryd.prog 41 #[.int .u32 a, .int .i64 (n : Int)] w fun e w' => e = .returned (.bool (bitI a n)) ∧ w = w' := by
  have HB := Lib.hid (bitI_div ha.1 n)
  go_enter Tryd.func41, Tryd.ntmps41
  go_wp2
  go_loop [0, 5] (fun x i => ∃ k : Nat, k ≤ n ∧ i = .int .i64 k ∧ x = .int .u32 (a / 2 ^ k)) (fun _ i => n - (intOf i).toNat)
  case atStart => exact ⟨0, by omega, rfl, by simp⟩
  case round =>
    obtain ⟨k, hk, rfl, rfl⟩ := hrel
    obtain ⟨h0, h1⟩ := half_bd ha k
    have HS := Lib.hid (half_succ a k)
    generalize hx : a / 2 ^ k = x at h0 h1 HS
    have HX := Lib.hid hx
    clear hx
    by_cases hlt : k < n
    · go_wp2
      go_round
      case rel => exact ⟨k + 1, by omega, by go_num, by rw [HS.out]⟩
      case measure => simp [intOf]; omega
    · go_wp2
      go_ret
      obtain rfl : k = n := by omega
      have e := HB.out
      rw [HX.out] at e
      exact ⟨by simp [e], rfl⟩
theorem pow16 (k : Nat) (hk : k ≤ 16) : (1 : Int) ≤ 2 ^ k ∧ (2 : Int) ^ k ≤ 65536 := by
  have h : (2 : Nat) ^ k ≤ 2 ^ 16 := Nat.pow_le_pow_right (by decide) hk
  have h0 : 0 < (2 : Nat) ^ k := Nat.two_pow_pos k
  have e : ((2 : Int) ^ k) = ((2 ^ k : Nat) : Int) := by simp
  rw [e]
  have h3 : (2 : Nat) ^ 16 = 65536 := rfl
  omega
theorem RJoin_any (a b : Int) (ha : S16 a) (hb : S16 b) (w : World) :
    Calls Tryd.prog 25 #[.int .u32 a, .int .u32 b] w fun e w' => e = .returned (.int .u32 (orI a b)) ∧ w = w' := by
  have HE := Lib.hid (orS_end ha hb)
  go_enter Tryd.func25, Tryd.ntmps25
  go_wp2
  go_loop [5, 6, 7] (fun x p i => ∃ k : Nat, k ≤ 16 ∧ i = .int .i64 k ∧ p = .int .u32 (2 ^ k) ∧ x = .int .u32 (orS a b k)) (fun _ _ i => 16 - (intOf i).toNat)
  case atStart => exact ⟨0, by omega, rfl, rfl, by rw [orS_zero]⟩
  case round =>
    obtain ⟨k, hk, rfl, rfl, rfl⟩ := hrel
    obtain ⟨p0, p1⟩ := pow16 k hk
    obtain ⟨s0, s1⟩ := orS_le a b k hk
    have HP : Hid ((2 : Int) ^ (k + 1) = 2 ^ k * 2) := Int.pow_succ 2 k
    have HY := Lib.hid (orS_yes a b k)
    have HN := Lib.hid (orS_no a b k)
    generalize hp : (2 : Int) ^ k = p at p0 p1 HP HY HN ⊢
    generalize hs : orS a b k = s at s0 s1 HY HN ⊢
    have HS := Lib.hid hs
    clear hp hs
    by_cases hlt : k < 16
    · have HA := fun W => Lib.hid (RBit_any a ha.w32 k (by omega) W)
      have HB := fun W => Lib.hid (RBit_any b hb.w32 k (by omega) W)
      generalize bitI a k = q1 at HA HY HN
      generalize bitI b k = q2 at HB HY HN
      have A1 := Lib.hid HA
      have B1 := Lib.hid HB
      clear HA HB
      cases q1 <;> cases q2
      all_goals
        go_wp2_with fail
        refine ((A1.out _).out).mono ?_; rintro e w' ⟨rfl, rfl⟩
        go_wp2_with fail
        first
          | (refine ((B1.out _).out).mono ?_; rintro e w' ⟨rfl, rfl⟩; go_wp2_with fail)
          | skip
        go_round
        case rel => exact ⟨k + 1, by omega, by go_num, by rw [HP.out], by first | rw [HY.out rfl] | rw [HN.out rfl]⟩
        case measure => simp [intOf]; omega
    · go_wp2
      go_ret
      obtain rfl : k = 16 := by omega
      have e : s = orI a b := by rw [← HS.out, HE.out]
      exact ⟨by simp [e], rfl⟩

/-- The document's table, by value. -/
def rtab (most : Int) (g n c : Nat) : Value := .agg #[.int .i64 most, .slice (some ⟨g, 0, none⟩) n c]
/-- Its sets lie in block g. -/
def RT (w : World) (g c : Nat) (ss : List Int) : Prop := w.ownsRow 0 35 1 (.slice (some ⟨g, 0, none⟩) ss.length c) ss.length (ss.map (Value.int .u32))
theorem RT.kept {w w' : World} {g c : Nat} {ss : List Int} {F : List Nat} (h : RT w g c ss) (t : Turned F w w') (hn : g ∉ F) : RT w' g c ss := t.row h (fun k e => by simp [Value.ownBlock] at e; subst e; exact hn)
theorem RT.below {w w' : World} {g c : Nat} {ss : List Int} (h : RT w g c ss) (hb : Below w.heap.size w w') : RT w' g c ss := h.kept (Turned.of_below hb []) (by simp)
theorem RT.at_ {w : World} {g c : Nat} {ss : List Int} (h : RT w g c ss) {k : Nat} (hk : k < ss.length) : w.cell? ⟨g, k, none⟩ = some (.int .u32 (ss[k]?.getD 0)) := row_at rfl h hk
theorem RT.lt {w : World} {g c : Nat} {ss : List Int} (h : RT w g c ss) : g < w.heap.size := (World.ownsRow.lt h g rfl).2

theorem rt_one (w : World) (x : Int) : RT (w.alloc (.cells #[.int .u32 x] 35)) w.heap.size 1 [x] :=
  ⟨rfl, .inr ⟨_, 1, _, rfl, Nat.zero_le _, heap_alloc_new w _, by simp, by unfold maxLen; omega, rfl, rfl⟩⟩

theorem RNew_any (most : Int) (w : World) :
    Calls Tryd.prog 11 #[.int .i64 most] w fun e w' => ∃ g c, e = .returned (rtab most g 1 c) ∧ RT w' g c [0] ∧ w.heap.size ≤ g ∧ Below w.heap.size w w' := by
  have h0 := rt_one (w.alloc (.cells #[.int .i64 most, .slice (some ⟨w.heap.size + 1, 0, none⟩) 1 1] 30)) 0
  rw [World.size_alloc] at h0
  have H := Lib.hid h0
  clear h0
  go_enter Tryd.func11, Tryd.ntmps11
  go_wp2
  refine bodyPost_ret (v := rtab most (w.heap.size + 1) 1 1) (by simp [results, Tryd.results11, go_sem, rtab]) rfl ?_
  exact ⟨w.heap.size + 1, 1, rfl, H.out, by omega, ((Below.refl _ _).alloc (Nat.le_refl _) _).alloc (by simp) _⟩

/-- A box of a table, by value. -/
theorem box_rtab (w : World) (x y : Value) (t : TypeId) : (w.alloc (.cells #[x, y] t)).cell? ⟨w.heap.size, 0, none⟩ = some x ∧ (w.alloc (.cells #[x, y] t)).cell? ⟨w.heap.size, 1, none⟩ = some y := by
  have h := heap_alloc_new w (.cells #[x, y] t)
  exact ⟨by rw [cell_of_row _ _ 0 _ _ _ h]; rfl, by rw [cell_of_row _ _ 1 _ _ _ h]; rfl⟩

/-- The number that Has of the document gives. -/
def rhas (ss : List Int) (x : Int) : Int := if x ∈ ss then (pos ss x : Int) else -1
theorem RHas_any (most : Int) (g c : Nat) (ss : List Int) (hl : ss.length ≤ 65536) (x : Int) (w : World) (h : RT w g c ss) :
    Calls Tryd.prog 30 #[rtab most g ss.length c, .int .u32 x] w fun e w' => e = .returned (.int .i64 (rhas ss x)) ∧ Below w.heap.size w w' := by
  have B0 : Below w.heap.size w (w.alloc (.cells #[.int .i64 most, .slice (some ⟨g, 0, none⟩) ss.length c] 30)) := (Below.refl _ _).alloc (Nat.le_refl _) _
  have h1 := h.below B0
  obtain ⟨p0, p1⟩ := box_rtab w (.int .i64 most) (.slice (some ⟨g, 0, none⟩) ss.length c) 30
  have hcap := row_cap h1
  have HR := Lib.hid h1
  clear h h1
  unfold rtab
  go_enter Tryd.func30, Tryd.ntmps30
  go_wp2
  generalize w.alloc (.cells #[.int .i64 most, .slice (some ⟨g, 0, none⟩) ss.length c] 30) = w0 at B0 p0 p1 HR ⊢
  go_loop [5] (fun i => ∃ k : Nat, k ≤ ss.length ∧ i = .int .i64 k ∧ Hid (∀ j, j < k → ss[j]? ≠ some x)) (fun i => ss.length - (intOf i).toNat)
  case atStart => exact ⟨0, by omega, rfl, fun j hj => by omega⟩
  case round =>
    obtain ⟨k, hk, rfl, hE⟩ := hrel
    by_cases hlt : k < ss.length
    · have m1 := HR.out.at_ hlt
      generalize hx : ss[k]?.getD 0 = y at m1
      have HX := Lib.hid hx
      clear hx
      by_cases he : y = x
      · subst he
        go_wp2
        go_ret
        have e : ss[k]? = some y := by
          have := HX.out
          rw [List.getElem?_eq_getElem hlt] at this ⊢
          simpa using this
        have hm : y ∈ ss := List.mem_of_getElem? e
        have hp : pos ss y = k := by
          rcases Nat.lt_trichotomy (pos ss y) k with h1 | h1 | h1
          · exact absurd (pos_get hm) (hE.out _ h1)
          · exact h1
          · exact absurd e (pos_first h1)
        exact ⟨by simp [rhas, hm, hp], B0⟩
      · have t1 : (y == x) = false := by simp [he]
        have HE := Lib.hid he
        clear he
        go_wp2
        go_round
        case rel =>
          refine ⟨k + 1, by omega, by go_num, fun j hj => ?_⟩
          by_cases hjk : j = k
          · subst hjk
            intro e
            have := HX.out
            rw [e] at this
            exact HE.out (by simpa using this.symm)
          · exact hE.out j (by omega)
        case measure => simp [intOf]; omega
    · go_wp2
      go_ret
      obtain rfl : k = ss.length := by omega
      have hm : x ∉ ss := fun hm => hE.out (pos ss x) (pos_lt hm) (pos_get hm)
      exact ⟨by simp [rhas, hm], B0⟩

/-- What Keep (and Joined) of the document leave. -/
def RKept (w w' : World) (e : Ending) (most : Int) (g : Nat) (R : List Int × Int × Int) : Prop :=
  ∃ g' c', e = .returned (.tuple #[rtab most g' R.1.length c', .int .i64 R.2.1, .int .i64 R.2.2]) ∧ RT w' g' c' R.1 ∧ (g' = g ∨ w.heap.size ≤ g') ∧ Below w.heap.size w w'

theorem RKept.drew {w w' : World} {e : Ending} {most : Int} {g : Nat} {R : List Int × Int × Int} (h : RKept w w' e most g R) : RKept w w'.drew e most g R := by
  obtain ⟨g', c', he, hr, hg, hb⟩ := h
  exact ⟨g', c', he, hr, hg, hb.drew⟩
theorem rhas_yes {ss : List Int} {x : Int} (h : x ∈ ss) : rhas ss x = (pos ss x : Int) := by unfold rhas; rw [if_pos h]
theorem rhas_no {ss : List Int} {x : Int} (h : x ∉ ss) : rhas ss x = -1 := by unfold rhas; rw [if_neg h]

set_option maxRecDepth 100000 in
theorem RKeep_big (most : Int) (g c : Nat) (ss : List Int) (x : Int) (hx : 65536 ≤ x) (w : World) (h : RT w g c ss) :
    Calls Tryd.prog 28 #[rtab most g ss.length c, .int .u32 x] w fun e w' => RKept w w' e most g (ss, 0, 2) := by
  have HR := Lib.hid h
  clear h
  unfold rtab
  go_enter Tryd.func28, Tryd.ntmps28
  go_wp2
  refine bodyPost_ret (v := .tuple #[rtab most g ss.length c, .int .i64 0, .int .i64 2]) (by simp [results, Tryd.results28, go_sem, rtab]) rfl ?_
  have B : Below w.heap.size w ((w.alloc (.cells #[.int .i64 most, .slice (some ⟨g, 0, none⟩) ss.length c] 30)).alloc (.cells #[.int .i64 most, .slice (some ⟨g, 0, none⟩) ss.length c] 30)) := ((Below.refl _ _).alloc (Nat.le_refl _) _).alloc (by simp) _
  exact ⟨g, c, rfl, HR.out.below B, .inl rfl, B⟩

theorem two_boxes (w : World) (x y u v : Value) (t : TypeId) :
    ((w.alloc (.cells #[x, y] t)).alloc (.cells #[u, v] t)).heap[w.heap.size]? = some (.cells #[x, y] t (0, 0)) ∧ ((w.alloc (.cells #[x, y] t)).alloc (.cells #[u, v] t)).heap[w.heap.size + 1]? = some (.cells #[u, v] t (0, 0)) := by
  refine ⟨?_, ?_⟩
  · rw [Below.heap_alloc _ _ _ (by simp)]; exact heap_alloc_new w _
  · have := heap_alloc_new (w.alloc (.cells #[x, y] t)) (.cells #[u, v] t)
    rwa [World.size_alloc] at this
theorem blk_cells {w : World} {b : Nat} {x y : Value} {t : TypeId} (h : w.heap[b]? = some (.cells #[x, y] t (0, 0))) :
    w.cell? ⟨b, 0, none⟩ = some x ∧ w.cell? ⟨b, 1, none⟩ = some y ∧ w.frozen? ⟨b, 0, none⟩ = false ∧ w.frozen? ⟨b, 1, none⟩ = false :=
  ⟨by rw [cell_of_row _ _ 0 _ _ _ h]; rfl, by rw [cell_of_row _ _ 1 _ _ _ h]; rfl, by simp [World.frozen?, h], by simp [World.frozen?, h]⟩
theorem blk_set2 {w : World} {b : Nat} {x y u v : Value} {t : TypeId} (h : w.heap[b]? = some (.cells #[x, y] t (0, 0))) :
    ((w.setCell ⟨b, 0, none⟩ u).setCell ⟨b, 1, none⟩ v).heap[b]? = some (.cells #[u, v] t (0, 0)) := by
  simp [World.setCell, Array.getElem?_modify, h]
theorem blk_set1 {w : World} {b : Nat} {x y v : Value} {t : TypeId} (h : w.heap[b]? = some (.cells #[x, y] t (0, 0))) : (w.setCell ⟨b, 1, none⟩ v).heap[b]? = some (.cells #[x, v] t (0, 0)) := by
  simp [World.setCell, Array.getElem?_modify, h]
theorem blk_far {w : World} {b c : Nat} {o : Obj} (h : w.heap[b]? = some o) (hne : b ≠ c) (k : Nat) (u : Value) : (w.setCell ⟨c, k, none⟩ u).heap[b]? = some o :=
  (Below.heap_setCell _ _ _ _ hne).trans h

/-- The answer laid into the box of the result. -/
theorem rk_end {w w1 : World} {most : Int} {g g0 c : Nat} {ss : List Int} {n e : Int} {u v : Value} (h : RT w1 g c ss) (hb : Below w.heap.size w w1) (hg : g = g0 ∨ w.heap.size ≤ g) (hne : g ≠ w.heap.size + 1) :
    RKept w ((w1.setCell ⟨w.heap.size + 1, 0, none⟩ u).setCell ⟨w.heap.size + 1, 1, none⟩ v) (.returned (.tuple #[rtab most g ss.length c, .int .i64 n, .int .i64 e])) most g0 (ss, n, e) := by
  refine ⟨g, c, rfl, ?_, hg, (hb.setCell (p := ⟨w.heap.size + 1, 0, none⟩) (by simp) _).setCell (p := ⟨w.heap.size + 1, 1, none⟩) (by simp) _⟩
  exact h.kept (F := [w.heap.size + 1]) (((Turned.refl _ w1).setCell (p := ⟨w.heap.size + 1, 0, none⟩) (.inl (by simp)) _).setCell (p := ⟨w.heap.size + 1, 1, none⟩) (.inl (by simp)) _) (by simpa using hne)

set_option maxRecDepth 100000 in
theorem RKeep_old (most : Int) (g c : Nat) (ss : List Int) (hl : ss.length ≤ 65536) (x : Int) (hx : S16 x) (hm : x ∈ ss) (w : World) (h : RT w g c ss) :
    Calls Tryd.prog 28 #[rtab most g ss.length c, .int .u32 x] w fun e w' => RKept w w' e most g (ss, (pos ss x : Int), 0) := by
  have B : Below w.heap.size w ((w.alloc (.cells #[.int .i64 most, .slice (some ⟨g, 0, none⟩) ss.length c] 30)).alloc (.cells #[.int .i64 0, .slice none 0 0] 30)) := ((Below.refl _ _).alloc (Nat.le_refl _) _).alloc (by simp) _
  obtain ⟨b0, b1⟩ := two_boxes w (.int .i64 most) (.slice (some ⟨g, 0, none⟩) ss.length c) (.int .i64 0) (.slice none 0 0) 30
  have hsz : ((w.alloc (.cells #[.int .i64 most, .slice (some ⟨g, 0, none⟩) ss.length c] 30)).alloc (.cells #[.int .i64 0, .slice none 0 0] 30)).heap.size = w.heap.size + 2 := by simp
  have HC := Lib.hid (RHas_any most g c ss hl x _ (h.below B))
  rw [rhas_yes hm] at HC
  have HR := Lib.hid (h.below B)
  have hp := pos_le ss x
  obtain ⟨hx0, hx1⟩ := hx
  have hg : g ≠ w.heap.size + 1 := by have := h.lt; omega
  clear h hm
  unfold rtab at HC ⊢
  go_enter Tryd.func28, Tryd.ntmps28
  go_wp2_with fail
  generalize (w.alloc (.cells #[.int .i64 most, .slice (some ⟨g, 0, none⟩) ss.length c] 30)).alloc (.cells #[.int .i64 0, .slice none 0 0] 30) = w0 at B b0 b1 HC HR hsz ⊢
  refine HC.out.mono ?_
  rintro e w1 ⟨rfl, hb⟩
  have HB := Lib.hid (B.trans (hb.mono (by omega)))
  have HR1 := Lib.hid (HR.out.below hb)
  have b0' := (hb.block w.heap.size (by omega)).trans b0
  have b1' := (hb.block (w.heap.size + 1) (by omega)).trans b1
  obtain ⟨p0, p1, _, _⟩ := blk_cells b0'
  obtain ⟨q0, q1, q2, q3⟩ := blk_cells b1'
  have HS := Lib.hid (blk_set2 (u := .int .i64 most) (v := .slice (some ⟨g, 0, none⟩) ss.length c) b1')
  have HG := Lib.hid hg
  clear b0 b1 b0' b1' hsz B HC HR hb hg
  go_wp2_with fail
  obtain ⟨s0, s1, _, _⟩ := blk_cells HS.out
  refine bodyPost_ret (v := .tuple #[rtab most g ss.length c, .int .i64 (pos ss x : Int), .int .i64 0]) (by simp [results, Tryd.results28, go_sem, rtab, s0, s1]) rfl ?_
  exact rk_end HR1.out HB.out (.inl rfl) HG.out

set_option maxRecDepth 100000 in
theorem RKeep_full (most : Int) (g c : Nat) (ss : List Int) (hl : ss.length ≤ 65536) (x : Int) (hx : S16 x) (hm : x ∉ ss) (hf : most ≤ (ss.length : Int)) (w : World) (h : RT w g c ss) :
    Calls Tryd.prog 28 #[rtab most g ss.length c, .int .u32 x] w fun e w' => RKept w w' e most g (ss, 0, 120) := by
  have B : Below w.heap.size w ((w.alloc (.cells #[.int .i64 most, .slice (some ⟨g, 0, none⟩) ss.length c] 30)).alloc (.cells #[.int .i64 0, .slice none 0 0] 30)) := ((Below.refl _ _).alloc (Nat.le_refl _) _).alloc (by simp) _
  obtain ⟨b0, b1⟩ := two_boxes w (.int .i64 most) (.slice (some ⟨g, 0, none⟩) ss.length c) (.int .i64 0) (.slice none 0 0) 30
  have hsz : ((w.alloc (.cells #[.int .i64 most, .slice (some ⟨g, 0, none⟩) ss.length c] 30)).alloc (.cells #[.int .i64 0, .slice none 0 0] 30)).heap.size = w.heap.size + 2 := by simp
  have HC := Lib.hid (RHas_any most g c ss hl x _ (h.below B))
  rw [rhas_no hm] at HC
  have HR := Lib.hid (h.below B)
  obtain ⟨hx0, hx1⟩ := hx
  have hg : g ≠ w.heap.size + 1 := by have := h.lt; omega
  clear h hm
  unfold rtab at HC ⊢
  go_enter Tryd.func28, Tryd.ntmps28
  go_wp2_with fail
  generalize (w.alloc (.cells #[.int .i64 most, .slice (some ⟨g, 0, none⟩) ss.length c] 30)).alloc (.cells #[.int .i64 0, .slice none 0 0] 30) = w0 at B b0 b1 HC HR hsz ⊢
  refine HC.out.mono ?_
  rintro e w1 ⟨rfl, hb⟩
  have HB := Lib.hid (B.trans (hb.mono (by omega)))
  have HR1 := Lib.hid (HR.out.below hb)
  have b0' := (hb.block w.heap.size (by omega)).trans b0
  have b1' := (hb.block (w.heap.size + 1) (by omega)).trans b1
  obtain ⟨p0, p1, _, _⟩ := blk_cells b0'
  obtain ⟨q0, q1, q2, q3⟩ := blk_cells b1'
  have HS := Lib.hid (blk_set2 (u := .int .i64 most) (v := .slice (some ⟨g, 0, none⟩) ss.length c) b1')
  have HG := Lib.hid hg
  clear b0 b1 b0' b1' hsz B HC HR hb hg
  go_wp2_with fail
  obtain ⟨s0, s1, _, _⟩ := blk_cells HS.out
  refine bodyPost_ret (v := .tuple #[rtab most g ss.length c, .int .i64 0, .int .i64 120]) (by simp [results, Tryd.results28, go_sem, rtab, s0, s1]) rfl ?_
  exact rk_end HR1.out HB.out (.inl rfl) HG.out

set_option maxRecDepth 100000 in
theorem RKeep_new (most : Int) (g c : Nat) (ss : List Int) (hl : ss.length ≤ 65536) (x : Int) (hx : S16 x) (hm : x ∉ ss) (hf : (ss.length : Int) < most) (h0 : 0 < ss.length) (w : World) (h : RT w g c ss) :
    Calls Tryd.prog 28 #[rtab most g ss.length c, .int .u32 x] w fun e w' => RKept w w' e most g (ss ++ [x], (ss.length : Int), 0) := by
  have B : Below w.heap.size w ((w.alloc (.cells #[.int .i64 most, .slice (some ⟨g, 0, none⟩) ss.length c] 30)).alloc (.cells #[.int .i64 0, .slice none 0 0] 30)) := ((Below.refl _ _).alloc (Nat.le_refl _) _).alloc (by simp) _
  obtain ⟨b0, b1⟩ := two_boxes w (.int .i64 most) (.slice (some ⟨g, 0, none⟩) ss.length c) (.int .i64 0) (.slice none 0 0) 30
  have hsz : ((w.alloc (.cells #[.int .i64 most, .slice (some ⟨g, 0, none⟩) ss.length c] 30)).alloc (.cells #[.int .i64 0, .slice none 0 0] 30)).heap.size = w.heap.size + 2 := by simp
  have HC := Lib.hid (RHas_any most g c ss hl x _ (h.below B))
  rw [rhas_no hm] at HC
  have HR := Lib.hid (h.below B)
  obtain ⟨i0, hi, hz0, hz1, hz2⟩ := info_parts A.infoE
  obtain ⟨hx0, hx1⟩ := hx
  have hg : g ≠ w.heap.size + 1 := by have := h.lt; omega
  clear h hm
  unfold rtab at HC ⊢
  go_enter Tryd.func28, Tryd.ntmps28
  go_wp2_with fail
  generalize (w.alloc (.cells #[.int .i64 most, .slice (some ⟨g, 0, none⟩) ss.length c] 30)).alloc (.cells #[.int .i64 0, .slice none 0 0] 30) = w0 at B b0 b1 HC HR hsz ⊢
  refine HC.out.mono ?_
  rintro e w1 ⟨rfl, hb⟩
  have HB := Lib.hid (B.trans (hb.mono (by omega)))
  have HR1 := Lib.hid (HR.out.below hb)
  have b0' := (hb.block w.heap.size (by omega)).trans b0
  have b1' := (hb.block (w.heap.size + 1) (by omega)).trans b1
  obtain ⟨p0, p1, _, _⟩ := blk_cells b0'
  obtain ⟨q0, q1, q2, q3⟩ := blk_cells b1'
  have HG := Lib.hid hg
  have HB0 := Lib.hid b0'
  have HB1 := Lib.hid b1'
  have hs1 : w.heap.size + 2 ≤ w1.heap.size := by have := hb.size; omega
  clear b0 b1 b0' b1' hsz B HC HR hb hg
  have hrow := HR1.out
  have hcs := World.ownsRow.cells (g := g) hrow rfl
  have HCS := Lib.hid hcs
  clear hrow hcs
  go_wp2_with (at_builtin; refine wpList_append_own_at _ rfl (.const (.slice none 0 0)) (.tmp 26) 28 rfl 0 35 i0 (.int .u32 0) 1 4 Tryd.underlying28 hi hz0 hz1 hz2 rfl (by decide) _ _ _ rfl (World.ownsRow_nil _ _ _ _) ⟨g, 0, none⟩ ss.length c (ss.map (Value.int .u32)) rfl (by simp) HCS.out (ints_one .u32 ss) (by unfold maxLen; omega) (by omega) (by simp) ?_)
  intro v2 w2 hown2 hgrow2 _ hloc2
  obtain ⟨g2, c2, rfl⟩ : ∃ g2 c2, v2 = .slice (some ⟨g2, 0, none⟩) ss.length c2 := by
    rcases hown2.2 with ⟨_, hz⟩ | ⟨g', cap, cur, hv, _⟩
    · omega
    · exact ⟨g', cap, by simpa using hv⟩
  have hR2 : RT w2 g2 c2 ss := by simpa [RT] using hown2
  have hg2 : g2 = w1.heap.size := by simpa [Value.ownBlock] using hloc2
  have hb2 : Below w1.heap.size w1 w2 := ⟨hgrow2.os, hgrow2.tape, hgrow2.output, hgrow2.size, fun k hk => hgrow2.block k hk (by simp [Value.ownBlock])⟩
  have hs2 := hb2.size
  have d0 := (hb2.block w.heap.size (by omega)).trans HB0.out
  have d1 := (hb2.block (w.heap.size + 1) (by omega)).trans HB1.out
  have HB2 := Lib.hid (HB.out.trans (hb2.mono HB.out.size))
  have hR2' := hR2
  unfold RT at hR2'
  clear hown2 hgrow2 hloc2 HB HR1 HCS hb2 hR2 p0 p1 q0 q1 q2 q3
  have HD0 := Lib.hid d0
  have HD1 := Lib.hid d1
  obtain ⟨p0, p1, p2, p3⟩ := blk_cells d0
  obtain ⟨q0, q1, q2, q3⟩ := blk_cells d1
  clear d0 d1
  have HG2 := Lib.hid hg2
  clear hg2
  go_wp2_with (at_builtin; refine wpList_append_own_at _ rfl (.tmp 27) (.tmp 29) 28 rfl 0 35 i0 (.int .u32 0) 1 4 Tryd.underlying28 hi hz0 hz1 hz2 rfl (by decide) _ _ _ rfl (hR2'.alloc _) ⟨w2.heap.size, 0, none⟩ 1 1 [.int .u32 x] rfl rfl (cell_one_new _ _ _) (ints_one .u32 [x]) (by unfold maxLen; omega) (by omega) (by simp) ?_)
  intro v3 w3 hown3 hgrow3 _ hloc3
  obtain ⟨g3, c3, rfl⟩ := row_head hown3
  simp only [Value.ownBlock, Option.some.injEq] at hloc3 hgrow3
  have t3 : Turned [g2] w2 w3 := ((Turned.refl [g2] w2).alloc _).trans (Turned.of_grown (F := [g2]) hgrow3 (fun k e => by cases e; simp)) (fun k hk => .inl hk)
  have e0 := t3.keep HD0.out (by have := HG2.out; simp; omega)
  have e1 := t3.keep HD1.out (by have := HG2.out; simp; omega)
  have HB3 := Lib.hid (HB2.out.trans ((t3.below (B := w.heap.size) HB2.out.size (by have := HG2.out; simp; omega))))
  have hR3 : RT w3 g3 c3 (ss ++ [x]) := by simpa [RT] using hown3
  have hg3 : w.heap.size + 2 ≤ g3 := by have := HG2.out; omega
  have HR3 := Lib.hid hR3
  have HE0 := Lib.hid e0
  have HE1 := Lib.hid e1
  clear hown3 hgrow3 hloc3 hR2' t3 p0 p1 p2 p3 q0 q1 q2 q3 hR3
  obtain ⟨p0, p1, p2, p3⟩ := blk_cells e0
  obtain ⟨q0, q1, q2, q3⟩ := blk_cells e1
  clear e0 e1 hi hz0 hz1 hz2
  go_wp2_with fail
  have f0 := blk_set1 (v := .slice (some ⟨g3, 0, none⟩) (ss.length + 1) c3) HE0.out
  have f1 := blk_far HE1.out (show w.heap.size + 1 ≠ w.heap.size by omega) 1 (.slice (some ⟨g3, 0, none⟩) (ss.length + 1) c3)
  have HR4 := Lib.hid (HR3.out.kept (F := [w.heap.size]) ((Turned.refl _ w3).setCell (p := ⟨w.heap.size, 1, none⟩) (.inl (by simp)) (.slice (some ⟨g3, 0, none⟩) (ss.length + 1) c3)) (by simp; omega))
  have HB4 := Lib.hid (HB3.out.setCell (p := ⟨w.heap.size, 1, none⟩) (Nat.le_refl _) (.slice (some ⟨g3, 0, none⟩) (ss.length + 1) c3))
  clear p0 p1 p2 p3 q0 q1 q2 q3
  generalize w3.setCell ⟨w.heap.size, 1, none⟩ (.slice (some ⟨g3, 0, none⟩) (ss.length + 1) c3) = w4 at f0 f1 HR4 HB4 ⊢
  obtain ⟨p0, p1, p2, p3⟩ := blk_cells f0
  obtain ⟨q0, q1, q2, q3⟩ := blk_cells f1
  have HF1 := Lib.hid f1
  clear f0 f1
  have w1' : IntKind.i64.wrap (((ss.length + 1 : Nat) : Int) - 1) = (ss.length : Int) := by rw [IntKind.wrap_i64]; omega
  have w2' : IntKind.i64.wrap ((ss.length : Int) + 1 - 1) = (ss.length : Int) := by rw [IntKind.wrap_i64]; omega
  go_region
  all_goals go_wp2_with fail
  have s := blk_set2 (u := .int .i64 most) (v := .slice (some ⟨g3, 0, none⟩) (ss.length + 1) c3) HF1.out
  obtain ⟨s0, s1, _, _⟩ := blk_cells s
  have e := rk_end (most := most) (g0 := g) (n := (ss.length : Int)) (e := 0) (u := .int .i64 most) (v := .slice (some ⟨g3, 0, none⟩) (ss.length + 1) c3) HR4.out HB4.out (.inr (by omega)) (by omega)
  rw [List.length_append, List.length_singleton] at e
  refine bodyPost_ret (v := .tuple #[rtab most g3 (ss.length + 1) c3, .int .i64 (ss.length : Int), .int .i64 0]) (by simp [results, Tryd.results28, go_sem, rtab, s0, s1]) rfl ?_
  exact e.drew

theorem RKeep_any (most : Int) (g c : Nat) (ss : List Int) (hs : Sets most ss) (x : Int) (hx : W32 x) (w : World) (h : RT w g c ss) :
    Calls Tryd.prog 28 #[rtab most g ss.length c, .int .u32 x] w fun e w' => RKept w w' e most g (keepR most ss x) := by
  have hl : ss.length ≤ 65536 := by have := hs.len; have := hs.most; omega
  by_cases hb : 65536 ≤ x
  · rw [keepR_big hb]; exact RKeep_big most g c ss x hb w h
  · have hx' : S16 x := ⟨hx.1, by omega⟩
    by_cases hm : x ∈ ss
    · rw [keepR_old hx'.2 hm]; exact RKeep_old most g c ss hl x hx' hm w h
    · by_cases hf : most ≤ (ss.length : Int)
      · rw [keepR_full hx'.2 hm hf]; exact RKeep_full most g c ss hl x hx' hm hf w h
      · rw [keepR_new hx'.2 hm (by omega)]; exact RKeep_new most g c ss hl x hx' hm (by omega) hs.pos w h

set_option maxRecDepth 100000 in
theorem RJoined_none (most : Int) (g c : Nat) (ss : List Int) (a b : Int) (hab : a < 0 ∨ (ss.length : Int) ≤ a ∨ b < 0 ∨ (ss.length : Int) ≤ b) (w : World) (h : RT w g c ss) :
    Calls Tryd.prog 29 #[rtab most g ss.length c, .int .i64 a, .int .i64 b] w fun e w' => RKept w w' e most g (ss, 0, 5) := by
  have HR := Lib.hid h
  have HAB := Lib.hid hab
  clear h hab
  unfold rtab
  go_enter Tryd.func29, Tryd.ntmps29
  go_wp2_with fail
  all_goals first
    | (exfalso; have := HAB.out; omega)
    | (refine bodyPost_ret (v := .tuple #[rtab most g ss.length c, .int .i64 0, .int .i64 5]) (by simp [results, Tryd.results29, go_sem, rtab]) rfl ?_
       have B : Below w.heap.size w ((w.alloc (.cells #[.int .i64 most, .slice (some ⟨g, 0, none⟩) ss.length c] 30)).alloc (.cells #[.int .i64 most, .slice (some ⟨g, 0, none⟩) ss.length c] 30)) := ((Below.refl _ _).alloc (Nat.le_refl _) _).alloc (by simp) _
       exact ⟨g, c, rfl, HR.out.below B, .inl rfl, B⟩)
end Go.Proofs.YtafnclkkncokpaaDoor
