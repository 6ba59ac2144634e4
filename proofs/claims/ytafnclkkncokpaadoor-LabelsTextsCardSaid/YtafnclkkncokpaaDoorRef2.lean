/-
  Layer 2: Joined of the document's table: a walk.
-/
import Derived.Test.YtafnclkkncokpaaDoorRef
namespace Go.Proofs.YtafnclkkncokpaaDoor
open Go.RowKit
set_option maxHeartbeats 400000

theorem cell_set2_far {w : World} {c : Nat} {p : Addr} (hne : c ≠ p.block) (u v : Value) : ((w.setCell ⟨c, 0, none⟩ u).setCell ⟨c, 1, none⟩ v).cell? p = w.cell? p := by
  rw [World.cell?_setCell_far _ _ _ _ hne, World.cell?_setCell_far _ _ _ _ hne]
/-- The facts of the region of Joined, behind what leaves old blocks alone. -/
theorem joined_keep {W W1 : World} {B g i j : Nat} {v0 v1 u0 u1 : Value} (hb : Below W.heap.size W W1) (h0 : W.cell? ⟨B, 0, none⟩ = some v0) (h1 : W.cell? ⟨B, 1, none⟩ = some v1) (h2 : W.cell? ⟨g, i, none⟩ = some u0) (h3 : W.cell? ⟨g, j, none⟩ = some u1) :
    W1.cell? ⟨B, 0, none⟩ = some v0 ∧ W1.cell? ⟨B, 1, none⟩ = some v1 ∧ W1.cell? ⟨g, i, none⟩ = some u0 ∧ W1.cell? ⟨g, j, none⟩ = some u1 := by
  have k := fun (p : Addr) (v : Value) (h : W.cell? p = some v) => (hb.cell (p := p) (World.block_lt_of_cell? _ _ h)).trans h
  exact ⟨k _ _ h0, k _ _ h1, k _ _ h2, k _ _ h3⟩

set_option maxRecDepth 100000 in
set_option maxHeartbeats 1000000 in
theorem RJoined_some (most : Int) (g c : Nat) (ss : List Int) (hs : Sets most ss) (i j : Nat) (hi : i < ss.length) (hj : j < ss.length) (w : World) (h : RT w g c ss) :
    Calls Tryd.prog 29 #[rtab most g ss.length c, .int .i64 (i : Int), .int .i64 (j : Int)] w fun e w' => RKept w w' e most g (keepR most ss (orI (ss[i]?.getD 0) (ss[j]?.getD 0))) := by
  have B : Below w.heap.size w ((w.alloc (.cells #[.int .i64 most, .slice (some ⟨g, 0, none⟩) ss.length c] 30)).alloc (.cells #[.int .i64 0, .slice none 0 0] 30)) := ((Below.refl _ _).alloc (Nat.le_refl _) _).alloc (by simp) _
  obtain ⟨b0, b1⟩ := two_boxes w (.int .i64 most) (.slice (some ⟨g, 0, none⟩) ss.length c) (.int .i64 0) (.slice none 0 0) 30
  have hsz : ((w.alloc (.cells #[.int .i64 most, .slice (some ⟨g, 0, none⟩) ss.length c] 30)).alloc (.cells #[.int .i64 0, .slice none 0 0] 30)).heap.size = w.heap.size + 2 := by simp
  have hg : w.heap.size + 1 ≠ g := by have := h.lt; omega
  have hcap := row_cap h
  have hR := h.below B
  have s1 := hR.at_ hi
  have s2 := hR.at_ hj
  have x1s := hs.at_ hi
  have x2s := hs.at_ hj
  have hx := orI_s16 x1s x2s
  have HJ := fun W => Lib.hid (RJoin_any (ss[i]?.getD 0) (ss[j]?.getD 0) x1s x2s W)
  have HK := fun W (hW : RT W g c ss) => Lib.hid (RKeep_any most g c ss hs (orI (ss[i]?.getD 0) (ss[j]?.getD 0)) hx.w32 W hW)
  generalize ss[i]?.getD 0 = x1 at s1 HJ HK ⊢
  generalize ss[j]?.getD 0 = x2 at s2 HJ HK ⊢
  generalize keepR most ss (orI x1 x2) = R at HK ⊢
  generalize orI x1 x2 = x at HJ HK
  have HJ' := Lib.hid HJ
  have HK' := Lib.hid HK
  have HR := Lib.hid hR
  have HS := Lib.hid hs
  clear h hR HJ HK hs x1s x2s hx
  unfold rtab at HK' ⊢
  go_enter Tryd.func29, Tryd.ntmps29
  go_wp2_with fail
  generalize (w.alloc (.cells #[.int .i64 most, .slice (some ⟨g, 0, none⟩) ss.length c] 30)).alloc (.cells #[.int .i64 0, .slice none 0 0] 30) = w0 at B b0 b1 HR hsz s1 s2 ⊢
  obtain ⟨p0, p1, _, _⟩ := blk_cells b0
  have HB1 := Lib.hid b1
  have HB := Lib.hid B
  have HZ := Lib.hid hsz
  have HRd : Hid (RT w0.drew g c ss) := HR.out
  have H0 : w0.drew.cell? ⟨w.heap.size, 0, none⟩ = some (.int .i64 most) ∧ w0.drew.cell? ⟨w.heap.size, 1, none⟩ = some (.slice (some ⟨g, 0, none⟩) ss.length c) ∧ w0.drew.cell? ⟨g, i, none⟩ = some (.int .u32 x1) ∧ w0.drew.cell? ⟨g, j, none⟩ = some (.int .u32 x2) := ⟨p0, p1, s1, s2⟩
  clear b0 b1 B HR hsz
  go_region_held3 (fun W => W.cell? ⟨w.heap.size, 0, none⟩ = some (.int .i64 most) ∧ W.cell? ⟨w.heap.size, 1, none⟩ = some (.slice (some ⟨g, 0, none⟩) ss.length c) ∧ W.cell? ⟨g, i, none⟩ = some (.int .u32 x1) ∧ W.cell? ⟨g, j, none⟩ = some (.int .u32 x2))
    (first
      | exact H0
      | (go_split_ands; exact joined_keep (by assumption) (by assumption) (by assumption) (by assumption) (by assumption))
      | (go_split_ands; simp only [cell_set2_far (p := ⟨w.heap.size, 0, none⟩) (show w.heap.size + 1 ≠ w.heap.size by omega), cell_set2_far (p := ⟨w.heap.size, 1, none⟩) (show w.heap.size + 1 ≠ w.heap.size by omega), cell_set2_far (p := ⟨g, i, none⟩) hg, cell_set2_far (p := ⟨g, j, none⟩) hg]; refine ⟨?_, ?_, ?_, ?_⟩ <;> assumption))
    (first
      | (go_at_call 25; refine ((HJ'.out _).out).mono ?_; rintro e w1 ⟨rfl, rfl⟩)
      | (go_at_call 28; refine ((HK'.out _ HRd.out).out).mono ?_; rintro e w2 ⟨g', c', rfl, hr, hg', hb⟩; simp only [rtab]; have b1' := (hb.block (w.heap.size + 1) (by have := HZ.out; simp; omega)).trans HB1.out; obtain ⟨q0, q1, q2, q3⟩ := blk_cells b1'; have HB1' := Lib.hid b1'; clear b1'))
  all_goals go_wp2_with fail
  have hz := HZ.out
  have hz2 : w0.drew.heap.size = w.heap.size + 2 := HZ.out
  have hB2 : Below w.heap.size w w2 := HB.out.drew.trans (hb.mono (by omega))
  have s := blk_set2 (u := .int .i64 most) (v := .slice (some ⟨g', 0, none⟩) R.1.length c') HB1'.out
  obtain ⟨t0, t1, _, _⟩ := blk_cells s
  have e := rk_end (most := most) (g0 := g) (n := R.2.1) (e := R.2.2) (u := .int .i64 most) (v := .slice (some ⟨g', 0, none⟩) R.1.length c') hr hB2 (hg'.imp id (fun h => by omega)) (by rcases hg' with rfl | h <;> omega)
  refine bodyPost_ret (v := .tuple #[rtab most g' R.1.length c', .int .i64 R.2.1, .int .i64 R.2.2]) (by simp [results, Tryd.results29, go_sem, rtab, t0, t1]) rfl ?_
  exact e

theorem RJoined_any (most : Int) (g c : Nat) (ss : List Int) (hs : Sets most ss) (a b : Int) (w : World) (h : RT w g c ss) :
    Calls Tryd.prog 29 #[rtab most g ss.length c, .int .i64 a, .int .i64 b] w fun e w' => RKept w w' e most g (joinR most ss a b) := by
  by_cases hab : a < 0 ∨ (ss.length : Int) ≤ a ∨ b < 0 ∨ (ss.length : Int) ≤ b
  · rw [joinR_none hab]; exact RJoined_none most g c ss a b hab w h
  · obtain ⟨i, rfl⟩ := Int.eq_ofNat_of_zero_le (show 0 ≤ a by omega)
    obtain ⟨j, rfl⟩ := Int.eq_ofNat_of_zero_le (show 0 ≤ b by omega)
    rw [joinR_some (by omega) (by omega)]
    exact RJoined_some most g c ss hs i j (by omega) (by omega) w h
end Go.Proofs.YtafnclkkncokpaaDoor
