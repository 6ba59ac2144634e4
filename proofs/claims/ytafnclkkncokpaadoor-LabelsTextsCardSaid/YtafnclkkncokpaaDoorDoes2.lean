/-
  Layer 2: the law's function does: Set and Has.
-/
import Derived.Test.YtafnclkkncokpaaDoorDoes
namespace Go.Proofs.YtafnclkkncokpaaDoor
open Go.RowKit
set_option maxHeartbeats 1000000

set_option maxRecDepth 100000 in
theorem does4 (T : Nat) (most : Int) (ss : List Int) (m : Nat) (F : List Nat) (mo : Int) (g c : Nat) (ss2 : List Int) (hs2 : Sets mo ss2) (s : Step4) (hx : W32 s.x) (hk1 : s.k ≠ 1) (hk2 : s.k ≠ 2) (hk3 : s.k ≠ 3) (w : World) (h : Tab w T most ss m F) (hr : RT w g c ss2) (hg : g ∉ F) :
    Calls Tryd.prog 13 #[.pointer (some ⟨T, 0, none⟩), rtab mo g ss2.length c, .agg #[.int .i64 s.k, .int .i64 s.a, .int .i64 s.b, .int .u32 s.x]] w
      fun e w' => Did w w' e T most ss m F mo g ss2 (most = mo ∧ ss = ss2) := by
  have B0 : Below w.heap.size w (((w.alloc (.cells #[.int .i64 mo, .slice (some ⟨g, 0, none⟩) ss2.length c] 30)).alloc (.cells #[.int .i64 s.k, .int .i64 s.a, .int .i64 s.b, .int .u32 s.x] 37)).alloc (.cells #[.int .i64 0, .slice none 0 0] 30)) := (((Below.refl _ _).alloc (Nat.le_refl _) _).alloc (by simp) _).alloc (by simp; omega) _
  have X0 := Bx.laid w mo (.slice (some ⟨g, 0, none⟩) ss2.length c) s
  have hlt := Lib.hid h.lt
  have glt := hr.lt
  have hl2 : ss2.length ≤ 65536 := by have := hs2.len; have := hs2.most; omega
  unfold rtab
  generalize hw0 : (((w.alloc (.cells #[.int .i64 mo, .slice (some ⟨g, 0, none⟩) ss2.length c] 30)).alloc (.cells #[.int .i64 s.k, .int .i64 s.a, .int .i64 s.b, .int .u32 s.x] 37)).alloc (.cells #[.int .i64 0, .slice none 0 0] 30)) = w0 at B0 X0
  have hT0 := h.below B0
  have HT := Lib.hid hT0
  have hR0 := hr.below B0
  have HR := Lib.hid hR0
  have HG := Lib.hid hg
  have HX := Lib.hid X0
  have HB := Lib.hid B0
  have hz0 : w0.heap.size = w.heap.size + 1 + 1 + 1 := by rw [← hw0]; simp
  have HZ := Lib.hid hz0
  clear hz0
  obtain ⟨p0, p1, s0, s1, s2, s3, q0, q1, q2, q3⟩ := X0.cells
  have t1 : (s.k == 1) = false := by simp [hk1]
  have t12 : (s.k == 2) = false := by simp [hk2]
  have t13 : (s.k == 3) = false := by simp [hk3]
  have hkey1 : most = mo ∧ ss = ss2 → decide (s.x ∈ ss) = decide (0 ≤ rhas ss2 s.x) := fun ⟨_, h2⟩ => by
    subst h2
    by_cases hm : s.x ∈ ss
    · rw [rhas_yes hm]; simp [hm]
    · rw [rhas_no hm]; simp [hm]
  have hkey2 : most = mo ∧ ss = ss2 → (if s.x ∈ ss then (pos ss s.x : Int) else 0) = max (rhas ss2 s.x) 0 := fun ⟨_, h2⟩ => by
    subst h2
    by_cases hm : s.x ∈ ss
    · rw [rhas_yes hm, if_pos hm]; omega
    · rw [rhas_no hm, if_neg hm]; rfl
  have HC1 := Lib.hid (Has_any T most ss m F s.x hx w0 hT0)
  have HC2 := Lib.hid (RHas_any mo g c ss2 hl2 s.x w0 hR0)
  generalize (if s.x ∈ ss then (pos ss s.x : Int) else 0) = n1 at HC1 hkey2
  generalize decide (s.x ∈ ss) = b1 at HC1 hkey1
  generalize rhas ss2 s.x = m2 at HC2 hkey1 hkey2
  have HKEY1 := Lib.hid hkey1
  have HKEY2 := Lib.hid hkey2
  clear h hr hg X0 B0 hkey1 hkey2 hT0 hR0
  clear hk1 hk2 hk3
  unfold rtab at HC2
  go_enter Tryd.func13, Tryd.ntmps13
  go_wp2_with fail
  refine HC1.out.mono ?_
  rintro e w1 ⟨rfl, rfl⟩
  go_wp2_with fail
  refine HC2.out.mono ?_
  rintro e w1 ⟨rfl, hb1⟩
  have HX1 := Lib.hid (HX.out.below hb1)
  have HB1 := Lib.hid hb1
  clear p0 p1 s0 s1 s2 s3 q0 q1 q2 q3 hb1
  obtain ⟨p0, p1, s0, s1, s2, s3, q0, q1, q2, q3⟩ := HX1.out.cells
  have hend : ∀ (bb : Bool), (most = mo ∧ ss = ss2 → bb = true) → Did w ((w1.setCell ⟨w.heap.size + 1 + 1, 0, none⟩ (.int .i64 mo)).setCell ⟨w.heap.size + 1 + 1, 1, none⟩ (.slice (some ⟨g, 0, none⟩) ss2.length c)) (.returned (.tuple #[rtab mo g ss2.length c, .bool bb])) T most ss m F mo g ss2 (most = mo ∧ ss = ss2) :=
    fun bb hok => did_end HB.out HZ.out hlt.out glt HG.out ⟨HT.out, Turned.refl F w0, fun k hk => .inl hk⟩ (HR.out.below HB1.out) (.inl rfl) HB1.out hok
  have HE := Lib.hid hend
  clear hend
  by_cases hn : b1 = decide (0 ≤ m2)
  · have t2 : (b1 == decide (0 ≤ m2)) = true := by simp [hn]
    have HN := Lib.hid hn
    clear hn
    go_wp2_with fail
    obtain ⟨f0, f1, _, _⟩ := blk_cells (blk_set2 (u := .int .i64 mo) (v := .slice (some ⟨g, 0, none⟩) ss2.length c) HX1.out.2.2)
    refine bodyPost_ret (v := .tuple #[rtab mo g ss2.length c, .bool (n1 == max m2 0)]) (by simp [results, Tryd.results13, go_sem, rtab, f0, f1]) rfl ?_
    exact HE.out _ (fun ok => by have := HKEY2.out ok; simp [this])
  · have t2 : (b1 == decide (0 ≤ m2)) = false := by simp [hn]
    have HN := Lib.hid hn
    clear hn
    go_wp2_with fail
    obtain ⟨f0, f1, _, _⟩ := blk_cells (blk_set2 (u := .int .i64 mo) (v := .slice (some ⟨g, 0, none⟩) ss2.length c) HX1.out.2.2)
    refine bodyPost_ret (v := .tuple #[rtab mo g ss2.length c, .bool false]) (by simp [results, Tryd.results13, go_sem, rtab, f0, f1]) rfl ?_
    exact HE.out _ (fun ok => absurd (HKEY1.out ok) HN.out)
def setX (ss : List Int) (a : Int) : Int := if 0 ≤ a ∧ a < (ss.length : Int) then ss[a.toNat]?.getD 0 else 0
def setE (ss : List Int) (a : Int) : Int := if 0 ≤ a ∧ a < (ss.length : Int) then 0 else 5
theorem Set_any (T : Nat) (most : Int) (ss : List Int) (m : Nat) (F : List Nat) (a : Int) (w : World) (h : Tab w T most ss m F) :
    Calls Tryd.prog 15 #[.pointer (some ⟨T, 0, none⟩), .int .i64 a] w fun e w' => e = .returned (.tuple #[.int .u32 (setX ss a), .int .i64 (setE ss a)]) ∧ w = w' := by
  by_cases ha : 0 ≤ a ∧ a < (ss.length : Int)
  · obtain ⟨i, rfl⟩ := Int.eq_ofNat_of_zero_le ha.1
    unfold setX setE
    rw [if_pos ha, if_pos ha]
    exact Set_some T most ss m F i w h (by omega)
  · unfold setX setE
    rw [if_neg ha, if_neg ha]
    exact Set_none T most ss m F a w h ha

set_option maxRecDepth 100000 in
theorem does2n (T : Nat) (most : Int) (ss : List Int) (m : Nat) (F : List Nat) (mo : Int) (g c : Nat) (ss2 : List Int) (hs2 : Sets mo ss2) (k a b x : Int) (hk : k = 2) (ha : a < 0 ∨ (ss2.length : Int) ≤ a) (w : World) (h : Tab w T most ss m F) (hr : RT w g c ss2) (hg : g ∉ F) :
    Calls Tryd.prog 13 #[.pointer (some ⟨T, 0, none⟩), rtab mo g ss2.length c, .agg #[.int .i64 k, .int .i64 a, .int .i64 b, .int .u32 x]] w
      fun e w' => Did w w' e T most ss m F mo g ss2 (most = mo ∧ ss = ss2) := by
  have B0 : Below w.heap.size w (((w.alloc (.cells #[.int .i64 mo, .slice (some ⟨g, 0, none⟩) ss2.length c] 30)).alloc (.cells #[.int .i64 k, .int .i64 a, .int .i64 b, .int .u32 x] 37)).alloc (.cells #[.int .i64 0, .slice none 0 0] 30)) := (((Below.refl _ _).alloc (Nat.le_refl _) _).alloc (by simp) _).alloc (by simp; omega) _
  have X0 := Bx.laid w mo (.slice (some ⟨g, 0, none⟩) ss2.length c) ⟨k, a, b, x⟩
  have hlt := Lib.hid h.lt
  have glt := hr.lt
  have hl2 : ss2.length ≤ 65536 := by have := hs2.len; have := hs2.most; omega
  have hcap := row_cap hr
  unfold rtab
  dsimp only at X0
  generalize hw0 : (((w.alloc (.cells #[.int .i64 mo, .slice (some ⟨g, 0, none⟩) ss2.length c] 30)).alloc (.cells #[.int .i64 k, .int .i64 a, .int .i64 b, .int .u32 x] 37)).alloc (.cells #[.int .i64 0, .slice none 0 0] 30)) = w0 at B0 X0
  have hT0 := h.below B0
  have HT := Lib.hid hT0
  have hR0 := hr.below B0
  have HR := Lib.hid hR0
  have HG := Lib.hid hg
  have HX := Lib.hid X0
  have HB := Lib.hid B0
  have hz0 : w0.heap.size = w.heap.size + 1 + 1 + 1 := by rw [← hw0]; simp
  have HZ := Lib.hid hz0
  clear hz0
  obtain ⟨p0, p1, s0, s1, s2, s3, q0, q1, q2, q3⟩ := X0.cells
  dsimp only at s0 s1 s2 s3
  have HC1 := Lib.hid (Set_any T most ss m F a w0 hT0)
  have hkey : most = mo ∧ ss = ss2 → setX ss a = 0 ∧ setE ss a = 5 := fun ⟨_, h2⟩ => by
    subst h2
    unfold setX setE
    rw [if_neg (by omega), if_neg (by omega)]
    exact ⟨rfl, rfl⟩
  generalize setX ss a = n1 at HC1 hkey
  generalize setE ss a = e1 at HC1 hkey
  have HKEY := Lib.hid hkey
  have t1 : (k == 1) = false := by simp [hk]
  have t12 : (k == 2) = true := by simp [hk]
  clear h hr hg X0 B0 hkey hT0 hR0
  clear hk
  have hend : ∀ (bb : Bool), (most = mo ∧ ss = ss2 → bb = true) → Did w ((w0.setCell ⟨w.heap.size + 1 + 1, 0, none⟩ (.int .i64 mo)).setCell ⟨w.heap.size + 1 + 1, 1, none⟩ (.slice (some ⟨g, 0, none⟩) ss2.length c)) (.returned (.tuple #[rtab mo g ss2.length c, .bool bb])) T most ss m F mo g ss2 (most = mo ∧ ss = ss2) :=
    fun bb hok => did_end HB.out HZ.out hlt.out glt HG.out ⟨HT.out, Turned.refl F w0, fun k hk => .inl hk⟩ (HR.out.below (Below.refl _ w0)) (.inl rfl) (Below.refl _ w0) hok
  have HE := Lib.hid hend
  clear hend
  go_enter Tryd.func13, Tryd.ntmps13
  by_cases ha0 : a < 0
  all_goals
    by_cases hn : n1 = 0
    · have t2 : (n1 == 0) = true := by simp [hn]
      have HN := Lib.hid hn
      clear hn
      go_wp2_with fail
      refine HC1.out.mono ?_
      rintro e w1 ⟨rfl, rfl⟩
      go_wp2_with fail
      obtain ⟨f0, f1, _, _⟩ := blk_cells (blk_set2 (u := .int .i64 mo) (v := .slice (some ⟨g, 0, none⟩) ss2.length c) HX.out.2.2)
      refine bodyPost_ret (v := .tuple #[rtab mo g ss2.length c, .bool (e1 == 5)]) (by simp [results, Tryd.results13, go_sem, rtab, f0, f1]) rfl ?_
      exact HE.out _ (fun ok => by have := HKEY.out ok; simp [this.2])
    · have t2 : (n1 == 0) = false := by simp [hn]
      have HN := Lib.hid hn
      clear hn
      go_wp2_with fail
      refine HC1.out.mono ?_
      rintro e w1 ⟨rfl, rfl⟩
      go_wp2_with fail
      obtain ⟨f0, f1, _, _⟩ := blk_cells (blk_set2 (u := .int .i64 mo) (v := .slice (some ⟨g, 0, none⟩) ss2.length c) HX.out.2.2)
      refine bodyPost_ret (v := .tuple #[rtab mo g ss2.length c, .bool false]) (by simp [results, Tryd.results13, go_sem, rtab, f0, f1]) rfl ?_
      exact HE.out _ (fun ok => absurd (HKEY.out ok).1 HN.out)

theorem Did.drew {w w' : World} {e : Ending} {T : Nat} {most : Int} {ss : List Int} {m : Nat} {F : List Nat} {mo : Int} {g : Nat} {ss2 : List Int} {ok : Prop} (h : Did w w' e T most ss m F mo g ss2 ok) : Did w w'.drew e T most ss m F mo g ss2 ok := by
  obtain ⟨g', c', bb, F', h1, h2, h3, h4, h5, h6, h7, h8⟩ := h
  exact ⟨g', c', bb, F', h1, h2, h3.below (Below.refl _ w').drew, h4.below (Below.refl _ w').drew, h5, h6.drew, h7, h8⟩

set_option maxRecDepth 100000 in
theorem does2y (T : Nat) (most : Int) (ss : List Int) (m : Nat) (F : List Nat) (mo : Int) (g c : Nat) (ss2 : List Int) (hs2 : Sets mo ss2) (k : Int) (i : Nat) (b x : Int) (hk : k = 2) (hi : i < ss2.length) (w : World) (h : Tab w T most ss m F) (hr : RT w g c ss2) (hg : g ∉ F) :
    Calls Tryd.prog 13 #[.pointer (some ⟨T, 0, none⟩), rtab mo g ss2.length c, .agg #[.int .i64 k, .int .i64 (i : Int), .int .i64 b, .int .u32 x]] w
      fun e w' => Did w w' e T most ss m F mo g ss2 (most = mo ∧ ss = ss2) := by
  have B0 : Below w.heap.size w (((w.alloc (.cells #[.int .i64 mo, .slice (some ⟨g, 0, none⟩) ss2.length c] 30)).alloc (.cells #[.int .i64 k, .int .i64 (i : Int), .int .i64 b, .int .u32 x] 37)).alloc (.cells #[.int .i64 0, .slice none 0 0] 30)) := (((Below.refl _ _).alloc (Nat.le_refl _) _).alloc (by simp) _).alloc (by simp; omega) _
  have X0 := Bx.laid w mo (.slice (some ⟨g, 0, none⟩) ss2.length c) ⟨k, (i : Int), b, x⟩
  have hlt := Lib.hid h.lt
  have glt := hr.lt
  have hl2 : ss2.length ≤ 65536 := by have := hs2.len; have := hs2.most; omega
  have hcap := row_cap hr
  unfold rtab
  dsimp only at X0
  generalize hw0 : (((w.alloc (.cells #[.int .i64 mo, .slice (some ⟨g, 0, none⟩) ss2.length c] 30)).alloc (.cells #[.int .i64 k, .int .i64 (i : Int), .int .i64 b, .int .u32 x] 37)).alloc (.cells #[.int .i64 0, .slice none 0 0] 30)) = w0 at B0 X0
  have hT0 := h.below B0
  have HT := Lib.hid hT0
  have hR0 := hr.below B0
  have HR := Lib.hid hR0
  have HG := Lib.hid hg
  have HX := Lib.hid X0
  have HB := Lib.hid B0
  have hz0 : w0.heap.size = w.heap.size + 1 + 1 + 1 := by rw [← hw0]; simp
  have HZ := Lib.hid hz0
  clear hz0
  obtain ⟨p0, p1, s0, s1, s2, s3, q0, q1, q2, q3⟩ := X0.cells
  dsimp only at s0 s1 s2 s3
  have HC1 := Lib.hid (Set_any T most ss m F (i : Int) w0 hT0)
  have hkey : most = mo ∧ ss = ss2 → setX ss (i : Int) = ss2[i]?.getD 0 ∧ setE ss (i : Int) = 0 := fun ⟨_, h2⟩ => by
    subst h2
    unfold setX setE
    rw [if_pos (by omega), if_pos (by omega)]
    exact ⟨rfl, rfl⟩
  have m1 := hR0.at_ hi
  generalize setX ss (i : Int) = n1 at HC1 hkey
  generalize setE ss (i : Int) = e1 at HC1 hkey
  generalize ss2[i]?.getD 0 = y at m1 hkey
  have HKEY := Lib.hid hkey
  have t1 : (k == 1) = false := by simp [hk]
  have t12 : (k == 2) = true := by simp [hk]
  clear h hr hg X0 B0 hkey hT0 hR0
  clear hk
  have hend : ∀ (bb : Bool), (most = mo ∧ ss = ss2 → bb = true) → Did w ((w0.setCell ⟨w.heap.size + 1 + 1, 0, none⟩ (.int .i64 mo)).setCell ⟨w.heap.size + 1 + 1, 1, none⟩ (.slice (some ⟨g, 0, none⟩) ss2.length c)).drew (.returned (.tuple #[rtab mo g ss2.length c, .bool bb])) T most ss m F mo g ss2 (most = mo ∧ ss = ss2) :=
    fun bb hok => (did_end HB.out HZ.out hlt.out glt HG.out ⟨HT.out, Turned.refl F w0, fun k hk => .inl hk⟩ (HR.out.below (Below.refl _ w0)) (.inl rfl) (Below.refl _ w0) hok).drew
  have HE := Lib.hid hend
  clear hend
  go_enter Tryd.func13, Tryd.ntmps13
  by_cases hn : n1 = y
  · have t2 : (n1 == y) = true := by simp [hn]
    have HN := Lib.hid hn
    clear hn
    go_wp2_with fail
    refine HC1.out.mono ?_
    rintro e w1 ⟨rfl, rfl⟩
    go_wp2_with fail
    have hgB : w.heap.size + 1 + 1 ≠ g := by omega
    have H0 : w0.drew.cell? ⟨w.heap.size, 0, none⟩ = some (.int .i64 mo) ∧ w0.drew.cell? ⟨w.heap.size, 1, none⟩ = some (.slice (some ⟨g, 0, none⟩) ss2.length c) ∧ w0.drew.cell? ⟨w.heap.size + 1, 1, none⟩ = some (.int .i64 (i : Int)) ∧ w0.drew.cell? ⟨g, i, none⟩ = some (.int .u32 y) := ⟨p0, p1, s1, m1⟩
    have q0' : w0.drew.frozen? ⟨w.heap.size + 1 + 1, 0, none⟩ = false := q0
    have q1' : w0.drew.frozen? ⟨w.heap.size + 1 + 1, 1, none⟩ = false := q1
    have q2' : w0.drew.cell? ⟨w.heap.size + 1 + 1, 0, none⟩ = some (.int .i64 0) := q2
    have q3' : w0.drew.cell? ⟨w.heap.size + 1 + 1, 1, none⟩ = some (.slice none 0 0) := q3
    go_region_held3 (fun W => W.cell? ⟨w.heap.size, 0, none⟩ = some (.int .i64 mo) ∧ W.cell? ⟨w.heap.size, 1, none⟩ = some (.slice (some ⟨g, 0, none⟩) ss2.length c) ∧ W.cell? ⟨w.heap.size + 1, 1, none⟩ = some (.int .i64 (i : Int)) ∧ W.cell? ⟨g, i, none⟩ = some (.int .u32 y))
      (first
        | exact H0
        | exact ⟨(cell_set2_far (w := w0) (p := ⟨w.heap.size, 0, none⟩) (show w.heap.size + 1 + 1 ≠ w.heap.size by omega) _ _).trans p0, (cell_set2_far (w := w0) (p := ⟨w.heap.size, 1, none⟩) (show w.heap.size + 1 + 1 ≠ w.heap.size by omega) _ _).trans p1, (cell_set2_far (w := w0) (p := ⟨w.heap.size + 1, 1, none⟩) (show w.heap.size + 1 + 1 ≠ w.heap.size + 1 by omega) _ _).trans s1, (cell_set2_far (w := w0) (p := ⟨g, i, none⟩) hgB _ _).trans m1⟩)
      (fail)
    go_wp2_with fail
    obtain ⟨f0, f1, _, _⟩ := blk_cells (blk_set2 (u := .int .i64 mo) (v := .slice (some ⟨g, 0, none⟩) ss2.length c) HX.out.2.2)
    have f0' : (((w0.setCell ⟨w.heap.size + 1 + 1, 0, none⟩ (.int .i64 mo)).setCell ⟨w.heap.size + 1 + 1, 1, none⟩ (.slice (some ⟨g, 0, none⟩) ss2.length c)).drew).cell? ⟨w.heap.size + 1 + 1, 0, none⟩ = some (.int .i64 mo) := f0
    have f1' : (((w0.setCell ⟨w.heap.size + 1 + 1, 0, none⟩ (.int .i64 mo)).setCell ⟨w.heap.size + 1 + 1, 1, none⟩ (.slice (some ⟨g, 0, none⟩) ss2.length c)).drew).cell? ⟨w.heap.size + 1 + 1, 1, none⟩ = some (.slice (some ⟨g, 0, none⟩) ss2.length c) := f1
    refine bodyPost_ret (v := .tuple #[rtab mo g ss2.length c, .bool (e1 == 0)]) (by simp [results, Tryd.results13, go_sem, rtab, f0', f1']) rfl ?_
    exact HE.out _ (fun ok => by have := HKEY.out ok; simp [this.2])
  · have t2 : (n1 == y) = false := by simp [hn]
    have HN := Lib.hid hn
    clear hn
    go_wp2_with fail
    refine HC1.out.mono ?_
    rintro e w1 ⟨rfl, rfl⟩
    go_wp2_with fail
    have hgB : w.heap.size + 1 + 1 ≠ g := by omega
    have H0 : w0.drew.cell? ⟨w.heap.size, 0, none⟩ = some (.int .i64 mo) ∧ w0.drew.cell? ⟨w.heap.size, 1, none⟩ = some (.slice (some ⟨g, 0, none⟩) ss2.length c) ∧ w0.drew.cell? ⟨w.heap.size + 1, 1, none⟩ = some (.int .i64 (i : Int)) ∧ w0.drew.cell? ⟨g, i, none⟩ = some (.int .u32 y) := ⟨p0, p1, s1, m1⟩
    have q0' : w0.drew.frozen? ⟨w.heap.size + 1 + 1, 0, none⟩ = false := q0
    have q1' : w0.drew.frozen? ⟨w.heap.size + 1 + 1, 1, none⟩ = false := q1
    have q2' : w0.drew.cell? ⟨w.heap.size + 1 + 1, 0, none⟩ = some (.int .i64 0) := q2
    have q3' : w0.drew.cell? ⟨w.heap.size + 1 + 1, 1, none⟩ = some (.slice none 0 0) := q3
    refine wp_region_held_drew (S := fun W => W.cell? ⟨w.heap.size, 0, none⟩ = some (.int .i64 mo) ∧ W.cell? ⟨w.heap.size, 1, none⟩ = some (.slice (some ⟨g, 0, none⟩) ss2.length c) ∧ W.cell? ⟨w.heap.size + 1, 1, none⟩ = some (.int .i64 (i : Int)) ∧ W.cell? ⟨g, i, none⟩ = some (.int .u32 y)) (by kernel_rfl) H0 (fun _ => ?_)
    refine wpAnyH_take (i := 0) (v := (.agg #[.int .i64 mo, .slice (some ⟨g, 0, none⟩) ss2.length c])) rfl (by kernel_rfl) (by kernel_rfl) (by kernel_rfl) (fun _ _ _ h => h) (Or.inl ⟨by rfl, fun W hS => by obtain ⟨a1, a2, a3, a4⟩ := hS; go_simp⟩) H0 ?_
    simp only [Act.put, List.setIfInBounds_toArray, List.set_cons_zero, List.set_cons_succ]
    refine wpAnyH_take (i := 1) (v := (.int .u32 n1)) rfl (by kernel_rfl) (by kernel_rfl) (by kernel_rfl) (fun _ _ _ h => h) (Or.inl ⟨by rfl, fun W hS => by obtain ⟨a1, a2, a3, a4⟩ := hS; go_simp⟩) H0 ?_
    simp only [Act.put, List.setIfInBounds_toArray, List.set_cons_zero, List.set_cons_succ]
    refine wpAnyH_take (i := 2) (v := (.pointer (some ⟨w.heap.size, 1, none⟩))) rfl (by kernel_rfl) (by kernel_rfl) (by kernel_rfl) (fun _ _ _ h => h) (Or.inl ⟨by rfl, fun W hS => by obtain ⟨a1, a2, a3, a4⟩ := hS; go_simp⟩) H0 ?_
    simp only [Act.put, List.setIfInBounds_toArray, List.set_cons_zero, List.set_cons_succ]
    refine wpAnyH_take (i := 3) (v := (.slice (some ⟨g, 0, none⟩) ss2.length c)) rfl (by kernel_rfl) (by kernel_rfl) (by kernel_rfl) (fun _ _ _ h => h) (Or.inl ⟨by rfl, fun W hS => by obtain ⟨a1, a2, a3, a4⟩ := hS; go_simp⟩) H0 ?_
    simp only [Act.put, List.setIfInBounds_toArray, List.set_cons_zero, List.set_cons_succ]
    refine wpAnyH_take (i := 4) (v := (.pointer (some ⟨w.heap.size + 1, 1, none⟩))) rfl (by kernel_rfl) (by kernel_rfl) (by kernel_rfl) (fun _ _ _ h => h) (Or.inl ⟨by rfl, fun W hS => by obtain ⟨a1, a2, a3, a4⟩ := hS; go_simp⟩) H0 ?_
    simp only [Act.put, List.setIfInBounds_toArray, List.set_cons_zero, List.set_cons_succ]
    refine wpAnyH_take (i := 5) (v := (.int .i64 (i : Int))) rfl (by kernel_rfl) (by kernel_rfl) (by kernel_rfl) (fun _ _ _ h => h) (Or.inl ⟨by rfl, fun W hS => by obtain ⟨a1, a2, a3, a4⟩ := hS; go_simp⟩) H0 ?_
    simp only [Act.put, List.setIfInBounds_toArray, List.set_cons_zero, List.set_cons_succ]
    refine wpAnyH_take (i := 6) (v := (.pointer (some ⟨g, i, none⟩))) rfl (by kernel_rfl) (by kernel_rfl) (by kernel_rfl) (fun _ _ _ h => h) (Or.inl ⟨by rfl, fun W hS => by obtain ⟨a1, a2, a3, a4⟩ := hS; go_simp⟩) H0 ?_
    simp only [Act.put, List.setIfInBounds_toArray, List.set_cons_zero, List.set_cons_succ]
    refine wpAnyH_take (i := 7) (v := (.int .u32 y)) rfl (by kernel_rfl) (by kernel_rfl) (by kernel_rfl) (fun _ _ _ h => h) (Or.inl ⟨by rfl, fun W hS => by obtain ⟨a1, a2, a3, a4⟩ := hS; go_simp⟩) H0 ?_
    simp only [Act.put, List.setIfInBounds_toArray, List.set_cons_zero, List.set_cons_succ]
    refine wpAnyH_take (i := 8) (v := (.bool false)) rfl (by kernel_rfl) (by kernel_rfl) (by kernel_rfl) (fun _ _ _ h => h) (Or.inl ⟨by rfl, fun W hS => by obtain ⟨a1, a2, a3, a4⟩ := hS; go_simp⟩) H0 ?_
    simp only [Act.put, List.setIfInBounds_toArray, List.set_cons_zero, List.set_cons_succ]
    refine wpAnyH_take (i := 9) (v := (.bool false)) rfl (by kernel_rfl) (by kernel_rfl) (by kernel_rfl) (fun _ _ _ h => h) (Or.inl ⟨by rfl, fun W hS => by obtain ⟨a1, a2, a3, a4⟩ := hS; go_simp⟩) H0 ?_
    simp only [Act.put, List.setIfInBounds_toArray, List.set_cons_zero, List.set_cons_succ]
    refine wpAnyH_take (i := 10) (v := undef) rfl (by kernel_rfl) (by kernel_rfl) (by kernel_rfl) (fun _ _ _ h => h) (Or.inr ⟨by kernel_rfl, rfl⟩) H0 ?_
    simp only [Act.put, List.setIfInBounds_toArray, List.set_cons_zero, List.set_cons_succ]
    refine wpAnyH_take (i := 11) (v := undef) rfl (by kernel_rfl) (by kernel_rfl) (by kernel_rfl) (fun _ _ _ h => h) (Or.inr ⟨by kernel_rfl, rfl⟩) H0 ?_
    simp only [Act.put, List.setIfInBounds_toArray, List.set_cons_zero, List.set_cons_succ]
    refine wpAnyH_take (i := 12) (v := (.bool false)) rfl (by kernel_rfl) (by kernel_rfl) (by kernel_rfl) (fun _ _ _ h => h) (Or.inl ⟨by rfl, fun W hS => by obtain ⟨a1, a2, a3, a4⟩ := hS; go_simp⟩) H0 ?_
    simp only [Act.put, List.setIfInBounds_toArray, List.set_cons_zero, List.set_cons_succ]
    refine wpAnyH_ready (rs := [13]) (by kernel_rfl) (by simp) (AllReadyH.cons rfl (fun K hK => ?_) AllReadyH.nil)
    go_simp
    have hS1 : ∀ (u v : Value), (((w0.setCell ⟨w.heap.size + 1 + 1, 0, none⟩ u).setCell ⟨w.heap.size + 1 + 1, 1, none⟩ v).drew).cell? ⟨w.heap.size, 0, none⟩ = some (.int .i64 mo) ∧ (((w0.setCell ⟨w.heap.size + 1 + 1, 0, none⟩ u).setCell ⟨w.heap.size + 1 + 1, 1, none⟩ v).drew).cell? ⟨w.heap.size, 1, none⟩ = some (.slice (some ⟨g, 0, none⟩) ss2.length c) ∧ (((w0.setCell ⟨w.heap.size + 1 + 1, 0, none⟩ u).setCell ⟨w.heap.size + 1 + 1, 1, none⟩ v).drew).cell? ⟨w.heap.size + 1, 1, none⟩ = some (.int .i64 (i : Int)) ∧ (((w0.setCell ⟨w.heap.size + 1 + 1, 0, none⟩ u).setCell ⟨w.heap.size + 1 + 1, 1, none⟩ v).drew).cell? ⟨g, i, none⟩ = some (.int .u32 y) := fun u v => ⟨(cell_set2_far (w := w0) (p := ⟨w.heap.size, 0, none⟩) (show w.heap.size + 1 + 1 ≠ w.heap.size by omega) _ _).trans p0, (cell_set2_far (w := w0) (p := ⟨w.heap.size, 1, none⟩) (show w.heap.size + 1 + 1 ≠ w.heap.size by omega) _ _).trans p1, (cell_set2_far (w := w0) (p := ⟨w.heap.size + 1, 1, none⟩) (show w.heap.size + 1 + 1 ≠ w.heap.size + 1 by omega) _ _).trans s1, (cell_set2_far (w := w0) (p := ⟨g, i, none⟩) hgB _ _).trans m1⟩
    have HS1 := Lib.hid hS1
    clear hS1
    refine hK.out _ _ (HS1.out _ _) (fun _ => ?_)
    clear hK K
    try simp only [Act.put, List.setIfInBounds_toArray, List.set_cons_zero, List.set_cons_succ]
    refine wpAnyH_ready (rs := [14]) (by kernel_rfl) (by simp) (AllReadyH.cons rfl (fun K hK => ?_) AllReadyH.nil)
    go_simp
    refine hK.out _ _ (HS1.out _ _) (fun _ => ?_)
    clear hK K
    try simp only [Act.put, List.setIfInBounds_toArray, List.set_cons_zero, List.set_cons_succ]
    refine wpAnyH_done (by kernel_rfl) ?_ _
    go_wp2_with fail
    obtain ⟨f0, f1, _, _⟩ := blk_cells (blk_set2 (u := .int .i64 mo) (v := .slice (some ⟨g, 0, none⟩) ss2.length c) HX.out.2.2)
    have f0' : (((w0.setCell ⟨w.heap.size + 1 + 1, 0, none⟩ (.int .i64 mo)).setCell ⟨w.heap.size + 1 + 1, 1, none⟩ (.slice (some ⟨g, 0, none⟩) ss2.length c)).drew).cell? ⟨w.heap.size + 1 + 1, 0, none⟩ = some (.int .i64 mo) := f0
    have f1' : (((w0.setCell ⟨w.heap.size + 1 + 1, 0, none⟩ (.int .i64 mo)).setCell ⟨w.heap.size + 1 + 1, 1, none⟩ (.slice (some ⟨g, 0, none⟩) ss2.length c)).drew).cell? ⟨w.heap.size + 1 + 1, 1, none⟩ = some (.slice (some ⟨g, 0, none⟩) ss2.length c) := f1
    refine bodyPost_ret (v := .tuple #[rtab mo g ss2.length c, .bool false]) (by simp [results, Tryd.results13, go_sem, rtab, f0', f1']) rfl ?_
    exact HE.out _ (fun ok => absurd (HKEY.out ok).1 HN.out)

/-- The sets that does leaves. -/
def doesR (mo : Int) (ss : List Int) (s : Step4) : List Int := if s.k = 1 then (keepR mo ss s.x).1 else if s.k = 3 then (joinR mo ss s.a s.b).1 else ss
theorem does_any (T : Nat) (most : Int) (ss : List Int) (m : Nat) (hm : m < 65536) (F : List Nat) (mo : Int) (g c : Nat) (ss2 : List Int) (hs2 : Sets mo ss2) (s : Step4) (hx : W32 s.x) (w : World) (h : Tab w T most ss m F) (hr : RT w g c ss2) (hg : g ∉ F) :
    Calls Tryd.prog 13 #[.pointer (some ⟨T, 0, none⟩), rtab mo g ss2.length c, .agg #[.int .i64 s.k, .int .i64 s.a, .int .i64 s.b, .int .u32 s.x]] w
      fun e w' => Did w w' e T most (doesR most ss s) (m + 1) F mo g (doesR mo ss2 s) (most = mo ∧ ss = ss2) := by
  have up : ∀ {e w'} {ss' ss2' : List Int}, Did w w' e T most ss' m F mo g ss2' (most = mo ∧ ss = ss2) → Did w w' e T most ss' (m + 1) F mo g ss2' (most = mo ∧ ss = ss2) := fun ⟨g', c', bb, F', h1, h2, h3, h4⟩ => ⟨g', c', bb, F', h1, h2, h3.mono (Nat.le_succ m), h4⟩
  by_cases k1 : s.k = 1
  · have e1 : doesR most ss s = (keepR most ss s.x).1 := by unfold doesR; rw [if_pos k1]
    have e2 : doesR mo ss2 s = (keepR mo ss2 s.x).1 := by unfold doesR; rw [if_pos k1]
    rw [e1, e2]
    exact (does1 T most ss m F mo g c ss2 hs2 s hx k1 w h hr hg).mono fun e w' hd => up hd
  · by_cases k3 : s.k = 3
    · have e1 : doesR most ss s = (joinR most ss s.a s.b).1 := by unfold doesR; rw [if_neg k1, if_pos k3]
      have e2 : doesR mo ss2 s = (joinR mo ss2 s.a s.b).1 := by unfold doesR; rw [if_neg k1, if_pos k3]
      rw [e1, e2]
      exact does3 T most ss m hm F mo g c ss2 hs2 s k3 w h hr hg
    · have e1 : doesR most ss s = ss := by unfold doesR; rw [if_neg k1, if_neg k3]
      have e2 : doesR mo ss2 s = ss2 := by unfold doesR; rw [if_neg k1, if_neg k3]
      rw [e1, e2]
      by_cases k2 : s.k = 2
      · obtain ⟨k, a, b, x⟩ := s
        by_cases ha : a < 0 ∨ (ss2.length : Int) ≤ a
        · exact (does2n T most ss m F mo g c ss2 hs2 k a b x k2 ha w h hr hg).mono fun e w' hd => up hd
        · obtain ⟨i, rfl⟩ := Int.eq_ofNat_of_zero_le (show 0 ≤ a by omega)
          exact (does2y T most ss m F mo g c ss2 hs2 k i b x k2 (by omega) w h hr hg).mono fun e w' hd => up hd
      · exact (does4 T most ss m F mo g c ss2 hs2 s hx k1 k2 k3 w h hr hg).mono fun e w' hd => up hd
end Go.Proofs.YtafnclkkncokpaaDoor
