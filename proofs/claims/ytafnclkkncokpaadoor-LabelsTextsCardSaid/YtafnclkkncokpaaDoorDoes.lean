/-
  Layer 2: the law's function does.
-/
import Derived.Test.YtafnclkkncokpaaDoorBound
namespace Go.Proofs.YtafnclkkncokpaaDoor
open Go.RowKit
set_option maxHeartbeats 1000000

/-- The boxes of does: the document's table, the step, the answer. -/
def Bx (w : World) (B : Nat) (mo : Int) (sl : Value) (s : Step4) : Prop :=
  w.heap[B]? = some (.cells #[.int .i64 mo, sl] 30 (0, 0)) ∧ w.heap[B + 1]? = some (.cells #[.int .i64 s.k, .int .i64 s.a, .int .i64 s.b, .int .u32 s.x] 37 (0, 0)) ∧ w.heap[B + 1 + 1]? = some (.cells #[.int .i64 0, .slice none 0 0] 30 (0, 0))
theorem Bx.laid (w : World) (mo : Int) (sl : Value) (s : Step4) : Bx (((w.alloc (.cells #[.int .i64 mo, sl] 30)).alloc (.cells #[.int .i64 s.k, .int .i64 s.a, .int .i64 s.b, .int .u32 s.x] 37)).alloc (.cells #[.int .i64 0, .slice none 0 0] 30)) w.heap.size mo sl s := by
  refine ⟨?_, ?_, ?_⟩
  · rw [Below.heap_alloc _ _ _ (by simp; omega), Below.heap_alloc _ _ _ (by simp)]; exact heap_alloc_new w _
  · rw [Below.heap_alloc _ _ _ (by simp)]
    have := heap_alloc_new (w.alloc (.cells #[.int .i64 mo, sl] 30)) (.cells #[.int .i64 s.k, .int .i64 s.a, .int .i64 s.b, .int .u32 s.x] 37)
    rwa [World.size_alloc] at this
  · have := heap_alloc_new ((w.alloc (.cells #[.int .i64 mo, sl] 30)).alloc (.cells #[.int .i64 s.k, .int .i64 s.a, .int .i64 s.b, .int .u32 s.x] 37)) (.cells #[.int .i64 0, .slice none 0 0] 30)
    rwa [World.size_alloc, World.size_alloc] at this
theorem Bx.kept {w w' : World} {B : Nat} {mo : Int} {sl : Value} {s : Step4} {F : List Nat} (h : Bx w B mo sl s) (t : Turned F w w') (hF : ∀ k ∈ F, k < B) : Bx w' B mo sl s :=
  ⟨t.keep h.1 (fun hm => by have := hF _ hm; omega), t.keep h.2.1 (fun hm => by have := hF _ hm; omega), t.keep h.2.2 (fun hm => by have := hF _ hm; omega)⟩
theorem Bx.below {w w' : World} {B : Nat} {mo : Int} {sl : Value} {s : Step4} (h : Bx w B mo sl s) (t : Below w.heap.size w w') : Bx w' B mo sl s :=
  h.kept (Turned.of_below t []) (fun _ hk => by cases hk)
theorem Bx.cells {w : World} {B : Nat} {mo : Int} {sl : Value} {s : Step4} (h : Bx w B mo sl s) :
    w.cell? ⟨B, 0, none⟩ = some (.int .i64 mo) ∧ w.cell? ⟨B, 1, none⟩ = some sl ∧ w.cell? ⟨B + 1, 0, none⟩ = some (.int .i64 s.k) ∧ w.cell? ⟨B + 1, 1, none⟩ = some (.int .i64 s.a) ∧ w.cell? ⟨B + 1, 2, none⟩ = some (.int .i64 s.b) ∧ w.cell? ⟨B + 1, 3, none⟩ = some (.int .u32 s.x) ∧
    w.frozen? ⟨B + 1 + 1, 0, none⟩ = false ∧ w.frozen? ⟨B + 1 + 1, 1, none⟩ = false ∧ w.cell? ⟨B + 1 + 1, 0, none⟩ = some (.int .i64 0) ∧ w.cell? ⟨B + 1 + 1, 1, none⟩ = some (.slice none 0 0) :=
  ⟨by rw [cell_of_row _ _ 0 _ _ _ h.1]; rfl, by rw [cell_of_row _ _ 1 _ _ _ h.1]; rfl, by rw [cell_of_row _ _ 0 _ _ _ h.2.1]; rfl, by rw [cell_of_row _ _ 1 _ _ _ h.2.1]; rfl, by rw [cell_of_row _ _ 2 _ _ _ h.2.1]; rfl, by rw [cell_of_row _ _ 3 _ _ _ h.2.1]; rfl,
    by simp [World.frozen?, h.2.2], by simp [World.frozen?, h.2.2], by rw [cell_of_row _ _ 0 _ _ _ h.2.2]; rfl, by rw [cell_of_row _ _ 1 _ _ _ h.2.2]; rfl⟩

/-- What does leaves. -/
def Did (w w' : World) (e : Ending) (T : Nat) (most : Int) (ss : List Int) (m : Nat) (F : List Nat) (mo : Int) (g : Nat) (ss2 : List Int) (ok : Prop) : Prop :=
  ∃ g' c' bb F', e = .returned (.tuple #[rtab mo g' ss2.length c', .bool bb]) ∧ (ok → bb = true) ∧ Tab w' T most ss m F' ∧ RT w' g' c' ss2 ∧ g' ∉ F' ∧ Turned F w w' ∧ (∀ k ∈ F', k ∈ F ∨ w.heap.size ≤ k) ∧ (g' = g ∨ w.heap.size ≤ g')

/-- The end of does: the answer laid into its box. -/
theorem did_end {w w0 w1 w2 : World} {T : Nat} {most : Int} {ss' ss2' : List Int} {m' : Nat} {F F1 : List Nat} {mo : Int} {g g' c' : Nat} {bb : Bool} {ok : Prop} {u v : Value}
    (B0 : Below w.heap.size w w0) (hz : w0.heap.size = w.heap.size + 1 + 1 + 1) (hlt : ∀ k ∈ F, k < w.heap.size) (glt : g < w.heap.size) (hg : g ∉ F)
    (hF1 : Tab w1 T most ss' m' F1 ∧ Turned F w0 w1 ∧ ∀ k ∈ F1, k ∈ F ∨ w0.heap.size ≤ k) (hr : RT w2 g' c' ss2') (hg2 : g' = g ∨ w1.heap.size ≤ g') (hb : Below w1.heap.size w1 w2) (hok : ok → bb = true) :
    Did w ((w2.setCell ⟨w.heap.size + 1 + 1, 0, none⟩ u).setCell ⟨w.heap.size + 1 + 1, 1, none⟩ v) (.returned (.tuple #[rtab mo g' ss2'.length c', .bool bb])) T most ss' m' F mo g ss2' ok := by
  obtain ⟨hT, hTu, hn⟩ := hF1
  have hs1 := hTu.size
  have hF1lt := hT.lt
  have nB : w.heap.size + 1 + 1 ∉ F1 := fun hm => by
    rcases hn _ hm with h | h
    · have := hlt _ h; omega
    · omega
  have hgF : g' ∉ F1 := fun hm => by
    rcases hg2 with rfl | h
    · rcases hn _ hm with h | h
      · exact hg h
      · omega
    · have := hF1lt _ hm; omega
  have gB : g' ≠ w.heap.size + 1 + 1 := by rcases hg2 with rfl | h <;> omega
  have tt := ((Turned.refl [w.heap.size + 1 + 1] w2).setCell (p := ⟨w.heap.size + 1 + 1, 0, none⟩) (.inl (by simp)) u).setCell (p := ⟨w.heap.size + 1 + 1, 1, none⟩) (.inl (by simp)) v
  have t0 : Turned F w w0 := Turned.of_below B0 F
  have t1 : Turned F w w1 := t0.trans hTu (fun x hx => .inl hx)
  have t2 : Turned F w w2 := t1.trans (Turned.of_below hb []) (fun x hx => by cases hx)
  refine ⟨g', c', bb, F1, rfl, hok, (hT.below hb).kept tt (fun k hk hm => ?_), hr.kept tt (by simpa using gB), hgF, (t2.setCell (.inr (by simp; omega)) _).setCell (.inr (by simp; omega)) _, fun k hk => ?_, ?_⟩
  · simp at hm; subst hm; exact nB hk
  · rcases hn k hk with h | h
    · exact .inl h
    · right; omega
  · rcases hg2 with h | h
    · exact .inl h
    · right; omega

set_option maxRecDepth 100000 in
theorem does1 (T : Nat) (most : Int) (ss : List Int) (m : Nat) (F : List Nat) (mo : Int) (g c : Nat) (ss2 : List Int) (hs2 : Sets mo ss2) (s : Step4) (hx : W32 s.x) (hk : s.k = 1) (w : World) (h : Tab w T most ss m F) (hr : RT w g c ss2) (hg : g ∉ F) :
    Calls Tryd.prog 13 #[.pointer (some ⟨T, 0, none⟩), rtab mo g ss2.length c, .agg #[.int .i64 s.k, .int .i64 s.a, .int .i64 s.b, .int .u32 s.x]] w
      fun e w' => Did w w' e T most (keepR most ss s.x).1 m F mo g (keepR mo ss2 s.x).1 (most = mo ∧ ss = ss2) := by
  have B0 : Below w.heap.size w (((w.alloc (.cells #[.int .i64 mo, .slice (some ⟨g, 0, none⟩) ss2.length c] 30)).alloc (.cells #[.int .i64 s.k, .int .i64 s.a, .int .i64 s.b, .int .u32 s.x] 37)).alloc (.cells #[.int .i64 0, .slice none 0 0] 30)) := (((Below.refl _ _).alloc (Nat.le_refl _) _).alloc (by simp) _).alloc (by simp; omega) _
  have X0 := Bx.laid w mo (.slice (some ⟨g, 0, none⟩) ss2.length c) s
  have hlt := Lib.hid h.lt
  have glt := hr.lt
  unfold rtab
  generalize hw0 : (((w.alloc (.cells #[.int .i64 mo, .slice (some ⟨g, 0, none⟩) ss2.length c] 30)).alloc (.cells #[.int .i64 s.k, .int .i64 s.a, .int .i64 s.b, .int .u32 s.x] 37)).alloc (.cells #[.int .i64 0, .slice none 0 0] 30)) = w0 at B0 X0
  have HT := Lib.hid (h.below B0)
  have HR := Lib.hid (hr.below B0)
  have HG := Lib.hid hg
  have HX := Lib.hid X0
  have HB := Lib.hid B0
  have hz0 : w0.heap.size = w.heap.size + 1 + 1 + 1 := by rw [← hw0]; simp
  have HZ := Lib.hid hz0
  clear hz0
  obtain ⟨p0, p1, s0, s1, s2, s3, q0, q1, q2, q3⟩ := X0.cells
  have t1 : (s.k == 1) = true := by simp [hk]
  have HKEY : Hid (most = mo ∧ ss = ss2 → keepR most ss s.x = keepR mo ss2 s.x) := fun ⟨h1, h2⟩ => by rw [h1, h2]
  have HK1 := fun W (hW : Tab W T most ss m F) => Lib.hid (Keep_any T most ss m F s.x hx W hW)
  have HK2 := fun W (hW : RT W g c ss2) => Lib.hid (RKeep_any mo g c ss2 hs2 s.x hx W hW)
  generalize keepR most ss s.x = R1 at HK1 HKEY ⊢
  generalize keepR mo ss2 s.x = R2 at HK2 HKEY ⊢
  have HK1' := Lib.hid HK1
  have HK2' := Lib.hid HK2
  clear h hr hg X0 B0 HK1 HK2
  clear hk
  unfold rtab at HK2'
  go_enter Tryd.func13, Tryd.ntmps13
  go_wp2_with fail
  refine (HK1'.out w0 HT.out).out.mono ?_
  rintro e w1 ⟨rfl, HT1⟩
  have HT1' := Lib.hid HT1
  clear HT1
  obtain ⟨F1, HF1⟩ : ∃ F1, Hid (Tab w1 T most R1.1 m F1 ∧ Turned F w0 w1 ∧ ∀ k ∈ F1, k ∈ F ∨ w0.heap.size ≤ k) := HT1'.out
  have HX1 := Lib.hid (HX.out.kept HF1.out.2.1 hlt.out)
  have HR1 := Lib.hid (HR.out.kept HF1.out.2.1 HG.out)
  clear p0 p1 s0 s1 s2 s3 q0 q1 q2 q3 HT1'
  obtain ⟨p0, p1, s0, s1, s2, s3, q0, q1, q2, q3⟩ := HX1.out.cells
  go_wp2_with fail
  refine (HK2'.out w1 HR1.out).out.mono ?_
  rintro e w2 ⟨g', c', rfl, hr2, hg2, hb2⟩
  simp only [rtab]
  have HX2 := Lib.hid (HX1.out.below hb2)
  have HH2 := Lib.hid (And.intro hr2 (And.intro hg2 hb2))
  clear p0 p1 s0 s1 s2 s3 q0 q1 q2 q3 hr2 hg2 hb2
  obtain ⟨p0, p1, s0, s1, s2, s3, q0, q1, q2, q3⟩ := HX2.out.cells
  have HX3 := Lib.hid (HX2.out.below ((Below.refl _ w2).alloc (Nat.le_refl _) (.cells #[.int .i64 mo, .slice (some ⟨g', 0, none⟩) R2.1.length c'] 30)))
  obtain ⟨_, _, _, _, _, _, z0, z1, z2, z3⟩ := HX3.out.cells
  have hend : ∀ (bb : Bool), (most = mo ∧ ss = ss2 → bb = true) → Did w (((w2.alloc (.cells #[.int .i64 mo, .slice (some ⟨g', 0, none⟩) R2.1.length c'] 30)).setCell ⟨w.heap.size + 1 + 1, 0, none⟩ (.int .i64 mo)).setCell ⟨w.heap.size + 1 + 1, 1, none⟩ (.slice (some ⟨g', 0, none⟩) R2.1.length c')) (.returned (.tuple #[rtab mo g' R2.1.length c', .bool bb])) T most R1.1 m F mo g R2.1 (most = mo ∧ ss = ss2) :=
    fun bb hok => did_end HB.out HZ.out hlt.out glt HG.out HF1.out (HH2.out.1.below ((Below.refl _ w2).alloc (Nat.le_refl _) _)) HH2.out.2.1 (HH2.out.2.2.alloc HH2.out.2.2.size _) hok
  have HE := Lib.hid hend
  clear hend
  generalize hn1 : R1.2.1 = n1
  generalize hn2 : R2.2.1 = n2
  generalize he1 : R1.2.2 = e1
  generalize he2 : R2.2.2 = e2
  by_cases hn : n1 = n2
  · have t2 : (n1 == n2) = true := by simp [hn]
    have HN := Lib.hid hn
    clear hn
    go_wp2_with fail
    obtain ⟨f0, f1, _, _⟩ := blk_cells (blk_set2 (u := .int .i64 mo) (v := .slice (some ⟨g', 0, none⟩) R2.1.length c') HX3.out.2.2)
    refine bodyPost_ret (v := .tuple #[rtab mo g' R2.1.length c', .bool (e1 == e2)]) (by simp [results, Tryd.results13, go_sem, rtab, f0, f1]) rfl ?_
    exact HE.out _ (fun ok => by have := HKEY.out ok; rw [this] at he1; simp [← he1, ← he2])
  · have t2 : (n1 == n2) = false := by simp [hn]
    have HN := Lib.hid hn
    clear hn
    go_wp2_with fail
    obtain ⟨f0, f1, _, _⟩ := blk_cells (blk_set2 (u := .int .i64 mo) (v := .slice (some ⟨g', 0, none⟩) R2.1.length c') HX3.out.2.2)
    refine bodyPost_ret (v := .tuple #[rtab mo g' R2.1.length c', .bool false]) (by simp [results, Tryd.results13, go_sem, rtab, f0, f1]) rfl ?_
    exact HE.out _ (fun ok => absurd (by have := HKEY.out ok; rw [← hn1, ← hn2, this]) HN.out)
set_option maxRecDepth 100000 in
theorem does3 (T : Nat) (most : Int) (ss : List Int) (m : Nat) (hm : m < 65536) (F : List Nat) (mo : Int) (g c : Nat) (ss2 : List Int) (hs2 : Sets mo ss2) (s : Step4) (hk : s.k = 3) (w : World) (h : Tab w T most ss m F) (hr : RT w g c ss2) (hg : g ∉ F) :
    Calls Tryd.prog 13 #[.pointer (some ⟨T, 0, none⟩), rtab mo g ss2.length c, .agg #[.int .i64 s.k, .int .i64 s.a, .int .i64 s.b, .int .u32 s.x]] w
      fun e w' => Did w w' e T most (joinR most ss s.a s.b).1 (m + 1) F mo g (joinR mo ss2 s.a s.b).1 (most = mo ∧ ss = ss2) := by
  have B0 : Below w.heap.size w (((w.alloc (.cells #[.int .i64 mo, .slice (some ⟨g, 0, none⟩) ss2.length c] 30)).alloc (.cells #[.int .i64 s.k, .int .i64 s.a, .int .i64 s.b, .int .u32 s.x] 37)).alloc (.cells #[.int .i64 0, .slice none 0 0] 30)) := (((Below.refl _ _).alloc (Nat.le_refl _) _).alloc (by simp) _).alloc (by simp; omega) _
  have X0 := Bx.laid w mo (.slice (some ⟨g, 0, none⟩) ss2.length c) s
  have hlt := Lib.hid h.lt
  have glt := hr.lt
  unfold rtab
  generalize hw0 : (((w.alloc (.cells #[.int .i64 mo, .slice (some ⟨g, 0, none⟩) ss2.length c] 30)).alloc (.cells #[.int .i64 s.k, .int .i64 s.a, .int .i64 s.b, .int .u32 s.x] 37)).alloc (.cells #[.int .i64 0, .slice none 0 0] 30)) = w0 at B0 X0
  have HT := Lib.hid (h.below B0)
  have HR := Lib.hid (hr.below B0)
  have HG := Lib.hid hg
  have HX := Lib.hid X0
  have HB := Lib.hid B0
  have hz0 : w0.heap.size = w.heap.size + 1 + 1 + 1 := by rw [← hw0]; simp
  have HZ := Lib.hid hz0
  clear hz0
  obtain ⟨p0, p1, s0, s1, s2, s3, q0, q1, q2, q3⟩ := X0.cells
  have t1 : (s.k == 1) = false := by simp [hk]
  have t12 : (s.k == 2) = false := by simp [hk]
  have t13 : (s.k == 3) = true := by simp [hk]
  have HKEY : Hid (most = mo ∧ ss = ss2 → joinR most ss s.a s.b = joinR mo ss2 s.a s.b) := fun ⟨h1, h2⟩ => by rw [h1, h2]
  have HK1 := fun W (hW : Tab W T most ss m F) => Lib.hid (Join_any T most ss m hm F s.a s.b W hW)
  have HK2 := fun W (hW : RT W g c ss2) => Lib.hid (RJoined_any mo g c ss2 hs2 s.a s.b W hW)
  generalize joinR most ss s.a s.b = R1 at HK1 HKEY ⊢
  generalize joinR mo ss2 s.a s.b = R2 at HK2 HKEY ⊢
  have HK1' := Lib.hid HK1
  have HK2' := Lib.hid HK2
  clear h hr hg X0 B0 HK1 HK2
  clear hk
  unfold rtab at HK2'
  go_enter Tryd.func13, Tryd.ntmps13
  go_wp2_with fail
  refine (HK1'.out w0 HT.out).out.mono ?_
  rintro e w1 ⟨rfl, HT1⟩
  have HT1' := Lib.hid HT1
  clear HT1
  obtain ⟨F1, HF1⟩ : ∃ F1, Hid (Tab w1 T most R1.1 (m + 1) F1 ∧ Turned F w0 w1 ∧ ∀ k ∈ F1, k ∈ F ∨ w0.heap.size ≤ k) := HT1'.out
  have HX1 := Lib.hid (HX.out.kept HF1.out.2.1 hlt.out)
  have HR1 := Lib.hid (HR.out.kept HF1.out.2.1 HG.out)
  clear p0 p1 s0 s1 s2 s3 q0 q1 q2 q3 HT1'
  obtain ⟨p0, p1, s0, s1, s2, s3, q0, q1, q2, q3⟩ := HX1.out.cells
  go_wp2_with fail
  refine (HK2'.out w1 HR1.out).out.mono ?_
  rintro e w2 ⟨g', c', rfl, hr2, hg2, hb2⟩
  simp only [rtab]
  have HX2 := Lib.hid (HX1.out.below hb2)
  have HH2 := Lib.hid (And.intro hr2 (And.intro hg2 hb2))
  clear p0 p1 s0 s1 s2 s3 q0 q1 q2 q3 hr2 hg2 hb2
  obtain ⟨p0, p1, s0, s1, s2, s3, q0, q1, q2, q3⟩ := HX2.out.cells
  have HX3 := Lib.hid (HX2.out.below ((Below.refl _ w2).alloc (Nat.le_refl _) (.cells #[.int .i64 mo, .slice (some ⟨g', 0, none⟩) R2.1.length c'] 30)))
  obtain ⟨_, _, _, _, _, _, z0, z1, z2, z3⟩ := HX3.out.cells
  have hend : ∀ (bb : Bool), (most = mo ∧ ss = ss2 → bb = true) → Did w (((w2.alloc (.cells #[.int .i64 mo, .slice (some ⟨g', 0, none⟩) R2.1.length c'] 30)).setCell ⟨w.heap.size + 1 + 1, 0, none⟩ (.int .i64 mo)).setCell ⟨w.heap.size + 1 + 1, 1, none⟩ (.slice (some ⟨g', 0, none⟩) R2.1.length c')) (.returned (.tuple #[rtab mo g' R2.1.length c', .bool bb])) T most R1.1 (m + 1) F mo g R2.1 (most = mo ∧ ss = ss2) :=
    fun bb hok => did_end HB.out HZ.out hlt.out glt HG.out HF1.out (HH2.out.1.below ((Below.refl _ w2).alloc (Nat.le_refl _) _)) HH2.out.2.1 (HH2.out.2.2.alloc HH2.out.2.2.size _) hok
  have HE := Lib.hid hend
  clear hend
  generalize hn1 : R1.2.1 = n1
  generalize hn2 : R2.2.1 = n2
  generalize he1 : R1.2.2 = e1
  generalize he2 : R2.2.2 = e2
  by_cases hn : n1 = n2
  · have t2 : (n1 == n2) = true := by simp [hn]
    have HN := Lib.hid hn
    clear hn
    go_wp2_with fail
    obtain ⟨f0, f1, _, _⟩ := blk_cells (blk_set2 (u := .int .i64 mo) (v := .slice (some ⟨g', 0, none⟩) R2.1.length c') HX3.out.2.2)
    refine bodyPost_ret (v := .tuple #[rtab mo g' R2.1.length c', .bool (e1 == e2)]) (by simp [results, Tryd.results13, go_sem, rtab, f0, f1]) rfl ?_
    exact HE.out _ (fun ok => by have := HKEY.out ok; rw [this] at he1; simp [← he1, ← he2])
  · have t2 : (n1 == n2) = false := by simp [hn]
    have HN := Lib.hid hn
    clear hn
    go_wp2_with fail
    obtain ⟨f0, f1, _, _⟩ := blk_cells (blk_set2 (u := .int .i64 mo) (v := .slice (some ⟨g', 0, none⟩) R2.1.length c') HX3.out.2.2)
    refine bodyPost_ret (v := .tuple #[rtab mo g' R2.1.length c', .bool false]) (by simp [results, Tryd.results13, go_sem, rtab, f0, f1]) rfl ?_
    exact HE.out _ (fun ok => absurd (by have := HKEY.out ok; rw [← hn1, ← hn2, this]) HN.out)
end Go.Proofs.YtafnclkkncokpaaDoor
