/-
  Layer 2: LabelsCopies: does, its table laid into a box that it was read from; the walk.
-/
import Derived.Test.YtafnclkkncokpaaDoorWalkPlay
import Derived.Test.YtafnclkkncokpaaDoorRegion2
import Derived.Test.YtafnclkkncokpaaDoorCopy
namespace Go.Proofs.YtafnclkkncokpaaDoor
open Go.RowKit
set_option maxHeartbeats 1000000

theorem turn_cell {G : List Nat} {w w' : World} (t : Turned G w w') {p : Addr} {v : Value} (hn : p.block ∉ G) (h : w.cell? p = some v) : w'.cell? p = some v := by
  rw [← h]; unfold World.cell?; rw [t.block _ (World.block_lt_of_cell? _ _ h) hn]
/-- A table and the document's table in its box. -/
def Act1 (T B : Nat) (most : Int) (k g c : Nat) (ss : List Int) (F : List Nat) (wr : World) : Prop :=
  Tab wr T most ss k F ∧ RT wr g c ss ∧ g ∉ F ∧ B ∉ F ∧ g ≠ B ∧ wr.heap[B]? = some (.cells #[.int .i64 most, .slice (some ⟨g, 0, none⟩) ss.length c] 30 (0, 0))
theorem act_step {wr wd w5 : World} {T B : Nat} {most : Int} {k k' g g' c c' n' : Nat} {ss ss' : List Int} {F F' : List Nat} {ok : Prop} (hA : Act1 T B most k g c ss F wr) (hd : Below wr.heap.size wr wd)
    (hD : ss'.length = n' ∧ ok ∧ Tab w5 T most ss' k' F' ∧ RT w5 g' c' ss' ∧ g' ∉ F' ∧ Turned F wd w5 ∧ (∀ k ∈ F', k ∈ F ∨ wd.heap.size ≤ k) ∧ (g' = g ∨ wd.heap.size ≤ g')) :
    w5.heap[B]? = some (.cells #[.int .i64 most, .slice (some ⟨g, 0, none⟩) ss.length c] 30 (0, 0)) ∧
    Act1 T B most k' g' c' ss' F' ((w5.setCell ⟨B, 0, none⟩ (.int .i64 most)).setCell ⟨B, 1, none⟩ (.slice (some ⟨g', 0, none⟩) n' c')) ∧
    Turned (B :: F) wr ((w5.setCell ⟨B, 0, none⟩ (.int .i64 most)).setCell ⟨B, 1, none⟩ (.slice (some ⟨g', 0, none⟩) n' c')) ∧ (∀ x ∈ F', x ∈ F ∨ wr.heap.size ≤ x) ∧ (g' = g ∨ wr.heap.size ≤ g') := by
  obtain ⟨hT, hR, hg, hB, hgB, hbox⟩ := hA
  obtain ⟨hn, _, hT', hR', hg', htu, hnew, hgg⟩ := hD
  subst hn
  have hs := hd.size
  have hBl : B < wr.heap.size := (Array.getElem?_eq_some_iff.1 hbox).1
  have hbox5 := htu.keep ((hd.block B hBl).trans hbox) hB
  have nB : B ∉ F' := fun hm => by
    rcases hnew _ hm with h | h
    · exact hB h
    · omega
  have gB : g' ≠ B := by
    rcases hgg with rfl | h
    · exact hgB
    · omega
  have ha := ((Turned.refl [B] w5).setCell (p := ⟨B, 0, none⟩) (.inl (by simp)) (.int .i64 most)).setCell (p := ⟨B, 1, none⟩) (.inl (by simp)) (.slice (some ⟨g', 0, none⟩) ss'.length c')
  refine ⟨hbox5, ⟨hT'.kept ha (fun k hk hm => ?_), hR'.kept ha (by simpa using gB), hg', nB, gB, blk_set2 hbox5⟩, ?_, fun x hx => ?_, ?_⟩
  · simp at hm; subst hm; exact nB hk
  · have t0 : Turned (B :: F) wr wd := Turned.of_below hd _
    have t1 : Turned (B :: F) wr w5 := t0.trans htu (fun x hx => .inl (List.mem_cons_of_mem _ hx))
    exact t1.trans ha (fun x hx => .inl (by simp at hx; subst hx; simp))
  · rcases hnew _ hx with h | h
    · exact .inl h
    · right; omega
  · rcases hgg with h | h
    · exact .inl h
    · right; omega

/-- The invariant of the first loop: two tables with the same sets, apart. -/
def Cop (w : World) (T1 T2 B : Nat) (most : Int) (k : Nat) (g c : Nat) (ss : List Int) (F1 F2 : List Nat) (wr : World) : Prop :=
  Act1 T1 B most k g c ss F1 wr ∧ Tab wr T2 most ss k F2 ∧ (∀ x ∈ F1, x ∉ F2) ∧ B ∉ F2 ∧ g ∉ F2 ∧ (∀ x ∈ F1, w.heap.size ≤ x) ∧ (∀ x ∈ F2, w.heap.size ≤ x) ∧ w.heap.size ≤ B ∧ Below w.heap.size w wr
/-- Behind does on the first table. -/
theorem Cop.mid {w wr w6 : World} {T1 T2 B : Nat} {most : Int} {k g c g' c' : Nat} {ss ss' : List Int} {F1 F2 F1' : List Nat} (h : Cop w T1 T2 B most k g c ss F1 F2 wr)
    (hA : Act1 T1 B most (k + 1) g' c' ss' F1' w6) (ht : Turned (B :: F1) wr w6) (hn : ∀ x ∈ F1', x ∈ F1 ∨ wr.heap.size ≤ x) (hg : g' = g ∨ wr.heap.size ≤ g') :
    Tab w6 T2 most ss k F2 ∧ (∀ x ∈ F1', x ∉ F2) ∧ g' ∉ F2 ∧ (∀ x ∈ F1', w.heap.size ≤ x) ∧ Below w.heap.size w w6 := by
  obtain ⟨hA0, h2, hd, hB2, hg2, f1, f2, hwB, hb⟩ := h
  have hlt := h2.lt
  have hs := hb.size
  refine ⟨h2.kept ht (fun x hx hm => ?_), fun x hx hm => ?_, fun hm => ?_, fun x hx => ?_, hb.trans (ht.below hs (fun x hx => ?_))⟩
  · rcases List.mem_cons.1 hm with e | hm
    · subst e; exact hB2 hx
    · exact hd x hm hx
  · rcases hn x hx with h | h
    · exact hd x h hm
    · have := hlt x hm; omega
  · rcases hg with rfl | h
    · exact hg2 hm
    · have := hlt _ hm; omega
  · rcases hn x hx with h | h
    · exact f1 x h
    · omega
  · rcases List.mem_cons.1 hx with e | hx
    · subst e; exact hwB
    · exact f1 x hx
/-- Behind does on the second table. -/
theorem Cop.next {w w6 wd w7 w8 : World} {T1 T2 B : Nat} {most : Int} {k g' c' : Nat} {ss' : List Int} {F1' F2 F2' : List Nat}
    (hA : Act1 T1 B most k g' c' ss' F1' w6) (hd12 : ∀ x ∈ F1', x ∉ F2) (hB2 : B ∉ F2) (hg2 : g' ∉ F2) (f1 : ∀ x ∈ F1', w.heap.size ≤ x) (f2 : ∀ x ∈ F2, w.heap.size ≤ x) (hwB : w.heap.size ≤ B) (hb : Below w.heap.size w w6)
    (hd : Below w6.heap.size w6 wd) (h7 : Tab w7 T2 most ss' k F2') (ht : Turned F2 wd w7) (hn : ∀ x ∈ F2', x ∈ F2 ∨ wd.heap.size ≤ x) (h8 : Below w7.heap.size w7 w8) :
    Cop w T1 T2 B most k g' c' ss' F1' F2' w8 := by
  obtain ⟨hT, hR, hg, hB, hgB, hbox⟩ := hA
  have t7 : Turned F2 w6 w7 := (Turned.of_below hd F2).trans ht (fun x hx => .inl hx)
  have t8 : Turned F2 w6 w8 := t7.trans (Turned.of_below h8 []) (fun x hx => by cases hx)
  have hs := hd.size
  have hlt := hT.lt
  have gl := hR.lt
  have hBl : B < w6.heap.size := (Array.getElem?_eq_some_iff.1 hbox).1
  have hs6 := hb.size
  refine ⟨⟨hT.kept t8 (fun x hx => hd12 x hx), hR.kept t8 hg2, hg, hB, hgB, t8.keep hbox hB2⟩, h7.below h8, fun x hx hm => ?_, fun hm => ?_, fun hm => ?_, f1, fun x hx => ?_, hwB, hb.trans (t8.below hs6 f2)⟩
  · rcases hn x hm with h | h
    · exact hd12 x hx h
    · have := hlt x hx; omega
  · rcases hn _ hm with h | h
    · exact hB2 h
    · omega
  · rcases hn _ hm with h | h
    · exact hg2 h
    · omega
  · rcases hn x hx with h | h
    · exact f2 x h
    · omega

theorem Same_yes (T1 T2 : Nat) (most : Int) (ss hh : List Int) (m1 m2 : Nat) (F1 F2 : List Nat) (w : World) (h1 : Tab w T1 most ss m1 F1) (h2 : Tab w T2 most hh m2 F2) :
    Calls Tryd.prog 20 #[.pointer (some ⟨T1, 0, none⟩), .pointer (some ⟨T2, 0, none⟩)] w fun e w' => e = .returned (.bool (decide (ss = hh))) ∧ Below w.heap.size w w' := by
  refine (Same_tabs T1 T2 most most ss hh m1 m2 F1 F2 w h1 h2).mono fun e w' ⟨he, q, hw⟩ => ⟨by rw [he]; simp, by rw [hw]; exact below_drewN _ _ _⟩
theorem Same_id (T1 T2 : Nat) (most : Int) (ss : List Int) (m1 m2 : Nat) (F1 F2 : List Nat) (w : World) (h1 : Tab w T1 most ss m1 F1) (h2 : Tab w T2 most ss m2 F2) :
    Calls Tryd.prog 20 #[.pointer (some ⟨T1, 0, none⟩), .pointer (some ⟨T2, 0, none⟩)] w fun e w' => e = .returned (.bool true) ∧ Below w.heap.size w w' :=
  (Same_yes T1 T2 most ss ss m1 m2 F1 F2 w h1 h2).mono fun e w' ⟨he, hw⟩ => ⟨by rw [he]; simp, hw⟩
theorem doesR_more (mo : Int) (ss : List Int) (s : Step4) : ∃ t, doesR mo ss s = ss ++ t := by
  have keep : ∀ x, ∃ t, (keepR mo ss x).1 = ss ++ t := fun x => by
    unfold keepR
    split
    · exact ⟨[], by simp⟩
    · split
      · exact ⟨[], by simp⟩
      · split
        · exact ⟨[], by simp⟩
        · exact ⟨[x], rfl⟩
  unfold doesR
  split
  · exact keep _
  · split
    · unfold joinR
      split
      · exact ⟨[], by simp⟩
      · exact keep _
    · exact ⟨[], by simp⟩
/-- The invariant of the second loop: the copy goes on, the first table and its document's table stay. -/
def Cop2 (w : World) (T1 T3 B B2 : Nat) (most : Int) (m1 g cg : Nat) (ss : List Int) (F1 : List Nat) (k hg hc : Nat) (hh : List Int) (F3 : List Nat) (wr : World) : Prop :=
  (Tab wr T1 most ss m1 F1 ∧ RT wr g cg ss ∧ wr.heap[B]? = some (.cells #[.int .i64 most, .slice (some ⟨g, 0, none⟩) ss.length cg] 30 (0, 0))) ∧
  Act1 T3 B2 most k hg hc hh F3 wr ∧ (∀ x ∈ F1, x ∉ F3 ∧ x ≠ B2) ∧ B ∉ F3 ∧ B ≠ B2 ∧ g ∉ F3 ∧ g ≠ B2 ∧ (∀ x ∈ F3, w.heap.size ≤ x) ∧ w.heap.size ≤ B2 ∧ Below w.heap.size w wr ∧ ∃ t, hh = ss ++ t
theorem Cop2.next {w wr w6 : World} {T1 T3 B B2 : Nat} {most : Int} {m1 g cg : Nat} {ss : List Int} {F1 : List Nat} {k hg hc hg' hc' : Nat} {hh hh' : List Int} {F3 F3' : List Nat} (h : Cop2 w T1 T3 B B2 most m1 g cg ss F1 k hg hc hh F3 wr)
    (hA : Act1 T3 B2 most (k + 1) hg' hc' hh' F3' w6) (ht : Turned (B2 :: F3) wr w6) (hn : ∀ x ∈ F3', x ∈ F3 ∨ wr.heap.size ≤ x) (hmore : ∃ t, hh' = hh ++ t) :
    Cop2 w T1 T3 B B2 most m1 g cg ss F1 (k + 1) hg' hc' hh' F3' w6 := by
  obtain ⟨⟨hT, hR, hbox⟩, hA0, hd, hB, hBB, hg, hgB, f3, hwB, hb, t0, e0⟩ := h
  have l1 := hT.lt
  have gl := hR.lt
  have hBl : B < wr.heap.size := (Array.getElem?_eq_some_iff.1 hbox).1
  have hs := hb.size
  refine ⟨⟨hT.kept ht (fun x hx hm => ?_), hR.kept ht (by simp; exact ⟨hgB, hg⟩), ht.keep hbox (by simp; exact ⟨hBB, hB⟩)⟩, hA, fun x hx => ⟨fun hm => ?_, (hd x hx).2⟩, fun hm => ?_, hBB, fun hm => ?_, hgB, fun x hx => ?_, hwB, hb.trans (ht.below hs (fun x hx => ?_)), ?_⟩
  · rcases List.mem_cons.1 hm with e | hm
    · exact (hd x hx).2 e
    · exact (hd x hx).1 hm
  · rcases hn x hm with h | h
    · exact (hd x hx).1 h
    · have := l1 x hx; omega
  · rcases hn _ hm with h | h
    · exact hB h
    · omega
  · rcases hn _ hm with h | h
    · exact hg h
    · omega
  · rcases hn x hx with h | h
    · exact f3 x h
    · omega
  · rcases List.mem_cons.1 hx with e | hx
    · subst e; exact hwB
    · exact f3 x hx
  · obtain ⟨t1, e1⟩ := hmore
    exact ⟨t0 ++ t1, by rw [e1, e0, List.append_assoc]⟩
theorem cop2_first {w wr wc wq : World} {T1 T2 T3 B : Nat} {most : Int} {k g c : Nat} {ss : List Int} {F1 F2 F3 : List Nat} (h : Cop w T1 T2 B most k g c ss F1 F2 wr) (hT : Tab wc T3 most ss 0 F3) (hF : ∀ x ∈ F3, wr.heap.size ≤ x) (hb : Below wr.heap.size wr wc) (hq : Below wc.heap.size wc wq) :
    Cop2 w T1 T3 B wq.heap.size most k g c ss F1 0 g c ss F3 (wq.alloc (.cells #[.int .i64 most, .slice (some ⟨g, 0, none⟩) ss.length c] 30)) := by
  obtain ⟨⟨hT1, hR, hg, hB, hgB, hbox⟩, h2, hd, hB2, hg2, f1, f2, hwB, hbw⟩ := h
  have ha := (Below.refl wq.heap.size wq).alloc (Nat.le_refl _) (.cells #[.int .i64 most, .slice (some ⟨g, 0, none⟩) ss.length c] 30)
  have s1 := hb.size
  have s2 := hq.size
  have sw := hbw.size
  have b1 : Below wr.heap.size wr wq := hb.trans (hq.mono s1)
  have b2 : Below wr.heap.size wr (wq.alloc (.cells #[.int .i64 most, .slice (some ⟨g, 0, none⟩) ss.length c] 30)) := b1.trans (ha.mono (by omega))
  have hBl : B < wr.heap.size := (Array.getElem?_eq_some_iff.1 hbox).1
  have l1 := hT1.lt
  have l3 := hT.lt
  have gl := hR.lt
  refine ⟨⟨hT1.below b2, hR.below b2, (b2.block B hBl).trans hbox⟩, ⟨(hT.below hq).below ha, hR.below b2, fun hm => ?_, fun hm => ?_, by omega, heap_alloc_new _ _⟩, fun x hx => ⟨fun hm => ?_, ?_⟩, fun hm => ?_, by omega, fun hm => ?_, by omega, fun x hx => ?_, by omega, hbw.trans (b2.mono sw), [], by simp⟩
  · have := hF _ hm; omega
  · have := l3 _ hm; omega
  · have := l1 _ hx; have := hF _ hm; omega
  · have := l1 _ hx; omega
  · have := hF _ hm; omega
  · have := hF _ hm; omega
  · have := hF _ hx; omega
theorem keep4 {E W W9 : World} {B B2 : Nat} {u0 u1 v0 v1 : Value} (hb : Below W.heap.size W W9) (hE : Below E.heap.size E W) (h0 : W.cell? ⟨B, 0, none⟩ = some u0) (h1 : W.cell? ⟨B, 1, none⟩ = some u1) (h2 : W.cell? ⟨B2, 0, none⟩ = some v0) (h3 : W.cell? ⟨B2, 1, none⟩ = some v1) :
    W9.cell? ⟨B, 0, none⟩ = some u0 ∧ W9.cell? ⟨B, 1, none⟩ = some u1 ∧ W9.cell? ⟨B2, 0, none⟩ = some v0 ∧ W9.cell? ⟨B2, 1, none⟩ = some v1 ∧ Below E.heap.size E W9 :=
  ⟨below_cell' hb h0, below_cell' hb h1, below_cell' hb h2, below_cell' hb h3, hE.trans (hb.mono hE.size)⟩

theorem cop_first {w w1 w2 w3 : World} {T1 T2 g cg : Nat} {most : Int} {F1 F2 : List Nat} (hT1 : Tab w1 T1 most [0] 0 F1) (hF1 : ∀ k ∈ F1, w.heap.size ≤ k) (hb1 : Below w.heap.size w w1)
    (hT2 : Tab w2 T2 most [0] 0 F2) (hF2 : ∀ k ∈ F2, w1.heap.size ≤ k) (hb2 : Below w1.heap.size w1 w2) (hG : RT w3 g cg [0] ∧ w2.heap.size ≤ g ∧ Below w2.heap.size w2 w3) :
    ∃ gg cc ss F1 F2, Cop w T1 T2 w3.heap.size most 0 gg cc ss F1 F2 (w3.alloc (.cells #[.int .i64 most, .slice (some ⟨g, 0, none⟩) 1 cg] 30)) := by
  obtain ⟨hR, hg, hb3⟩ := hG
  have ha := (Below.refl w3.heap.size w3).alloc (Nat.le_refl _) (.cells #[.int .i64 most, .slice (some ⟨g, 0, none⟩) 1 cg] 30)
  have l1 := hT1.lt
  have l2 := hT2.lt
  have gl := hR.lt
  have s1 := hb1.size
  have s2 := hb2.size
  have s3 := hb3.size
  refine ⟨g, cg, [0], F1, F2, ⟨((hT1.below hb2).below hb3).below ha, hR.below ha, fun hm => ?_, fun hm => ?_, by omega, heap_alloc_new _ _⟩, (hT2.below hb3).below ha, fun x hx hm => ?_, fun hm => ?_, fun hm => ?_, hF1, fun x hx => ?_, by omega, ((hb1.trans (hb2.mono s1)).trans (hb3.mono (by omega))).trans (ha.mono (by omega))⟩
  · have := l1 _ hm; omega
  · have := l1 _ hm; omega
  · have := l1 _ hx; have := hF2 _ hm; omega
  · have := l2 _ hm; omega
  · have := l2 _ hm; omega
  · have := hF2 _ hx; omega

set_option maxRecDepth 100000 in
theorem LabelsCopies_walk (most : Int) (hm : (Lit.int .i64 most).wf = true) (va : Value) (xs : List Step4) (vb : Value) (ys : List Step4) (w : World) (ha : StepsIn w va xs) (hb : StepsIn w vb ys) (la : xs.length ≤ 140737488355328) (lb : ys.length ≤ 140737488355328) :
    Calls Tryd.prog 5 #[.int .i64 most, va, vb] w fun e w' => e = .returned (.bool true) ∧ Below w.heap.size w w' := by
  obtain ⟨oa, ca, rfl, hcapa, hla, hca⟩ := ha.form
  obtain ⟨ob, cb, rfl, hcapb, hlb, hcb⟩ := hb.form
  have HCA := Lib.hid hca
  have HCB := Lib.hid hcb
  clear ha hb hca hcb
  by_cases hbad : most < 1 ∨ 65536 < most
  · clear HCA HCB
    go_enter Tryd.func5, Tryd.ntmps5
    by_cases h1 : 60 < (xs.length : Int) + (ys.length : Int)
    all_goals
      go_wp2_with (first
        | (go_at_call 10; (with_reducible refine (New_bad most (by omega) _).mono ?_); rintro e w1 ⟨rfl, rfl⟩)
        | (go_at_call 9; (with_reducible refine (known_any _).mono ?_); rintro e w3 ⟨rfl, hb3⟩))
      go_ret
      exact ⟨rfl, hb3⟩
  · have b1 : 1 ≤ most := by omega
    have b2 : most ≤ 65536 := by omega
    by_cases hlen : 60 < (xs.length : Int) + (ys.length : Int)
    · clear HCA HCB
      go_enter Tryd.func5, Tryd.ntmps5
      go_wp2_with fail
      refine (New_good most b1 b2 _).mono ?_
      rintro e w1 ⟨rfl, hT1, hb1⟩
      clear hT1
      go_wp2_with fail
      refine (New_good most b1 b2 _).mono ?_
      rintro e w2 ⟨rfl, hT2, hb2⟩
      clear hT2
      go_wp2_with (go_at_call 9; (with_reducible refine (known_any _).mono ?_); rintro e w3 ⟨rfl, hb3⟩)
      go_ret
      have hB2 := hb1.trans (hb2.mono hb1.size)
      exact ⟨rfl, hB2.trans (hb3.mono hB2.size)⟩
    · go_enter Tryd.func5, Tryd.ntmps5
      go_wp2_with fail
      refine (New_good most b1 b2 _).mono ?_
      rintro e w1 ⟨rfl, hT1, hb1⟩
      have HT1 := Lib.hid (And.intro hT1 hb1)
      clear hT1 hb1
      go_wp2_with fail
      refine (New_good most b1 b2 _).mono ?_
      rintro e w2 ⟨rfl, hT2, hb2⟩
      have HT2 := Lib.hid (And.intro hT2 hb2)
      clear hT2 hb2
      go_wp2_with fail
      refine (RNew_r most _).mono ?_
      rintro e w3 ⟨g, cg, rfl, HG⟩
      go_wp2_with fail
      have HS4 : Hid (∃ gg cc ss F1 F2, Cop w (w.heap.size + 3) (w1.heap.size + 3) w3.heap.size most 0 gg cc ss F1 F2 (w3.alloc (.cells #[.int .i64 most, .slice (some ⟨g, 0, none⟩) 1 cg] 30))) :=
        cop_first HT1.out.1 (fun k hk => by simp at hk; omega) HT1.out.2 HT2.out.1 (fun k hk => by simp at hk; omega) HT2.out.2 HG.out
      generalize hTT : w.heap.size + 3 = T1 at *
      generalize hTT2 : w1.heap.size + 3 = T2 at *
      generalize hBB : w3.heap.size = B at *
      clear hTT hTT2 hBB HT1 HT2 HG
      go_loopw [12] (fun i wr => ∃ k : Nat, k ≤ xs.length ∧ i = .int .i64 k ∧ Hid (∃ g c ss F1 F2, Cop w T1 T2 B most k g c ss F1 F2 wr)) (fun i _ => xs.length - (intOf i).toNat)
      case atStart => exact ⟨0, by omega, rfl, HS4⟩
      case round =>
        clear HS4
        obtain ⟨k, hk, rfl, HI⟩ := hrel
        obtain ⟨g, cg, ss, F1, F2, HI⟩ : ∃ g c ss F1 F2, Hid (Cop w T1 T2 B most k g c ss F1 F2 wr) := HI.out
        by_cases hlt : k < xs.length
        · obtain ⟨s, hs⟩ : ∃ s, xs[k]? = some s := ⟨_, List.getElem?_eq_getElem hlt⟩
          obtain ⟨hx, a, rfl, ha0, ha1, ha2, ha3⟩ := HCA.out k s hs
          have hw := HI.out.2.2.2.2.2.2.2.2
          have hAw := World.block_lt_of_cell? _ _ ha0
          have a0 := below_cell' hw ha0
          have a1 := at_add (by decide) (below_cell' hw ha1)
          have a2 := at_add (by decide) (below_cell' hw ha2)
          have a3 := at_add (by decide) (below_cell' hw ha3)
          obtain ⟨p0, p1, z0, z1⟩ := blk_cells HI.out.1.2.2.2.2.2
          have HAr := Lib.hid (And.intro a0 (And.intro a1 (And.intro a2 a3)))
          have HAn : Hid ((a.add (k * 4)).block ∉ B :: F1) := fun hm => by
            rcases List.mem_cons.1 hm with e | hm
            · have := HI.out.2.2.2.2.2.2.2.1; omega
            · have := HI.out.2.2.2.2.2.1 _ hm; omega
          have hsl := HI.out.1.1.sets.len
          have HX := Lib.hid hx
          have hk6 : k < 65536 := by omega
          have hset := Lib.hid HI.out.1.1.sets
          have HTd : Hid (Tab wr.drew T1 most ss k F1) := HI.out.1.1.below (Below.refl _ wr).drew
          have HRd : Hid (RT wr.drew g cg ss) := HI.out.1.2.1.below (Below.refl _ wr).drew
          have HGF := Lib.hid HI.out.1.2.2.1
          clear hs ha0 ha1 ha2 ha3 hw hx hAw
          go_wp2_with fail
          refine wp_region_call_rest 6 #[true, true, true, true, true, true, false, false, false, false, false] (by kernel_rfl) rfl (by kernel_rfl) ?_
          simp only [List.take_succ_cons, List.take_zero]
          repeat still_step
          refine wpStill_nil ?_
          go_wp2_with (go_at_call 13; (with_reducible refine (does_r _ _ _ _ hk6 _ _ _ _ _ _ rfl hset.out s HX.out _ HTd.out HRd.out HGF.out).mono ?_); rintro e w5 ⟨g', c', bb, F1', n', rfl, HD⟩)
          obtain ⟨hb5, hA6, ht6, hn6, hg6⟩ := act_step HI.out.1 (Below.refl _ wr).drew HD.out
          obtain ⟨m0, m1, m2, m3⟩ := blk_cells hb5
          have HM := Lib.hid (HI.out.mid hA6 ht6 hn6 hg6)
          obtain ⟨f0, f1, f2, f3⟩ := blk_cells hA6.2.2.2.2.2
          rw [HD.out.1] at f1
          have c0 := turn_cell ht6 HAn.out HAr.out.1
          have c1 := turn_cell (p := ⟨(a.add (k * 4)).block, (a.add (k * 4)).off + 1, none⟩) ht6 HAn.out HAr.out.2.1
          have c2 := turn_cell (p := ⟨(a.add (k * 4)).block, (a.add (k * 4)).off + 2, none⟩) ht6 HAn.out HAr.out.2.2.1
          have c3 := turn_cell (p := ⟨(a.add (k * 4)).block, (a.add (k * 4)).off + 3, none⟩) ht6 HAn.out HAr.out.2.2.2
          have HA6 := Lib.hid hA6
          clear hA6 ht6 hn6 hg6 hb5
          simp only [RestAny]
          refine wpAny_take (i := 7) (v := .tuple #[.agg #[.int .i64 most, .slice (some ⟨g', 0, none⟩) n' c'], .bool bb]) rfl (by kernel_rfl) (by kernel_rfl) (by kernel_rfl) (fun _ _ _ h => h) (.inl ⟨by rfl, fun W => by go_simp⟩) ?_
          try simp only [Act.put, List.setIfInBounds_toArray, List.set_cons_zero, List.set_cons_succ]
          refine wpAny_take (i := 8) (v := .agg #[.int .i64 most, .slice (some ⟨g', 0, none⟩) n' c']) rfl (by kernel_rfl) (by kernel_rfl) (by kernel_rfl) (fun _ _ _ h => h) (.inl ⟨by rfl, fun W => by go_simp⟩) ?_
          try simp only [Act.put, List.setIfInBounds_toArray, List.set_cons_zero, List.set_cons_succ]
          refine wpAny_take (i := 9) (v := .bool bb) rfl (by kernel_rfl) (by kernel_rfl) (by kernel_rfl) (fun _ _ _ h => h) (.inl ⟨by rfl, fun W => by go_simp⟩) ?_
          try simp only [Act.put, List.setIfInBounds_toArray, List.set_cons_zero, List.set_cons_succ]
          refine wpAny_ready (rs := [10]) (by kernel_rfl) (by simp) (ready_shut rfl (fun K hK => ?_) AllReady.nil)
          go_simp
          refine hK.out _ _ ?_
          clear hK K
          try simp only [Act.put, List.setIfInBounds_toArray, List.set_cons_zero, List.set_cons_succ]
          refine wpAny_done (by kernel_rfl) ?_ _
          generalize hw6 : (w5.setCell ⟨B, 0, none⟩ (.int .i64 most)).setCell ⟨B, 1, none⟩ (.slice (some ⟨g', 0, none⟩) n' c') = w6 at HM f0 f1 f2 f3 c0 c1 c2 c3 HA6 ⊢
          clear hw6
          have HTd2 : Hid (Tab w6.drew T2 most ss k F2) := HM.out.1.below (Below.refl _ w6).drew
          have HRd2 : Hid (RT w6.drew g' c' (doesR most ss s)) := HA6.out.2.1.below (Below.refl _ w6).drew
          have hset2 := Lib.hid HA6.out.1.sets
          have HG2 := Lib.hid HM.out.2.2.1
          have hDn := Lib.hid HD.out.1
          clear p0 p1 z0 z1 a0 a1 a2 a3 m0 m1 m2 m3
          go_wp2_with fail
          refine wp_region_one_call 6 (by kernel_rfl) rfl (by kernel_rfl) ?_
          simp only [List.take_succ_cons, List.take_zero, List.drop_succ_cons, List.drop_zero]
          repeat still_step
          refine wpStill_nil ?_
          go_wp2_with (go_at_call 13; (with_reducible refine (does_r _ _ _ _ hk6 _ _ _ _ _ _ hDn.out hset2.out s HX.out _ HTd2.out HRd2.out HG2.out).mono ?_); rintro e w7 ⟨g7, c7, bb7, F2', n7, rfl, HD7⟩)
          simp only [Rest]
          refine wpQuiet_nil ?_
          intro _ hw'
          obtain ⟨nq2, hw''⟩ := hw'
          subst hw''
          go_wp2_with fail
          go_roundw
          case rel => exact ⟨k + 1, by omega, by go_num, g', c', _, F1', F2', Cop.next HA6.out HM.out.2.1 HI.out.2.2.2.1 HM.out.2.2.1 HM.out.2.2.2.1 HI.out.2.2.2.2.2.2.1 HI.out.2.2.2.2.2.2.2.1 HM.out.2.2.2.2 (Below.refl _ w6).drew HD7.out.2.2.1 HD7.out.2.2.2.2.2.1 HD7.out.2.2.2.2.2.2.1 (below_drewN _ w7 nq2)⟩
          case measure => simp [intOf]; omega
        · have hset := Lib.hid HI.out.1.1.sets
          have HC := Lib.hid (Copy_any T1 most ss k F1 wr HI.out.1.1)
          obtain ⟨p0, p1, _, _⟩ := blk_cells HI.out.1.2.2.2.2.2
          clear HCA
          go_wp2_with fail
          refine HC.out.mono ?_
          rintro e wc ⟨T3, F3, rfl, hT3, hF3, hbc⟩
          have HS1 := Lib.hid (Same_id T1 T3 most ss k 0 F1 F3 wc (HI.out.1.1.below hbc) hT3)
          have HH3 := Lib.hid (And.intro hT3 (And.intro hF3 hbc))
          have p0c := below_cell' hbc p0
          have p1c := below_cell' hbc p1
          clear hT3 hF3 hbc p0 p1
          go_wp2_with fail
          refine HS1.out.mono ?_
          rintro e wq ⟨rfl, hbq⟩
          have HS2 := Lib.hid (Same_id T1 T2 most ss k k F1 F2 wq ((HI.out.1.1.below HH3.out.2.2).below hbq) ((HI.out.2.1.below HH3.out.2.2).below hbq))
          have p0q := below_cell' hbq p0c
          have p1q := below_cell' hbq p1c
          have HBq := Lib.hid hbq
          clear hbq p0c p1c
          go_wp2_with fail
          refine HS2.out.mono ?_
          rintro e wp ⟨rfl, hbp⟩
          have p0p := below_cell' hbp p0q
          have p1p := below_cell' hbp p1q
          have HBp := Lib.hid hbp
          clear hbp p0q p1q
          go_wp2_with fail
          have HS5 : Hid (∃ hg hc hh F3, Cop2 w T1 T3 B wp.heap.size most k g cg ss F1 0 hg hc hh F3 (wp.alloc (.cells #[.int .i64 most, .slice (some ⟨g, 0, none⟩) ss.length cg] 30))) :=
            ⟨_, _, _, _, cop2_first HI.out HH3.out.1 HH3.out.2.1 HH3.out.2.2 (HBq.out.trans (HBp.out.mono HBq.out.size))⟩
          generalize hBB2 : wp.heap.size = B2 at *
          clear hBB2 hlt
          go_loopw [15] (fun i wr => ∃ q : Nat, q ≤ ys.length ∧ i = .int .i64 q ∧ Hid (∃ hg hc hh F3, Cop2 w T1 T3 B B2 most k g cg ss F1 q hg hc hh F3 wr)) (fun i _ => ys.length - (intOf i).toNat)
          case atStart => exact ⟨0, by omega, rfl, HS5⟩
          case round =>
            clear HS5
            obtain ⟨q, hq, rfl, HJ⟩ := hrel
            obtain ⟨hg, hc, hh, F3, HJ⟩ : ∃ hg hc hh F3, Hid (Cop2 w T1 T3 B B2 most k g cg ss F1 q hg hc hh F3 wr) := HJ.out
            by_cases hlt : q < ys.length
            · obtain ⟨s, hs⟩ : ∃ s, ys[q]? = some s := ⟨_, List.getElem?_eq_getElem hlt⟩
              obtain ⟨hx, a, rfl, ha0, ha1, ha2, ha3⟩ := HCB.out q s hs
              have hw := HJ.out.2.2.2.2.2.2.2.2.2.1
              have a0 := below_cell' hw ha0
              have a1 := at_add (by decide) (below_cell' hw ha1)
              have a2 := at_add (by decide) (below_cell' hw ha2)
              have a3 := at_add (by decide) (below_cell' hw ha3)
              obtain ⟨p0, p1, z0, z1⟩ := blk_cells HJ.out.2.1.2.2.2.2.2
              have hsl := HJ.out.2.1.1.sets.len
              have HX := Lib.hid hx
              have hk6 : q < 65536 := by omega
              have hset := Lib.hid HJ.out.2.1.1.sets
              have HTd : Hid (Tab wr.drew T3 most hh q F3) := HJ.out.2.1.1.below (Below.refl _ wr).drew
              have HRd : Hid (RT wr.drew hg hc hh) := HJ.out.2.1.2.1.below (Below.refl _ wr).drew
              have HGF := Lib.hid HJ.out.2.1.2.2.1
              clear hs ha0 ha1 ha2 ha3 hw hx
              go_wp2_with fail
              refine wp_region_call_rest 6 #[true, true, true, true, true, true, false, false, false, false, false] (by kernel_rfl) rfl (by kernel_rfl) ?_
              simp only [List.take_succ_cons, List.take_zero]
              repeat still_step
              refine wpStill_nil ?_
              go_wp2_with (go_at_call 13; (with_reducible refine (does_r _ _ _ _ hk6 _ _ _ _ _ _ rfl hset.out s HX.out _ HTd.out HRd.out HGF.out).mono ?_); rintro e w5 ⟨g', c', bb, F3', n', rfl, HD⟩)
              obtain ⟨hb5, hA6, ht6, hn6, hg6⟩ := act_step HJ.out.2.1 (Below.refl _ wr).drew HD.out
              obtain ⟨m0, m1, m2, m3⟩ := blk_cells hb5
              have HM := Lib.hid (HJ.out.next hA6 ht6 hn6 (doesR_more most hh s))
              clear hA6 ht6 hn6 hg6 hb5
              simp only [RestAny]
              refine wpAny_take (i := 7) (v := .tuple #[.agg #[.int .i64 most, .slice (some ⟨g', 0, none⟩) n' c'], .bool bb]) rfl (by kernel_rfl) (by kernel_rfl) (by kernel_rfl) (fun _ _ _ h => h) (.inl ⟨by rfl, fun W => by go_simp⟩) ?_
              try simp only [Act.put, List.setIfInBounds_toArray, List.set_cons_zero, List.set_cons_succ]
              refine wpAny_take (i := 8) (v := .agg #[.int .i64 most, .slice (some ⟨g', 0, none⟩) n' c']) rfl (by kernel_rfl) (by kernel_rfl) (by kernel_rfl) (fun _ _ _ h => h) (.inl ⟨by rfl, fun W => by go_simp⟩) ?_
              try simp only [Act.put, List.setIfInBounds_toArray, List.set_cons_zero, List.set_cons_succ]
              refine wpAny_take (i := 9) (v := .bool bb) rfl (by kernel_rfl) (by kernel_rfl) (by kernel_rfl) (fun _ _ _ h => h) (.inl ⟨by rfl, fun W => by go_simp⟩) ?_
              try simp only [Act.put, List.setIfInBounds_toArray, List.set_cons_zero, List.set_cons_succ]
              refine wpAny_ready (rs := [10]) (by kernel_rfl) (by simp) (ready_shut rfl (fun K hK => ?_) AllReady.nil)
              go_simp
              refine hK.out _ _ ?_
              clear hK K
              try simp only [Act.put, List.setIfInBounds_toArray, List.set_cons_zero, List.set_cons_succ]
              refine wpAny_done (by kernel_rfl) ?_ _
              generalize hw6 : (w5.setCell ⟨B2, 0, none⟩ (.int .i64 most)).setCell ⟨B2, 1, none⟩ (.slice (some ⟨g', 0, none⟩) n' c') = w6 at HM ⊢
              clear hw6
              go_wp2_with fail
              go_roundw
              case rel => exact ⟨q + 1, by omega, by go_num, g', c', _, F3', HM.out⟩
              case measure => simp [intOf]; omega
            · obtain ⟨p0, p1, _, _⟩ := blk_cells HJ.out.1.2.2
              obtain ⟨q0, q1, _, _⟩ := blk_cells HJ.out.2.1.2.2.2.2.2
              have H0 : wr.drew.cell? ⟨B, 0, none⟩ = some (.int .i64 most) ∧ wr.drew.cell? ⟨B, 1, none⟩ = some (.slice (some ⟨g, 0, none⟩) ss.length cg) ∧ wr.drew.cell? ⟨B2, 0, none⟩ = some (.int .i64 most) ∧ wr.drew.cell? ⟨B2, 1, none⟩ = some (.slice (some ⟨hg, 0, none⟩) hh.length hc) ∧ Below wr.heap.size wr wr.drew := ⟨p0, p1, q0, q1, (Below.refl _ wr).drew⟩
              have HH0 := Lib.hid H0
              have hl1 : ss.length ≤ 65536 := by have := HJ.out.1.1.sets.len; omega
              have hl2 : hh.length ≤ 65536 := by have := HJ.out.2.1.1.sets.len; omega
              obtain ⟨tt, htt⟩ := HJ.out.2.2.2.2.2.2.2.2.2.2
              have heq : decide (ss = hh) = ((hh.length : Int) == (ss.length : Int)) := by
                subst htt
                cases tt with
                | nil => simp
                | cons x r => simp; omega
              have HSM1 : Hid (∀ W, Below wr.heap.size wr W → Calls Tryd.prog 12 #[.pointer (some ⟨T1, 0, none⟩), .agg #[.int .i64 most, .slice (some ⟨g, 0, none⟩) ss.length cg]] W fun e w' => e = .returned (.bool true) ∧ Below W.heap.size W w') :=
                fun W hW => same_r T1 most ss _ F1 most g cg _ rfl W (HJ.out.1.1.below hW) (HJ.out.1.2.1.below hW)
              have HSM2 : Hid (∀ W, Below wr.heap.size wr W → Calls Tryd.prog 12 #[.pointer (some ⟨T3, 0, none⟩), .agg #[.int .i64 most, .slice (some ⟨hg, 0, none⟩) hh.length hc]] W fun e w' => e = .returned (.bool true) ∧ Below W.heap.size W w') :=
                fun W hW => same_r T3 most hh _ F3 most hg hc _ rfl W (HJ.out.2.1.1.below hW) (HJ.out.2.1.2.1.below hW)
              have HSM3 : Hid (∀ W, Below wr.heap.size wr W → Calls Tryd.prog 20 #[.pointer (some ⟨T1, 0, none⟩), .pointer (some ⟨T3, 0, none⟩)] W fun e w' => e = .returned (.bool ((hh.length : Int) == (ss.length : Int))) ∧ Below W.heap.size W w') :=
                fun W hW => by
                  have := Same_yes T1 T3 most ss hh _ _ F1 F3 W (HJ.out.1.1.below hW) (HJ.out.2.1.1.below hW)
                  rwa [heq] at this
              clear p0 p1 q0 q1 H0 htt heq
              go_wp2_with fail
              go_region_held3 (fun W => W.cell? ⟨B, 0, none⟩ = some (.int .i64 most) ∧ W.cell? ⟨B, 1, none⟩ = some (.slice (some ⟨g, 0, none⟩) ss.length cg) ∧ W.cell? ⟨B2, 0, none⟩ = some (.int .i64 most) ∧ W.cell? ⟨B2, 1, none⟩ = some (.slice (some ⟨hg, 0, none⟩) hh.length hc) ∧ Below wr.heap.size wr W)
                (first
                  | exact HH0.out
                  | (go_split_ands; exact keep4 (by assumption) (by assumption) (by assumption) (by assumption) (by assumption) (by assumption)))
                (first
                  | (go_at_call 12; go_split_ands; (with_reducible refine (HSM1.out _ (by assumption)).mono ?_); rintro e w9 ⟨rfl, hb9⟩)
                  | (go_at_call 12; go_split_ands; (with_reducible refine (HSM2.out _ (by assumption)).mono ?_); rintro e w9 ⟨rfl, hb9⟩)
                  | (go_at_call 20; go_split_ands; (with_reducible refine (HSM3.out _ (by assumption)).mono ?_); rintro e w9 ⟨rfl, hb9⟩)
                  | (go_at_call 9; (with_reducible refine (known_any _).mono ?_); rintro e w9 ⟨rfl, hb9⟩))
              go_split_ands
              go_wp2_with fail
              go_ret
              have hw := HJ.out.2.2.2.2.2.2.2.2.2.1
              refine ⟨rfl, hw.trans (Below.mono (B := wr.heap.size) (by assumption) hw.size)⟩
end Go.Proofs.YtafnclkkncokpaaDoor
