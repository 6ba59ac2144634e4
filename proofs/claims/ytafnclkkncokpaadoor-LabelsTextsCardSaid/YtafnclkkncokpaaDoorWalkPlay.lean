/-
  Layer 2: the walk of LabelsPlay.
-/
import Derived.Test.YtafnclkkncokpaaDoorDoes2
namespace Go.Proofs.YtafnclkkncokpaaDoor
open Go.RowKit
set_option maxHeartbeats 1000000
theorem StepsIn.form {w : World} {v : Value} {xs : List Step4} (h : StepsIn w v xs) : ∃ (o : Option Addr) (c : Nat), v = .slice o xs.length c ∧ xs.length ≤ c ∧ xs.length ≤ maxLen ∧ (∀ (i : Nat) s, xs[i]? = some s → W32 s.x ∧ ∃ a, o = some a ∧ w.cell? (a.add (i * 4)) = some (.int .i64 s.k) ∧ w.cell? (a.add (i * 4 + 1)) = some (.int .i64 s.a) ∧ w.cell? (a.add (i * 4 + 2)) = some (.int .i64 s.b) ∧ w.cell? (a.add (i * 4 + 3)) = some (.int .u32 s.x)) := by
  rcases h with ⟨rfl, rfl⟩ | ⟨a, c, rfl, hcap, hl, hc, hw⟩
  · exact ⟨none, 0, rfl, by simp, by simp, fun i x hx => by simp at hx⟩
  · exact ⟨some a, c, rfl, hcap, hl, fun i x hx => ⟨hw x (List.mem_of_getElem? hx), a, rfl, hc i x hx⟩⟩
theorem same_r (T : Nat) (most : Int) (ss : List Int) (m : Nat) (F : List Nat) (mo : Int) (g c n : Nat) (hn : ss.length = n) (w : World) (h : Tab w T most ss m F) (hr : RT w g c ss) :
    Calls Tryd.prog 12 #[.pointer (some ⟨T, 0, none⟩), .agg #[.int .i64 mo, .slice (some ⟨g, 0, none⟩) n c]] w fun e w' => e = .returned (.bool true) ∧ Below w.heap.size w w' := by
  subst hn
  exact same_any T most ss m F mo g c w h hr
theorem RNew_r (most : Int) (w : World) :
    Calls Tryd.prog 11 #[.int .i64 most] w fun e w' => ∃ g c, e = .returned (.agg #[.int .i64 most, .slice (some ⟨g, 0, none⟩) 1 c]) ∧ Hid (RT w' g c [0] ∧ w.heap.size ≤ g ∧ Below w.heap.size w w') := RNew_any most w

theorem does_r (T : Nat) (most : Int) (ss : List Int) (m : Nat) (hm : m < 65536) (F : List Nat) (mo : Int) (g c n : Nat) (ss2 : List Int) (hn : ss2.length = n) (hs2 : Sets mo ss2) (s : Step4) (hx : W32 s.x) (w : World) (h : Tab w T most ss m F) (hr : RT w g c ss2) (hg : g ∉ F) :
    Calls Tryd.prog 13 #[.pointer (some ⟨T, 0, none⟩), .agg #[.int .i64 mo, .slice (some ⟨g, 0, none⟩) n c], .agg #[.int .i64 s.k, .int .i64 s.a, .int .i64 s.b, .int .u32 s.x]] w
      fun e w' => ∃ g' c' bb F' n', e = .returned (.tuple #[.agg #[.int .i64 mo, .slice (some ⟨g', 0, none⟩) n' c'], .bool bb]) ∧ Hid ((doesR mo ss2 s).length = n' ∧ (most = mo ∧ ss = ss2 → bb = true) ∧ Tab w' T most (doesR most ss s) (m + 1) F' ∧ RT w' g' c' (doesR mo ss2 s) ∧ g' ∉ F' ∧ Turned F w w' ∧ (∀ k ∈ F', k ∈ F ∨ w.heap.size ≤ k) ∧ (g' = g ∨ w.heap.size ≤ g')) := by
  subst hn
  exact (does_any T most ss m hm F mo g c ss2 hs2 s hx w h hr hg).mono fun e w' ⟨g', c', bb, F', h1, h2⟩ => ⟨g', c', bb, F', _, h1, rfl, h2⟩

/-- What holds ahead of each round: the table, the document's table in its box. -/
def Inv (w : World) (T B : Nat) (most : Int) (k : Nat) (g c : Nat) (ss : List Int) (wr : World) : Prop :=
  ∃ F, Tab wr T most ss k F ∧ RT wr g c ss ∧ g ∉ F ∧ B ∉ F ∧ g ≠ B ∧ wr.heap[B]? = some (.cells #[.int .i64 most, .slice (some ⟨g, 0, none⟩) ss.length c] 30 (0, 0)) ∧ (∀ k ∈ F, w.heap.size ≤ k) ∧ w.heap.size ≤ B ∧ w.heap.size ≤ g ∧ Below w.heap.size w wr

def Six (B : Nat) (A : Addr) (mo : Int) (sl : Value) (s : Step4) (W : World) : Prop :=
  W.cell? ⟨B, 0, none⟩ = some (.int .i64 mo) ∧ W.cell? ⟨B, 1, none⟩ = some sl ∧ W.cell? A = some (.int .i64 s.k) ∧ W.cell? ⟨A.block, A.off + 1, none⟩ = some (.int .i64 s.a) ∧ W.cell? ⟨A.block, A.off + 2, none⟩ = some (.int .i64 s.b) ∧ W.cell? ⟨A.block, A.off + 3, none⟩ = some (.int .u32 s.x)
theorem Six.alloc {B : Nat} {A : Addr} {mo : Int} {sl : Value} {s : Step4} {W : World} (h : Six B A mo sl s W) (o : Obj) : Six B A mo sl s (W.alloc o) := by
  have up : ∀ {p : Addr} {v : Value}, W.cell? p = some v → (W.alloc o).cell? p = some v := fun h => (World.cell?_alloc_lt _ _ _ (World.block_lt_of_cell? _ _ h)).trans h
  exact ⟨up h.1, up h.2.1, up h.2.2.1, up h.2.2.2.1, up h.2.2.2.2.1, up h.2.2.2.2.2⟩
theorem Six.turned {B : Nat} {A : Addr} {mo : Int} {sl : Value} {s : Step4} {W W' : World} {F : List Nat} (h : Six B A mo sl s W) (t : Turned F W W') (hB : B ∉ F) (ha : A.block ∉ F) : Six B A mo sl s W' := by
  have up : ∀ {p : Addr} {v : Value}, p.block ∉ F → W.cell? p = some v → W'.cell? p = some v := fun hn h => by
    rw [← h]; unfold World.cell?; rw [t.block _ (World.block_lt_of_cell? _ _ h) hn]
  exact ⟨up hB h.1, up hB h.2.1, up ha h.2.2.1, up ha h.2.2.2.1, up ha h.2.2.2.2.1, up ha h.2.2.2.2.2⟩
theorem Six.set2 {B : Nat} {A : Addr} {mo : Int} {sl : Value} {s : Step4} {W : World} {N : Nat} (h : Six B A mo sl s W) (hB : N ≠ B) (ha : N ≠ A.block) (u v : Value) : Six B A mo sl s ((W.setCell ⟨N, 0, none⟩ u).setCell ⟨N, 1, none⟩ v) := by
  have up : ∀ {p : Addr} {x : Value}, N ≠ p.block → W.cell? p = some x → ((W.setCell ⟨N, 0, none⟩ u).setCell ⟨N, 1, none⟩ v).cell? p = some x := fun hn h => (cell_set2_far hn u v).trans h
  exact ⟨up hB h.1, up hB h.2.1, up ha h.2.2.1, up ha h.2.2.2.1, up ha h.2.2.2.2.1, up ha h.2.2.2.2.2⟩
theorem at_add {w : World} {a : Addr} {i j : Nat} {v : Value} (hj : j ≠ 0) (h : w.cell? (a.add (i + j)) = some v) : w.cell? ⟨(a.add i).block, (a.add i).off + j, none⟩ = some v := by
  rw [← Go.Deep.add_add] at h
  rw [← h]
  congr 1
  unfold Addr.add
  simp [hj]

/-- What holds behind does, its table laid into the box N. -/
def Aft (w : World) (T B N : Nat) (most : Int) (k : Nat) (g' c' : Nat) (ss' : List Int) (v : Value) (W : World) : Prop :=
  ∃ F', Tab W T most ss' k F' ∧ RT W g' c' ss' ∧ g' ∉ F' ∧ B ∉ F' ∧ g' ≠ B ∧ W.heap[B]? = some (.cells #[.int .i64 most, v] 30 (0, 0)) ∧ W.heap[N]? = some (.cells #[.int .i64 most, .slice (some ⟨g', 0, none⟩) ss'.length c'] 30 (0, 0)) ∧ (∀ k ∈ F', w.heap.size ≤ k) ∧ w.heap.size ≤ B ∧ w.heap.size ≤ g' ∧ Below w.heap.size w W
theorem aft_mid {w wr wd w5 : World} {T B : Nat} {most : Int} {k k' : Nat} {g g' cg c' : Nat} {ss ss' : List Int} {v : Value} {F F' : List Nat} {n' : Nat} {ok : Prop}
    (hF : Tab wr T most ss k F ∧ RT wr g cg ss ∧ g ∉ F ∧ B ∉ F ∧ g ≠ B ∧ wr.heap[B]? = some (.cells #[.int .i64 most, v] 30 (0, 0)) ∧ (∀ k ∈ F, w.heap.size ≤ k) ∧ w.heap.size ≤ B ∧ w.heap.size ≤ g ∧ Below w.heap.size w wr)
    (hd : Below wr.heap.size wr wd)
    (hD : ss'.length = n' ∧ ok ∧ Tab w5 T most ss' k' F' ∧ RT w5 g' c' ss' ∧ g' ∉ F' ∧ Turned F wd w5 ∧ (∀ k ∈ F', k ∈ F ∨ wd.heap.size ≤ k) ∧ (g' = g ∨ wd.heap.size ≤ g')) :
    B ∉ F' ∧ g' ≠ B ∧ w5.heap[B]? = some (.cells #[.int .i64 most, v] 30 (0, 0)) ∧ (∀ k ∈ F', w.heap.size ≤ k) ∧ w.heap.size ≤ g' ∧ Below w.heap.size w w5 ∧ wr.heap.size ≤ w5.heap.size ∧ (∀ N, wr.heap.size ≤ N → N < wd.heap.size → N ∉ F' ∧ g' ≠ N ∧ N ≠ B) := by
  obtain ⟨hT, hR, hg, hB, hgB, hbox, hfar, hwB, hwg, hbel⟩ := hF
  obtain ⟨_, _, hT', hR', hg', htu, hnew, hgg⟩ := hD
  have hs := hd.size
  have hs5 := htu.size
  have hws := hbel.size
  have hBl : B < wr.heap.size := (Array.getElem?_eq_some_iff.1 hbox).1
  have hgl := hR.lt
  have hFl := hT.lt
  refine ⟨fun hm => ?_, ?_, htu.keep ((hd.block B hBl).trans hbox) hB, fun k hk => ?_, ?_, (hbel.trans (hd.mono hws)).trans (htu.below (by omega) hfar), by omega, fun N h1 h2 => ⟨fun hm => ?_, ?_, by omega⟩⟩
  · rcases hnew _ hm with h | h
    · exact hB h
    · omega
  · rcases hgg with rfl | h
    · exact hgB
    · omega
  · rcases hnew _ hk with h | h
    · exact hfar _ h
    · omega
  · rcases hgg with rfl | h
    · exact hwg
    · omega
  · rcases hnew _ hm with h | h
    · have := hFl _ h; omega
    · omega
  · rcases hgg with rfl | h <;> omega
theorem aft_A {w wr wd w5 : World} {T B : Nat} {most : Int} {k k' : Nat} {g g' cg c' : Nat} {ss ss' : List Int} {v : Value} {F F' : List Nat} {n' : Nat} {ok : Prop}
    (hF : Tab wr T most ss k F ∧ RT wr g cg ss ∧ g ∉ F ∧ B ∉ F ∧ g ≠ B ∧ wr.heap[B]? = some (.cells #[.int .i64 most, v] 30 (0, 0)) ∧ (∀ k ∈ F, w.heap.size ≤ k) ∧ w.heap.size ≤ B ∧ w.heap.size ≤ g ∧ Below w.heap.size w wr)
    (hd : Below wr.heap.size wr wd)
    (hD : ss'.length = n' ∧ ok ∧ Tab w5 T most ss' k' F' ∧ RT w5 g' c' ss' ∧ g' ∉ F' ∧ Turned F wd w5 ∧ (∀ k ∈ F', k ∈ F ∨ wd.heap.size ≤ k) ∧ (g' = g ∨ wd.heap.size ≤ g')) :
    Aft w T B w5.heap.size most k' g' c' ss' v (w5.alloc (.cells #[.int .i64 most, .slice (some ⟨g', 0, none⟩) n' c'] 30)) := by
  obtain ⟨h1, h2, h3, h4, h5, h6, h7, _⟩ := aft_mid hF hd hD
  obtain ⟨hn, _, hT', hR', hg', htu, hnew, hgg⟩ := hD
  subst hn
  have ha := (Below.refl w5.heap.size w5).alloc (Nat.le_refl _) (.cells #[.int .i64 most, .slice (some ⟨g', 0, none⟩) ss'.length c'] 30)
  have hBl := (Array.getElem?_eq_some_iff.1 h3).1
  exact ⟨F', hT'.below ha, hR'.below ha, hg', h1, h2, (ha.block B hBl).trans h3, heap_alloc_new _ _, h4, hF.2.2.2.2.2.2.2.1, h5, h6.trans (ha.mono h6.size)⟩
theorem aft_B {w wr w5 : World} {T B : Nat} {most : Int} {k k' : Nat} {g g' cg c' : Nat} {ss ss' : List Int} {v : Value} {F F' : List Nat} {n' : Nat} {ok : Prop} {o : Obj} {x y : Value}
    (hF : Tab wr T most ss k F ∧ RT wr g cg ss ∧ g ∉ F ∧ B ∉ F ∧ g ≠ B ∧ wr.heap[B]? = some (.cells #[.int .i64 most, v] 30 (0, 0)) ∧ (∀ k ∈ F, w.heap.size ≤ k) ∧ w.heap.size ≤ B ∧ w.heap.size ≤ g ∧ Below w.heap.size w wr)
    (hD : ss'.length = n' ∧ ok ∧ Tab w5 T most ss' k' F' ∧ RT w5 g' c' ss' ∧ g' ∉ F' ∧ Turned F (wr.alloc o).drew w5 ∧ (∀ k ∈ F', k ∈ F ∨ (wr.alloc o).drew.heap.size ≤ k) ∧ (g' = g ∨ (wr.alloc o).drew.heap.size ≤ g'))
    (hN : w5.heap[wr.heap.size]? = some (.cells #[x, y] 30 (0, 0))) :
    Aft w T B wr.heap.size most k' g' c' ss' v ((w5.setCell ⟨wr.heap.size, 0, none⟩ (.int .i64 most)).setCell ⟨wr.heap.size, 1, none⟩ (.slice (some ⟨g', 0, none⟩) n' c')) := by
  have hsz : (wr.alloc o).drew.heap.size = wr.heap.size + 1 := by simp
  obtain ⟨h1, h2, h3, h4, h5, h6, h7, h8⟩ := aft_mid hF (((Below.refl wr.heap.size wr).alloc (Nat.le_refl _) o).drew) hD
  obtain ⟨hn, _, hT', hR', hg', htu, hnew, hgg⟩ := hD
  subst hn
  obtain ⟨n1, n2, n3⟩ := h8 wr.heap.size (Nat.le_refl _) (by omega)
  have ha := ((Turned.refl [wr.heap.size] w5).setCell (p := ⟨wr.heap.size, 0, none⟩) (.inl (by simp)) (.int .i64 most)).setCell (p := ⟨wr.heap.size, 1, none⟩) (.inl (by simp)) (.slice (some ⟨g', 0, none⟩) ss'.length c')
  refine ⟨F', hT'.kept ha (fun k hk hm => ?_), hR'.kept ha (by simpa using n2), hg', h1, h2, ha.keep h3 (by simpa using n3.symm), blk_set2 hN, h4, hF.2.2.2.2.2.2.2.1, h5, h6.trans (ha.below h6.size (fun k hk => ?_))⟩
  · simp at hm; subst hm; exact n1 hk
  · simp at hk; subst hk; exact hF.2.2.2.2.2.2.2.2.2.size
theorem Aft.next {w W w6 : World} {T B N : Nat} {most : Int} {k : Nat} {g' c' : Nat} {ss' : List Int} {v : Value} (h : Aft w T B N most k g' c' ss' v W) (hb : Below W.heap.size W w6) :
    Inv w T B most k g' c' ss' ((w6.setCell ⟨B, 0, none⟩ (.int .i64 most)).setCell ⟨B, 1, none⟩ (.slice (some ⟨g', 0, none⟩) ss'.length c')) := by
  obtain ⟨F', hT, hR, hg, hB, hgB, hbB, hbN, hfar, hwB, hwg, hbel⟩ := h
  have ha := ((Turned.refl [B] w6).setCell (p := ⟨B, 0, none⟩) (.inl (by simp)) (.int .i64 most)).setCell (p := ⟨B, 1, none⟩) (.inl (by simp)) (.slice (some ⟨g', 0, none⟩) ss'.length c')
  have hBl := (Array.getElem?_eq_some_iff.1 hbB).1
  have hb6 := hbel.trans (hb.mono hbel.size)
  refine ⟨F', (hT.below hb).kept ha (fun k hk hm => ?_), (hR.below hb).kept ha (by simpa using hgB), hg, hB, hgB, blk_set2 ((hb.block B hBl).trans hbB), hfar, hwB, hwg, hb6.trans (ha.below hb6.size (fun k hk => ?_))⟩
  · simp at hm; subst hm; exact hB hk
  · simp at hk; subst hk; exact hwB

theorem inv_first {w w1 w2 w4 : World} {T g cg : Nat} {most : Int} {F : List Nat} (hT : Tab w1 T most [0] 0 F) (hF : ∀ k ∈ F, w.heap.size ≤ k) (hb1 : Below w.heap.size w w1) (hG : RT w2 g cg [0] ∧ w1.heap.size ≤ g ∧ Below w1.heap.size w1 w2)
    (hb4 : Below (w2.alloc (.cells #[.int .i64 most, .slice (some ⟨g, 0, none⟩) 1 cg] 30)).heap.size (w2.alloc (.cells #[.int .i64 most, .slice (some ⟨g, 0, none⟩) 1 cg] 30)) w4) :
    ∃ ss : List Int, ss.length = 1 ∧ Inv w T w2.heap.size most 0 g cg ss w4 := by
  obtain ⟨hR, hg1, hb2⟩ := hG
  have hlt := hT.lt
  have s1 := hb1.size
  have s2 := hb2.size
  have hgl := hR.lt
  have ha := (Below.refl w2.heap.size w2).alloc (Nat.le_refl _) (.cells #[.int .i64 most, .slice (some ⟨g, 0, none⟩) 1 cg] 30)
  have hbox := heap_alloc_new w2 (.cells #[.int .i64 most, .slice (some ⟨g, 0, none⟩) 1 cg] 30)
  have b4 : Below w2.heap.size w2 w4 := ha.trans (hb4.mono (by simp))
  refine ⟨[0], rfl, F, (hT.below hb2).below b4, hR.below b4, fun hm => ?_, fun hm => ?_, by omega, (hb4.block _ (by simp)).trans hbox, hF, by omega, by omega, (hb1.trans (hb2.mono s1)).trans (b4.mono (by omega))⟩
  · have := hlt _ hm; omega
  · have := hlt _ hm; omega

set_option maxRecDepth 100000 in
theorem LabelsPlay_walk (most : Int) (hm : (Lit.int .i64 most).wf = true) (v : Value) (xs : List Step4) (w : World) (h : StepsIn w v xs) :
    Calls Tryd.prog 3 #[.int .i64 most, v] w fun e w' => e = .returned (.bool true) ∧ Below w.heap.size w w' := by
  obtain ⟨o, c, rfl, hcap, hl, hc⟩ := h.form
  have HC := Lib.hid hc
  clear h hc
  by_cases hlen : 60 < (xs.length : Int)
  · clear HC
    go_enter Tryd.func3, Tryd.ntmps3
    go_wp2_with (go_at_call 9; (with_reducible refine (known_any _).mono ?_); rintro e w3 ⟨rfl, hb3⟩)
    go_ret
    exact ⟨rfl, hb3⟩
  · by_cases hbad : most < 1 ∨ 65536 < most
    · clear HC
      go_enter Tryd.func3, Tryd.ntmps3
      by_cases h1 : most < 1
      all_goals
        go_wp2_with (first
          | (go_at_call 10; (with_reducible refine (New_bad most (by omega) _).mono ?_); rintro e w1 ⟨rfl, rfl⟩)
          | (go_at_call 9; (with_reducible refine (known_any _).mono ?_); rintro e w3 ⟨rfl, hb3⟩))
        go_ret
        exact ⟨rfl, hb3⟩
    · have b1 : 1 ≤ most := by omega
      have b2 : most ≤ 65536 := by omega
      go_enter Tryd.func3, Tryd.ntmps3
      go_wp2_with (first
        | (go_at_call 10; (with_reducible refine (New_good most b1 b2 _).mono ?_); rintro e w1 ⟨rfl, hT, hb1⟩; have HT := Lib.hid (And.intro hT hb1); clear hT hb1)
        | (go_at_call 11; (with_reducible refine (RNew_r most _).mono ?_); rintro e w2 ⟨g, cg, rfl, HG⟩; have HT2 := Lib.hid (HT.out.1.below HG.out.2.2); have HT3 := Lib.hid (HT2.out.alloc (.cells #[.int .i64 most, .slice (some ⟨g, 0, none⟩) 1 cg] 30)); have HR3 := Lib.hid (HG.out.1.below ((Below.refl _ w2).alloc (Nat.le_refl _) (.cells #[.int .i64 most, .slice (some ⟨g, 0, none⟩) 1 cg] 30))))
        | (go_at_call 12; (with_reducible refine (same_r _ most [0] 0 _ _ _ _ 1 rfl _ HT3.out HR3.out).mono ?_); rintro e w4 ⟨rfl, hb4⟩))
      have HB4 := Lib.hid hb4
      have HS4 : Hid (∃ ss, ss.length = 1 ∧ Inv w (w.heap.size + 3) w2.heap.size most 0 g cg ss w4) := inv_first HT.out.1 (fun k hk => by simp at hk; omega) HT.out.2 HG.out HB4.out
      generalize hTT : w.heap.size + 3 = T at *
      generalize hBB : w2.heap.size = B at *
      clear hTT hBB hb4 HB4 HT HT2 HT3 HR3 HG
      go_loopw [8] (fun i wr => ∃ k : Nat, k ≤ xs.length ∧ i = .int .i64 k ∧ Hid (∃ g c ss, Inv w T B most k g c ss wr)) (fun i _ => xs.length - (intOf i).toNat)
      case atStart => exact ⟨0, by omega, rfl, by obtain ⟨ss, _, h⟩ := HS4.out; exact ⟨_, _, _, h⟩⟩
      case round =>
        obtain ⟨k, hk, rfl, HI⟩ := hrel
        obtain ⟨g, cg, ss, HI⟩ := HI.out
        have HI := Lib.hid HI
        by_cases hlt : k < xs.length
        · obtain ⟨s, hs⟩ : ∃ s, xs[k]? = some s := ⟨_, List.getElem?_eq_getElem hlt⟩
          obtain ⟨hx, a, rfl, ha0, ha1, ha2, ha3⟩ := HC.out k s hs
          obtain ⟨F, HF⟩ : ∃ F, Hid (Tab wr T most ss k F ∧ RT wr g cg ss ∧ g ∉ F ∧ B ∉ F ∧ g ≠ B ∧ wr.heap[B]? = some (.cells #[.int .i64 most, .slice (some ⟨g, 0, none⟩) ss.length cg] 30 (0, 0)) ∧ (∀ k ∈ F, w.heap.size ≤ k) ∧ w.heap.size ≤ B ∧ w.heap.size ≤ g ∧ Below w.heap.size w wr) := HI.out
          obtain ⟨p0, p1, z0, z1⟩ := blk_cells HF.out.2.2.2.2.2.1
          have hw := HF.out.2.2.2.2.2.2.2.2.2
          have hAw := World.block_lt_of_cell? _ _ ha0
          have a0 := below_cell hw ha0 (World.block_lt_of_cell? _ _ ha0)
          have a1 := below_cell hw ha1 (World.block_lt_of_cell? _ _ ha1)
          have a2 := below_cell hw ha2 (World.block_lt_of_cell? _ _ ha2)
          have a3 := below_cell hw ha3 (World.block_lt_of_cell? _ _ ha3)
          have hsl := HF.out.1.sets.len
          have HX := Lib.hid hx
          have a1 := at_add (by decide) a1
          have a2 := at_add (by decide) a2
          have a3 := at_add (by decide) a3
          clear hs ha0 ha1 ha2 ha3 hw hx
          have hBl : B < wr.heap.size := (Array.getElem?_eq_some_iff.1 HF.out.2.2.2.2.2.1).1
          have hal : (a.add (k * 4)).block < wr.heap.size := World.block_lt_of_cell? _ _ a0
          have haw : (a.add (k * 4)).block ∉ F := fun hm => by have := HF.out.2.2.2.2.2.2.1 _ hm; omega
          have hBF := HF.out.2.2.2.1
          have HTd : Hid (Tab wr.drew T most ss k F) := HF.out.1.below (Below.refl _ wr).drew
          have HRd : Hid (RT wr.drew g cg ss) := HF.out.2.1.below (Below.refl _ wr).drew
          have HTa := fun o => Lib.hid ((HF.out.1.alloc o).below (Below.refl _ (wr.alloc o)).drew)
          have HRa := fun o => Lib.hid ((HF.out.2.1.below ((Below.refl _ wr).alloc (Nat.le_refl _) o)).below (Below.refl _ (wr.alloc o)).drew)
          have HH1 : ∀ o, Six B (a.add (k * 4)) most (.slice (some ⟨g, 0, none⟩) ss.length cg) s (wr.alloc o).drew := fun o => Six.alloc (W := wr) ⟨p0, p1, a0, a1, a2, a3⟩ o
          have HH1' := Lib.hid HH1
          clear HH1
          have HTa' := Lib.hid HTa
          have HRa' := Lib.hid HRa
          have H0 : Six B (a.add (k * 4)) most (.slice (some ⟨g, 0, none⟩) ss.length cg) s wr.drew := ⟨p0, p1, a0, a1, a2, a3⟩
          have HH0 := Lib.hid H0
          clear H0
          have hk6 : k < 65536 := by omega
          have HNF : Hid (wr.heap.size ∉ F) := fun hm => by have := HF.out.1.lt _ hm; omega
          have hNB : wr.heap.size ≠ B := by omega
          have hNA : wr.heap.size ≠ (a.add (k * 4)).block := by omega
          have hset := Lib.hid HF.out.1.sets
          have HGF := Lib.hid HF.out.2.2.1
          have HAL := Lib.hid hal
          have HAW := Lib.hid haw
          have HBF := Lib.hid hBF
          clear hal haw hBF HTa HRa
          go_wp2_with fail
          go_region_held3 (fun W => W.cell? ⟨B, 0, none⟩ = some (.int .i64 most) ∧ W.cell? ⟨B, 1, none⟩ = some (.slice (some ⟨g, 0, none⟩) ss.length cg) ∧ W.cell? (a.add (k * 4)) = some (.int .i64 s.k) ∧ W.cell? ⟨(a.add (k * 4)).block, (a.add (k * 4)).off + 1, none⟩ = some (.int .i64 s.a) ∧ W.cell? ⟨(a.add (k * 4)).block, (a.add (k * 4)).off + 2, none⟩ = some (.int .i64 s.b) ∧ W.cell? ⟨(a.add (k * 4)).block, (a.add (k * 4)).off + 3, none⟩ = some (.int .u32 s.x))
            (first
              | exact HH0.out
              | exact HS5.out
              | exact HH1'.out _
              | exact HS5.out.alloc _
              | exact HS5.out.set2 hNB hNA _ _)
            (first
              | (go_at_call 13; (with_reducible refine (does_r _ _ _ _ hk6 _ _ _ _ _ _ rfl hset.out s HX.out _ HTd.out HRd.out HGF.out).mono ?_); rintro e w5 ⟨g', c', bb, F', n', rfl, HD⟩; have HS5 := Lib.hid (HH0.out.turned HD.out.2.2.2.2.2.1 HBF.out HAW.out))
              | (go_at_call 13; (with_reducible refine (does_r _ _ _ _ hk6 _ _ _ _ _ _ rfl hset.out s HX.out _ (HTa'.out _).out (HRa'.out _).out HGF.out).mono ?_); rintro e w5 ⟨g', c', bb, F', n', rfl, HD⟩; have HS5 := Lib.hid ((HH1'.out _).turned HD.out.2.2.2.2.2.1 HBF.out HAW.out); have hN5 := HD.out.2.2.2.2.2.1.keep (k := wr.heap.size) (heap_alloc_new wr _) HNF.out; have HN5 := Lib.hid hN5; obtain ⟨y0, y1, y2, y3⟩ := blk_cells hN5; clear hN5))
          · have HAft := Lib.hid (aft_A HF.out ((Below.refl wr.heap.size wr).drew) HD.out)
            have hbb := HD.out.2.1 (by simp)
            subst hbb
            obtain ⟨F6, hT6, hR6, _, _, _, hB6, hN6, _⟩ := HAft.out
            obtain ⟨l0, l1, _, _⟩ := blk_cells hN6
            rw [HD.out.1] at l1
            have HSM := Lib.hid (same_r T most _ _ _ most g' c' n' HD.out.1 _ hT6 hR6)
            have HB6' := Lib.hid hB6
            clear hT6 hR6 hB6 hN6
            go_wp2_with (go_at_call 12; (with_reducible refine HSM.out.mono ?_); rintro e w6 ⟨rfl, hb6⟩; have j0 := below_cell' hb6 l0; have j1 := below_cell' hb6 l1; have hbB := (hb6.block B (Array.getElem?_eq_some_iff.1 HB6'.out).1).trans HB6'.out; obtain ⟨m0, m1, m2, m3⟩ := blk_cells hbB; have HB6 := Lib.hid hb6; clear hb6 hbB l0 l1)
            go_roundw
            case rel => exact ⟨k + 1, by omega, by go_num, _, _, _, by have := HAft.out.next HB6.out; rw [HD.out.1] at this; exact this⟩
            case measure => simp [intOf]; omega
          · have HAft := Lib.hid (aft_B HF.out HD.out HN5.out)
            have hbb := HD.out.2.1 (by simp)
            subst hbb
            obtain ⟨F6, hT6, hR6, _, _, _, hB6, hN6, _⟩ := HAft.out
            obtain ⟨l0, l1, _, _⟩ := blk_cells hN6
            rw [HD.out.1] at l1
            have HSM := Lib.hid (same_r T most _ _ _ most g' c' n' HD.out.1 _ hT6 hR6)
            have HB6' := Lib.hid hB6
            clear hT6 hR6 hB6 hN6
            go_wp2_with (go_at_call 12; (with_reducible refine HSM.out.mono ?_); rintro e w6 ⟨rfl, hb6⟩; have j0 := below_cell' hb6 l0; have j1 := below_cell' hb6 l1; have hbB := (hb6.block B (Array.getElem?_eq_some_iff.1 HB6'.out).1).trans HB6'.out; obtain ⟨m0, m1, m2, m3⟩ := blk_cells hbB; have HB6 := Lib.hid hb6; clear hb6 hbB l0 l1)
            go_roundw
            case rel => exact ⟨k + 1, by omega, by go_num, _, _, _, by have := HAft.out.next HB6.out; rw [HD.out.1] at this; exact this⟩
            case measure => simp [intOf]; omega
        · have hsl := HI.out
          go_wp2_with (go_at_call 9; (with_reducible refine (known_any _).mono ?_); rintro e w3 ⟨rfl, hb3⟩)
          go_ret
          obtain ⟨F, _, _, _, _, _, _, _, _, _, hb⟩ := HI.out
          exact ⟨rfl, hb.trans (hb3.mono hb.size)⟩
end Go.Proofs.YtafnclkkncokpaaDoor
