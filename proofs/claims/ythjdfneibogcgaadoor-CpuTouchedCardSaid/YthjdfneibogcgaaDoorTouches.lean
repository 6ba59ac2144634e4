/-
  Layer 10: Touches of package cpu: walks. Written by gen_tq.py.
-/
import Derived.Test.YthjdfneibogcgaaDoorBehind
import Derived.Test.YthjdfneibogcgaaDoorAt
namespace Go.Proofs.YthjdfneibogcgaaDoor
open Go.RowKit
set_option maxHeartbeats 16000000
set_option linter.unusedVariables false
set_option linter.unusedSimpArgs false

theorem aheadT_len (i : Ins) : (aheadT i).length ≤ 1 := by
  unfold aheadT
  split
  · simp
  split
  · simp
  split
  · simp
  split <;> simp
theorem behindT_len (i : Ins) : (behindT i).length ≤ 1 := by
  unfold behindT
  split
  · simp
  split
  · simp
  split
  · simp
  split
  · simp
  split
  · simp
  split
  · simp
  split <;> simp
theorem cause_imm {s : Sta} {op A B m : Int} (hc : causeS s ⟨op, A, B, m⟩ = 0) (h : op = 26 ∨ op = 27) : 0 ≤ m ∧ m < 6 := by
  unfold causeS causeOf at hc
  dsimp only at hc
  rw [if_neg (by omega), if_neg (by omega), if_pos h] at hc
  split at hc
  · split at hc
    · cases hc
    · omega
  · cases hc
/-- The touches of a step behind T, its block, what was laid. -/
structure Tz (w : World) (R T : Nat) (s : Sta) (i : Ins) (l : List Tch) (W : World) : Prop where
  a : At T W T l
  r : Rf 58 20 W R (xc s i)
  n : Nam W
  b : Below w.heap.size w W
  h : R < T ∧ 0 < T ∧ w.heap.size ≤ T
section
variable {w W W' : World} {R T : Nat} {s : Sta} {i : Ins} {l l' : List Tch}
theorem Tz.after (h : Tz w R T s i l W) (hb : Below W.heap.size W W') : Tz w R T s i l W' := ⟨h.a.below hb, h.r.below hb, h.n.below hb, h.b.trans (hb.mono h.b.size), h.h⟩
theorem Tz.give (h : Tz w R T s i l W) (hA : At T W' T l') (hK : Kp T W W') : Tz w R T s i l' W' := ⟨hA, h.r.below' hK.b h.h.1, h.n.kp hK h.h.2.1, h.b.trans (hK.b.mono h.h.2.2), h.h⟩
end
set_option maxRecDepth 20000 in
theorem Touches_0 (s : Sta) (x op : Int) (A B : Nat) (m : Int) (hA : A < 8) (hB : B < 8) (hc : causeS s ⟨op, A, B, m⟩ = 0) (hm : op = 26 ∨ op = 27 → 0 ≤ m ∧ m < 6) (w : World) (hN : Nam w) (HC : Hid (∀ W, Below w.heap.size w W → Calls Tryd.prog 25 #[.agg (sc s), .int .u32 x] W fun e w' => e = .returned (.agg (xc s ⟨op, A, B, m⟩)) ∧ Below W.heap.size W w')) : Calls Tryd.prog 18 #[.agg (sc s), .int .u32 x] w fun e w' => (∃ v, e = .returned v ∧ TsIs w' v (aheadT ⟨op, A, B, m⟩ ++ behindT ⟨op, A, B, m⟩ ++ movedT ⟨op, A, B, m⟩)) ∧ Below w.heap.size w w' := by
  have HS := Lib.hid (rs_new w s)
  have HB := Lib.hid (bel1 w (.cells (sc s) 25))
  have HCW := Lib.hid (HC.out _ HB.out)
  have hca := fun W => cause_any s op A B m hA hB W
  rw [hc] at hca
  have HCA := Lib.hid hca
  have HN := Lib.hid hN
  have HM := Lib.hid hm
  clear hca HC hN hm hc
  go_enter Tryd.func18, Tryd.ntmps18
  go_wp2_with ((with_reducible refine wp_load_R rowS HS.out ?_ ?_); (kernel_rfl))
  refine HCW.out.mono ?_
  rintro e w1 ⟨rfl, b1⟩
  obtain ⟨W2, HW2⟩ : ∃ W2, Hid (W2 = (w1.alloc (.cells (xc s ⟨op, A, B, m⟩) 58)).alloc (.cells #[.slice none 0 0] 64)) := ⟨_, rfl⟩
  have HT : Hid (Tz w w1.heap.size (w1.heap.size + 1) s ⟨op, A, B, m⟩ [] W2) := Lib.hid (by
    rw [HW2.out]
    have hb1 := HB.out.trans (b1.mono HB.out.size)
    have hsz := hb1.size
    have e : (w1.alloc (.cells (xc s ⟨op, A, B, m⟩) 58)).heap.size = w1.heap.size + 1 := World.size_alloc _ _
    have hat := at_new (w1.alloc (.cells (xc s ⟨op, A, B, m⟩) 58))
    rw [e] at hat
    have hn1 := HN.out.below hb1
    exact ⟨hat, ((x_ok s ⟨op, A, B, m⟩).new 58 w1).alloc _, (hn1.below (bel1 w1 _)).below (bel1 _ _), (hb1.alloc hsz _).alloc (by rw [e]; omega) _, by omega, by have := hn1.lt; omega, by omega⟩)
  clear b1 HCW HS HN HB
  go_wp2_with (first | ((with_reducible refine wp_store_Rn (xc s ⟨op, A, B, m⟩) rowX ?_ ?_ ?_ ?_); (exact ⟨rfl, x_ok _ _⟩); (kernel_rfl); (kernel_rfl)) | (rw [← HW2.out]) | ((with_reducible refine wp_load_R rowX HT.out.r ?_ ?_); (kernel_rfl)))
  refine (HCA.out _).mono ?_
  rintro e w3 ⟨rfl, b3⟩
  replace HT := Lib.hid (HT.out.after b3)
  clear b3 HCA HW2
  go_wp2_with ((with_reducible refine wp_load_R rowX HT.out.r ?_ ?_); (kernel_rfl))
  refine (ahead_any HT.out.a (by first | (simp only [List.nil_append, List.length_append]; have := aheadT_len ⟨op, A, B, m⟩; have := behindT_len ⟨op, A, B, m⟩; simp; omega) | simp) s op A B m hA hB).mono ?_
  rintro e w4 ⟨rfl, hA2, hK2⟩
  replace HT := Lib.hid (HT.out.give hA2 hK2)
  clear hA2 hK2
  go_wp2_with ((with_reducible refine wp_load_R rowX HT.out.r ?_ ?_); (kernel_rfl))
  refine (behind_any HT.out.a (by first | (simp only [List.nil_append, List.length_append]; have := aheadT_len ⟨op, A, B, m⟩; have := behindT_len ⟨op, A, B, m⟩; simp; omega) | simp) s op A B m hA hB HT.out.n HT.out.h.2.1 HM.out).mono ?_
  rintro e w5 ⟨rfl, hA2, hK2⟩
  replace HT := Lib.hid (HT.out.give hA2 hK2)
  clear hA2 hK2
  go_wp2_with ((with_reducible refine wp_load_R rowX HT.out.r ?_ ?_); (kernel_rfl))
  refine (moved_any HT.out.a (by first | (simp only [List.nil_append, List.length_append]; have := aheadT_len ⟨op, A, B, m⟩; have := behindT_len ⟨op, A, B, m⟩; simp; omega) | simp) s op A B m hA hB).mono ?_
  rintro e w6 ⟨rfl, hA2, hK2⟩
  replace HT := Lib.hid (HT.out.give hA2 hK2)
  clear hA2 hK2
  have hb := HT.out.b
  obtain ⟨⟨v, h1, h2, _⟩, _⟩ := HT.out.a
  have hc1 := (h1.cell 0).trans (show (#[v] : Array Value)[0]? = some v from rfl)
  obtain ⟨ao, c, rfl, _, _⟩ := h2.shape
  have HB9 := Lib.hid hb
  have H2 := Lib.hid h2
  clear hb h1 h2 HT
  go_wp2
  go_ret
  refine ⟨⟨_, rfl, ?_⟩, HB9.out⟩
  have := H2.out
  simpa using this
set_option maxRecDepth 20000 in
theorem Touches_6 (s : Sta) (x op : Int) (A B : Nat) (m : Int) (hA : A < 8) (hB : B < 8) (hc : causeS s ⟨op, A, B, m⟩ = 6) (w : World) (hN : Nam w) (HC : Hid (∀ W, Below w.heap.size w W → Calls Tryd.prog 25 #[.agg (sc s), .int .u32 x] W fun e w' => e = .returned (.agg (xc s ⟨op, A, B, m⟩)) ∧ Below W.heap.size W w')) : Calls Tryd.prog 18 #[.agg (sc s), .int .u32 x] w fun e w' => (∃ v, e = .returned v ∧ TsIs w' v ([⟨on 0, [rg B]⟩] ++ trapT)) ∧ Below w.heap.size w w' := by
  have HS := Lib.hid (rs_new w s)
  have HB := Lib.hid (bel1 w (.cells (sc s) 25))
  have HCW := Lib.hid (HC.out _ HB.out)
  have hca := fun W => cause_any s op A B m hA hB W
  rw [hc] at hca
  have HCA := Lib.hid hca
  have HN := Lib.hid hN
  clear hca HC hN hc
  go_enter Tryd.func18, Tryd.ntmps18
  go_wp2_with ((with_reducible refine wp_load_R rowS HS.out ?_ ?_); (kernel_rfl))
  refine HCW.out.mono ?_
  rintro e w1 ⟨rfl, b1⟩
  obtain ⟨W2, HW2⟩ : ∃ W2, Hid (W2 = (w1.alloc (.cells (xc s ⟨op, A, B, m⟩) 58)).alloc (.cells #[.slice none 0 0] 64)) := ⟨_, rfl⟩
  have HT : Hid (Tz w w1.heap.size (w1.heap.size + 1) s ⟨op, A, B, m⟩ [] W2) := Lib.hid (by
    rw [HW2.out]
    have hb1 := HB.out.trans (b1.mono HB.out.size)
    have hsz := hb1.size
    have e : (w1.alloc (.cells (xc s ⟨op, A, B, m⟩) 58)).heap.size = w1.heap.size + 1 := World.size_alloc _ _
    have hat := at_new (w1.alloc (.cells (xc s ⟨op, A, B, m⟩) 58))
    rw [e] at hat
    have hn1 := HN.out.below hb1
    exact ⟨hat, ((x_ok s ⟨op, A, B, m⟩).new 58 w1).alloc _, (hn1.below (bel1 w1 _)).below (bel1 _ _), (hb1.alloc hsz _).alloc (by rw [e]; omega) _, by omega, by have := hn1.lt; omega, by omega⟩)
  clear b1 HCW HS HN HB
  go_wp2_with (first | ((with_reducible refine wp_store_Rn (xc s ⟨op, A, B, m⟩) rowX ?_ ?_ ?_ ?_); (exact ⟨rfl, x_ok _ _⟩); (kernel_rfl); (kernel_rfl)) | (rw [← HW2.out]) | ((with_reducible refine wp_load_R rowX HT.out.r ?_ ?_); (kernel_rfl)))
  refine (HCA.out _).mono ?_
  rintro e w3 ⟨rfl, b3⟩
  replace HT := Lib.hid (HT.out.after b3)
  clear b3 HCA HW2
  have q := HT.out.r.x
  go_wp2_with fail
  refine (register_any B _).mono ?_
  rintro e w4 ⟨rfl, hb⟩
  replace HT := Lib.hid (HT.out.after hb)
  clear hb q
  go_wp2_with fail
  refine (decide_any (HT.out.after (bel1 _ _)).a (by simp) _ [⟨1, B⟩] (pl1 _ _ _)).mono ?_
  rintro e w5 ⟨rfl, hA2, hK2⟩
  replace HT := Lib.hid ((HT.out.after (bel1 _ _)).give hA2 hK2)
  clear hA2 hK2
  go_wp2_with fail
  refine (trap_any HT.out.a (by first | (simp only [List.nil_append, List.length_append]; have := aheadT_len ⟨op, A, B, m⟩; have := behindT_len ⟨op, A, B, m⟩; simp; omega) | simp)).mono ?_
  rintro e w6 ⟨rfl, hA2, hK2⟩
  replace HT := Lib.hid (HT.out.give hA2 hK2)
  clear hA2 hK2
  have hb := HT.out.b
  obtain ⟨⟨v, h1, h2, _⟩, _⟩ := HT.out.a
  have hc1 := (h1.cell 0).trans (show (#[v] : Array Value)[0]? = some v from rfl)
  obtain ⟨ao, c, rfl, _, _⟩ := h2.shape
  have HB9 := Lib.hid hb
  have H2 := Lib.hid h2
  clear hb h1 h2 HT
  go_wp2
  go_ret
  refine ⟨⟨_, rfl, ?_⟩, HB9.out⟩
  have := H2.out
  simpa [rg] using this
set_option maxRecDepth 20000 in
theorem Touches_c (s : Sta) (x op : Int) (A B : Nat) (m : Int) (hA : A < 8) (hB : B < 8) (c : Int) (hc : causeS s ⟨op, A, B, m⟩ = c) (h0 : c ≠ 0) (h6 : c ≠ 6) (w : World) (hN : Nam w) (HC : Hid (∀ W, Below w.heap.size w W → Calls Tryd.prog 25 #[.agg (sc s), .int .u32 x] W fun e w' => e = .returned (.agg (xc s ⟨op, A, B, m⟩)) ∧ Below W.heap.size W w')) : Calls Tryd.prog 18 #[.agg (sc s), .int .u32 x] w fun e w' => (∃ v, e = .returned v ∧ TsIs w' v (trapT)) ∧ Below w.heap.size w w' := by
  have HS := Lib.hid (rs_new w s)
  have HB := Lib.hid (bel1 w (.cells (sc s) 25))
  have HCW := Lib.hid (HC.out _ HB.out)
  have hca := fun W => cause_any s op A B m hA hB W
  rw [hc] at hca
  have HCA := Lib.hid hca
  have HN := Lib.hid hN
  clear hca HC hN hc
  go_enter Tryd.func18, Tryd.ntmps18
  go_wp2_with ((with_reducible refine wp_load_R rowS HS.out ?_ ?_); (kernel_rfl))
  refine HCW.out.mono ?_
  rintro e w1 ⟨rfl, b1⟩
  obtain ⟨W2, HW2⟩ : ∃ W2, Hid (W2 = (w1.alloc (.cells (xc s ⟨op, A, B, m⟩) 58)).alloc (.cells #[.slice none 0 0] 64)) := ⟨_, rfl⟩
  have HT : Hid (Tz w w1.heap.size (w1.heap.size + 1) s ⟨op, A, B, m⟩ [] W2) := Lib.hid (by
    rw [HW2.out]
    have hb1 := HB.out.trans (b1.mono HB.out.size)
    have hsz := hb1.size
    have e : (w1.alloc (.cells (xc s ⟨op, A, B, m⟩) 58)).heap.size = w1.heap.size + 1 := World.size_alloc _ _
    have hat := at_new (w1.alloc (.cells (xc s ⟨op, A, B, m⟩) 58))
    rw [e] at hat
    have hn1 := HN.out.below hb1
    exact ⟨hat, ((x_ok s ⟨op, A, B, m⟩).new 58 w1).alloc _, (hn1.below (bel1 w1 _)).below (bel1 _ _), (hb1.alloc hsz _).alloc (by rw [e]; omega) _, by omega, by have := hn1.lt; omega, by omega⟩)
  clear b1 HCW HS HN HB
  go_wp2_with (first | ((with_reducible refine wp_store_Rn (xc s ⟨op, A, B, m⟩) rowX ?_ ?_ ?_ ?_); (exact ⟨rfl, x_ok _ _⟩); (kernel_rfl); (kernel_rfl)) | (rw [← HW2.out]) | ((with_reducible refine wp_load_R rowX HT.out.r ?_ ?_); (kernel_rfl)))
  refine (HCA.out _).mono ?_
  rintro e w3 ⟨rfl, b3⟩
  replace HT := Lib.hid (HT.out.after b3)
  clear b3 HCA HW2
  go_wp2_with fail
  refine (trap_any HT.out.a (by first | (simp only [List.nil_append, List.length_append]; have := aheadT_len ⟨op, A, B, m⟩; have := behindT_len ⟨op, A, B, m⟩; simp; omega) | simp)).mono ?_
  rintro e w6 ⟨rfl, hA2, hK2⟩
  replace HT := Lib.hid (HT.out.give hA2 hK2)
  clear hA2 hK2
  have hb := HT.out.b
  obtain ⟨⟨v, h1, h2, _⟩, _⟩ := HT.out.a
  have hc1 := (h1.cell 0).trans (show (#[v] : Array Value)[0]? = some v from rfl)
  obtain ⟨ao, cp, rfl, _, _⟩ := h2.shape
  have HB9 := Lib.hid hb
  have H2 := Lib.hid h2
  clear hb h1 h2 HT
  go_wp2
  go_ret
  refine ⟨⟨_, rfl, ?_⟩, HB9.out⟩
  have := H2.out
  simpa using this
theorem Touches_any (s : Sta) (x : Int) (hx : W32 x) (w : World) (h : Env w) (hN : Nam w) : Calls Tryd.prog 18 #[.agg (sc s), .int .u32 x] w fun e w' => (∃ v, e = .returned v ∧ TsIs w' v (touS s (decV x))) ∧ Below w.heap.size w w' := by
  obtain ⟨op, A, B, m, hd, h1, h2, h3, h4, h5, h6⟩ := decV_nat x
  have hc := fun W (hW : Below w.heap.size w W) => at_any s x hx W (h.below hW)
  rw [hd] at hc ⊢
  unfold touS
  by_cases hc0 : causeS s ⟨op, A, B, m⟩ = 0
  · rw [if_pos hc0]
    exact Touches_0 s x op A B m h3 h4 hc0 (fun h => cause_imm hc0 h) w hN (Lib.hid hc)
  · rw [if_neg hc0]
    by_cases hc6 : causeS s ⟨op, A, B, m⟩ = 6
    · rw [if_pos hc6]
      exact Touches_6 s x op A B m h3 h4 hc6 w hN (Lib.hid hc)
    · rw [if_neg hc6]
      exact Touches_c s x op A B m h3 h4 _ rfl hc0 hc6 w hN (Lib.hid hc)
end Go.Proofs.YthjdfneibogcgaaDoor
