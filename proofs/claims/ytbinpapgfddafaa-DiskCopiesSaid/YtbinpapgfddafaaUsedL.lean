/-
  Layer 8: used of the statements: what Used tells is just these numbers: walk.
-/
import Derived.Test.YtbinpapgfddafaaUsed
import Derived.Test.YtbinpapgfddafaaRound
import Derived.Test.YtbinpapgfddafaaBox
import Derived.Laws.EntriesVeiled
namespace Go.Proofs.Ytbinpapgfddafaa
open Go.RowKit Go.Shelf
attribute [local go_sem] Oper.semAt_some
set_option maxHeartbeats 1000000
set_option linter.unusedVariables false
set_option linter.unusedSimpArgs false

abbrev usL (z : Nat) (v : Value) (b : Bool) (n : Nat) : List Bx := [(z, #[v], 53), (z + 1, #[.bool b], 4), (z + 1 + 1, #[.int .i64 (n : Int)], 3)]
theorem us_start (w : World) (v : Value) : Bxs w (usL w.heap.size v false 0) (((w.alloc (.cells #[v] 53)).alloc (.cells #[.bool false] 4)).alloc (.cells #[.int .i64 0] 3)) := by
  have := (((Bxs.nil w).alloc #[v] 53).alloc #[.bool false] 4).alloc #[.int .i64 0] 3
  simp only [World.size_alloc] at this
  exact ⟨this.below, fun p hp => this.at_ p (by simp only [usL, List.mem_cons, List.not_mem_nil, or_false] at hp ⊢; rcases hp with rfl | rfl | rfl <;> simp)⟩
section
variable {w W W' : World} {v : Value} {b : Bool} {n : Nat}
theorem us_facts (h : Bxs w (usL w.heap.size v b n) W) : Blk W w.heap.size #[v] 53 ∧ Blk W (w.heap.size + 1) #[.bool b] 4 ∧ Blk W (w.heap.size + 1 + 1) #[.int .i64 (n : Int)] 3 :=
  ⟨h.get w.heap.size (by simp), h.get (w.heap.size + 1) (by simp), h.get (w.heap.size + 1 + 1) (by simp)⟩
theorem us_at (h : Bxs w (usL w.heap.size v b n) W) (m : Nat) : Bxs w (usL w.heap.size v b m) (W.setCell ⟨w.heap.size + 1 + 1, 0, none⟩ (.int .i64 (m : Int))) := by
  obtain ⟨a0, a1, a2⟩ := us_facts h
  refine ⟨h.below.setCell (p := ⟨w.heap.size + 1 + 1, 0, none⟩) (by simp; omega) _, fun p hp => ?_⟩
  simp only [usL, List.mem_cons, List.not_mem_nil, or_false] at hp
  rcases hp with rfl | rfl | rfl
  · exact a0.off (by omega) _
  · exact a1.off (by omega) _
  · exact a2.setCell 0 _
theorem us_res (h : Bxs w (usL w.heap.size v b n) W) (q : Bool) : Bxs w (usL w.heap.size v q n) (W.setCell ⟨w.heap.size + 1, 0, none⟩ (.bool q)) := by
  obtain ⟨a0, a1, a2⟩ := us_facts h
  refine ⟨h.below.setCell (p := ⟨w.heap.size + 1, 0, none⟩) (by simp) _, fun p hp => ?_⟩
  simp only [usL, List.mem_cons, List.not_mem_nil, or_false] at hp
  rcases hp with rfl | rfl | rfl
  · exact a0.off (by omega) _
  · exact a1.setCell 0 _
  · exact a2.off (by omega) _
end
theorem nums_cell {k : IntKind} {w : World} {o : Option Addr} {n c : Nat} {xs : List Int} (h : NumsIn k w (.slice o n c) xs) {i : Nat} (hi : i < xs.length) : ∃ a, o = some a ∧ n = xs.length ∧ w.cell? (a.add i) = some (.int k (at0 xs i)) := by
  obtain ⟨o', c', e, _, _, hx⟩ := h.form
  obtain ⟨a, ha, hc⟩ := hx i hi
  simp at e
  exact ⟨a, by rw [e.1]; exact ha, e.2.1, hc⟩
set_option maxRecDepth 100000 in
theorem used_any {w : World} {S P : Nat} {b : List Int} {F : Nat → Prop} (h : Dk w S P b F) {v : Value} (hv : NumsIn .i64 w v (nat2int (uses b P))) : Calls Try.prog 29 #[.pointer (some ⟨S, 0, none⟩), v] w fun e w' => e = .returned (.bool true) ∧ Below w.heap.size w w' := by
  have HA := Lib.hid (fun W (hb : Below w.heap.size w W) => (show Dk W S P b F from h.below hb))
  have HV := Lib.hid (fun W (hb : Below w.heap.size w W) => (show NumsIn .i64 W v (nat2int (uses b P)) from hv.below hb))
  have hul : (uses b P).length ≤ 32 := Nat.le_trans (uses_le b P) h.dsk.hi
  obtain ⟨ao, c, rfl, hc, _⟩ := hv.form
  rw [nat2int_len] at *
  have H0 := Lib.hid (us_start w (.slice ao (uses b P).length c))
  have hfn := fun_nil
  clear h hv
  generalize hus : uses b P = us at *
  refine (callsIn_wide (n := 5)).1 ?_
  refine callsIn_of_wp_marks Try.func29 rfl trivial ?_ rfl
  refine wpIn_wide.2 ?_
  simp only [Try.ntmps29, List.size_toArray, List.length_cons, List.length_nil, Nat.reduceAdd, Nat.reduceSub, Array.replicate_succ, Array.replicate_zero, List.push_toArray, List.append_toArray, List.nil_append, List.cons_append]
  go_wp2_with fail
  refine (Used_any (HA.out _ H0.out.below)).mono ?_; rintro e W1 ⟨B1, v1, rfl, hsq1⟩
  have H1 := Lib.hid (H0.out.after hsq1.below)
  clear hsq1 H0
  go_wp2_with fail
  refine (Used_any (HA.out _ H1.out.below)).mono ?_; rintro e W2 ⟨B, v2, rfl, hsq⟩
  rw [hus] at hsq
  have HX := Lib.hid (H1.out.after hsq.below)
  have HB := Lib.hid hsq.blk
  have HN := Lib.hid hsq.nums
  have hz1 : w.heap.size + 1 + 1 < W1.heap.size := (us_facts H1.out).2.2.lt
  have hzB := hsq.loB
  have hzW := hsq.below.size
  have HLV := Lib.hid hsq.loV
  clear hsq H1 hfn
  go_wp2_with fail
  refine (wpIn_wide (n := 5)).1 (wp_over_f (gf := 42) (lb := #[.pointer (some ⟨B, 0, none⟩)]) rfl (enters_of Try.func42 (by kernel_rfl) rfl)
    (Values1_gives HB.out HN.out (by omega) (fun k => k = w.heap.size + 1 + 1) (fun k hk e => by have := HLV.out k hk; omega))
    (fun k e => by subst e; omega) (fun _ => rfl)
    (fun pre W => ∃ _x : Unit, True ∧ Bxs w (usL w.heap.size (.slice ao us.length c) false pre.length) W)
    (fun c pre W => ∃ _x : Unit, False ∧ Bxs w [] W)
    (bxs_own w _ _ (by omega)) (fun c => bxs_own w _ _ (by omega)) ⟨(), trivial, HX.out⟩
    (fun tm x => (tm.setIfInBounds 12 (.int .i64 (x : Int))).setIfInBounds 6 (.int .i64 (x : Int)))
    ?assign ?body ?done (fun _ _ _ _ _ _ _ hx _ => by obtain ⟨_, h, _⟩ := hx; exact h.elim))
  case assign =>
    intro ll mm x W3 K hK
    gi_wp2
    simp only [List.setIfInBounds_toArray, List.set_cons_zero, List.set_cons_succ] at hK
    exact hK
  case body =>
    rintro ll mm pre x rest W hf ⟨_, _, hX⟩
    simp only [List.setIfInBounds_toArray, List.set_cons_zero, List.set_cons_succ]
    have hpl : pre.length < us.length := by rw [hf]; simp
    have hat : us[pre.length]'hpl = x := by simp [hf]
    obtain ⟨a, ha, _, hcell⟩ := nums_cell (HV.out _ hX.below) (i := pre.length) (by rw [nat2int_len]; exact hpl)
    subst ha
    rw [at0_nat hpl, hat] at hcell
    obtain ⟨k0, k1, k2⟩ := us_facts hX
    have q0 := k0.cell 0
    have q2 := k2.cell 0
    have f2 := k2.frozen 0
    simp only [List.getElem?_toArray, List.getElem?_cons_zero] at q0 q2
    have HX9 := Lib.hid hX
    have HF := Lib.hid hf
    have hi : (pre.length : Int) < (us.length : Int) := by omega
    generalize hpn : pre.length = pn at *
    clear hf hX k0 k1 k2 hat
    gi_wp2
    have e : ((pn : Int) + 1) = ((pn + 1 : Nat) : Int) := by omega
    rw [e]
    have ht := (Turned.refl (fun k => k = w.heap.size + 1 + 1) W).setCell (p := ⟨w.heap.size + 1 + 1, 0, none⟩) (.inl rfl) (.int .i64 ((pn + 1 : Nat) : Int))
    refine ⟨KeptBut.ofTurned ht, (), trivial, ?_⟩
    rw [List.length_append, hpn]
    exact us_at HX9.out (pn + 1)
  case done =>
    rintro D0 W9 hD0 ⟨_, _, hX9⟩ hK
    obtain ⟨k0, k1, k2⟩ := us_facts hX9
    have q0 := k0.cell 0
    have q1 := k1.cell 0
    have q2 := k2.cell 0
    have f1 := k1.frozen 0
    simp only [List.getElem?_toArray, List.getElem?_cons_zero] at q0 q1 q2
    have HX9 := Lib.hid hX9
    have HK := Lib.hid hK
    clear hX9 hK k0 k1 k2
    go_wp2
    have hR := us_res HX9.out true
    have hDn : D0 ≠ w.heap.size + 1 := by omega
    have hK1 : (W9.setCell ⟨w.heap.size + 1, 0, none⟩ (.bool true)).heap[D0]? = some (.deferred (some [])) := (Below.heap_setCell _ _ _ _ hDn).trans HK.out
    refine ⟨by simp, .inl ⟨_, _, rfl, run_takeDeferred hK1, ?_⟩⟩
    have hc9 : ((W9.setCell ⟨w.heap.size + 1, 0, none⟩ (.bool true)).putObj D0 (.deferred none)).cell? ⟨w.heap.size + 1, 0, none⟩ = some (.bool true) := (cell_putObj (show w.heap.size + 1 ≠ D0 by omega)).trans ((us_facts hR).2.1.cell 0)
    have hbl : Below w.heap.size w ((W9.setCell ⟨w.heap.size + 1, 0, none⟩ (.bool true)).putObj D0 (.deferred none)) := hR.below.trans (belowK_b (w := w) (Nat.le_refl _) _ D0 _ _ (by omega) hK1 rfl rfl)
    refine ⟨.bool true, by simp [results, Try.results29, go_sem, hc9], rfl, hbl⟩
end Go.Proofs.Ytbinpapgfddafaa
