/-
  Layer 3: is of the statements: a shadow has just these sets, in all its ways: walk.
-/
import Derived.Test.YtepmndadbikijaaAll
import Derived.Test.YtepmndadbikijaaRef2
import Derived.Test.YtepmndadbikijaaEls
import Derived.Test.YtepmndadbikijaaSame
import Derived.Test.YtepmndadbikijaaWorks
namespace Go.Proofs.Ytepmndadbikijaa
open Go.RowKit Go.Shelf
set_option maxHeartbeats 1000000
set_option linter.unusedSimpArgs false
attribute [local go_sem] Oper.semAt_some

theorem fun_nil (w : World) (f : Nat) (cap : Array Value) : (binOp .eql 31 (.func (.func f) #[] cap) .nilFunc).run Try.prog w = .ok (.bool false) w := by
  have h1 : (Op.equalIn 10000 31 (.func (.func f) #[] cap) .nilFunc).run Try.prog w = .ok false w := by
    rw [show (10000 : Nat) = 9999 + 1 from rfl, Op.equalIn]
    simp [Sem.run_bind, run_underlying Try.underlying31, Result.andThen_ok]
  simp [binOp, Op.equal, Op.maxDepth, h1, Sem.run_bind, Result.andThen]
/-- A block for deferred calls, shut. -/
theorem cell_putObj {W : World} {D : Nat} {o : Obj} {p : Addr} (h : p.block ≠ D) : (W.putObj D o).cell? p = W.cell? p := by
  simp only [World.cell?, World.putObj_heap_other h]
structure IsW (w : World) (g c : Nat) (l : List Int) (r : Bool) (a : Nat) (W : World) : Prop where
  box : W.heap[w.heap.size]? = some (.cells #[rwV g c l] 42 (0, 0))
  res : W.heap[w.heap.size + 1]? = some (.cells #[.bool r] 4 (0, 0))
  at_ : W.heap[w.heap.size + 1 + 1]? = some (.cells #[.int .i64 (a : Int)] 3 (0, 0))
  fine : W.heap[w.heap.size + 1 + 1 + 1]? = some (.cells #[.bool true] 4 (0, 0))
  below : Below w.heap.size w W
section
variable {w : World} {g c : Nat} {l : List Int} {r : Bool} {a : Nat} {W W' : World}
theorem IsW.new (w : World) (g c : Nat) (l : List Int) : IsW w g c l false 0 ((((w.alloc (.cells #[rwV g c l] 42)).alloc (.cells #[.bool false] 4)).alloc (.cells #[.int .i64 0] 3)).alloc (.cells #[.bool true] 4)) := by
  have e0 := heap_alloc_new w (.cells #[rwV g c l] 42)
  have e1 := heap_alloc_new (w.alloc (.cells #[rwV g c l] 42)) (.cells #[.bool false] 4)
  have e2 := heap_alloc_new ((w.alloc (.cells #[rwV g c l] 42)).alloc (.cells #[.bool false] 4)) (.cells #[.int .i64 0] 3)
  have e3 := heap_alloc_new (((w.alloc (.cells #[rwV g c l] 42)).alloc (.cells #[.bool false] 4)).alloc (.cells #[.int .i64 0] 3)) (.cells #[.bool true] 4)
  simp only [World.size_alloc] at e1 e2 e3
  refine ⟨?_, ?_, ?_, e3, ((((Below.refl _ _).alloc (Nat.le_refl _) _).alloc (by simp) _).alloc (by simp <;> omega) _).alloc (by simp <;> omega) _⟩
  · rw [Below.heap_alloc _ _ _ (by simp <;> omega), Below.heap_alloc _ _ _ (by simp <;> omega), Below.heap_alloc _ _ _ (by simp)]; exact e0
  · rw [Below.heap_alloc _ _ _ (by simp <;> omega), Below.heap_alloc _ _ _ (by simp)]; exact e1
  · rw [Below.heap_alloc _ _ _ (by simp)]; exact e2
theorem IsW.size (h : IsW w g c l r a W) : w.heap.size + 4 ≤ W.heap.size := by have := (Array.getElem?_eq_some_iff.1 h.fine).1; omega
theorem IsW.after (h : IsW w g c l r a W) (hb : Below W.heap.size W W') : IsW w g c l r a W' := by
  have hz := h.size
  exact ⟨(hb.block _ (by omega)).trans h.box, (hb.block _ (by omega)).trans h.res, (hb.block _ (by omega)).trans h.at_, (hb.block _ (by omega)).trans h.fine, h.below.trans (hb.mono h.below.size)⟩
theorem IsW.drew (h : IsW w g c l r a W) : IsW w g c l r a W.drew := h.after (Below.refl _ _).drew
theorem IsW.cells (h : IsW w g c l r a W) : W.cell? ⟨w.heap.size, 0, none⟩ = some (rwV g c l) ∧ W.cell? ⟨w.heap.size + 1 + 1, 0, none⟩ = some (.int .i64 (a : Int)) ∧ W.frozen? ⟨w.heap.size + 1 + 1, 0, none⟩ = false ∧ W.cell? ⟨w.heap.size + 1 + 1 + 1, 0, none⟩ = some (.bool true) ∧ W.frozen? ⟨w.heap.size + 1 + 1 + 1, 0, none⟩ = false ∧ W.cell? ⟨w.heap.size + 1, 0, none⟩ = some (.bool r) ∧ W.frozen? ⟨w.heap.size + 1, 0, none⟩ = false :=
  ⟨(boxed_cell h.box).1, (boxed_cell h.at_).1, (boxed_cell h.at_).2, (boxed_cell h.fine).1, (boxed_cell h.fine).2, (boxed_cell h.res).1, (boxed_cell h.res).2⟩
theorem IsW.setAt (h : IsW w g c l r a W) (b : Nat) : IsW w g c l r b (W.setCell ⟨w.heap.size + 1 + 1, 0, none⟩ (.int .i64 (b : Int))) := by
  refine ⟨?_, ?_, boxed_set h.at_ _, ?_, h.below.setCell (p := ⟨w.heap.size + 1 + 1, 0, none⟩) (by simp <;> omega) _⟩
  · rw [Below.heap_setCell _ _ _ _ (by simp <;> omega)]; exact h.box
  · rw [Below.heap_setCell _ _ _ _ (by simp <;> omega)]; exact h.res
  · rw [Below.heap_setCell _ _ _ _ (by simp <;> omega)]; exact h.fine
theorem IsW.setFine (h : IsW w g c l r a W) : IsW w g c l r a (W.setCell ⟨w.heap.size + 1 + 1 + 1, 0, none⟩ (.bool true)) := by
  refine ⟨?_, ?_, ?_, boxed_set h.fine _, h.below.setCell (p := ⟨w.heap.size + 1 + 1 + 1, 0, none⟩) (by simp <;> omega) _⟩
  · rw [Below.heap_setCell _ _ _ _ (by simp <;> omega)]; exact h.box
  · rw [Below.heap_setCell _ _ _ _ (by simp <;> omega)]; exact h.res
  · rw [Below.heap_setCell _ _ _ _ (by simp <;> omega)]; exact h.at_
theorem IsW.setRes (h : IsW w g c l r a W) (q : Bool) : IsW w g c l q a (W.setCell ⟨w.heap.size + 1, 0, none⟩ (.bool q)) := by
  refine ⟨?_, boxed_set h.res _, ?_, ?_, h.below.setCell (p := ⟨w.heap.size + 1, 0, none⟩) (by simp <;> omega) _⟩
  · rw [Below.heap_setCell _ _ _ _ (by simp <;> omega)]; exact h.box
  · rw [Below.heap_setCell _ _ _ _ (by simp <;> omega)]; exact h.at_
  · rw [Below.heap_setCell _ _ _ _ (by simp <;> omega)]; exact h.fine
end
theorem isW_own {β : Type} (w : World) (g c : Nat) (l : List Int) (r : Bool) (f : β → Nat) {B : Nat} (hB : w.heap.size ≤ B) : OwnFrom B (fun (s : β) W => IsW w g c l r (f s) W) := by
  intro s W W' row hs hg hr
  have keep : ∀ {j : Nat} {o : Obj}, W.heap[j]? = some o → o.isCells = true → W'.heap[j]? = some o := fun {j o} hj ho =>
    (hg.block j (Array.getElem?_eq_some_iff.1 hj).1 (fun e => by
      obtain ⟨h1, o', h2, h3⟩ := hr j e.symm
      rw [hj] at h2; cases h2
      rw [ho] at h3; cases h3)).trans hj
  exact ⟨keep hs.box rfl, keep hs.res rfl, keep hs.at_ rfl, keep hs.fine rfl, hs.below.grown hg hs.below.size (fun k e => by have := (hr k e).1; omega)⟩
theorem KeptBut.cell {M : Nat → Prop} (W : World) {p : Addr} (v : Value) (h : M p.block) : KeptBut M W (W.setCell p v) := ⟨by simp, fun k _ hn => Below.heap_setCell _ _ _ _ (fun e => hn (e ▸ h))⟩
/-- The blocks that the rounds turn. -/
def isM (w : World) (k : Nat) : Prop := k = w.heap.size + 1 + 1 ∨ k = w.heap.size + 1 + 1 + 1
/-- The number that the variable at holds. -/
def rdAt (B : Nat) (W : World) : Nat := match W.cell? ⟨B, 0, none⟩ with
  | some (.int _ n) => n.toNat
  | _ => 0
theorem IsW.rd {w : World} {g c : Nat} {l : List Int} {r : Bool} {a : Nat} {W : World} (h : IsW w g c l r a W) : rdAt (w.heap.size + 1 + 1) W = a := by simp [rdAt, h.cells.2.1]

/-- The truth that a variable holds. -/
def rdB (B : Nat) (W : World) : Bool := match W.cell? ⟨B, 0, none⟩ with
  | some (.bool b) => b
  | _ => false
/-- What is held over a drawn region of is. -/
def IsR (w : World) (g c : Nat) (l : List Int) (P D0 : Nat) (W : World) : Prop :=
  W.cell? ⟨w.heap.size, 0, none⟩ = some (rwV g c l) ∧ W.cell? ⟨w.heap.size + 1 + 1 + 1, 0, none⟩ = some (.bool true) ∧ W.frozen? ⟨w.heap.size + 1 + 1 + 1, 0, none⟩ = false ∧ Hid (IsW w g c l false (64 * P) W) ∧ Hid (W.heap[D0]? = some (.deferred (some [])))
theorem isR {w W : World} {g c P D0 : Nat} {l : List Int} (h : IsW w g c l false (64 * P) W) (h0 : W.heap[D0]? = some (.deferred (some []))) : IsR w g c l P D0 W :=
  ⟨h.cells.1, h.cells.2.2.2.1, h.cells.2.2.2.2.1, h, h0⟩
theorem isR_set {w W W1 W2 : World} {g c P D0 : Nat} {l : List Int} (hD0 : W2.heap.size ≤ D0) (hz1 : w.heap.size + 4 ≤ W1.heap.size) (hz2 : W1.heap.size ≤ W2.heap.size) (h : Hid (IsW w g c l false (64 * P) W)) (h0 : Hid (W.heap[D0]? = some (.deferred (some [])))) :
    IsR w g c l P D0 (W.setCell ⟨w.heap.size + 1 + 1 + 1, 0, none⟩ (.bool true)) :=
  isR h.out.setFine ((Below.heap_setCell _ _ _ _ (show D0 ≠ w.heap.size + 1 + 1 + 1 by omega)).trans h0.out)
theorem isR_below {w W : World} {g c P : Nat} {l : List Int} (h : Hid (IsW w g c l false (64 * P) W)) : Below w.heap.size w W := h.below
/-- What is held over the last region of is. -/
def IsQ (w : World) (g c : Nat) (l : List Int) (P D0 : Nat) (W : World) : Prop :=
  W.cell? ⟨w.heap.size, 0, none⟩ = some (rwV g c l) ∧ W.cell? ⟨w.heap.size + 1 + 1 + 1, 0, none⟩ = some (.bool true) ∧ W.cell? ⟨w.heap.size + 1 + 1, 0, none⟩ = some (.int .i64 ((64 * P : Nat) : Int)) ∧ W.cell? ⟨w.heap.size + 1, 0, none⟩ = some (.bool (rdB (w.heap.size + 1) W)) ∧ W.frozen? ⟨w.heap.size + 1, 0, none⟩ = false ∧ Hid (∃ r, IsW w g c l r (64 * P) W) ∧ Hid (W.heap[D0]? = some (.deferred (some [])))
theorem isQ {w W : World} {g c P D0 : Nat} {l : List Int} {r : Bool} (h : IsW w g c l r (64 * P) W) (h0 : W.heap[D0]? = some (.deferred (some []))) : IsQ w g c l P D0 W :=
  ⟨h.cells.1, h.cells.2.2.2.1, h.cells.2.1, by simp only [rdB, h.cells.2.2.2.2.2.1], h.cells.2.2.2.2.2.2, ⟨r, h⟩, h0⟩
theorem isQ_set {w W W1 W2 : World} {g c P D0 : Nat} {l : List Int} {q : Bool} (hD0 : W2.heap.size ≤ D0) (hz1 : w.heap.size + 4 ≤ W1.heap.size) (hz2 : W1.heap.size ≤ W2.heap.size) (h : Hid (∃ r, IsW w g c l r (64 * P) W)) (h0 : Hid (W.heap[D0]? = some (.deferred (some [])))) :
    IsQ w g c l P D0 (W.setCell ⟨w.heap.size + 1, 0, none⟩ (.bool q)) := by
  obtain ⟨r, h⟩ := h
  exact isQ (h.setRes q) ((Below.heap_setCell _ _ _ _ (show D0 ≠ w.heap.size + 1 by omega)).trans h0.out)
theorem isQ_below {w W : World} {g c P : Nat} {l : List Int} (h : Hid (∃ r, IsW w g c l r (64 * P) W)) : Below w.heap.size w W := by
  obtain ⟨r, h⟩ := h; exact h.below
set_option maxRecDepth 100000 in
theorem is_any {w : World} {S P g c : Nat} {l : List Int} {F : Nat → Prop} (h : Sh w S P l F) (hr : Rw w g c l) :
    Calls Try.prog 24 #[.pointer (some ⟨S, 0, none⟩), rwV g c l] w fun e w' => e = .returned (.bool true) ∧ Below w.heap.size w w' := by
  have hb := h.bytes
  have hl := hb.len
  have h32 := hb.hi
  have HA : Hid (∀ W, Below w.heap.size w W → Calls Try.prog 14 #[.pointer (some ⟨S, 0, none⟩)] W fun e w' => ∃ v, e = .returned v ∧ AllPost W P l v w') := fun W e => All_any (h.below e)
  have hfn := fun_nil
  have H0 := Lib.hid (IsW.new w g c l)
  refine (callsIn_wide (n := 5)).1 ?_
  refine callsIn_of_wp_marks Try.func24 rfl trivial ?_ rfl
  refine wpIn_wide.2 ?_
  simp only [Try.ntmps24, List.size_toArray, List.length_cons, List.length_nil, Nat.reduceAdd, Nat.reduceSub, Array.replicate_succ, Array.replicate_zero, List.push_toArray, List.append_toArray, List.nil_append, List.cons_append]
  go_wp2_with fail
  refine (HA.out _ H0.out.below).mono ?_; rintro e W1 ⟨v, rfl, b1, S1, F1, rfl, _, _, _, _, hb1⟩
  have H1 := Lib.hid (H0.out.after hb1)
  clear hb1
  go_wp2_with fail
  refine (HA.out _ H1.out.below).mono ?_; rintro e W2 ⟨v, rfl, b2, S2, F2, rfl, k1, k2, k3, k4, hb2⟩
  have hI2 := H1.out.after hb2
  have hz1 := H1.out.size
  have hz2 := hb2.size
  go_wp2_with fail
  refine (wpIn_wide (n := 5)).1 (wp_over (gf := 37) (lb := #[.pointer (some ⟨b2, 0, none⟩)]) rfl (enters_of Try.func37 (by kernel_rfl) rfl)
    (All1_gives k2 b2 k1 (isM w) (by rintro k (rfl | rfl) <;> omega) (by rintro k hk (rfl | rfl) <;> (have := k3 _ hk; omega)))
    (by rintro k (rfl | rfl) <;> omega) (fun _ => rfl)
    (fun pre W => ∃ a, a ≤ 64 * P ∧ els l a = pre ∧ IsW w g c l false a W) (fun _ _ _ => False)
    (fun pre A B row hs hg hr => by obtain ⟨a, h1, h2, h3⟩ := hs; exact ⟨a, h1, h2, isW_own (β := Unit) w g c l false (fun _ => a) (by have := hI2.below.size; omega) () A B row h3 hg hr⟩) (fun _ _ _ _ _ hs _ _ => hs)
    ⟨0, by omega, rfl, hI2⟩
    (fun x => { tmps := #[.pointer (some ⟨S, 0, none⟩), rwV g c l, undef, .pointer (some ⟨w.heap.size, 0, none⟩), .pointer (some ⟨w.heap.size + 1, 0, none⟩), .pointer (some ⟨w.heap.size + 1 + 1, 0, none⟩), .pointer (some ⟨w.heap.size + 1 + 1 + 1, 0, none⟩), .int .i64 (x : Int), .int .u32 (at0 l x), undef, .pointer (some ⟨S, 0, none⟩), allV b1, .bool false, .pointer (some ⟨S, 0, none⟩), allV b2, .int .i64 (x : Int), .int .u32 (at0 l x), undef, undef, undef, undef, undef, undef, undef, undef, undef, undef, undef, undef, undef, undef, undef, undef, undef, undef, undef, undef, undef, undef, undef, undef, undef, undef, undef, undef, undef, undef, undef, undef, undef, undef, undef, undef, undef, undef, undef, undef, undef, undef, undef, undef, undef, undef, undef, undef, undef, undef, undef, undef, undef, undef, undef, undef, undef, undef, undef, undef, undef, undef, undef, undef, undef, undef, undef, undef, undef, undef, undef, undef, undef, undef, undef, undef, undef, undef, undef, undef, undef, undef, undef, undef, undef, undef, undef, undef, undef, undef, undef, undef, undef, undef], defers := [] }) ?assign ?body ?done ?stop)
  case assign =>
    intro ll mm x W1 K hK
    gi_wp2
    exact hK
  case body =>
    rintro ll mm pre x rest W hf ⟨a, ha, hp, hI⟩
    obtain ⟨n1, n2, n3, n4, n5⟩ := els_next ha hp hf
    clear k1 k2 k3 k4 hb2 hI2
    have HB := Lib.hid hI
    have hz := hI.size
    have HRw := Lib.hid hr
    have HN5 := Lib.hid n5
    clear hI h hf hp hr n5 hfn HA H0 H1
    gi_wp2
    gi_loopw [17] (fun _ wr => ∃ b : Nat, a ≤ b ∧ b ≤ x ∧ Hid (IsW w g c l false b wr) ∧ Hid (KeptBut (isM w) W wr)) (fun _ wr => x + 1 - rdAt (w.heap.size + 1 + 1) wr)
    case atStart => exact ⟨a, Nat.le_refl _, n1, HB.out, KeptBut.refl _ _⟩
    case round =>
      obtain ⟨b, hab, hbx, HI, HK⟩ := hrel
      obtain ⟨c0, c2, f2, c3, f3, c4, f4⟩ := HI.out.cells
      have cg := (HRw.out.below HI.out.below).cells (k := b) (by omega)
      have hlb : (b : Int) < (l.length : Int) := by omega
      have h0b : (0 : Int) ≤ (b : Int) := by omega
      by_cases hlt : b < x
      · have hz0 : at0 l b = 0 := by simpa [nz] using n4 b hab hlt
        rw [hz0] at cg
        gi_wp2
        go_roundw
        case rel => exact ⟨b + 1, by omega, by omega, HI.out.setAt (b + 1), HK.out.trans (KeptBut.cell _ (p := ⟨w.heap.size + 1 + 1, 0, none⟩) _ (.inl rfl))⟩
        case measure =>
          have e1 : rdAt (w.heap.size + 1 + 1) (wr.setCell ⟨w.heap.size + 1 + 1, 0, none⟩ (.int .i64 ((b : Int) + 1))) = b + 1 := IsW.rd (HI.out.setAt (b + 1))
          rw [e1, HI.out.rd]; omega
      · obtain rfl : b = x := by omega
        have hnz : ¬ at0 l b = 0 := by simpa [nz] using n3
        have hne : (at0 l b == 0) = false := by simpa using hnz
        gi_wp2
        exact ⟨(HK.out.trans (KeptBut.cell _ (p := ⟨w.heap.size + 1 + 1 + 1, 0, none⟩) _ (.inr rfl))).trans (KeptBut.cell _ (p := ⟨w.heap.size + 1 + 1, 0, none⟩) _ (.inl rfl)), b + 1, by omega, HN5.out, HI.out.setFine.setAt (b + 1)⟩
  case done =>
    rintro D0 W hD0 ⟨a, ha, hp, hI⟩ hK
    have hlast := els_last ha hp.symm
    have HB := Lib.hid hI
    have hz := hI.size
    have HRw := Lib.hid hr
    have HH := Lib.hid h
    clear hI h hp hr hfn HA H0 H1 k1 k2 k3 k4 hb2 hI2
    go_wp2
    go_loopw [60] (fun _ wr => ∃ b : Nat, a ≤ b ∧ b ≤ 64 * P ∧ Hid (IsW w g c l false b wr) ∧ Hid (wr.heap[D0]? = some (.deferred (some [])))) (fun _ wr => 64 * P + 1 - rdAt (w.heap.size + 1 + 1) wr)
    case atStart => exact ⟨a, Nat.le_refl _, ha, HB.out, hK⟩
    case round =>
      obtain ⟨b, hab, hbx, HI, HK⟩ := hrel
      obtain ⟨c0, c2, f2, c3, f3, c4, f4⟩ := HI.out.cells
      have hRb := HRw.out.below HI.out.below
      by_cases hlt : b < 64 * P
      · have cg := hRb.cells (k := b) (by omega)
        have hlb : (b : Int) < (l.length : Int) := by omega
        have h0b : (0 : Int) ≤ (b : Int) := by omega
        have hz0 : at0 l b = 0 := by simpa [nz] using hlast b hab hlt
        rw [hz0] at cg
        clear hRb
        go_wp2
        go_roundw
        case rel => exact ⟨b + 1, by omega, by omega, HI.out.setAt (b + 1), (Below.heap_setCell _ _ _ _ (show D0 ≠ w.heap.size + 1 + 1 by omega)).trans HK.out⟩
        case measure =>
          have e1 : rdAt (w.heap.size + 1 + 1) (wr.setCell ⟨w.heap.size + 1 + 1, 0, none⟩ (.int .i64 ((b : Int) + 1))) = b + 1 := IsW.rd (HI.out.setAt (b + 1))
          rw [e1, HI.out.rd]; omega
      · obtain rfl : b = 64 * P := by omega
        have hlb : ¬ ((64 * P : Nat) : Int) < (l.length : Int) := by omega
        have hq : Int.tdiv (64 * (P : Int)) 64 = (P : Int) := by rw [Int.mul_comm]; exact Int.mul_tdiv_cancel _ (by decide)
        clear hRb
        go_wp2
        go_loopw [9] (fun q wr => ∃ p : Nat, p ≤ P + 2 ∧ q = .int .i64 ((p : Int) - 1) ∧ Hid (IsW w g c l false (64 * P) wr) ∧ Hid (wr.heap[D0]? = some (.deferred (some [])))) (fun q _ => P + 2 - (intOf q + 1).toNat)
        case atStart => exact ⟨0, by omega, rfl, HI.out, HK.out⟩
        case round =>
          clear c0 c2 f2 c3 f3 c4 f4 HI HK hab hbx ha
          obtain ⟨p, hp, rfl, HI, HK⟩ := hrel
          obtain ⟨c0, c2, f2, c3, f3, c4, f4⟩ := HI.out.cells
          by_cases hlt : p < P + 2
          · have hle : (p : Int) - 1 ≤ (P : Int) := by omega
            obtain ⟨bb, hbb⟩ : ∃ bb, bb = (decide (0 ≤ (p : Int) - 1) && priv l ((p : Int) - 1).toNat) := ⟨_, rfl⟩
            have HPA : Hid (∀ W, Below w.heap.size w W → Calls Try.prog 20 #[.pointer (some ⟨S, 0, none⟩), .int .i64 ((p : Int) - 1)] W fun e w' => e = .returned (.bool bb) ∧ W = w') := fun W hW => by rw [hbb]; exact Private_any (HH.out.below hW) _ (wf_i64 (by omega) (by omega))
            have HPB : Hid (∀ W, Below w.heap.size w W → Calls Try.prog 43 #[rwV g c l, .int .i64 ((p : Int) - 1)] W fun e w' => e = .returned (.bool bb) ∧ W = w') := fun W hW => by rw [hbb]; exact RPrivate_any (HRw.out.below hW) hb _
            have hH0 : IsR w g c l P D0 wr.drew := isR HI.out.drew HK.out
            clear hbb
            go_wp2
            clear c0 c2 f2 c3 f3 c4 f4
            go_region_held3 (fun W => W.cell? ⟨w.heap.size, 0, none⟩ = some (rwV g c l) ∧ W.cell? ⟨w.heap.size + 1 + 1 + 1, 0, none⟩ = some (.bool true) ∧ W.frozen? ⟨w.heap.size + 1 + 1 + 1, 0, none⟩ = false ∧ Hid (IsW w g c l false (64 * P) W) ∧ Hid (W.heap[D0]? = some (.deferred (some []))))
              (first
                | exact hH0
                | (go_split_ands; exact isR_set hD0 hz1 hz2 (by assumption) (by assumption)))
              (first
                | (go_at_call 20; go_split_ands; (with_reducible refine (HPA.out _ (isR_below (by assumption))).mono ?_); rintro e w1 ⟨rfl, rfl⟩)
                | (go_at_call 43; go_split_ands; (with_reducible refine (HPB.out _ (isR_below (by assumption))).mono ?_); rintro e w1 ⟨rfl, rfl⟩))
            go_split_ands
            have HI' : Hid (IsW w g c l false (64 * P) (wr.setCell ⟨w.heap.size + 1 + 1 + 1, 0, none⟩ (.bool true)).drew) := by assumption
            have HK' : Hid ((wr.setCell ⟨w.heap.size + 1 + 1 + 1, 0, none⟩ (.bool true)).drew.heap[D0]? = some (.deferred (some []))) := by assumption
            go_wp2
            go_roundw
            case rel => exact ⟨p + 1, by omega, by go_num, HI'.out, HK'.out⟩
            case measure => simp [intOf]; omega
          · obtain rfl : p = P + 2 := by omega
            have hle : ¬ ((P + 2 : Nat) : Int) - 1 ≤ (P : Int) := by omega
            have hH0 : IsQ w g c l P D0 wr.drew := isQ HI.out.drew HK.out
            have HPA : Hid (∀ W, Below w.heap.size w W → Calls Try.prog 19 #[.pointer (some ⟨S, 0, none⟩)] W fun e w' => e = .returned (.int .i64 ((privs l P).length : Int)) ∧ W = w') := fun W hW => Pages_any (HH.out.below hW)
            have HPB : Hid (∀ W, Below w.heap.size w W → Calls Try.prog 32 #[rwV g c l] W fun e w' => e = .returned (.int .i64 ((privs l P).length : Int)) ∧ W = w') := fun W hW => RPages_any (HRw.out.below hW) hb
            have HPC : Hid (∀ W, Below w.heap.size w W → Calls Try.prog 18 #[.pointer (some ⟨S, 0, none⟩)] W fun e w' => e = .returned (.int .i64 (64 * P : Nat)) ∧ W = w') := fun W hW => Size_any (HH.out.below hW)
            go_wp2
            clear c0 c2 f2 c3 f3 c4 f4
            go_region_held3 (fun W => W.cell? ⟨w.heap.size, 0, none⟩ = some (rwV g c l) ∧ W.cell? ⟨w.heap.size + 1 + 1 + 1, 0, none⟩ = some (.bool true) ∧ W.cell? ⟨w.heap.size + 1 + 1, 0, none⟩ = some (.int .i64 ((64 * P : Nat) : Int)) ∧ W.cell? ⟨w.heap.size + 1, 0, none⟩ = some (.bool (rdB (w.heap.size + 1) W)) ∧ W.frozen? ⟨w.heap.size + 1, 0, none⟩ = false ∧ Hid (∃ r, IsW w g c l r (64 * P) W) ∧ Hid (W.heap[D0]? = some (.deferred (some []))))
              (first
                | exact hH0
                | (go_split_ands; exact isQ_set hD0 hz1 hz2 (by assumption) (by assumption)))
              (first
                | (go_at_call 19; go_split_ands; (with_reducible refine (HPA.out _ (isQ_below (by assumption))).mono ?_); rintro e w1 ⟨rfl, rfl⟩)
                | (go_at_call 32; go_split_ands; (with_reducible refine (HPB.out _ (isQ_below (by assumption))).mono ?_); rintro e w1 ⟨rfl, rfl⟩)
                | (go_at_call 18; go_split_ands; (with_reducible refine (HPC.out _ (isQ_below (by assumption))).mono ?_); rintro e w1 ⟨rfl, rfl⟩))
            go_split_ands
            have HK' : Hid ((wr.setCell ⟨w.heap.size + 1, 0, none⟩ (.bool true)).drew.heap[D0]? = some (.deferred (some []))) := by assumption
            have hI9 := HI.out.setRes true
            go_wp2
            refine ⟨by simp, .inl ⟨_, _, rfl, run_takeDeferred HK'.out, ?_⟩⟩
            have hc9 : ((wr.setCell ⟨w.heap.size + 1, 0, none⟩ (.bool true)).drew.putObj D0 (.deferred none)).cell? ⟨w.heap.size + 1, 0, none⟩ = some (.bool true) := (cell_putObj (show w.heap.size + 1 ≠ D0 by omega)).trans hI9.cells.2.2.2.2.2.1
            refine ⟨.bool true, by simp [results, Try.results24, go_sem, hc9], rfl, ?_⟩
            exact hI9.below.trans ((Below.refl _ _).drew.trans (belowK_b (w := w) (Nat.le_refl _) _ D0 _ _ (by omega) HK'.out rfl rfl))
  case stop =>
    rintro D0 c pre rest W1 _ _ hx _
    exact hx.elim
end Go.Proofs.Ytepmndadbikijaa
