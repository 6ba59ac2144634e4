/-
  Layer 10: Decode of package isa, and what it calls: walks (as in layer 4).
-/
import Derived.Test.YthjdfneibogcgaaDoorTab
import Derived.WalkKit
import Derived.WalkSpells
import Derived.WalkLawsBesides
import Derived.Lib.Hide
import Derived.Lib.SmallJoins
import Derived.Laws.Rows
set_option linter.unusedVariables false
namespace Go.Proofs.YthjdfneibogcgaaDoor
open Go.RowKit
set_option maxHeartbeats 1000000

theorem isOp_any (x : Int) (w : World) : Calls Tryd.prog 76 #[.int .i64 x] w fun e w' => e = .returned (.bool (isOp x)) ∧ w = w' := by
  go_enter Tryd.func76, Tryd.ntmps76
  go_wp2
  all_goals go_ret
  all_goals refine ⟨?_, rfl⟩
  all_goals simp [isOp]
  all_goals omega

theorem uses_num_fin : ∀ (k : Fin 29) (n : Fin 3), (bits .and .i64 ((us k.val : Int) / 2 ^ n.val) 1 == 1) = uses k.val n.val := by decide +kernel
theorem uses_any (k n : Nat) (hk : k < 29) (hn : n < 3) (w : World) (h : Env w) : Calls Tryd.prog 77 #[.int .i64 (k : Int), .int .i64 (n : Int)] w fun e w' => e = .returned (.bool (uses k n)) ∧ w = w' := by
  have hc := h.use hk
  have hq := Lib.hid (uses_num_fin ⟨k, hk⟩ ⟨n, hn⟩)
  go_enter Tryd.func77, Tryd.ntmps77
  go_wp2
  go_ret
  exact ⟨congrArg (fun q => Ending.returned (Value.bool q)) hq.out, rfl⟩

theorem isOp_nat {k : Nat} (h0 : 0 < k) (h : k < 29) : isOp (k : Int) = true := by simp [isOp]; omega
theorem nat_of_isOp {x : Int} (h : isOp x = true) : ∃ k : Nat, x = k ∧ 0 < k ∧ k < 29 := by
  simp [isOp] at h
  exact ⟨x.toNat, by omega, by omega, by omega⟩
/-! ### arrays as values -/
theorem part_0 (a0 a1 a2 b0 b1 b2 c0 c1 c2 : Value) (w : World) : (Instr.index 109 (.agg #[a0, a1, a2, b0, b1, b2, c0, c1, c2]) (.int .i64 0)).run Tryd.prog w = .ok (.agg #[a0, a1, a2]) w := by kernel_rfl
theorem part_1 (a0 a1 a2 b0 b1 b2 c0 c1 c2 : Value) (w : World) : (Instr.index 109 (.agg #[a0, a1, a2, b0, b1, b2, c0, c1, c2]) (.int .i64 1)).run Tryd.prog w = .ok (.agg #[b0, b1, b2]) w := by kernel_rfl
theorem part_2 (a0 a1 a2 b0 b1 b2 c0 c1 c2 : Value) (w : World) : (Instr.index 109 (.agg #[a0, a1, a2, b0, b1, b2, c0, c1, c2]) (.int .i64 2)).run Tryd.prog w = .ok (.agg #[c0, c1, c2]) w := by kernel_rfl
set_option maxRecDepth 100000 in
theorem row_at (w : World) (k : Nat) (hk : k < 29) : (Instr.index 116 (.agg opsCells) (.int .i64 (k : Int))).run Tryd.prog w = .ok (opV k) w := by
  iterate 29 (rcases k with _ | k; exact (by kernel_rfl))
  omega

/-! ### mayBe -/
theorem ok0 {k : Nat} {u : Bool} (a b imm : Int) (h : uses k 0 = u) : okP ⟨k, a, b, imm⟩ 0 ↔ 0 ≤ a ∧ a ≤ (if u = true then 7 else 0) := by
  subst h; simp [okP, lowP, valP, highP]
theorem ok1 {k : Nat} {u : Bool} (a b imm : Int) (h : uses k 1 = u) : okP ⟨k, a, b, imm⟩ 1 ↔ 0 ≤ b ∧ b ≤ (if u = true then 7 else 0) := by
  subst h; simp [okP, lowP, valP, highP]
theorem ok2 {k : Nat} {u : Bool} (a b imm : Int) (h : uses k 2 = u) : okP ⟨k, a, b, imm⟩ 2 ↔ (if u = true then -32768 else 0) ≤ imm ∧ imm ≤ (if u = true then 32767 else 0) := by
  subst h; simp [okP, lowP, valP, highP]
theorem may_no {i : Ins} (n : Nat) (hn : n < 3) (h : ¬ okP i n) : decide (May i) = false := by
  rw [decide_eq_false_iff_not]
  rintro ⟨_, h0, h1, h2⟩
  obtain rfl | rfl | rfl : n = 0 ∨ n = 1 ∨ n = 2 := by omega
  · exact h h0
  · exact h h1
  · exact h h2
theorem may_yes {i : Ins} (h : isOp i.op = true) (n : Nat) (hn : n = 3) (hk : ∀ j, j < n → okP i j) : decide (May i) = true := by
  rw [decide_eq_true_eq]
  exact ⟨h, hk 0 (by omega), hk 1 (by omega), hk 2 (by omega)⟩
theorem may_not_op {i : Ins} (h : isOp i.op = false) : decide (May i) = false := by
  rw [decide_eq_false_iff_not]
  rintro ⟨h1, _⟩
  rw [h] at h1; cases h1
theorem ok_succ {i : Ins} {n : Nat} (h : ∀ j, j < n → okP i j) (hn : okP i n) : ∀ j, j < n + 1 → okP i j := fun j hj => by
  rcases Nat.lt_succ_iff_lt_or_eq.1 hj with h1 | rfl
  · exact h j h1
  · exact hn

theorem mayBe_none (op a b imm : Int) (hx : isOp op = false) (w : World) : Calls Tryd.prog 64 #[.agg #[.int .i64 op, .int .i64 a, .int .i64 b, .int .i64 imm]] w fun e w' => e = .returned (.bool false) ∧ Below w.heap.size w w' := by
  go_enter Tryd.func64, Tryd.ntmps64
  go_wp2_with (go_at_call 76; refine (isOp_any op _).mono ?_; rintro e w' ⟨rfl, rfl⟩; rw [hx])
  go_ret
  exact ⟨rfl, (Below.refl _ _).alloc (Nat.le_refl _) _⟩

set_option maxRecDepth 10000 in
theorem mayBe_some (k : Nat) (a b imm : Int) (h0 : 0 < k) (hk : k < 29) (w : World) (h : Env w) :
    Calls Tryd.prog 64 #[.agg #[.int .i64 (k : Int), .int .i64 a, .int .i64 b, .int .i64 imm]] w fun e w' => e = .returned (.bool (decide (May ⟨k, a, b, imm⟩))) ∧ Below w.heap.size w w' := by
  go_enter Tryd.func64, Tryd.ntmps64
  go_wp2_with (go_at_call 76; refine (isOp_any k _).mono ?_; rintro e w' ⟨rfl, rfl⟩; rw [isOp_nat h0 hk])
  go_loopw [19] (fun c wr => ∃ n : Nat, n ≤ 3 ∧ c = .int .i64 n ∧ Hid (Below (w.heap.size + 1) (w.alloc (.cells #[.int .i64 (k : Int), .int .i64 a, .int .i64 b, .int .i64 imm] 56)) wr) ∧ Hid (∀ j, j < n → okP ⟨k, a, b, imm⟩ j)) (fun c _ => 3 - (intOf c).toNat)
  case atStart => exact ⟨0, by omega, rfl, Below.refl _ _, fun j hj => absurd hj (Nat.not_lt_zero j)⟩
  case round =>
    obtain ⟨n, hn, rfl, hb, hok⟩ := hrel
    have c0 : wr.cell? ⟨w.heap.size, 0, none⟩ = some (.int .i64 (k : Int)) := by rw [hb.out.cell (by simp)]; simp
    have c1 : wr.cell? ⟨w.heap.size, 1, none⟩ = some (.int .i64 a) := by rw [hb.out.cell (by simp)]; simp
    have he : Env wr := (h.below ((Below.refl _ w).alloc (Nat.le_refl _) _)).below (hb.out.mono (by simp))
    have hs : w.heap.size + 1 ≤ wr.heap.size := by have := hb.out.size; simpa using this
    have hs1 : w.heap.size < wr.heap.size := hs
    have hs2 : ¬ w.heap.size = wr.heap.size := by omega
    have hs3 : ¬ wr.heap.size = w.heap.size := by omega
    have HE := Lib.hid he
    by_cases hlt : n < 3
    · have HU := Lib.hid (fun W hW => uses_any k n hk hlt W hW)
      have hfin := fun W (hW : Below (w.heap.size + 1) wr W) => (((Below.refl w.heap.size w).alloc (Nat.le_refl _) _).trans (hb.out.mono (Nat.le_succ _))).trans (hW.mono (Nat.le_succ _))
      have HF := Lib.hid hfin
      clear hfin he
      obtain rfl | rfl | rfl : n = 0 ∨ n = 1 ∨ n = 2 := by omega
      · have hix := part_0
        cases hu : uses k 0 with
        | true =>
          rw [hu] at HU
          have HK := Lib.hid (ok0 a b imm hu)
          clear hu
          go_wp2_with (go_at_call 77; refine (HU.out _ (HE.out.below ?bb)).mono ?_; (case bb => repeat (first | exact Below.refl _ _ | refine Below.setCell ?_ (by simp) _ | refine Below.alloc ?_ (by simp) _)); rintro e w' ⟨rfl, rfl⟩)
          all_goals first
            | (go_ret; exact ⟨congrArg (fun q => Ending.returned (Value.bool q)) (may_no 0 (by omega) (fun q => by have := HK.out.1 q; simp at this; omega)).symm, HF.out _ (by (repeat (first | exact Below.refl _ _ | refine Below.setCell ?_ (by first | omega | (simp; omega) | (simp; done)) _ | refine Below.alloc ?_ (by first | omega | (simp; omega) | (simp; done)) _)))⟩)
            | exact ⟨⟨1, by omega, rfl, hb.out.trans (by (repeat (first | exact Below.refl _ _ | refine Below.setCell ?_ (by first | omega | (simp; omega) | (simp; done)) _ | refine Below.alloc ?_ (by first | omega | (simp; omega) | (simp; done)) _))), ok_succ hok.out (HK.out.2 (by simp; omega))⟩, by simp [intOf]⟩
        | false =>
          rw [hu] at HU
          have HK := Lib.hid (ok0 a b imm hu)
          clear hu
          go_wp2_with (go_at_call 77; refine (HU.out _ (HE.out.below ?bb)).mono ?_; (case bb => repeat (first | exact Below.refl _ _ | refine Below.setCell ?_ (by simp) _ | refine Below.alloc ?_ (by simp) _)); rintro e w' ⟨rfl, rfl⟩)
          all_goals first
            | (go_ret; exact ⟨congrArg (fun q => Ending.returned (Value.bool q)) (may_no 0 (by omega) (fun q => by have := HK.out.1 q; simp at this; omega)).symm, HF.out _ (by (repeat (first | exact Below.refl _ _ | refine Below.setCell ?_ (by first | omega | (simp; omega) | (simp; done)) _ | refine Below.alloc ?_ (by first | omega | (simp; omega) | (simp; done)) _)))⟩)
            | exact ⟨⟨1, by omega, rfl, hb.out.trans (by (repeat (first | exact Below.refl _ _ | refine Below.setCell ?_ (by first | omega | (simp; omega) | (simp; done)) _ | refine Below.alloc ?_ (by first | omega | (simp; omega) | (simp; done)) _))), ok_succ hok.out (HK.out.2 (by simp; omega))⟩, by simp [intOf]⟩
      · have hix := part_1
        cases hu : uses k 1 with
        | true =>
          rw [hu] at HU
          have HK := Lib.hid (ok1 a b imm hu)
          clear hu
          go_wp2_with (go_at_call 77; refine (HU.out _ (HE.out.below ?bb)).mono ?_; (case bb => repeat (first | exact Below.refl _ _ | refine Below.setCell ?_ (by simp) _ | refine Below.alloc ?_ (by simp) _)); rintro e w' ⟨rfl, rfl⟩)
          all_goals first
            | (go_ret; exact ⟨congrArg (fun q => Ending.returned (Value.bool q)) (may_no 1 (by omega) (fun q => by have := HK.out.1 q; simp at this; omega)).symm, HF.out _ (by (repeat (first | exact Below.refl _ _ | refine Below.setCell ?_ (by first | omega | (simp; omega) | (simp; done)) _ | refine Below.alloc ?_ (by first | omega | (simp; omega) | (simp; done)) _)))⟩)
            | exact ⟨⟨2, by omega, rfl, hb.out.trans (by (repeat (first | exact Below.refl _ _ | refine Below.setCell ?_ (by first | omega | (simp; omega) | (simp; done)) _ | refine Below.alloc ?_ (by first | omega | (simp; omega) | (simp; done)) _))), ok_succ hok.out (HK.out.2 (by simp; omega))⟩, by simp [intOf]⟩
        | false =>
          rw [hu] at HU
          have HK := Lib.hid (ok1 a b imm hu)
          clear hu
          go_wp2_with (go_at_call 77; refine (HU.out _ (HE.out.below ?bb)).mono ?_; (case bb => repeat (first | exact Below.refl _ _ | refine Below.setCell ?_ (by simp) _ | refine Below.alloc ?_ (by simp) _)); rintro e w' ⟨rfl, rfl⟩)
          all_goals first
            | (go_ret; exact ⟨congrArg (fun q => Ending.returned (Value.bool q)) (may_no 1 (by omega) (fun q => by have := HK.out.1 q; simp at this; omega)).symm, HF.out _ (by (repeat (first | exact Below.refl _ _ | refine Below.setCell ?_ (by first | omega | (simp; omega) | (simp; done)) _ | refine Below.alloc ?_ (by first | omega | (simp; omega) | (simp; done)) _)))⟩)
            | exact ⟨⟨2, by omega, rfl, hb.out.trans (by (repeat (first | exact Below.refl _ _ | refine Below.setCell ?_ (by first | omega | (simp; omega) | (simp; done)) _ | refine Below.alloc ?_ (by first | omega | (simp; omega) | (simp; done)) _))), ok_succ hok.out (HK.out.2 (by simp; omega))⟩, by simp [intOf]⟩
      · have hix := part_2
        cases hu : uses k 2 with
        | true =>
          rw [hu] at HU
          have HK := Lib.hid (ok2 a b imm hu)
          clear hu
          go_wp2_with (go_at_call 77; refine (HU.out _ (HE.out.below ?bb)).mono ?_; (case bb => repeat (first | exact Below.refl _ _ | refine Below.setCell ?_ (by simp) _ | refine Below.alloc ?_ (by simp) _)); rintro e w' ⟨rfl, rfl⟩)
          all_goals first
            | (go_ret; exact ⟨congrArg (fun q => Ending.returned (Value.bool q)) (may_no 2 (by omega) (fun q => by have := HK.out.1 q; simp at this; omega)).symm, HF.out _ (by (repeat (first | exact Below.refl _ _ | refine Below.setCell ?_ (by first | omega | (simp; omega) | (simp; done)) _ | refine Below.alloc ?_ (by first | omega | (simp; omega) | (simp; done)) _)))⟩)
            | exact ⟨⟨3, by omega, rfl, hb.out.trans (by (repeat (first | exact Below.refl _ _ | refine Below.setCell ?_ (by first | omega | (simp; omega) | (simp; done)) _ | refine Below.alloc ?_ (by first | omega | (simp; omega) | (simp; done)) _))), ok_succ hok.out (HK.out.2 (by simp; omega))⟩, by simp [intOf]⟩
        | false =>
          rw [hu] at HU
          have HK := Lib.hid (ok2 a b imm hu)
          clear hu
          go_wp2_with (go_at_call 77; refine (HU.out _ (HE.out.below ?bb)).mono ?_; (case bb => repeat (first | exact Below.refl _ _ | refine Below.setCell ?_ (by simp) _ | refine Below.alloc ?_ (by simp) _)); rintro e w' ⟨rfl, rfl⟩)
          all_goals first
            | (go_ret; exact ⟨congrArg (fun q => Ending.returned (Value.bool q)) (may_no 2 (by omega) (fun q => by have := HK.out.1 q; simp at this; omega)).symm, HF.out _ (by (repeat (first | exact Below.refl _ _ | refine Below.setCell ?_ (by first | omega | (simp; omega) | (simp; done)) _ | refine Below.alloc ?_ (by first | omega | (simp; omega) | (simp; done)) _)))⟩)
            | exact ⟨⟨3, by omega, rfl, hb.out.trans (by (repeat (first | exact Below.refl _ _ | refine Below.setCell ?_ (by first | omega | (simp; omega) | (simp; done)) _ | refine Below.alloc ?_ (by first | omega | (simp; omega) | (simp; done)) _))), ok_succ hok.out (HK.out.2 (by simp; omega))⟩, by simp [intOf]⟩
    · go_wp2
      go_ret
      exact ⟨congrArg (fun q => Ending.returned (Value.bool q)) (may_yes (isOp_nat h0 hk) n (by omega) hok.out).symm, ((Below.refl w.heap.size w).alloc (Nat.le_refl _) _).trans (hb.out.mono (Nat.le_succ _))⟩

theorem mayBe_any (i : Ins) (w : World) (h : Env w) : Calls Tryd.prog 64 #[iv i] w fun e w' => e = .returned (.bool (decide (May i))) ∧ Below w.heap.size w w' := by
  obtain ⟨op, a, b, imm⟩ := i
  cases ho : isOp op with
  | true =>
    obtain ⟨k, rfl, h0, hk⟩ := nat_of_isOp ho
    exact mayBe_some k a b imm h0 hk w h
  | false =>
    rw [may_not_op (i := ⟨op, a, b, imm⟩) ho]
    exact mayBe_none op a b imm ho w

theorem and15 {y : Int} (h0 : 0 ≤ y) (h1 : y < 4294967296) : wrap64 (bits .and .u32 y 15) = y % 16 := by
  have := bits_mask .u32 32 (by decide) wraps_u32 4 (by decide) y h0 h1
  have e : (2 : Int) ^ 4 - 1 = 15 := by decide
  rw [e] at this
  rw [this]
  unfold wrap64; omega
theorem low16 {x : Int} (h : W32 x) : wrap64 (IntKind.i16.wrap x) = (dec x).imm := by
  unfold W32 at h
  simp only [IntKind.wrap, IntKind.bits, IntKind.signed, wrap64, dec]
  by_cases h2 : 32767 < x % 65536
  · rw [if_pos h2]
    simp
    rw [if_pos (by omega)]
    omega
  · rw [if_neg h2]
    simp
    rw [if_neg (by omega)]
    omega

/-- An instruction lies in a block. -/
structure Box (w : World) (b : Nat) (i : Ins) : Prop where
  c0 : w.cell? ⟨b, 0, none⟩ = some (.int .i64 i.op)
  c1 : w.cell? ⟨b, 1, none⟩ = some (.int .i64 i.a)
  c2 : w.cell? ⟨b, 2, none⟩ = some (.int .i64 i.b)
  c3 : w.cell? ⟨b, 3, none⟩ = some (.int .i64 i.imm)
  fr : ∀ j, w.frozen? ⟨b, j, none⟩ = false
theorem Box.new (w : World) (i : Ins) (t : TypeId) : Box (w.alloc (.cells #[.int .i64 i.op, .int .i64 i.a, .int .i64 i.b, .int .i64 i.imm] t)) w.heap.size i :=
  ⟨by simp, by simp, by simp, by simp, fun j => by simp⟩
theorem Box.lt {w : World} {b : Nat} {i : Ins} (h : Box w b i) : b < w.heap.size := World.block_lt_of_cell? _ _ h.c0
theorem Box.keep {w w' : World} {b B : Nat} {i : Ins} (h : Box w b i) (hb : Below B w w') (hl : b < B) : Box w' b i :=
  ⟨by rw [hb.cell hl]; exact h.c0, by rw [hb.cell hl]; exact h.c1, by rw [hb.cell hl]; exact h.c2, by rw [hb.cell hl]; exact h.c3, fun j => by rw [hb.frozen hl]; exact h.fr j⟩
theorem Box.below {w w' : World} {b : Nat} {i : Ins} (h : Box w b i) (hb : Below w.heap.size w w') : Box w' b i := h.keep hb h.lt
theorem Box.alloc {w : World} {b : Nat} {i : Ins} (h : Box w b i) (o : Obj) : Box (w.alloc o) b i := h.below ((Below.refl _ w).alloc (Nat.le_refl _) o)
theorem env_step {w w' : World} (h : Env w) (hb : Below w.heap.size w w') : Env w' := h.below hb

/-- What Decode hands back. -/
def decV (x : Int) : Ins := if May (dec x) then dec x else zeroI
def decB (x : Int) : Bool := decide (May (dec x))

set_option maxRecDepth 10000 in
theorem Decode_aux (x O A B M : Int) (hx : W32 x) (w : World) (h : Env w) (hd : dec x = ⟨O, A, B, M⟩) (D : Ins) (Q : Bool) (hQ : Hid (decide (May ⟨O, A, B, M⟩) = Q)) (hD1 : Hid (Q = true → D = ⟨O, A, B, M⟩)) (hD0 : Hid (Q = false → D = zeroI)) :
    Calls Tryd.prog 48 #[.int .u32 x] w fun e w' => e = .returned (.tuple #[iv D, .bool Q]) ∧ Below w.heap.size w w' := by
  have hM := low16 hx
  have hA := and15 (y := x / 1048576) (by have := hx.1; omega) (by have := hx.2; omega)
  have hB := and15 (y := x / 65536) (by have := hx.1; omega) (by have := hx.2; omega)
  rw [hd] at hM
  have hO : x / 16777216 = O := congrArg Ins.op hd
  rw [show x / 1048576 % 16 = A from congrArg Ins.a hd] at hA
  rw [show x / 65536 % 16 = B from congrArg Ins.b hd] at hB
  obtain ⟨hx0, hx1⟩ := hx
  clear hd
  have HB0 := Lib.hid ((((Below.refl w.heap.size w).alloc (Nat.le_refl _) (.cells #[.int .i64 0, .int .i64 0, .int .i64 0, .int .i64 0] 56)).alloc (by simp) (.cells #[.int .i64 O, .int .i64 A, .int .i64 B, .int .i64 M] 56)))
  have HC := Lib.hid (mayBe_any ⟨O, A, B, M⟩ _ (h.below HB0.out))
  rw [hQ.out] at HC
  clear hQ
  go_enter Tryd.func48, Tryd.ntmps48
  go_wp2_with fail
  refine HC.out.mono ?_
  rintro e w2 ⟨rfl, b2⟩
  have x0 := ((Box.new w zeroI 56).alloc (.cells #[.int .i64 O, .int .i64 A, .int .i64 B, .int .i64 M] 56)).below b2
  have x1 := (Box.new (w.alloc (.cells #[.int .i64 0, .int .i64 0, .int .i64 0, .int .i64 0] 56)) ⟨O, A, B, M⟩ 56).below b2
  rw [World.size_alloc] at x1
  have BF := Lib.hid (HB0.out.trans (b2.mono (by simp; omega)))
  clear b2 HB0 HC
  obtain ⟨a0, a1, a2, a3, fa⟩ := x0
  obtain ⟨e0, e1, e2, e3, fe⟩ := x1
  have bs : ∀ a b c d : Value, Below w.heap.size w ((((w2.setCell ⟨w.heap.size, 0, none⟩ a).setCell ⟨w.heap.size, 1, none⟩ b).setCell ⟨w.heap.size, 2, none⟩ c).setCell ⟨w.heap.size, 3, none⟩ d) := fun a b c d =>
    (((BF.out.setCell (Nat.le_refl _) _).setCell (Nat.le_refl _) _).setCell (Nat.le_refl _) _).setCell (Nat.le_refl _) _
  have HS := Lib.hid bs
  clear bs
  cases Q with
  | true =>
    go_wp2
    refine bodyPost_ret (v := .tuple #[.agg #[.int .i64 O, .int .i64 A, .int .i64 B, .int .i64 M], .bool true]) (by simp [results, Tryd.results48, go_sem, a0, a1, a2, a3]) rfl ⟨?_, HS.out _ _ _ _⟩
    rw [hD1.out (by simp)]; rfl
  | false =>
    go_wp2
    refine bodyPost_ret (v := .tuple #[.agg #[.int .i64 0, .int .i64 0, .int .i64 0, .int .i64 0], .bool false]) (by simp [results, Tryd.results48, go_sem, a0, a1, a2, a3]) rfl ⟨?_, HS.out _ _ _ _⟩
    rw [hD0.out (by simp)]; rfl

theorem Decode_any (x : Int) (hx : W32 x) (w : World) (h : Env w) :
    Calls Tryd.prog 48 #[.int .u32 x] w fun e w' => e = .returned (.tuple #[iv (decV x), .bool (decB x)]) ∧ Below w.heap.size w w' :=
  Decode_aux x _ _ _ _ hx w h rfl _ _ rfl (fun e => if_pos (of_decide_eq_true e)) (fun e => if_neg (of_decide_eq_false e))

end Go.Proofs.YthjdfneibogcgaaDoor
