/-
  Layer 4: what each small function of package isa gives: walks.
-/
import Derived.Test.YtcbbinmecnameaaDoorTab
import Derived.WalkKit
import Derived.WalkSpells
import Derived.WalkLawsBesides
import Derived.Lib.Hide
import Derived.Lib.SmallJoins
set_option linter.unusedVariables false
namespace Go.Proofs.YtcbbinmecnameaaDoor
open Go.RowKit
set_option maxHeartbeats 1000000

theorem isOp_any (x : Int) (w : World) : Calls Tryd.prog 26 #[.int .i64 x] w fun e w' => e = .returned (.bool (isOp x)) ∧ w = w' := by
  go_enter Tryd.func26, Tryd.ntmps26
  go_wp2
  all_goals go_ret
  all_goals refine ⟨?_, rfl⟩
  all_goals simp [isOp]
  all_goals omega

theorem uses_num_fin : ∀ (k : Fin 29) (n : Fin 3), (bits .and .i64 ((us k.val : Int) / 2 ^ n.val) 1 == 1) = uses k.val n.val := by decide +kernel
theorem uses_any (k n : Nat) (hk : k < 29) (hn : n < 3) (w : World) (h : Env w) : Calls Tryd.prog 22 #[.int .i64 (k : Int), .int .i64 (n : Int)] w fun e w' => e = .returned (.bool (uses k n)) ∧ w = w' := by
  have hc := h.use hk
  have hq := Lib.hid (uses_num_fin ⟨k, hk⟩ ⟨n, hn⟩)
  go_enter Tryd.func22, Tryd.ntmps22
  go_wp2
  go_ret
  exact ⟨congrArg (fun q => Ending.returned (Value.bool q)) hq.out, rfl⟩

theorem Name_none (x : Int) (hx : isOp x = false) (w : World) : Calls Tryd.prog 17 #[.int .i64 x] w fun e w' => e = .returned (.tuple #[.string ⟨#[]⟩, .bool false]) ∧ w = w' := by
  go_enter Tryd.func17, Tryd.ntmps17
  go_wp2_with (go_at_call 26; refine (isOp_any x _).mono ?_; rintro e w' ⟨rfl, rfl⟩; rw [hx])
  go_ret2
  exact ⟨rfl, rfl⟩
theorem isOp_nat {k : Nat} (h0 : 0 < k) (h : k < 29) : isOp (k : Int) = true := by simp [isOp]; omega
theorem nat_of_isOp {x : Int} (h : isOp x = true) : ∃ k : Nat, x = k ∧ 0 < k ∧ k < 29 := by
  simp [isOp] at h
  exact ⟨x.toNat, by omega, by omega, by omega⟩
theorem Name_some (k : Nat) (h0 : 0 < k) (hk : k < 29) (w : World) (h : Env w) : Calls Tryd.prog 17 #[.int .i64 (k : Int)] w fun e w' => e = .returned (.tuple #[.string (bytes (nm k)), .bool true]) ∧ w = w' := by
  have hc := h.name hk
  go_enter Tryd.func17, Tryd.ntmps17
  go_wp2_with (go_at_call 26; refine (isOp_any k _).mono ?_; rintro e w' ⟨rfl, rfl⟩; rw [isOp_nat h0 hk])
  go_ret2
  exact ⟨rfl, rfl⟩

/-! ### arrays as values -/
theorem part_0 (a0 a1 a2 b0 b1 b2 c0 c1 c2 : Value) (w : World) : (Instr.index 67 (.agg #[a0, a1, a2, b0, b1, b2, c0, c1, c2]) (.int .i64 0)).run Tryd.prog w = .ok (.agg #[a0, a1, a2]) w := by kernel_rfl
theorem part_1 (a0 a1 a2 b0 b1 b2 c0 c1 c2 : Value) (w : World) : (Instr.index 67 (.agg #[a0, a1, a2, b0, b1, b2, c0, c1, c2]) (.int .i64 1)).run Tryd.prog w = .ok (.agg #[b0, b1, b2]) w := by kernel_rfl
theorem part_2 (a0 a1 a2 b0 b1 b2 c0 c1 c2 : Value) (w : World) : (Instr.index 67 (.agg #[a0, a1, a2, b0, b1, b2, c0, c1, c2]) (.int .i64 2)).run Tryd.prog w = .ok (.agg #[c0, c1, c2]) w := by kernel_rfl
theorem row_at (w : World) (k : Nat) (hk : k < 29) : (Instr.index 60 (.agg opsCells) (.int .i64 (k : Int))).run Tryd.prog w = .ok (opV k) w := by
  iterate 29 (rcases k with _ | k; exact (by kernel_rfl))
  omega

/-! ### mayBe -/
theorem ok0 {k : Nat} {u : Bool} (a b imm : Int) (h : uses k 0 = u) : okP ⟨k, a, b, imm⟩ 0 ↔ 0 ≤ a ∧ a ≤ (if u = true then 7 else 0) := by
  subst h; simp [okP, lowP, valP, highP]
theorem ok1 {k : Nat} {u : Bool} (a b imm : Int) (h : uses k 1 = u) : okP ⟨k, a, b, imm⟩ 1 ↔ 0 ≤ b ∧ b ≤ (if u = true then 7 else 0) := by
  subst h; simp [okP, lowP, valP, highP]
theorem ok2 {k : Nat} {u : Bool} (a b imm : Int) (h : uses k 2 = u) : okP ⟨k, a, b, imm⟩ 2 ↔ (if u = true then -32768 else 0) ≤ imm ∧ imm ≤ (if u = true then 32767 else 0) := by
  subst h; simp [okP, lowP, valP, highP]
theorem may_no {i : Ins} (n : Nat) (hn : n < 3) (h : ¬ okP i n) : decide (May i) = false := by
  rw [decide_eq_false_iff_not]
  rintro ⟨_, h0, h1, h2⟩
  obtain rfl | rfl | rfl : n = 0 ∨ n = 1 ∨ n = 2 := by omega
  · exact h h0
  · exact h h1
  · exact h h2
theorem may_yes {i : Ins} (h : isOp i.op = true) (n : Nat) (hn : n = 3) (hk : ∀ j, j < n → okP i j) : decide (May i) = true := by
  rw [decide_eq_true_eq]
  exact ⟨h, hk 0 (by omega), hk 1 (by omega), hk 2 (by omega)⟩
theorem may_not_op {i : Ins} (h : isOp i.op = false) : decide (May i) = false := by
  rw [decide_eq_false_iff_not]
  rintro ⟨h1, _⟩
  rw [h] at h1; cases h1
theorem ok_succ {i : Ins} {n : Nat} (h : ∀ j, j < n → okP i j) (hn : okP i n) : ∀ j, j < n + 1 → okP i j := fun j hj => by
  rcases Nat.lt_succ_iff_lt_or_eq.1 hj with h1 | rfl
  · exact h j h1
  · exact hn

theorem mayBe_none (op a b imm : Int) (hx : isOp op = false) (w : World) : Calls Tryd.prog 20 #[.agg #[.int .i64 op, .int .i64 a, .int .i64 b, .int .i64 imm]] w fun e w' => e = .returned (.bool false) ∧ Below w.heap.size w w' := by
  go_enter Tryd.func20, Tryd.ntmps20
  go_wp2_with (go_at_call 26; refine (isOp_any op _).mono ?_; rintro e w' ⟨rfl, rfl⟩; rw [hx])
  go_ret
  exact ⟨rfl, (Below.refl _ _).alloc (Nat.le_refl _) _⟩

set_option maxRecDepth 10000 in
theorem mayBe_some (k : Nat) (a b imm : Int) (h0 : 0 < k) (hk : k < 29) (w : World) (h : Env w) :
    Calls Tryd.prog 20 #[.agg #[.int .i64 (k : Int), .int .i64 a, .int .i64 b, .int .i64 imm]] w fun e w' => e = .returned (.bool (decide (May ⟨k, a, b, imm⟩))) ∧ Below w.heap.size w w' := by
  go_enter Tryd.func20, Tryd.ntmps20
  go_wp2_with (go_at_call 26; refine (isOp_any k _).mono ?_; rintro e w' ⟨rfl, rfl⟩; rw [isOp_nat h0 hk])
  go_loopw [19] (fun c wr => ∃ n : Nat, n ≤ 3 ∧ c = .int .i64 n ∧ Hid (Below (w.heap.size + 1) (w.alloc (.cells #[.int .i64 (k : Int), .int .i64 a, .int .i64 b, .int .i64 imm] 26)) wr) ∧ Hid (∀ j, j < n → okP ⟨k, a, b, imm⟩ j)) (fun c _ => 3 - (intOf c).toNat)
  case atStart => exact ⟨0, by omega, rfl, Below.refl _ _, fun j hj => absurd hj (Nat.not_lt_zero j)⟩
  case round =>
    obtain ⟨n, hn, rfl, hb, hok⟩ := hrel
    have c0 : wr.cell? ⟨w.heap.size, 0, none⟩ = some (.int .i64 (k : Int)) := by rw [hb.out.cell (by simp)]; simp
    have c1 : wr.cell? ⟨w.heap.size, 1, none⟩ = some (.int .i64 a) := by rw [hb.out.cell (by simp)]; simp
    have he : Env wr := (h.below ((Below.refl _ w).alloc (Nat.le_refl _) _)).below (hb.out.mono (by simp))
    have hs : w.heap.size + 1 ≤ wr.heap.size := by have := hb.out.size; simpa using this
    have hs1 : w.heap.size < wr.heap.size := hs
    have hs2 : ¬ w.heap.size = wr.heap.size := by omega
    have hs3 : ¬ wr.heap.size = w.heap.size := by omega
    have HE := Lib.hid he
    by_cases hlt : n < 3
    · have HU := Lib.hid (fun W hW => uses_any k n hk hlt W hW)
      have hfin := fun W (hW : Below (w.heap.size + 1) wr W) => (((Below.refl w.heap.size w).alloc (Nat.le_refl _) _).trans (hb.out.mono (Nat.le_succ _))).trans (hW.mono (Nat.le_succ _))
      have HF := Lib.hid hfin
      clear hfin he
      obtain rfl | rfl | rfl : n = 0 ∨ n = 1 ∨ n = 2 := by omega
      · have hix := part_0
        cases hu : uses k 0 with
        | true =>
          rw [hu] at HU
          have HK := Lib.hid (ok0 a b imm hu)
          clear hu
          go_wp2_with (go_at_call 22; refine (HU.out _ (HE.out.below ?bb)).mono ?_; (case bb => repeat (first | exact Below.refl _ _ | refine Below.setCell ?_ (by simp) _ | refine Below.alloc ?_ (by simp) _)); rintro e w' ⟨rfl, rfl⟩)
          all_goals first
            | (go_ret; exact ⟨congrArg (fun q => Ending.returned (Value.bool q)) (may_no 0 (by omega) (fun q => by have := HK.out.1 q; simp at this; omega)).symm, HF.out _ (by (repeat (first | exact Below.refl _ _ | refine Below.setCell ?_ (by first | omega | (simp; omega) | (simp; done)) _ | refine Below.alloc ?_ (by first | omega | (simp; omega) | (simp; done)) _)))⟩)
            | exact ⟨⟨1, by omega, rfl, hb.out.trans (by (repeat (first | exact Below.refl _ _ | refine Below.setCell ?_ (by first | omega | (simp; omega) | (simp; done)) _ | refine Below.alloc ?_ (by first | omega | (simp; omega) | (simp; done)) _))), ok_succ hok.out (HK.out.2 (by simp; omega))⟩, by simp [intOf]⟩
        | false =>
          rw [hu] at HU
          have HK := Lib.hid (ok0 a b imm hu)
          clear hu
          go_wp2_with (go_at_call 22; refine (HU.out _ (HE.out.below ?bb)).mono ?_; (case bb => repeat (first | exact Below.refl _ _ | refine Below.setCell ?_ (by simp) _ | refine Below.alloc ?_ (by simp) _)); rintro e w' ⟨rfl, rfl⟩)
          all_goals first
            | (go_ret; exact ⟨congrArg (fun q => Ending.returned (Value.bool q)) (may_no 0 (by omega) (fun q => by have := HK.out.1 q; simp at this; omega)).symm, HF.out _ (by (repeat (first | exact Below.refl _ _ | refine Below.setCell ?_ (by first | omega | (simp; omega) | (simp; done)) _ | refine Below.alloc ?_ (by first | omega | (simp; omega) | (simp; done)) _)))⟩)
            | exact ⟨⟨1, by omega, rfl, hb.out.trans (by (repeat (first | exact Below.refl _ _ | refine Below.setCell ?_ (by first | omega | (simp; omega) | (simp; done)) _ | refine Below.alloc ?_ (by first | omega | (simp; omega) | (simp; done)) _))), ok_succ hok.out (HK.out.2 (by simp; omega))⟩, by simp [intOf]⟩
      · have hix := part_1
        cases hu : uses k 1 with
        | true =>
          rw [hu] at HU
          have HK := Lib.hid (ok1 a b imm hu)
          clear hu
          go_wp2_with (go_at_call 22; refine (HU.out _ (HE.out.below ?bb)).mono ?_; (case bb => repeat (first | exact Below.refl _ _ | refine Below.setCell ?_ (by simp) _ | refine Below.alloc ?_ (by simp) _)); rintro e w' ⟨rfl, rfl⟩)
          all_goals first
            | (go_ret; exact ⟨congrArg (fun q => Ending.returned (Value.bool q)) (may_no 1 (by omega) (fun q => by have := HK.out.1 q; simp at this; omega)).symm, HF.out _ (by (repeat (first | exact Below.refl _ _ | refine Below.setCell ?_ (by first | omega | (simp; omega) | (simp; done)) _ | refine Below.alloc ?_ (by first | omega | (simp; omega) | (simp; done)) _)))⟩)
            | exact ⟨⟨2, by omega, rfl, hb.out.trans (by (repeat (first | exact Below.refl _ _ | refine Below.setCell ?_ (by first | omega | (simp; omega) | (simp; done)) _ | refine Below.alloc ?_ (by first | omega | (simp; omega) | (simp; done)) _))), ok_succ hok.out (HK.out.2 (by simp; omega))⟩, by simp [intOf]⟩
        | false =>
          rw [hu] at HU
          have HK := Lib.hid (ok1 a b imm hu)
          clear hu
          go_wp2_with (go_at_call 22; refine (HU.out _ (HE.out.below ?bb)).mono ?_; (case bb => repeat (first | exact Below.refl _ _ | refine Below.setCell ?_ (by simp) _ | refine Below.alloc ?_ (by simp) _)); rintro e w' ⟨rfl, rfl⟩)
          all_goals first
            | (go_ret; exact ⟨congrArg (fun q => Ending.returned (Value.bool q)) (may_no 1 (by omega) (fun q => by have := HK.out.1 q; simp at this; omega)).symm, HF.out _ (by (repeat (first | exact Below.refl _ _ | refine Below.setCell ?_ (by first | omega | (simp; omega) | (simp; done)) _ | refine Below.alloc ?_ (by first | omega | (simp; omega) | (simp; done)) _)))⟩)
            | exact ⟨⟨2, by omega, rfl, hb.out.trans (by (repeat (first | exact Below.refl _ _ | refine Below.setCell ?_ (by first | omega | (simp; omega) | (simp; done)) _ | refine Below.alloc ?_ (by first | omega | (simp; omega) | (simp; done)) _))), ok_succ hok.out (HK.out.2 (by simp; omega))⟩, by simp [intOf]⟩
      · have hix := part_2
        cases hu : uses k 2 with
        | true =>
          rw [hu] at HU
          have HK := Lib.hid (ok2 a b imm hu)
          clear hu
          go_wp2_with (go_at_call 22; refine (HU.out _ (HE.out.below ?bb)).mono ?_; (case bb => repeat (first | exact Below.refl _ _ | refine Below.setCell ?_ (by simp) _ | refine Below.alloc ?_ (by simp) _)); rintro e w' ⟨rfl, rfl⟩)
          all_goals first
            | (go_ret; exact ⟨congrArg (fun q => Ending.returned (Value.bool q)) (may_no 2 (by omega) (fun q => by have := HK.out.1 q; simp at this; omega)).symm, HF.out _ (by (repeat (first | exact Below.refl _ _ | refine Below.setCell ?_ (by first | omega | (simp; omega) | (simp; done)) _ | refine Below.alloc ?_ (by first | omega | (simp; omega) | (simp; done)) _)))⟩)
            | exact ⟨⟨3, by omega, rfl, hb.out.trans (by (repeat (first | exact Below.refl _ _ | refine Below.setCell ?_ (by first | omega | (simp; omega) | (simp; done)) _ | refine Below.alloc ?_ (by first | omega | (simp; omega) | (simp; done)) _))), ok_succ hok.out (HK.out.2 (by simp; omega))⟩, by simp [intOf]⟩
        | false =>
          rw [hu] at HU
          have HK := Lib.hid (ok2 a b imm hu)
          clear hu
          go_wp2_with (go_at_call 22; refine (HU.out _ (HE.out.below ?bb)).mono ?_; (case bb => repeat (first | exact Below.refl _ _ | refine Below.setCell ?_ (by simp) _ | refine Below.alloc ?_ (by simp) _)); rintro e w' ⟨rfl, rfl⟩)
          all_goals first
            | (go_ret; exact ⟨congrArg (fun q => Ending.returned (Value.bool q)) (may_no 2 (by omega) (fun q => by have := HK.out.1 q; simp at this; omega)).symm, HF.out _ (by (repeat (first | exact Below.refl _ _ | refine Below.setCell ?_ (by first | omega | (simp; omega) | (simp; done)) _ | refine Below.alloc ?_ (by first | omega | (simp; omega) | (simp; done)) _)))⟩)
            | exact ⟨⟨3, by omega, rfl, hb.out.trans (by (repeat (first | exact Below.refl _ _ | refine Below.setCell ?_ (by first | omega | (simp; omega) | (simp; done)) _ | refine Below.alloc ?_ (by first | omega | (simp; omega) | (simp; done)) _))), ok_succ hok.out (HK.out.2 (by simp; omega))⟩, by simp [intOf]⟩
    · go_wp2
      go_ret
      exact ⟨congrArg (fun q => Ending.returned (Value.bool q)) (may_yes (isOp_nat h0 hk) n (by omega) hok.out).symm, ((Below.refl w.heap.size w).alloc (Nat.le_refl _) _).trans (hb.out.mono (Nat.le_succ _))⟩

theorem mayBe_any (i : Ins) (w : World) (h : Env w) : Calls Tryd.prog 20 #[iv i] w fun e w' => e = .returned (.bool (decide (May i))) ∧ Below w.heap.size w w' := by
  obtain ⟨op, a, b, imm⟩ := i
  cases ho : isOp op with
  | true =>
    obtain ⟨k, rfl, h0, hk⟩ := nat_of_isOp ho
    exact mayBe_some k a b imm h0 hk w h
  | false =>
    rw [may_not_op (i := ⟨op, a, b, imm⟩) ho]
    exact mayBe_none op a b imm ho w
end Go.Proofs.YtcbbinmecnameaaDoor
