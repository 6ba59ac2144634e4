/-
  Layer 4: Text of the document: walks.
-/
import Derived.Test.YtcbbinmecnameaaDoorRef2
import Derived.Test.YtcbbinmecnameaaDoorText
set_option linter.unusedVariables false
namespace Go.Proofs.YtcbbinmecnameaaDoor
open Go.RowKit
set_option maxHeartbeats 1000000

theorem sz_app {a b : ByteArray} {m n : Nat} (ha : a.size ≤ m) (hb : b.size ≤ n) : (a ++ b).size ≤ m + n := by rw [ByteArray.size_append]; omega
set_option maxRecDepth 10000 in
theorem RText_none (k : Nat) (A B M : Int) (w : World) (h : Env w) (NN IA IB IM TX : ByteArray) (hNN : NN.size ≤ 5) (hIA : IA.size ≤ 6) (hIB : IB.size ≤ 6) (hIM : IM.size ≤ 6)
    (HTX : Hid (TX = NN))
    (HU : Hid (∀ W, Calls Tryd.prog 24 #[.int .i64 (k : Int)] W fun e w' => e = .returned (.tuple #[.bool false, .bool false, .bool false]) ∧ W = w'))
    (HN : Hid (∀ W, Calls Tryd.prog 18 #[.int .i64 (k : Int)] W fun e w' => e = .returned (.string NN) ∧ Below W.heap.size W w'))
    (HA : Hid (∀ W, Env W → Calls Tryd.prog 25 #[.int .i64 A] W fun e w' => e = .returned (.string IA) ∧ Below W.heap.size W w'))
    (HB : Hid (∀ W, Env W → Calls Tryd.prog 25 #[.int .i64 B] W fun e w' => e = .returned (.string IB) ∧ Below W.heap.size W w'))
    (HM : Hid (∀ W, Env W → Calls Tryd.prog 25 #[.int .i64 M] W fun e w' => e = .returned (.string IM) ∧ Below W.heap.size W w')) :
    Calls Tryd.prog 16 #[.agg #[.int .i64 (k : Int), .int .i64 A, .int .i64 B, .int .i64 M]] w fun e w' => e = .returned (.string TX) ∧ Below w.heap.size w w' := by

  go_enter Tryd.func16, Tryd.ntmps16
  go_wp2_with fail
  refine (HU.out _).mono ?_
  rintro e w1 ⟨rfl, rfl⟩
  go_wp2_with fail
  refine (HN.out _).mono ?_
  rintro e w2 ⟨rfl, b2⟩
  have X2 := (Box.new w ⟨k, A, B, M⟩ 26).below b2
  have HE2 := Lib.hid ((h.below ((Below.refl _ w).alloc (Nat.le_refl _) _)).below b2)
  have BF2 := Lib.hid (((Below.refl w.heap.size w).alloc (Nat.le_refl _) _).trans (b2.mono (by simp)))
  clear b2
  obtain ⟨e0, e1, e2, e3, fe⟩ := id X2
  have HX2 := Lib.hid X2
  clear X2
  go_wp2_with fail
  go_ret
  exact ⟨by rw [HTX.out]; rfl, BF2.out⟩

set_option maxRecDepth 10000 in
theorem RText_ab (k : Nat) (A B M : Int) (w : World) (h : Env w) (NN IA IB IM TX : ByteArray) (hNN : NN.size ≤ 5) (hIA : IA.size ≤ 6) (hIB : IB.size ≤ 6) (hIM : IM.size ≤ 6)
    (HTX : Hid (TX = NN ++ ⟨#[32]⟩ ++ ⟨#[114]⟩ ++ IA ++ ⟨#[44, 32]⟩ ++ ⟨#[114]⟩ ++ IB))
    (HU : Hid (∀ W, Calls Tryd.prog 24 #[.int .i64 (k : Int)] W fun e w' => e = .returned (.tuple #[.bool true, .bool true, .bool false]) ∧ W = w'))
    (HN : Hid (∀ W, Calls Tryd.prog 18 #[.int .i64 (k : Int)] W fun e w' => e = .returned (.string NN) ∧ Below W.heap.size W w'))
    (HA : Hid (∀ W, Env W → Calls Tryd.prog 25 #[.int .i64 A] W fun e w' => e = .returned (.string IA) ∧ Below W.heap.size W w'))
    (HB : Hid (∀ W, Env W → Calls Tryd.prog 25 #[.int .i64 B] W fun e w' => e = .returned (.string IB) ∧ Below W.heap.size W w'))
    (HM : Hid (∀ W, Env W → Calls Tryd.prog 25 #[.int .i64 M] W fun e w' => e = .returned (.string IM) ∧ Below W.heap.size W w')) :
    Calls Tryd.prog 16 #[.agg #[.int .i64 (k : Int), .int .i64 A, .int .i64 B, .int .i64 M]] w fun e w' => e = .returned (.string TX) ∧ Below w.heap.size w w' := by
  have hz0 : (NN ++ ⟨#[32]⟩ : ByteArray).size ≤ 6 := sz_app hNN (Nat.le_of_eq rfl)
  have hz1 : (NN ++ ⟨#[32]⟩ ++ ⟨#[114]⟩ : ByteArray).size ≤ 7 := sz_app hz0 (Nat.le_of_eq rfl)
  have hz2 : (NN ++ ⟨#[32]⟩ ++ ⟨#[114]⟩ ++ IA : ByteArray).size ≤ 13 := sz_app hz1 hIA
  have hz3 : (NN ++ ⟨#[32]⟩ ++ ⟨#[114]⟩ ++ IA ++ ⟨#[44, 32]⟩ : ByteArray).size ≤ 15 := sz_app hz2 (Nat.le_of_eq rfl)
  have hz4 : (NN ++ ⟨#[32]⟩ ++ ⟨#[114]⟩ ++ IA ++ ⟨#[44, 32]⟩ ++ ⟨#[114]⟩ : ByteArray).size ≤ 16 := sz_app hz3 (Nat.le_of_eq rfl)
  have hz5 : (NN ++ ⟨#[32]⟩ ++ ⟨#[114]⟩ ++ IA ++ ⟨#[44, 32]⟩ ++ ⟨#[114]⟩ ++ IB : ByteArray).size ≤ 22 := sz_app hz4 hIB
  go_enter Tryd.func16, Tryd.ntmps16
  go_wp2_with fail
  refine (HU.out _).mono ?_
  rintro e w1 ⟨rfl, rfl⟩
  go_wp2_with fail
  refine (HN.out _).mono ?_
  rintro e w2 ⟨rfl, b2⟩
  have X2 := (Box.new w ⟨k, A, B, M⟩ 26).below b2
  have HE2 := Lib.hid ((h.below ((Below.refl _ w).alloc (Nat.le_refl _) _)).below b2)
  have BF2 := Lib.hid (((Below.refl w.heap.size w).alloc (Nat.le_refl _) _).trans (b2.mono (by simp)))
  clear b2
  obtain ⟨e0, e1, e2, e3, fe⟩ := id X2
  have HX2 := Lib.hid X2
  clear X2
  go_wp2_with fail
  refine (HA.out _ HE2.out).mono ?_
  rintro e w3 ⟨rfl, b3⟩
  have X3 := HX2.out.below b3
  have HE3 := Lib.hid (HE2.out.below b3)
  have BF3 := Lib.hid (BF2.out.trans (b3.mono BF2.out.size))
  clear b3 e0 e1 e2 e3 fe
  obtain ⟨e0, e1, e2, e3, fe⟩ := id X3
  have HX3 := Lib.hid X3
  clear X3
  go_wp2_with fail
  refine (HB.out _ HE3.out).mono ?_
  rintro e w4 ⟨rfl, b4⟩
  have X4 := HX3.out.below b4
  have HE4 := Lib.hid (HE3.out.below b4)
  have BF4 := Lib.hid (BF3.out.trans (b4.mono BF3.out.size))
  clear b4 e0 e1 e2 e3 fe
  obtain ⟨e0, e1, e2, e3, fe⟩ := id X4
  have HX4 := Lib.hid X4
  clear X4
  go_wp2_with fail
  go_ret
  exact ⟨by rw [HTX.out]; rfl, BF4.out⟩

set_option maxRecDepth 10000 in
theorem RText_an (k : Nat) (A B M : Int) (w : World) (h : Env w) (NN IA IB IM TX : ByteArray) (hNN : NN.size ≤ 5) (hIA : IA.size ≤ 6) (hIB : IB.size ≤ 6) (hIM : IM.size ≤ 6)
    (HTX : Hid (TX = NN ++ ⟨#[32]⟩ ++ ⟨#[114]⟩ ++ IA ++ ⟨#[44, 32]⟩ ++ IM))
    (HU : Hid (∀ W, Calls Tryd.prog 24 #[.int .i64 (k : Int)] W fun e w' => e = .returned (.tuple #[.bool true, .bool false, .bool true]) ∧ W = w'))
    (HN : Hid (∀ W, Calls Tryd.prog 18 #[.int .i64 (k : Int)] W fun e w' => e = .returned (.string NN) ∧ Below W.heap.size W w'))
    (HA : Hid (∀ W, Env W → Calls Tryd.prog 25 #[.int .i64 A] W fun e w' => e = .returned (.string IA) ∧ Below W.heap.size W w'))
    (HB : Hid (∀ W, Env W → Calls Tryd.prog 25 #[.int .i64 B] W fun e w' => e = .returned (.string IB) ∧ Below W.heap.size W w'))
    (HM : Hid (∀ W, Env W → Calls Tryd.prog 25 #[.int .i64 M] W fun e w' => e = .returned (.string IM) ∧ Below W.heap.size W w')) :
    Calls Tryd.prog 16 #[.agg #[.int .i64 (k : Int), .int .i64 A, .int .i64 B, .int .i64 M]] w fun e w' => e = .returned (.string TX) ∧ Below w.heap.size w w' := by
  have hz0 : (NN ++ ⟨#[32]⟩ : ByteArray).size ≤ 6 := sz_app hNN (Nat.le_of_eq rfl)
  have hz1 : (NN ++ ⟨#[32]⟩ ++ ⟨#[114]⟩ : ByteArray).size ≤ 7 := sz_app hz0 (Nat.le_of_eq rfl)
  have hz2 : (NN ++ ⟨#[32]⟩ ++ ⟨#[114]⟩ ++ IA : ByteArray).size ≤ 13 := sz_app hz1 hIA
  have hz3 : (NN ++ ⟨#[32]⟩ ++ ⟨#[114]⟩ ++ IA ++ ⟨#[44, 32]⟩ : ByteArray).size ≤ 15 := sz_app hz2 (Nat.le_of_eq rfl)
  have hz4 : (NN ++ ⟨#[32]⟩ ++ ⟨#[114]⟩ ++ IA ++ ⟨#[44, 32]⟩ ++ IM : ByteArray).size ≤ 21 := sz_app hz3 hIM
  go_enter Tryd.func16, Tryd.ntmps16
  go_wp2_with fail
  refine (HU.out _).mono ?_
  rintro e w1 ⟨rfl, rfl⟩
  go_wp2_with fail
  refine (HN.out _).mono ?_
  rintro e w2 ⟨rfl, b2⟩
  have X2 := (Box.new w ⟨k, A, B, M⟩ 26).below b2
  have HE2 := Lib.hid ((h.below ((Below.refl _ w).alloc (Nat.le_refl _) _)).below b2)
  have BF2 := Lib.hid (((Below.refl w.heap.size w).alloc (Nat.le_refl _) _).trans (b2.mono (by simp)))
  clear b2
  obtain ⟨e0, e1, e2, e3, fe⟩ := id X2
  have HX2 := Lib.hid X2
  clear X2
  go_wp2_with fail
  refine (HA.out _ HE2.out).mono ?_
  rintro e w3 ⟨rfl, b3⟩
  have X3 := HX2.out.below b3
  have HE3 := Lib.hid (HE2.out.below b3)
  have BF3 := Lib.hid (BF2.out.trans (b3.mono BF2.out.size))
  clear b3 e0 e1 e2 e3 fe
  obtain ⟨e0, e1, e2, e3, fe⟩ := id X3
  have HX3 := Lib.hid X3
  clear X3
  go_wp2_with fail
  refine (HM.out _ HE3.out).mono ?_
  rintro e w4 ⟨rfl, b4⟩
  have X4 := HX3.out.below b4
  have HE4 := Lib.hid (HE3.out.below b4)
  have BF4 := Lib.hid (BF3.out.trans (b4.mono BF3.out.size))
  clear b4 e0 e1 e2 e3 fe
  obtain ⟨e0, e1, e2, e3, fe⟩ := id X4
  have HX4 := Lib.hid X4
  clear X4
  go_wp2_with fail
  go_ret
  exact ⟨by rw [HTX.out]; rfl, BF4.out⟩

set_option maxRecDepth 10000 in
theorem RText_abn (k : Nat) (A B M : Int) (w : World) (h : Env w) (NN IA IB IM TX : ByteArray) (hNN : NN.size ≤ 5) (hIA : IA.size ≤ 6) (hIB : IB.size ≤ 6) (hIM : IM.size ≤ 6)
    (HTX : Hid (TX = NN ++ ⟨#[32]⟩ ++ ⟨#[114]⟩ ++ IA ++ ⟨#[44, 32]⟩ ++ ⟨#[114]⟩ ++ IB ++ ⟨#[44, 32]⟩ ++ IM))
    (HU : Hid (∀ W, Calls Tryd.prog 24 #[.int .i64 (k : Int)] W fun e w' => e = .returned (.tuple #[.bool true, .bool true, .bool true]) ∧ W = w'))
    (HN : Hid (∀ W, Calls Tryd.prog 18 #[.int .i64 (k : Int)] W fun e w' => e = .returned (.string NN) ∧ Below W.heap.size W w'))
    (HA : Hid (∀ W, Env W → Calls Tryd.prog 25 #[.int .i64 A] W fun e w' => e = .returned (.string IA) ∧ Below W.heap.size W w'))
    (HB : Hid (∀ W, Env W → Calls Tryd.prog 25 #[.int .i64 B] W fun e w' => e = .returned (.string IB) ∧ Below W.heap.size W w'))
    (HM : Hid (∀ W, Env W → Calls Tryd.prog 25 #[.int .i64 M] W fun e w' => e = .returned (.string IM) ∧ Below W.heap.size W w')) :
    Calls Tryd.prog 16 #[.agg #[.int .i64 (k : Int), .int .i64 A, .int .i64 B, .int .i64 M]] w fun e w' => e = .returned (.string TX) ∧ Below w.heap.size w w' := by
  have hz0 : (NN ++ ⟨#[32]⟩ : ByteArray).size ≤ 6 := sz_app hNN (Nat.le_of_eq rfl)
  have hz1 : (NN ++ ⟨#[32]⟩ ++ ⟨#[114]⟩ : ByteArray).size ≤ 7 := sz_app hz0 (Nat.le_of_eq rfl)
  have hz2 : (NN ++ ⟨#[32]⟩ ++ ⟨#[114]⟩ ++ IA : ByteArray).size ≤ 13 := sz_app hz1 hIA
  have hz3 : (NN ++ ⟨#[32]⟩ ++ ⟨#[114]⟩ ++ IA ++ ⟨#[44, 32]⟩ : ByteArray).size ≤ 15 := sz_app hz2 (Nat.le_of_eq rfl)
  have hz4 : (NN ++ ⟨#[32]⟩ ++ ⟨#[114]⟩ ++ IA ++ ⟨#[44, 32]⟩ ++ ⟨#[114]⟩ : ByteArray).size ≤ 16 := sz_app hz3 (Nat.le_of_eq rfl)
  have hz5 : (NN ++ ⟨#[32]⟩ ++ ⟨#[114]⟩ ++ IA ++ ⟨#[44, 32]⟩ ++ ⟨#[114]⟩ ++ IB : ByteArray).size ≤ 22 := sz_app hz4 hIB
  have hz6 : (NN ++ ⟨#[32]⟩ ++ ⟨#[114]⟩ ++ IA ++ ⟨#[44, 32]⟩ ++ ⟨#[114]⟩ ++ IB ++ ⟨#[44, 32]⟩ : ByteArray).size ≤ 24 := sz_app hz5 (Nat.le_of_eq rfl)
  have hz7 : (NN ++ ⟨#[32]⟩ ++ ⟨#[114]⟩ ++ IA ++ ⟨#[44, 32]⟩ ++ ⟨#[114]⟩ ++ IB ++ ⟨#[44, 32]⟩ ++ IM : ByteArray).size ≤ 30 := sz_app hz6 hIM
  go_enter Tryd.func16, Tryd.ntmps16
  go_wp2_with fail
  refine (HU.out _).mono ?_
  rintro e w1 ⟨rfl, rfl⟩
  go_wp2_with fail
  refine (HN.out _).mono ?_
  rintro e w2 ⟨rfl, b2⟩
  have X2 := (Box.new w ⟨k, A, B, M⟩ 26).below b2
  have HE2 := Lib.hid ((h.below ((Below.refl _ w).alloc (Nat.le_refl _) _)).below b2)
  have BF2 := Lib.hid (((Below.refl w.heap.size w).alloc (Nat.le_refl _) _).trans (b2.mono (by simp)))
  clear b2
  obtain ⟨e0, e1, e2, e3, fe⟩ := id X2
  have HX2 := Lib.hid X2
  clear X2
  go_wp2_with fail
  refine (HA.out _ HE2.out).mono ?_
  rintro e w3 ⟨rfl, b3⟩
  have X3 := HX2.out.below b3
  have HE3 := Lib.hid (HE2.out.below b3)
  have BF3 := Lib.hid (BF2.out.trans (b3.mono BF2.out.size))
  clear b3 e0 e1 e2 e3 fe
  obtain ⟨e0, e1, e2, e3, fe⟩ := id X3
  have HX3 := Lib.hid X3
  clear X3
  go_wp2_with fail
  refine (HB.out _ HE3.out).mono ?_
  rintro e w4 ⟨rfl, b4⟩
  have X4 := HX3.out.below b4
  have HE4 := Lib.hid (HE3.out.below b4)
  have BF4 := Lib.hid (BF3.out.trans (b4.mono BF3.out.size))
  clear b4 e0 e1 e2 e3 fe
  obtain ⟨e0, e1, e2, e3, fe⟩ := id X4
  have HX4 := Lib.hid X4
  clear X4
  go_wp2_with fail
  refine (HM.out _ HE4.out).mono ?_
  rintro e w5 ⟨rfl, b5⟩
  have X5 := HX4.out.below b5
  have HE5 := Lib.hid (HE4.out.below b5)
  have BF5 := Lib.hid (BF4.out.trans (b5.mono BF4.out.size))
  clear b5 e0 e1 e2 e3 fe
  obtain ⟨e0, e1, e2, e3, fe⟩ := id X5
  have HX5 := Lib.hid X5
  clear X5
  go_wp2_with fail
  go_ret
  exact ⟨by rw [HTX.out]; rfl, BF5.out⟩

theorem RText_any (i : Ins) (hm : May i) (w : World) (h : Env w) :
    Calls Tryd.prog 16 #[iv i] w fun e w' => e = .returned (.string (bytes (txt i))) ∧ Below w.heap.size w w' := by
  have hb := hm.bounds
  obtain ⟨O, A, B, M⟩ := i
  obtain ⟨k, rfl, h0, hk⟩ := nat_of_isOp hm.1
  simp only at hb
  have HU : Hid (∀ W, Calls Tryd.prog 24 #[.int .i64 (k : Int)] W fun e w' => e = .returned (.tuple #[.bool (uses k 0), .bool (uses k 1), .bool (uses k 2)]) ∧ W = w') := fun W => by
    have := RUses_any k W
    rwa [uA_nat h0 hk, uB_nat h0 hk, uN_nat h0 hk] at this
  have HN : Hid (∀ W, Calls Tryd.prog 18 #[.int .i64 (k : Int)] W fun e w' => e = .returned (.string (bytes (nm k))) ∧ Below W.heap.size W w') := fun W => RName_some k h0 hk W
  have HA : Hid (∀ W, Env W → Calls Tryd.prog 25 #[.int .i64 A] W fun e w' => e = .returned (.string (bytes (Lib.itoa A))) ∧ Below W.heap.size W w') := fun W hW => Itoa_any A (by omega) (by omega) W hW
  have HB : Hid (∀ W, Env W → Calls Tryd.prog 25 #[.int .i64 B] W fun e w' => e = .returned (.string (bytes (Lib.itoa B))) ∧ Below W.heap.size W w') := fun W hW => Itoa_any B (by omega) (by omega) W hW
  have HM : Hid (∀ W, Env W → Calls Tryd.prog 25 #[.int .i64 M] W fun e w' => e = .returned (.string (bytes (Lib.itoa M))) ∧ Below W.heap.size W w') := fun W hW => Itoa_any M (by omega) (by omega) W hW
  have s0 : (bytes (nm k)).size ≤ 5 := by rw [bytes_size]; exact nm_len hk
  have s1 : (bytes (Lib.itoa A)).size ≤ 6 := by rw [bytes_size]; exact itoa_len (by omega) (by omega)
  have s2 : (bytes (Lib.itoa B)).size ≤ 6 := by rw [bytes_size]; exact itoa_len (by omega) (by omega)
  have s3 : (bytes (Lib.itoa M)).size ≤ 6 := by rw [bytes_size]; exact itoa_len (by omega) (by omega)
  have e32 : (⟨#[32]⟩ : ByteArray) = bytes [32] := rfl
  have e114 : (⟨#[114]⟩ : ByteArray) = bytes [114] := rfl
  have e44 : (⟨#[44, 32]⟩ : ByteArray) = bytes [44, 32] := rfl
  rcases us_kind k hk with hu | hu | hu | hu
  · have u0 : uses k 0 = false := by simp [uses, hu]
    have u1 : uses k 1 = false := by simp [uses, hu]
    have u2 : uses k 2 = false := by simp [uses, hu]
    rw [u0, u1, u2] at HU
    refine RText_none k A B M w h _ _ _ _ _ s0 s1 s2 s3 ?_ HU HN HA HB HM
    show bytes (txt ⟨k, A, B, M⟩) = _
    rw [txt, told3]
    simp [u0, u1, u2]
  · have u0 : uses k 0 = true := by simp [uses, hu]
    have u1 : uses k 1 = true := by simp [uses, hu]
    have u2 : uses k 2 = false := by simp [uses, hu]
    rw [u0, u1, u2] at HU
    refine RText_ab k A B M w h _ _ _ _ _ s0 s1 s2 s3 ?_ HU HN HA HB HM
    show bytes (txt ⟨k, A, B, M⟩) = _
    rw [txt, told3]
    simp only [e32, e114, e44, bytes_app]
    simp [u0, u1, u2, reg, Lib.join, List.intercalate]
  · have u0 : uses k 0 = true := by simp [uses, hu]
    have u1 : uses k 1 = false := by simp [uses, hu]
    have u2 : uses k 2 = true := by simp [uses, hu]
    rw [u0, u1, u2] at HU
    refine RText_an k A B M w h _ _ _ _ _ s0 s1 s2 s3 ?_ HU HN HA HB HM
    show bytes (txt ⟨k, A, B, M⟩) = _
    rw [txt, told3]
    simp only [e32, e114, e44, bytes_app]
    simp [u0, u1, u2, reg, Lib.join, List.intercalate]
  · have u0 : uses k 0 = true := by simp [uses, hu]
    have u1 : uses k 1 = true := by simp [uses, hu]
    have u2 : uses k 2 = true := by simp [uses, hu]
    rw [u0, u1, u2] at HU
    refine RText_abn k A B M w h _ _ _ _ _ s0 s1 s2 s3 ?_ HU HN HA HB HM
    show bytes (txt ⟨k, A, B, M⟩) = _
    rw [txt, told3]
    simp only [e32, e114, e44, bytes_app]
    simp [u0, u1, u2, reg, Lib.join, List.intercalate]
end Go.Proofs.YtcbbinmecnameaaDoor
