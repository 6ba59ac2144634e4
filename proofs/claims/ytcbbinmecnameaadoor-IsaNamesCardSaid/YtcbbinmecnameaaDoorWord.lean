/-
  Layer 4: Decode and Encode of package isa: walks.
-/
import Derived.Test.YtcbbinmecnameaaDoorLeaf
import Derived.WalkKit
import Derived.WalkSpells
import Derived.WalkLawsBesides
import Derived.Lib.Hide
import Derived.Laws.Rows
set_option linter.unusedVariables false
namespace Go.Proofs.YtcbbinmecnameaaDoor
open Go.RowKit
set_option maxHeartbeats 1000000

theorem wraps_u32 (n : Int) (h₀ : 0 ≤ n) (h₁ : n < 2 ^ 32) : IntKind.u32.wrap n = n := by rw [IntKind.wrap_u32]; omega
theorem and15 {y : Int} (h0 : 0 ≤ y) (h1 : y < 4294967296) : wrap64 (bits .and .u32 y 15) = y % 16 := by
  have := bits_mask .u32 32 (by decide) wraps_u32 4 (by decide) y h0 h1
  have e : (2 : Int) ^ 4 - 1 = 15 := by decide
  rw [e] at this
  rw [this]
  unfold wrap64; omega
theorem low16 {x : Int} (h : W32 x) : wrap64 (IntKind.i16.wrap x) = (dec x).imm := by
  unfold W32 at h
  simp only [IntKind.wrap, IntKind.bits, IntKind.signed, wrap64, dec]
  by_cases h2 : 32767 < x % 65536
  · rw [if_pos h2]
    simp
    rw [if_pos (by omega)]
    omega
  · rw [if_neg h2]
    simp
    rw [if_neg (by omega)]
    omega

/-- An instruction lies in a block. -/
structure Box (w : World) (b : Nat) (i : Ins) : Prop where
  c0 : w.cell? ⟨b, 0, none⟩ = some (.int .i64 i.op)
  c1 : w.cell? ⟨b, 1, none⟩ = some (.int .i64 i.a)
  c2 : w.cell? ⟨b, 2, none⟩ = some (.int .i64 i.b)
  c3 : w.cell? ⟨b, 3, none⟩ = some (.int .i64 i.imm)
  fr : ∀ j, w.frozen? ⟨b, j, none⟩ = false
theorem Box.new (w : World) (i : Ins) (t : TypeId) : Box (w.alloc (.cells #[.int .i64 i.op, .int .i64 i.a, .int .i64 i.b, .int .i64 i.imm] t)) w.heap.size i :=
  ⟨by simp, by simp, by simp, by simp, fun j => by simp⟩
theorem Box.lt {w : World} {b : Nat} {i : Ins} (h : Box w b i) : b < w.heap.size := World.block_lt_of_cell? _ _ h.c0
theorem Box.keep {w w' : World} {b B : Nat} {i : Ins} (h : Box w b i) (hb : Below B w w') (hl : b < B) : Box w' b i :=
  ⟨by rw [hb.cell hl]; exact h.c0, by rw [hb.cell hl]; exact h.c1, by rw [hb.cell hl]; exact h.c2, by rw [hb.cell hl]; exact h.c3, fun j => by rw [hb.frozen hl]; exact h.fr j⟩
theorem Box.below {w w' : World} {b : Nat} {i : Ins} (h : Box w b i) (hb : Below w.heap.size w w') : Box w' b i := h.keep hb h.lt
theorem Box.alloc {w : World} {b : Nat} {i : Ins} (h : Box w b i) (o : Obj) : Box (w.alloc o) b i := h.below ((Below.refl _ w).alloc (Nat.le_refl _) o)
theorem env_step {w w' : World} (h : Env w) (hb : Below w.heap.size w w') : Env w' := h.below hb

/-- What Decode hands back. -/
def decV (x : Int) : Ins := if May (dec x) then dec x else zeroI
def decB (x : Int) : Bool := decide (May (dec x))

set_option maxRecDepth 10000 in
theorem Decode_aux (x O A B M : Int) (hx : W32 x) (w : World) (h : Env w) (hd : dec x = ⟨O, A, B, M⟩) (D : Ins) (Q : Bool) (hQ : Hid (decide (May ⟨O, A, B, M⟩) = Q)) (hD1 : Hid (Q = true → D = ⟨O, A, B, M⟩)) (hD0 : Hid (Q = false → D = zeroI)) :
    Calls Tryd.prog 10 #[.int .u32 x] w fun e w' => e = .returned (.tuple #[iv D, .bool Q]) ∧ Below w.heap.size w w' := by
  have hM := low16 hx
  have hA := and15 (y := x / 1048576) (by have := hx.1; omega) (by have := hx.2; omega)
  have hB := and15 (y := x / 65536) (by have := hx.1; omega) (by have := hx.2; omega)
  rw [hd] at hM
  have hO : x / 16777216 = O := congrArg Ins.op hd
  rw [show x / 1048576 % 16 = A from congrArg Ins.a hd] at hA
  rw [show x / 65536 % 16 = B from congrArg Ins.b hd] at hB
  obtain ⟨hx0, hx1⟩ := hx
  clear hd
  have HB0 := Lib.hid ((((Below.refl w.heap.size w).alloc (Nat.le_refl _) (.cells #[.int .i64 0, .int .i64 0, .int .i64 0, .int .i64 0] 26)).alloc (by simp) (.cells #[.int .i64 O, .int .i64 A, .int .i64 B, .int .i64 M] 26)))
  have HC := Lib.hid (mayBe_any ⟨O, A, B, M⟩ _ (h.below HB0.out))
  rw [hQ.out] at HC
  clear hQ
  go_enter Tryd.func10, Tryd.ntmps10
  go_wp2_with fail
  refine HC.out.mono ?_
  rintro e w2 ⟨rfl, b2⟩
  have x0 := ((Box.new w zeroI 26).alloc (.cells #[.int .i64 O, .int .i64 A, .int .i64 B, .int .i64 M] 26)).below b2
  have x1 := (Box.new (w.alloc (.cells #[.int .i64 0, .int .i64 0, .int .i64 0, .int .i64 0] 26)) ⟨O, A, B, M⟩ 26).below b2
  rw [World.size_alloc] at x1
  have BF := Lib.hid (HB0.out.trans (b2.mono (by simp; omega)))
  clear b2 HB0 HC
  obtain ⟨a0, a1, a2, a3, fa⟩ := x0
  obtain ⟨e0, e1, e2, e3, fe⟩ := x1
  have bs : ∀ a b c d : Value, Below w.heap.size w ((((w2.setCell ⟨w.heap.size, 0, none⟩ a).setCell ⟨w.heap.size, 1, none⟩ b).setCell ⟨w.heap.size, 2, none⟩ c).setCell ⟨w.heap.size, 3, none⟩ d) := fun a b c d =>
    (((BF.out.setCell (Nat.le_refl _) _).setCell (Nat.le_refl _) _).setCell (Nat.le_refl _) _).setCell (Nat.le_refl _) _
  have HS := Lib.hid bs
  clear bs
  cases Q with
  | true =>
    go_wp2
    refine bodyPost_ret (v := .tuple #[.agg #[.int .i64 O, .int .i64 A, .int .i64 B, .int .i64 M], .bool true]) (by simp [results, Tryd.results10, go_sem, a0, a1, a2, a3]) rfl ⟨?_, HS.out _ _ _ _⟩
    rw [hD1.out (by simp)]; rfl
  | false =>
    go_wp2
    refine bodyPost_ret (v := .tuple #[.agg #[.int .i64 0, .int .i64 0, .int .i64 0, .int .i64 0], .bool false]) (by simp [results, Tryd.results10, go_sem, a0, a1, a2, a3]) rfl ⟨?_, HS.out _ _ _ _⟩
    rw [hD0.out (by simp)]; rfl

theorem Decode_any (x : Int) (hx : W32 x) (w : World) (h : Env w) :
    Calls Tryd.prog 10 #[.int .u32 x] w fun e w' => e = .returned (.tuple #[iv (decV x), .bool (decB x)]) ∧ Below w.heap.size w w' :=
  Decode_aux x _ _ _ _ hx w h rfl _ _ rfl (fun e => if_pos (of_decide_eq_true e)) (fun e => if_neg (of_decide_eq_false e))

theorem Encode_no (O A B M : Int) (w : World) (h : Env w) (hm : decide (May ⟨O, A, B, M⟩) = false) :
    Calls Tryd.prog 12 #[.agg #[.int .i64 O, .int .i64 A, .int .i64 B, .int .i64 M]] w fun e w' => e = .returned (.tuple #[.int .u32 0, .int .i64 2]) ∧ Below w.heap.size w w' := by
  have b0 := (Below.refl w.heap.size w).alloc (Nat.le_refl _) (.cells #[.int .i64 O, .int .i64 A, .int .i64 B, .int .i64 M] 26)
  have HC := Lib.hid (mayBe_any ⟨O, A, B, M⟩ _ (h.below b0))
  rw [hm] at HC
  clear hm
  have HB0 := Lib.hid b0
  clear b0
  go_enter Tryd.func12, Tryd.ntmps12
  go_wp2_with fail
  refine HC.out.mono ?_
  rintro e w2 ⟨rfl, b2⟩
  have BF := Lib.hid (HB0.out.trans (b2.mono (by simp)))
  clear b2
  go_wp2
  go_ret2
  exact ⟨rfl, BF.out⟩

theorem or_high {x y : Int} (i : Nat) (hx : 0 ≤ x) (hm : x % 2 ^ i = 0) (hx1 : x < 4294967296) (hy : 0 ≤ y) (hy1 : y < 2 ^ i) (hy2 : y < 4294967296) : bits .or .u32 x y = x + y :=
  bits_join .u32 32 (by decide) wraps_u32 i x y hx hm hx1 hy hy1 hy2
theorem enc_bits {O A B : Int} (M : Int) (o0 : 0 < O) (o1 : O < 29) (a0 : 0 ≤ A) (a1 : A < 8) (b0 : 0 ≤ B) (b1 : B < 8) :
    bits .or .u32 (bits .or .u32 (bits .or .u32 (O * 16777216) (A * 1048576)) (B * 65536)) (IntKind.u16.wrap M % 4294967296) = enc ⟨O, A, B, M⟩ := by
  have hw : IntKind.u16.wrap M % 4294967296 = M % 65536 := by
    simp [IntKind.wrap, IntKind.bits, IntKind.signed]
    omega
  rw [hw, or_high (x := O * 16777216) (y := A * 1048576) 24 (by omega) (by omega) (by omega) (by omega) (by omega) (by omega),
    or_high (x := O * 16777216 + A * 1048576) (y := B * 65536) 20 (by omega) (by omega) (by omega) (by omega) (by omega) (by omega),
    or_high (x := O * 16777216 + A * 1048576 + B * 65536) (y := M % 65536) 16 (by omega) (by omega) (by omega) (by omega) (by omega) (by omega)]
  rfl

theorem Encode_yes (O A B M : Int) (w : World) (h : Env w) (hm : May ⟨O, A, B, M⟩) :
    Calls Tryd.prog 12 #[.agg #[.int .i64 O, .int .i64 A, .int .i64 B, .int .i64 M]] w fun e w' => e = .returned (.tuple #[.int .u32 (enc ⟨O, A, B, M⟩), .int .i64 0]) ∧ Below w.heap.size w w' := by
  have b0 := (Below.refl w.heap.size w).alloc (Nat.le_refl _) (.cells #[.int .i64 O, .int .i64 A, .int .i64 B, .int .i64 M] 26)
  have HC := Lib.hid (mayBe_any ⟨O, A, B, M⟩ _ (h.below b0))
  rw [decide_eq_true hm] at HC
  have hb := hm.bounds
  simp only at hb
  obtain ⟨⟨o0, o1⟩, ⟨a0, a1⟩, ⟨b00, b1⟩, m0, m1⟩ := hb
  have HE := Lib.hid hm
  clear hm
  have HB0 := Lib.hid b0
  clear b0
  go_enter Tryd.func12, Tryd.ntmps12
  go_wp2_with fail
  refine HC.out.mono ?_
  rintro e w2 ⟨rfl, b2⟩
  have BF := Lib.hid (HB0.out.trans (b2.mono (by simp)))
  obtain ⟨e0, e1, e2, e3, fe⟩ := (Box.new w ⟨O, A, B, M⟩ 26).below b2
  clear b2
  go_wp2
  go_ret2
  exact ⟨congrArg (fun q => Ending.returned (.tuple #[.int .u32 q, .int .i64 0])) (enc_bits M o0 o1 a0 a1 b00 b1), BF.out⟩

/-- What Encode hands back. -/
def encW (i : Ins) : Int := if May i then enc i else 0
def encE (i : Ins) : Int := if May i then 0 else 2
theorem Encode_any (i : Ins) (w : World) (h : Env w) :
    Calls Tryd.prog 12 #[iv i] w fun e w' => e = .returned (.tuple #[.int .u32 (encW i), .int .i64 (encE i)]) ∧ Below w.heap.size w w' := by
  unfold encW encE
  by_cases hm : May i
  · rw [if_pos hm, if_pos hm]
    exact Encode_yes _ _ _ _ w h hm
  · rw [if_neg hm, if_neg hm]
    exact Encode_no _ _ _ _ w h (decide_eq_false hm)
end Go.Proofs.YtcbbinmecnameaaDoor
