/-
  Layer 10: the document's Decode, and what it calls: walks (as in layer 4).
-/
import Derived.Test.YthjdfneibogcgaaDoorIsa
import Derived.WalkKit
import Derived.WalkSpells
import Derived.WalkLawsBesides
import Derived.Lib.Hide
set_option linter.unusedVariables false
namespace Go.Proofs.YthjdfneibogcgaaDoor
open Go.RowKit
set_option maxHeartbeats 1000000

def uN0 (x : Int) : Bool := decide (x = 1 ∨ x = 24 ∨ x = 25 ∨ x = 28)
def uA (x : Int) : Bool := !uN0 x
def uB (x : Int) : Bool := uA x && decide (x ≠ 2 ∧ x ≠ 20 ∧ x ≠ 22 ∧ x ≠ 23 ∧ x ≠ 26 ∧ x ≠ 27)
def uN (x : Int) : Bool := uA x && decide (¬ (4 ≤ x ∧ x ≤ 12) ∧ x ≠ 21)
theorem u_fin : ∀ k : Fin 29, 0 < k.val → uA (k.val : Int) = uses k.val 0 ∧ uB (k.val : Int) = uses k.val 1 ∧ uN (k.val : Int) = uses k.val 2 := by decide +kernel
theorem uA_nat {k : Nat} (h0 : 0 < k) (h : k < 29) : uA (k : Int) = uses k 0 := (u_fin ⟨k, h⟩ h0).1
theorem uB_nat {k : Nat} (h0 : 0 < k) (h : k < 29) : uB (k : Int) = uses k 1 := (u_fin ⟨k, h⟩ h0).2.1
theorem uN_nat {k : Nat} (h0 : 0 < k) (h : k < 29) : uN (k : Int) = uses k 2 := (u_fin ⟨k, h⟩ h0).2.2

theorem tup3 {a b c a' b' c' : Bool} (h0 : a = a') (h1 : b = b') (h2 : c = c') : Ending.returned (.tuple #[.bool a, .bool b, .bool c]) = Ending.returned (.tuple #[.bool a', .bool b', .bool c']) := by subst h0 h1 h2; rfl
set_option maxRecDepth 10000 in
theorem RUses_any (x : Int) (w : World) : Calls Tryd.prog 74 #[.int .i64 x] w fun e w' => e = .returned (.tuple #[.bool (uA x), .bool (uB x), .bool (uN x)]) ∧ w = w' := by
  obtain ⟨q0, h0⟩ : ∃ q, uA x = q := ⟨_, rfl⟩
  obtain ⟨q1, h1⟩ : ∃ q, uB x = q := ⟨_, rfl⟩
  obtain ⟨q2, h2⟩ : ∃ q, uN x = q := ⟨_, rfl⟩
  rw [h0, h1, h2]
  have H0 := Lib.hid h0
  have H1 := Lib.hid h1
  have H2 := Lib.hid h2
  clear h0 h1 h2
  go_enter Tryd.func74, Tryd.ntmps74
  go_wp2
  all_goals go_ret3
  all_goals refine ⟨?_, rfl⟩
  all_goals rw [← H0.out, ← H1.out, ← H2.out]
  all_goals clear H0 H1 H2
  all_goals refine tup3 ?_ ?_ ?_
  all_goals rw [Bool.eq_iff_iff]
  all_goals simp [uA, uB, uN, uN0]
  all_goals omega

theorem bytes_toList (l : List UInt8) : (bytes l).toList = l := by rw [ByteArray.toList_eq]; simp [bytes]
theorem nm_filled {k : Nat} (h0 : 0 < k) (h : k < 29) : (bytes (nm k)).toList.isEmpty = false := by
  rw [bytes_toList]
  cases hh : nm k with
  | nil => have := nm_none h hh; omega
  | cons _ _ => rfl
theorem names_at (w : World) (t : TypeId) (k : Nat) (h : k < 29) : (w.alloc (.cells #[.string ⟨#[]⟩, .string ⟨#[104, 97, 108, 116]⟩, .string ⟨#[108, 117, 105]⟩, .string ⟨#[97, 100, 100, 105]⟩, .string ⟨#[97, 100, 100]⟩, .string ⟨#[115, 117, 98]⟩, .string ⟨#[109, 117, 108]⟩, .string ⟨#[97, 110, 100]⟩, .string ⟨#[111, 114]⟩, .string ⟨#[120, 111, 114]⟩, .string ⟨#[115, 104, 108]⟩, .string ⟨#[115, 104, 114]⟩, .string ⟨#[115, 108, 116]⟩, .string ⟨#[108, 119]⟩, .string ⟨#[115, 119]⟩, .string ⟨#[108, 98]⟩, .string ⟨#[115, 98]⟩, .string ⟨#[98, 101, 113]⟩, .string ⟨#[98, 110, 101]⟩, .string ⟨#[98, 108, 116]⟩, .string ⟨#[106, 97, 108]⟩, .string ⟨#[106, 97, 108, 114]⟩, .string ⟨#[105, 110]⟩, .string ⟨#[111, 117, 116]⟩, .string ⟨#[99, 97, 108, 108]⟩, .string ⟨#[98, 97, 99, 107]⟩, .string ⟨#[103, 101, 116]⟩, .string ⟨#[115, 101, 116]⟩, .string ⟨#[102, 108, 117, 115, 104]⟩] t)).cell? ⟨w.heap.size, k, none⟩ = some (.string (bytes (nm k))) := by
  rw [World.cell?]
  have : (w.alloc (.cells #[.string ⟨#[]⟩, .string ⟨#[104, 97, 108, 116]⟩, .string ⟨#[108, 117, 105]⟩, .string ⟨#[97, 100, 100, 105]⟩, .string ⟨#[97, 100, 100]⟩, .string ⟨#[115, 117, 98]⟩, .string ⟨#[109, 117, 108]⟩, .string ⟨#[97, 110, 100]⟩, .string ⟨#[111, 114]⟩, .string ⟨#[120, 111, 114]⟩, .string ⟨#[115, 104, 108]⟩, .string ⟨#[115, 104, 114]⟩, .string ⟨#[115, 108, 116]⟩, .string ⟨#[108, 119]⟩, .string ⟨#[115, 119]⟩, .string ⟨#[108, 98]⟩, .string ⟨#[115, 98]⟩, .string ⟨#[98, 101, 113]⟩, .string ⟨#[98, 110, 101]⟩, .string ⟨#[98, 108, 116]⟩, .string ⟨#[106, 97, 108]⟩, .string ⟨#[106, 97, 108, 114]⟩, .string ⟨#[105, 110]⟩, .string ⟨#[111, 117, 116]⟩, .string ⟨#[99, 97, 108, 108]⟩, .string ⟨#[98, 97, 99, 107]⟩, .string ⟨#[103, 101, 116]⟩, .string ⟨#[115, 101, 116]⟩, .string ⟨#[102, 108, 117, 115, 104]⟩] t)).heap[w.heap.size]? = some (.cells #[.string ⟨#[]⟩, .string ⟨#[104, 97, 108, 116]⟩, .string ⟨#[108, 117, 105]⟩, .string ⟨#[97, 100, 100, 105]⟩, .string ⟨#[97, 100, 100]⟩, .string ⟨#[115, 117, 98]⟩, .string ⟨#[109, 117, 108]⟩, .string ⟨#[97, 110, 100]⟩, .string ⟨#[111, 114]⟩, .string ⟨#[120, 111, 114]⟩, .string ⟨#[115, 104, 108]⟩, .string ⟨#[115, 104, 114]⟩, .string ⟨#[115, 108, 116]⟩, .string ⟨#[108, 119]⟩, .string ⟨#[115, 119]⟩, .string ⟨#[108, 98]⟩, .string ⟨#[115, 98]⟩, .string ⟨#[98, 101, 113]⟩, .string ⟨#[98, 110, 101]⟩, .string ⟨#[98, 108, 116]⟩, .string ⟨#[106, 97, 108]⟩, .string ⟨#[106, 97, 108, 114]⟩, .string ⟨#[105, 110]⟩, .string ⟨#[111, 117, 116]⟩, .string ⟨#[99, 97, 108, 108]⟩, .string ⟨#[98, 97, 99, 107]⟩, .string ⟨#[103, 101, 116]⟩, .string ⟨#[115, 101, 116]⟩, .string ⟨#[102, 108, 117, 115, 104]⟩] t) := heap_alloc_new _ _
  simp only [this]
  iterate 29 (rcases k with _ | k; rfl)
  omega
theorem RName_none (x : Int) (hx : isOp x = false) (w : World) : Calls Tryd.prog 75 #[.int .i64 x] w fun e w' => e = .returned (.string ⟨#[]⟩) ∧ Below w.heap.size w w' := by
  have hx' : ¬ (0 < x ∧ x < 29) := by simpa [isOp] using hx
  go_enter Tryd.func75, Tryd.ntmps75
  go_wp2
  all_goals go_ret
  all_goals exact ⟨rfl, (Below.refl _ _).alloc (Nat.le_refl _) _⟩
theorem RName_some (k : Nat) (h0 : 0 < k) (hk : k < 29) (w : World) : Calls Tryd.prog 75 #[.int .i64 (k : Int)] w fun e w' => e = .returned (.string (bytes (nm k))) ∧ Below w.heap.size w w' := by
  have hc := names_at w 9 k hk
  go_enter Tryd.func75, Tryd.ntmps75
  go_wp2
  all_goals go_ret
  all_goals exact ⟨rfl, (Below.refl _ _).alloc (Nat.le_refl _) _⟩
/-- The name, empty where there is none. -/
def nmI (x : Int) : ByteArray := if isOp x = true then bytes (nm x.toNat) else ⟨#[]⟩
theorem RName_any (x : Int) (w : World) : Calls Tryd.prog 75 #[.int .i64 x] w fun e w' => e = .returned (.string (nmI x)) ∧ Below w.heap.size w w' := by
  unfold nmI
  cases hx : isOp x with
  | true =>
    obtain ⟨k, rfl, h0, hk⟩ := nat_of_isOp hx
    exact RName_some k h0 hk w
  | false => exact RName_none x hx w

/-! ### May -/
theorem may_iff (k : Nat) (A B M : Int) (h0 : 0 < k) (hk : k < 29) (U0 U1 U2 : Bool) (e0 : uses k 0 = U0) (e1 : uses k 1 = U1) (e2 : uses k 2 = U2) :
    May ⟨k, A, B, M⟩ ↔ (0 ≤ A ∧ A < 8 ∧ (U0 = true ∨ A = 0)) ∧ (0 ≤ B ∧ B < 8 ∧ (U1 = true ∨ B = 0)) ∧ (-32768 ≤ M ∧ M ≤ 32767 ∧ (U2 = true ∨ M = 0)) := by
  unfold May
  rw [ok0 A B M e0, ok1 A B M e1, ok2 A B M e2]
  simp only [isOp_nat h0 hk, true_and]
  cases U0 <;> cases U1 <;> cases U2 <;> simp <;> omega

set_option maxRecDepth 10000 in
theorem RMay_aux (k : Nat) (A B M : Int) (h0 : 0 < k) (hk : k < 29) (w : World) (U0 U1 U2 Q : Bool)
    (HU : Hid (∀ W, Calls Tryd.prog 74 #[.int .i64 (k : Int)] W fun e w' => e = .returned (.tuple #[.bool U0, .bool U1, .bool U2]) ∧ W = w'))
    (HQ : Hid (Q = true ↔ (0 ≤ A ∧ A < 8 ∧ (U0 = true ∨ A = 0)) ∧ (0 ≤ B ∧ B < 8 ∧ (U1 = true ∨ B = 0)) ∧ (-32768 ≤ M ∧ M ≤ 32767 ∧ (U2 = true ∨ M = 0)))) :
    Calls Tryd.prog 58 #[.agg #[.int .i64 (k : Int), .int .i64 A, .int .i64 B, .int .i64 M]] w fun e w' => e = .returned (.bool Q) ∧ Below w.heap.size w w' := by
  have HN := Lib.hid (fun W => RName_some k h0 hk W)
  have hne := nm_filled h0 hk
  have hne2 : ¬ (bytes (nm k)).toList = [] := fun e => by rw [e] at hne; cases hne
  go_enter Tryd.func58, Tryd.ntmps58
  go_wp2_with fail
  refine (HU.out _).mono ?_
  rintro e w1 ⟨rfl, rfl⟩
  go_wp2_with fail
  refine (HN.out _).mono ?_
  rintro e w2 ⟨rfl, b2⟩
  obtain ⟨e0, e1, e2, e3, fe⟩ := (Box.new w ⟨k, A, B, M⟩ 56).below b2
  have BF := Lib.hid (((Below.refl w.heap.size w).alloc (Nat.le_refl _) _).trans (b2.mono (by simp)))
  clear b2
  go_wp2
  all_goals go_ret
  all_goals refine ⟨?_, BF.out⟩
  all_goals (clear HU HN e0 e1 e2 e3 fe BF hne hne2; refine congrArg (fun q => Ending.returned (Value.bool q)) (Bool.eq_iff_iff.2 ?_))
  all_goals rw [HQ.out]
  all_goals clear HQ
  all_goals simp_all
  all_goals omega

theorem RMay_none (O A B M : Int) (hO : isOp O = false) (w : World) :
    Calls Tryd.prog 58 #[.agg #[.int .i64 O, .int .i64 A, .int .i64 B, .int .i64 M]] w fun e w' => e = .returned (.bool false) ∧ Below w.heap.size w w' := by
  have HN := Lib.hid (fun W => RName_none O hO W)
  have HU := Lib.hid (fun W => RUses_any O W)
  generalize uA O = U0 at HU
  generalize uB O = U1 at HU
  generalize uN O = U2 at HU
  go_enter Tryd.func58, Tryd.ntmps58
  go_wp2_with fail
  refine (HU.out _).mono ?_
  rintro e w1 ⟨rfl, rfl⟩
  go_wp2_with fail
  refine (HN.out _).mono ?_
  rintro e w2 ⟨rfl, b2⟩
  have BF := Lib.hid (((Below.refl w.heap.size w).alloc (Nat.le_refl _) _).trans (b2.mono (by simp)))
  clear b2
  go_wp2
  go_ret
  exact ⟨rfl, BF.out⟩
theorem RMay_any (i : Ins) (w : World) : Calls Tryd.prog 58 #[iv i] w fun e w' => e = .returned (.bool (decide (May i))) ∧ Below w.heap.size w w' := by
  obtain ⟨O, A, B, M⟩ := i
  cases ho : isOp O with
  | true =>
    obtain ⟨k, rfl, h0, hk⟩ := nat_of_isOp ho
    refine RMay_aux k A B M h0 hk w _ _ _ _ (fun W => RUses_any k W) ?_
    rw [uA_nat h0 hk, uB_nat h0 hk, uN_nat h0 hk]
    unfold Hid
    rw [decide_eq_true_eq]
    exact may_iff k A B M h0 hk _ _ _ rfl rfl rfl
  | false =>
    rw [may_not_op (i := ⟨O, A, B, M⟩) ho]
    exact RMay_none O A B M ho w

set_option maxRecDepth 10000 in
theorem RDecode_aux (x O A B M : Int) (hx : W32 x) (w : World) (hO : x / 16777216 = O) (hA : x / 1048576 % 16 = A) (hB : x / 65536 % 16 = B) (hM : M = if 32767 < x % 65536 then x % 65536 - 65536 else x % 65536) (D : Ins) (Q : Bool) (hQ : Hid (decide (May ⟨O, A, B, M⟩) = Q)) (hD1 : Hid (Q = true → D = ⟨O, A, B, M⟩)) (hD0 : Hid (Q = false → D = zeroI)) :
    Calls Tryd.prog 35 #[.int .u32 x] w fun e w' => e = .returned (.tuple #[iv D, .bool Q]) ∧ Below w.heap.size w w' := by
  obtain ⟨hx0, hx1⟩ := hx
  have HB0 := Lib.hid ((((Below.refl w.heap.size w).alloc (Nat.le_refl _) (.cells #[.int .i64 0, .int .i64 0, .int .i64 0, .int .i64 0] 56)).alloc (by simp) (.cells #[.int .i64 O, .int .i64 A, .int .i64 B, .int .i64 M] 56)))
  go_enter Tryd.func35, Tryd.ntmps35
  by_cases hc : 32767 < x % 65536
  all_goals first | rw [if_pos hc] at hM | rw [if_neg hc] at hM
  all_goals go_wp2_with fail
  all_goals rw [← hM]
  all_goals refine (RMay_any ⟨O, A, B, M⟩ _).mono ?_
  all_goals rw [hQ.out]
  all_goals rintro e w2 ⟨rfl, b2⟩
  all_goals have x0 := ((Box.new w zeroI 56).alloc (.cells #[.int .i64 O, .int .i64 A, .int .i64 B, .int .i64 M] 56)).below b2
  all_goals have x1 := (Box.new (w.alloc (.cells #[.int .i64 0, .int .i64 0, .int .i64 0, .int .i64 0] 56)) ⟨O, A, B, M⟩ 56).below b2
  all_goals rw [World.size_alloc] at x1
  all_goals have BF := Lib.hid (HB0.out.trans (b2.mono (by simp; omega)))
  all_goals clear b2 HB0 hQ
  all_goals have HM := Lib.hid hM
  all_goals clear hM hc
  all_goals obtain ⟨a0, a1, a2, a3, fa⟩ := x0
  all_goals obtain ⟨e0, e1, e2, e3, fe⟩ := x1
  all_goals have bs : ∀ a b c d : Value, Below w.heap.size w ((((w2.setCell ⟨w.heap.size, 0, none⟩ a).setCell ⟨w.heap.size, 1, none⟩ b).setCell ⟨w.heap.size, 2, none⟩ c).setCell ⟨w.heap.size, 3, none⟩ d) := fun a b c d => (((BF.out.setCell (Nat.le_refl _) _).setCell (Nat.le_refl _) _).setCell (Nat.le_refl _) _).setCell (Nat.le_refl _) _
  all_goals have HS := Lib.hid bs
  all_goals clear bs
  all_goals cases Q with
  | true =>
    go_wp2
    refine bodyPost_ret (v := .tuple #[.agg #[.int .i64 O, .int .i64 A, .int .i64 B, .int .i64 M], .bool true]) (by simp [results, Tryd.results35, go_sem, a0, a1, a2, a3]) rfl ⟨?_, HS.out _ _ _ _⟩
    rw [hD1.out (by simp)]; rfl
  | false =>
    go_wp2
    refine bodyPost_ret (v := .tuple #[.agg #[.int .i64 0, .int .i64 0, .int .i64 0, .int .i64 0], .bool false]) (by simp [results, Tryd.results35, go_sem, a0, a1, a2, a3]) rfl ⟨?_, HS.out _ _ _ _⟩
    rw [hD0.out (by simp)]; rfl
theorem RDecode_any (x : Int) (hx : W32 x) (w : World) :
    Calls Tryd.prog 35 #[.int .u32 x] w fun e w' => e = .returned (.tuple #[iv (decV x), .bool (decB x)]) ∧ Below w.heap.size w w' :=
  RDecode_aux x _ _ _ _ hx w rfl rfl rfl rfl _ _ rfl (fun e => if_pos (of_decide_eq_true e)) (fun e => if_neg (of_decide_eq_false e))

end Go.Proofs.YthjdfneibogcgaaDoor
