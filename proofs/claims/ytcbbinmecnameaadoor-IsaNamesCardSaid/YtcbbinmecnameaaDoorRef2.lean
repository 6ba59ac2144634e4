/-
  Layer 4: the document's answers: Decode, Encode: walks.
-/
import Derived.Test.YtcbbinmecnameaaDoorRef
import Derived.WalkKit
import Derived.WalkSpells
import Derived.WalkLawsBesides
import Derived.Lib.Hide
set_option linter.unusedVariables false
namespace Go.Proofs.YtcbbinmecnameaaDoor
open Go.RowKit
set_option maxHeartbeats 1000000

set_option maxRecDepth 10000 in
theorem RDecode_aux (x O A B M : Int) (hx : W32 x) (w : World) (hO : x / 16777216 = O) (hA : x / 1048576 % 16 = A) (hB : x / 65536 % 16 = B) (hM : M = if 32767 < x % 65536 then x % 65536 - 65536 else x % 65536) (D : Ins) (Q : Bool) (hQ : Hid (decide (May ⟨O, A, B, M⟩) = Q)) (hD1 : Hid (Q = true → D = ⟨O, A, B, M⟩)) (hD0 : Hid (Q = false → D = zeroI)) :
    Calls Tryd.prog 11 #[.int .u32 x] w fun e w' => e = .returned (.tuple #[iv D, .bool Q]) ∧ Below w.heap.size w w' := by
  obtain ⟨hx0, hx1⟩ := hx
  have HB0 := Lib.hid ((((Below.refl w.heap.size w).alloc (Nat.le_refl _) (.cells #[.int .i64 0, .int .i64 0, .int .i64 0, .int .i64 0] 26)).alloc (by simp) (.cells #[.int .i64 O, .int .i64 A, .int .i64 B, .int .i64 M] 26)))
  go_enter Tryd.func11, Tryd.ntmps11
  by_cases hc : 32767 < x % 65536
  all_goals first | rw [if_pos hc] at hM | rw [if_neg hc] at hM
  all_goals go_wp2_with fail
  all_goals rw [← hM]
  all_goals refine (RMay_any ⟨O, A, B, M⟩ _).mono ?_
  all_goals rw [hQ.out]
  all_goals rintro e w2 ⟨rfl, b2⟩
  all_goals have x0 := ((Box.new w zeroI 26).alloc (.cells #[.int .i64 O, .int .i64 A, .int .i64 B, .int .i64 M] 26)).below b2
  all_goals have x1 := (Box.new (w.alloc (.cells #[.int .i64 0, .int .i64 0, .int .i64 0, .int .i64 0] 26)) ⟨O, A, B, M⟩ 26).below b2
  all_goals rw [World.size_alloc] at x1
  all_goals have BF := Lib.hid (HB0.out.trans (b2.mono (by simp; omega)))
  all_goals clear b2 HB0 hQ
  all_goals have HM := Lib.hid hM
  all_goals clear hM hc
  all_goals obtain ⟨a0, a1, a2, a3, fa⟩ := x0
  all_goals obtain ⟨e0, e1, e2, e3, fe⟩ := x1
  all_goals have bs : ∀ a b c d : Value, Below w.heap.size w ((((w2.setCell ⟨w.heap.size, 0, none⟩ a).setCell ⟨w.heap.size, 1, none⟩ b).setCell ⟨w.heap.size, 2, none⟩ c).setCell ⟨w.heap.size, 3, none⟩ d) := fun a b c d => (((BF.out.setCell (Nat.le_refl _) _).setCell (Nat.le_refl _) _).setCell (Nat.le_refl _) _).setCell (Nat.le_refl _) _
  all_goals have HS := Lib.hid bs
  all_goals clear bs
  all_goals cases Q with
  | true =>
    go_wp2
    refine bodyPost_ret (v := .tuple #[.agg #[.int .i64 O, .int .i64 A, .int .i64 B, .int .i64 M], .bool true]) (by simp [results, Tryd.results11, go_sem, a0, a1, a2, a3]) rfl ⟨?_, HS.out _ _ _ _⟩
    rw [hD1.out (by simp)]; rfl
  | false =>
    go_wp2
    refine bodyPost_ret (v := .tuple #[.agg #[.int .i64 0, .int .i64 0, .int .i64 0, .int .i64 0], .bool false]) (by simp [results, Tryd.results11, go_sem, a0, a1, a2, a3]) rfl ⟨?_, HS.out _ _ _ _⟩
    rw [hD0.out (by simp)]; rfl
theorem RDecode_any (x : Int) (hx : W32 x) (w : World) :
    Calls Tryd.prog 11 #[.int .u32 x] w fun e w' => e = .returned (.tuple #[iv (decV x), .bool (decB x)]) ∧ Below w.heap.size w w' :=
  RDecode_aux x _ _ _ _ hx w rfl rfl rfl rfl _ _ rfl (fun e => if_pos (of_decide_eq_true e)) (fun e => if_neg (of_decide_eq_false e))

theorem REncode_yes (O A B M : Int) (w : World) (hm : May ⟨O, A, B, M⟩) :
    Calls Tryd.prog 15 #[.agg #[.int .i64 O, .int .i64 A, .int .i64 B, .int .i64 M]] w fun e w' => e = .returned (.int .u32 (enc ⟨O, A, B, M⟩)) ∧ Below w.heap.size w w' := by
  have hb := hm.bounds
  simp only at hb
  obtain ⟨⟨o0, o1⟩, ⟨a0, a1⟩, ⟨b00, b1⟩, m0, m1⟩ := hb
  have hE : enc ⟨O, A, B, M⟩ = O * 16777216 + A * 1048576 + B * 65536 + (if M < 0 then M + 65536 else M) := by
    unfold enc; simp only; split <;> omega
  rw [hE]
  clear hE hm
  by_cases hM : M < 0
  all_goals first | rw [if_pos hM] | rw [if_neg hM]
  all_goals go_enter Tryd.func15, Tryd.ntmps15
  all_goals go_wp2
  all_goals go_ret
  all_goals exact ⟨rfl, (Below.refl _ _).alloc (Nat.le_refl _) _⟩
end Go.Proofs.YtcbbinmecnameaaDoor
