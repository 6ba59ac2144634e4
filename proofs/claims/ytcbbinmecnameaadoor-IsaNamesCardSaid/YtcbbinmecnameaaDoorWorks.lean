/-
  Layer 4: the statements' own known answer: a walk.
-/
import Derived.Test.YtcbbinmecnameaaDoorText
set_option linter.unusedVariables false
namespace Go.Proofs.YtcbbinmecnameaaDoor
open Go.RowKit
set_option maxHeartbeats 1000000

theorem known_dec : decV 51576830 = ⟨3, 1, 2, -2⟩ := by decide +kernel
theorem known_is : decB 51576830 = true := by decide +kernel
theorem known_may : May ⟨3, 1, 2, -2⟩ := by decide +kernel
theorem known_txt : txtV ⟨3, 1, 2, -2⟩ = ⟨#[97, 100, 100, 105, 32, 114, 49, 44, 32, 114, 50, 44, 32, 45, 50]⟩ := by
  unfold txtV
  rw [if_pos known_may]
  have h : txt ⟨3, 1, 2, -2⟩ = [97, 100, 100, 105, 32, 114, 49, 44, 32, 114, 50, 44, 32, 45, 50] := by
    rw [txt, told3]
    have u0 : uses 3 0 = true := by decide +kernel
    have u1 : uses 3 1 = true := by decide +kernel
    have u2 : uses 3 2 = true := by decide +kernel
    have e3 : (3 : Int).toNat = 3 := rfl
    have i1 : Lib.itoa 1 = [49] := by rw [itoa_reg (by decide) (by decide)]; rfl
    have i2 : Lib.itoa 2 = [50] := by rw [itoa_reg (by decide) (by decide)]; rfl
    have i3 : Lib.itoa (-2) = [45, 50] := by
      unfold Lib.itoa
      rw [if_pos (by decide)]
      have : (-2 : Int).natAbs = 2 := rfl
      rw [this, dd_one (by decide)]; rfl
    have n3 : nm 3 = [97, 100, 100, 105] := by decide +kernel
    simp [e3, u0, u1, u2, reg, i1, i2, i3, n3, Lib.join, List.intercalate]
  rw [h]; rfl

set_option maxRecDepth 10000 in
theorem known_any (w : World) (h : Env w) : Calls Tryd.prog 9 #[] w fun e w' => e = .returned (.bool true) ∧ Below w.heap.size w w' := by
  have HD := Lib.hid (Decode_any 51576830 ⟨by decide, by decide⟩ w h)
  rw [known_dec, known_is] at HD
  have HT := fun W hW => Text_any ⟨3, 1, 2, -2⟩ W hW
  rw [known_txt, show encE ⟨3, 1, 2, -2⟩ = 0 from if_pos known_may] at HT
  have HT := Lib.hid HT
  go_enter Tryd.func9, Tryd.ntmps9
  go_wp2_with fail
  refine HD.out.mono ?_
  rintro e w1 ⟨rfl, b1⟩
  have HE1 := Lib.hid (h.below b1)
  have BF1 := Lib.hid b1
  clear b1
  unfold iv
  simp only
  go_wp2_with fail
  refine (HT.out _ (HE1.out.below ((Below.refl _ _).alloc (Nat.le_refl _) _))).mono ?_
  rintro e w2 ⟨rfl, b2⟩
  have X := (Box.new w1 ⟨3, 1, 2, -2⟩ 26).below b2
  have BF2 := Lib.hid ((BF1.out.alloc BF1.out.size _).trans (b2.mono (by have := BF1.out.size; simp; omega)))
  clear b2
  obtain ⟨e0, e1, e2, e3, fe⟩ := X
  simp only at e0 e1 e2 e3
  go_wp2
  go_ret
  exact ⟨rfl, BF2.out⟩
end Go.Proofs.YtcbbinmecnameaaDoor
