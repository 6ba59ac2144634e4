/-
  Layer 13: the statement PolicyNil: a walk.
-/
import Derived.Test.YtdpdoclhdjhjkaaG27
import Derived.Test.YtdpdoclhdjhjkaaG26
import Derived.Test.YtdpdoclhdjhjkaaG28
set_option linter.unusedVariables false
set_option linter.unusedSimpArgs false
namespace Go.Proofs.Ytdpdoclhdjhjkaa
open Go.RowKit
set_option maxHeartbeats 8000000
set_option maxRecDepth 100000
set_option linter.unusedVariables false
set_option linter.unusedSimpArgs false

theorem PolicyNil_walk (x : Int) {v : Value} {ts : List T.Tc} {w : World} (hx : W32 x) (hv : TsIn w v ts) : Calls Try.prog 5 #[.int .u32 x, v] w fun e w' => e = .returned (.bool true) ∧ Below w.heap.size w w' := by
  have HTs := Lib.hid (fun W (hb : Below w.heap.size w W) => (show TsIn W v ts from hv.below hb))
  have HBr := Lib.hid (broad13_any (om := none) (n := 0) (cm := 0) (by simp [maxLen]) hv)
  obtain ⟨ot, ct, rfl, _, _⟩ := hv.shape
  clear hv
  go_enter Try.func5, Try.ntmps5
  go_wp2_with fail
  refine HBr.out.mono ?_
  rintro e w1 ⟨rfl, hb⟩
  have HB1 := Lib.hid hb
  clear hb HBr
  cases brd 0 ts with
  | true =>
    go_wp2_with fail
    refine (known13_any _).mono ?_
    rintro e w2 ⟨rfl, hb⟩
    have HBe := Lib.hid (HB1.out.trans (hb.mono HB1.out.size))
    clear hb
    go_wp2
    go_ret
    exact ⟨rfl, HBe.out⟩
  | false =>
    have HZ : Hid (NoPo (some ⟨w1.heap.size, 0, none⟩) (w1.alloc (.cells (poC false ru0) 63))) := .inr ⟨_, rfl, blk_new w1 _ _⟩
    have HB2 := Lib.hid (HB1.out.trans ((bel1 w1 (.cells (poC false ru0) 63)).mono HB1.out.size))
    go_wp2_with fail
    refine (New_any 1 1 1 (by omega) _).mono ?_
    rintro e w3 ⟨S, F, rfl, _, _, hb⟩
    have HZ3 := Lib.hid (HZ.out.below hb)
    have HB3 := Lib.hid (HB2.out.trans (hb.mono HB2.out.size))
    clear hb HZ HB2
    go_wp2_with fail
    refine (Stops_no (.inl rfl) (some ⟨S, 0, none⟩) _).mono ?_
    rintro e w4 ⟨rfl, rfl⟩
    go_wp2_with fail
    refine (Alerts_no HZ3.out (some ⟨S, 0, none⟩) _).mono ?_
    rintro e w5 ⟨rfl, hb⟩
    have HZ5 := Lib.hid (HZ3.out.below hb)
    have HB5 := Lib.hid (HB3.out.trans (hb.mono HB3.out.size))
    clear hb HZ3 HB3
    go_wp2_with fail
    refine (pNew_any _).mono ?_
    rintro e w6 ⟨rfl, hp, hb⟩
    have HZ6 := Lib.hid (HZ5.out.below hb)
    have HB6 := Lib.hid (HB5.out.trans (hb.mono HB5.out.size))
    have hst := Stops_of hp (fun _ _ => (show W32 0 from ⟨by decide, by decide⟩)) none (v := .slice ot ts.length ct) (a := 0) (b := 1) ⟨by decide, by decide⟩ (DecidesN_none _ _)
    have HSt := Lib.hid hst
    clear hb hp hst HZ5 HB5
    go_wp2_with fail
    refine HSt.out.mono ?_
    rintro e w7 ⟨rfl, hb⟩
    have HZ7 := Lib.hid (HZ6.out.below hb)
    have HB7 := Lib.hid (HB6.out.trans (hb.mono HB6.out.size))
    clear hb HSt HZ6 HB6
    go_wp2_with fail
    refine (pNew_any _).mono ?_
    rintro e w8 ⟨rfl, hp, hb⟩
    have HZ8 := Lib.hid (HZ7.out.below hb)
    have HB8 := Lib.hid (HB7.out.trans (hb.mono HB7.out.size))
    have hal := Alerts_err (S := 0) none (v := .slice ot ts.length ct) (a := 0) (b := 1) (by decide) (some ⟨w7.heap.size, 0, none⟩) (fun W hW => pDec_of (hp.below hW) none (DecidesN_none _ _))
    have HAl := Lib.hid hal
    clear hb hp hal HZ7 HB7
    go_wp2_with fail
    refine HAl.out.mono ?_
    rintro e w9 ⟨rfl, hb⟩
    have HZ9 := Lib.hid (HZ8.out.below hb)
    have HB9 := Lib.hid (HB8.out.trans (hb.mono HB8.out.size))
    clear hb HAl HZ8 HB8
    go_wp2_with fail
    refine (Source_no (.inl rfl) x).mono ?_
    rintro e w10 ⟨rfl, rfl⟩
    go_wp2_with fail
    refine (Sink_no HZ9.out x).mono ?_
    rintro e w11 ⟨rfl, rfl⟩
    go_wp2_with fail
    refine (Strict_no (.inl rfl) x).mono ?_
    rintro e w12 ⟨rfl, rfl⟩
    have hguard := guard_ru
    have heq : ∀ W : World, (binOp .eql 25 (.agg #[.int .u32 0, .int .u32 0, .int .u32 0, .int .u32 0, .int .u32 0, .int .u32 0, .int .u32 0, .int .u32 0, .int .u32 0, .int .u32 0, .int .u32 0]) (.agg #[.int .u32 0, .int .u32 0, .int .u32 0, .int .u32 0, .int .u32 0, .int .u32 0, .int .u32 0, .int .u32 0, .int .u32 0, .int .u32 0, .int .u32 0])).run Try.prog W = .ok (.bool true) W := fun W => by
      have := eql_ru ru0 ru0 W
      rw [ruE_self] at this
      exact this
    have HRu := Lib.hid (show Calls Try.prog 12 #[.pointer (some ⟨w1.heap.size, 0, none⟩)] _ fun e w' => e = .returned (.agg #[.int .u32 0, .int .u32 0, .int .u32 0, .int .u32 0, .int .u32 0, .int .u32 0, .int .u32 0, .int .u32 0, .int .u32 0, .int .u32 0, .int .u32 0]) ∧ Below _ _ w' from Rules_no HZ9.out)
    go_wp2_with fail
    refine HRu.out.mono ?_
    rintro e w13 ⟨rfl, hb⟩
    have HB13 := Lib.hid (HB9.out.trans (hb.mono HB9.out.size))
    clear hb HRu
    go_wp2_with fail
    refine (pCopy_no (.inl rfl)).mono ?_
    rintro e w14 ⟨rfl, rfl⟩
    go_wp2_with fail
    refine (known13_any _).mono ?_
    rintro e w15 ⟨rfl, hb⟩
    have HB15 := Lib.hid (HB13.out.trans (hb.mono HB13.out.size))
    clear hb
    go_wp2
    go_ret
    exact ⟨rfl, HB15.out⟩
end Go.Proofs.Ytdpdoclhdjhjkaa
