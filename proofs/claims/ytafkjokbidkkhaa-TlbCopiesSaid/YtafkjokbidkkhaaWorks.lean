/-
  Layer 6: works of the statements: the chapter's rows: walk.
-/
import Derived.Test.YtafkjokbidkkhaaFill
import Derived.Test.YtafkjokbidkkhaaSame
import Derived.Test.YtafkjokbidkkhaaRef
namespace Go.Proofs.Ytafkjokbidkkhaa
open Go.RowKit
set_option maxHeartbeats 1000000
set_option linter.unusedVariables false

def K1 : Tl := T0.fil 7 1 true
def K2 : Tl := K1.fil 8 2 false
def K3 : Tl := K2.fil 7 3 false
def K4 : Tl := K3.drp 8
theorem ok_K1 : Ok K1 := ok_T0.fil _ _ _
theorem ok_K2 : Ok K2 := ok_K1.fil _ _ _
/-- A TLB that the call made: above w's blocks. -/
structure Own (w : World) (S : Nat) (t : Tl) (W : World) : Prop where
  lo : w.heap.size ≤ S
  at_ : At W S t
  below : Below w.heap.size w W
section
variable {w W W' : World} {S : Nat} {t t' : Tl}
theorem Own.new (w : World) : Own w w.heap.size T0 (w.alloc (.cells (pc T0) 62)) := ⟨Nat.le_refl _, blk_new _ _ _, (Below.refl _ _).alloc (Nat.le_refl _) _⟩
theorem Own.turned (h : Own w S t W) (ha : At W' S t') (ht : Turned (fun k => k = S) W W') : Own w S t' W' :=
  ⟨h.lo, ha, h.below.trans (ht.below h.below.size (fun k e => by have := h.lo; omega))⟩
theorem Own.after (h : Own w S t W) (hb : Below W.heap.size W W') : Own w S t W' := ⟨h.lo, Blk.below h.at_ hb, h.below.trans (hb.mono h.below.size)⟩
theorem Own.fill (h : Own w S t W) (hok : Ok t) (th : Bool) (p f : Int) (wr : Bool) : Calls Try.prog 19 #[.pointer (some ⟨S, 0, none⟩), .agg #[.bool th, .int .u32 p, .int .u32 f, .bool wr]] W fun r w' =>
    r = .returned (.int .i64 (t.slt p : Int)) ∧ Own w S (t.fil p f wr) w' := (Fill_any h.at_ hok th p f wr).mono fun r w' hq => ⟨hq.1, h.turned hq.2.1 hq.2.2⟩
theorem Own.drop (h : Own w S t W) (p : Int) : Calls Try.prog 23 #[.pointer (some ⟨S, 0, none⟩), .int .u32 p] W fun e w' =>
    e = .returned (.bool (t.lkB p)) ∧ Own w S (t.drp p) w' := (Drop_any h.at_ p).mono fun r w' hq => ⟨hq.1, h.turned hq.2.1 hq.2.2⟩
theorem Own.flush (h : Own w S t W) : Calls Try.prog 20 #[.pointer (some ⟨S, 0, none⟩)] W fun e w' => e = .returned (.tuple #[]) ∧ Own w S T0 w' :=
  (Flush_any h.at_).mono fun r w' hq => ⟨hq.1, h.turned hq.2.1 hq.2.2⟩
end
theorem works_any (w : World) : Calls Try.prog 9 #[] w fun e w' => e = .returned (.bool true) ∧ Below w.heap.size w w' := by
  go_enter Try.func9, Try.ntmps9
  go_wp2_with fail
  refine (New_any _).mono ?_
  rintro e w1 ⟨rfl, rfl⟩
  have H1 := Lib.hid (Own.new w)
  go_wp2_with fail
  refine (H1.out.fill ok_T0 _ _ _ _).mono ?_
  rintro e w2 ⟨rfl, h2⟩
  have H2 := Lib.hid (show Own w w.heap.size K1 w2 from h2)
  rw [show T0.slt 7 = 0 from by decide]
  clear h2 H1
  go_wp2_with fail
  refine (H2.out.fill ok_K1 _ _ _ _).mono ?_
  rintro e w3 ⟨rfl, h3⟩
  have H3 := Lib.hid (show Own w w.heap.size K2 w3 from h3)
  rw [show K1.slt 8 = 1 from by decide]
  clear h3 H2
  go_wp2_with fail
  refine (H3.out.fill ok_K2 _ _ _ _).mono ?_
  rintro e w4 ⟨rfl, h4⟩
  have H4 := Lib.hid (show Own w w.heap.size K3 w4 from h4)
  rw [show K2.slt 7 = 0 from by decide]
  clear h4 H3
  go_wp2_with fail
  refine (Look_any H4.out.at_ 7).mono ?_
  rintro e w5 ⟨rfl, hb⟩
  have hE : K3.lkE 7 = ⟨true, 7, 3, false⟩ := by kernel_rfl
  rw [hE, show K3.lkI 7 = 0 from by decide, show K3.lkB 7 = true from by decide]
  have H5 := Lib.hid ((H4.out.after hb).after ((Below.refl _ _).alloc (Nat.le_refl _) (.cells #[.bool true, .int .u32 7, .int .u32 3, .bool false] 27)))
  clear hb H4 hE
  go_wp2_with fail
  refine (Next_any H5.out.at_).mono ?_
  rintro e w6 ⟨rfl, rfl⟩
  rw [show K3.nx = 2 from by decide]
  go_wp2_with fail
  refine (H5.out.drop 8).mono ?_
  rintro e w7 ⟨rfl, h7⟩
  rw [show K3.lkB 8 = true from by decide]
  have H7 := Lib.hid (show Own w w.heap.size K4 w7 from h7)
  clear h7 H5
  go_wp2_with fail
  refine (H7.out.drop 8).mono ?_
  rintro e w8 ⟨rfl, h8⟩
  rw [show K4.lkB 8 = false from by decide]
  have H8 := Lib.hid h8
  clear h8 H7
  go_wp2_with fail
  refine (All_any H8.out.at_).mono ?_
  rintro e w9 ⟨g, c, rfl, _, _, _, hb⟩
  have H9 := Lib.hid (H8.out.after hb)
  clear hb H8
  go_wp2
  go_ret
  exact ⟨rfl, H9.out.below⟩
end Go.Proofs.Ytafkjokbidkkhaa
