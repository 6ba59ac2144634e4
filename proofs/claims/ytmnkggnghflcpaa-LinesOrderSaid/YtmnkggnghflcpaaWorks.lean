/-
  Layer 7: works of the statements: the chapter's rows: walk.
-/
import Derived.Test.YtmnkggnghflcpaaWants
import Derived.Test.YtmnkggnghflcpaaCopy
import Derived.Lib.SlBytesConst
namespace Go.Proofs.Ytmnkggnghflcpaa
open Go.RowKit
set_option maxHeartbeats 1000000
set_option linter.unusedVariables false

/-- Lines that the call made: above w's blocks. -/
def Ow (w : World) (S : Nat) (l : Ls) (W : World) : Prop := ∃ F, At W S l F ∧ (∀ k, F k → w.heap.size ≤ k) ∧ Below w.heap.size w W
section
variable {w W W' : World} {S : Nat} {l l' : Ls}
theorem Ow.new (w : World) : Ow w w.heap.size L0 (w.alloc (.cells (pcL L0 (.slice none 0 0) (.slice none 0 0)) 71)) :=
  ⟨_, at_new w, fun k hk => by
    rcases hk with rfl | e | e
    · exact Nat.le_refl _
    · simp [blkOf] at e
    · simp [blkOf] at e, (Below.refl _ _).alloc (Nat.le_refl _) _⟩
theorem Ow.below (h : Ow w S l W) : Below w.heap.size w W := by obtain ⟨F, _, _, h⟩ := h; exact h
theorem Ow.after (h : Ow w S l W) (hb : Below W.heap.size W W') : Ow w S l W' := by
  obtain ⟨F, h1, h2, h3⟩ := h
  exact ⟨F, h1.below hb, h2, h3.trans (hb.mono h3.size)⟩
theorem Ow.alloc (h : Ow w S l W) (o : Obj) : Ow w S l (W.alloc o) := h.after ((Below.refl _ _).alloc (Nat.le_refl _) o)
theorem Ow.drew (h : Ow w S l W) : Ow w S l W.drew := h.after (Below.refl _ _).drew
theorem Ow.chg {F : Nat → Prop} (h1 : ∀ k, F k → w.heap.size ≤ k) (hb : Below w.heap.size w W) (hc : Chg W S l' F W') : Ow w S l' W' := by
  obtain ⟨F', a, b, c⟩ := hc
  refine ⟨F', a, fun k hk => ?_, hb.trans (c.below hb.size h1)⟩
  rcases b k hk with e | e
  · exact h1 k e
  · have := hb.size; omega
theorem Ow.setAlarm (h : Ow w S l W) (x : Int) : Calls Try.prog 26 #[.pointer (some ⟨S, 0, none⟩), .int .u32 x] W fun e w' => e = .returned (.tuple #[]) ∧ Ow w S { l with al := x } w' := by
  obtain ⟨F, h1, h2, h3⟩ := h
  exact (SetAlarm_any h1 x).mono fun e w' hq => ⟨hq.1, Ow.chg h2 h3 hq.2⟩
theorem Ow.setMask (h : Ow w S l W) (x : Int) (hx : W32 x) : Calls Try.prog 27 #[.pointer (some ⟨S, 0, none⟩), .int .u32 x] W fun e w' => e = .returned (.tuple #[]) ∧ Ow w S { l with ms := x % 16 } w' := by
  obtain ⟨F, h1, h2, h3⟩ := h
  exact (SetMask_any h1 x hx).mono fun e w' hq => ⟨hq.1, Ow.chg h2 h3 hq.2⟩
theorem Ow.raise (h : Ow w S l W) (k : Int) (up : Bool) : Calls Try.prog 29 #[.pointer (some ⟨S, 0, none⟩), .int .i64 k, .bool up] W fun e w' => e = .returned (.int .i64 (raiseE k)) ∧ Ow w S (l.raise k up) w' := by
  obtain ⟨F, h1, h2, h3⟩ := h
  exact (Raise_any h1 k up).mono fun e w' hq => ⟨hq.1, Ow.chg h2 h3 hq.2⟩
theorem Ow.tell (h : Ow w S l W) (y : Int) (hy : 0 ≤ y ∧ y < 256) (hm : l.td.length ≤ 900000) : Calls Try.prog 34 #[.pointer (some ⟨S, 0, none⟩), .int .u8 y] W fun e w' => e = .returned (.int .i64 (l.td.length : Int)) ∧ Ow w S { l with td := l.td ++ [y] } w' := by
  obtain ⟨F, h1, h2, h3⟩ := h
  exact (Tell_any h1 y hy hm).mono fun e w' hq => ⟨hq.1, Ow.chg h2 h3 hq.2⟩
theorem Ow.push (h : Ow w S l W) (hok : l.Ok) (v : Value) (xs : List Int) (hx : NumsIn .u8 W v xs) (hm : l.ps.length ≤ 900000) : Calls Try.prog 25 #[.pointer (some ⟨S, 0, none⟩), v] W fun e w' => e = .returned (.tuple #[.int .i64 (l.pushN xs), .int .i64 (l.pushE xs)]) ∧ Ow w S (l.pushed xs) w' := by
  obtain ⟨F, h1, h2, h3⟩ := h
  exact (Push_any h1 hok v xs hx hm).mono fun e w' hq => ⟨hq.1, Ow.chg h2 h3 hq.2⟩
theorem Ow.take (h : Ow w S l W) (hok : l.Ok) (hm : l.ps.length ≤ 900000) : Calls Try.prog 24 #[.pointer (some ⟨S, 0, none⟩)] W fun e w' => e = .returned (.tuple #[.int .u8 l.takeB, .int .i64 l.takeN, .bool l.takeY]) ∧ Ow w S l.took w' := by
  obtain ⟨F, h1, h2, h3⟩ := h
  exact (Take_any h1 hok hm).mono fun e w' hq => ⟨hq.1, Ow.chg h2 h3 hq.2⟩
theorem Ow.pending (h : Ow w S l W) (hok : l.Ok) (now : Int) : Calls Try.prog 15 #[.pointer (some ⟨S, 0, none⟩), .int .i64 now] W fun e w' => e = .returned (.tuple #[.int .i64 (l.pdN now), .bool (l.pdB now)]) ∧ Ow w S l w' := by
  have h' := h
  obtain ⟨F, h1, h2, h3⟩ := h
  exact (Pending_any h1 hok now).mono fun e w' hq => ⟨hq.1, h'.after hq.2⟩
theorem Ow.wants (h : Ow w S l W) (hal : W32 l.al) (now : Int) : Calls Try.prog 17 #[.pointer (some ⟨S, 0, none⟩), .int .i64 now] W fun e w' => e = .returned (.int .u32 (l.wn now)) ∧ Ow w S l w' := by
  have h' := h
  obtain ⟨F, h1, h2, h3⟩ := h
  exact (Wants_any h1 hal now).mono fun e w' hq => ⟨hq.1, h'.after hq.2⟩
theorem Ow.told (h : Ow w S l W) (hm : l.td.length ≤ 1000000) : Calls Try.prog 33 #[.pointer (some ⟨S, 0, none⟩)] W fun e w' => ∃ v, e = .returned v ∧ NumsIn .u8 w' v l.td ∧ Ow w S l w' := by
  have h' := h
  obtain ⟨F, h1, h2, h3⟩ := h
  exact (Told_any h1 hm).mono fun e w' ⟨v, hq, hM⟩ => ⟨v, hq, hM.q.nums, h'.after hM.below⟩
theorem Ow.queue (h : Ow w S l W) (hm : l.wt.length ≤ 1000000) : Calls Try.prog 32 #[.pointer (some ⟨S, 0, none⟩)] W fun e w' => ∃ v, e = .returned v ∧ NumsIn .u8 w' v l.wt ∧ Ow w S l w' := by
  have h' := h
  obtain ⟨F, h1, h2, h3⟩ := h
  exact (Queue_any h1 hm).mono fun e w' ⟨v, hq, hM⟩ => ⟨v, hq, hM.q.nums, h'.after hM.below⟩
theorem Ow.waits (h : Ow w S l W) : Calls Try.prog 31 #[.pointer (some ⟨S, 0, none⟩)] W fun e w' => e = .returned (.int .i64 (l.wt.length : Int)) ∧ W = w' := by
  obtain ⟨F, h1, h2, h3⟩ := h
  exact Waits_any h1
theorem Ow.mask (h : Ow w S l W) : Calls Try.prog 35 #[.pointer (some ⟨S, 0, none⟩)] W fun e w' => e = .returned (.int .u32 l.ms) ∧ W = w' := by
  obtain ⟨F, h1, h2, h3⟩ := h
  exact Mask_any h1
end

def K1 : Ls := { L0 with al := 5 }
def K2 : Ls := { K1 with ms := 31 % 16 }
def K3 : Ls := K2.pushed [97, 98]
def K4 : Ls := K3.took
def K5 : Ls := { K4 with ms := 12 % 16 }
def K6 : Ls := { K5 with td := K5.td ++ [120] }
theorem ok_K2 : K2.Ok := ⟨by unfold W32; decide, by decide, by decide, by decide⟩
theorem ok_K3 : K3.Ok := ok_K2.pushed _
theorem ok_K4 : K4.Ok := ok_K3.took
theorem ok_K5 : K5.Ok := ⟨ok_K4.al, by decide, ok_K4.tk, ok_K4.wt⟩
theorem conv_lit (w : World) (C : Array Value) (n c : Nat) : (convert 28 28 (.slice (some ⟨w.heap.size, 0, none⟩) n c)).run Try.prog (w.alloc (.cells C 5)) = .ok (.slice (some ⟨w.heap.size, 0, none⟩) n c) (w.alloc (.cells C 5 (C.size, C.size + 1))) :=
  Lib.run_convert_bytes_const (P := Try.prog) w 28 5 C n c Try.underlying28 Try.underlying5
theorem nums_lit (w : World) (fr : Nat × Nat) {xs : List Int} (hb : Byt xs) (hm : xs.length ≤ maxLen) : NumsIn .u8 (w.alloc (.cells (bv xs).toArray 5 fr)) (.slice (some ⟨w.heap.size, 0, none⟩) xs.length xs.length) xs :=
  .inr ⟨_, _, rfl, Nat.le_refl _, hm, fun i x hi => by
    rw [add_lit, Nat.zero_add]
    rw [World.cell?_alloc_mark w (bv xs).toArray 5 fr i, List.getElem?_toArray, bv_at, hi]; rfl, fun x hx => wf_of_u8 (hb x hx)⟩
theorem works_any (w : World) : Calls Try.prog 10 #[] w fun e w' => e = .returned (.bool true) ∧ Below w.heap.size w w' := by
  go_enter Try.func10, Try.ntmps10
  go_wp2_with fail
  refine (New_any _).mono ?_
  rintro e w1 ⟨rfl, rfl⟩
  have H1 := Lib.hid (Ow.new w)
  go_wp2_with fail
  refine (H1.out.setAlarm 5).mono ?_
  rintro e w2 ⟨rfl, h2⟩
  have H2 := Lib.hid (show Ow w w.heap.size K1 w2 from h2)
  clear h2 H1
  go_wp2_with fail
  refine (H2.out.setMask 31 (by unfold W32; decide)).mono ?_
  rintro e w3 ⟨rfl, h3⟩
  have H3 := Lib.hid (show Ow w w.heap.size K2 w3 from h3)
  clear h3 H2
  go_wp2_with fail
  refine (H3.out.pending ok_K2 5).mono ?_
  rintro e w4 ⟨rfl, h4⟩
  rw [show K2.pdN 5 = 0 from by decide, show K2.pdB 5 = true from by decide]
  have H4 := Lib.hid (h4.alloc (.cells #[.int .u8 97, .int .u8 98] 5 (2, 3)))
  have HL := Lib.hid (nums_lit w4 (2, 3) (xs := [97, 98]) (by intro x hx; simp at hx; omega) (by simp [maxLen]))
  have hcs := conv_lit
  clear h4 H3
  go_wp2_with fail
  refine (H4.out.push ok_K2 _ [97, 98] HL.out (by decide)).mono ?_
  rintro e w5 ⟨rfl, h5⟩
  rw [show K2.pushN [97, 98] = 0 from by decide, show K2.pushE [97, 98] = 0 from by decide]
  have H5 := Lib.hid (show Ow w w.heap.size K3 w5 from h5)
  clear h5 H4 HL hcs
  go_wp2_with fail
  refine (H5.out.take ok_K3 (by decide)).mono ?_
  rintro e w6 ⟨rfl, h6⟩
  rw [show K3.takeB = 97 from by decide, show K3.takeN = 0 from by decide, show K3.takeY = true from by decide]
  have H6 := Lib.hid (show Ow w w.heap.size K4 w6 from h6)
  clear h6 H5
  go_wp2_with fail
  refine (H6.out.setMask 12 (by unfold W32; decide)).mono ?_
  rintro e w7 ⟨rfl, h7⟩
  have H7 := Lib.hid (show Ow w w.heap.size K5 w7 from h7)
  clear h7 H6
  go_wp2_with fail
  refine (H7.out.pending ok_K5 9).mono ?_
  rintro e w8 ⟨rfl, h8⟩
  rw [show K5.pdN 9 = 0 from by decide, show K5.pdB 9 = false from by decide]
  have H8 := Lib.hid h8
  clear h8 H7
  go_wp2_with (go_at_call 28; refine (num_any _ _).mono ?_; rintro e w' ⟨rfl, rfl⟩)
  refine (H8.out.wants ok_K5.al 4).mono ?_
  rintro e w9 ⟨rfl, h9⟩
  rw [show K5.wn 4 = 2 from by decide]
  have H9 := Lib.hid h9
  clear h9 H8
  go_wp2_with fail
  refine (H9.out.tell 120 (by decide) (by decide)).mono ?_
  rintro e w10 ⟨rfl, h10⟩
  rw [show ((K5.td.length : Nat) : Int) = 0 from by decide]
  have H10 := Lib.hid (show Ow w w.heap.size K6 w10 from h10)
  clear h10 H9
  go_wp2_with fail
  refine (H10.out.told (by decide)).mono ?_
  rintro e w11 ⟨v, rfl, hn, h11⟩
  have hcv := str_conv hn
  rw [show strOfNums K6.td = ⟨#[120]⟩ from by decide] at hcv
  have H11 := Lib.hid h11
  clear hn h11 H10
  go_wp2
  go_ret
  exact ⟨rfl, H11.out.below⟩
end Go.Proofs.Ytmnkggnghflcpaa
