/-
  Layer 9: works of the statements: the chapter's rows: walk.
-/
import Derived.Test.YtepimbebodmajaaCopy
import Derived.Lib.SlBytesConst
namespace Go.Proofs.Ytepimbebodmajaa
open Go.RowKit
set_option maxHeartbeats 4000000
set_option linter.unusedVariables false

/-- A net that the call made: above w's blocks. -/
def Ow (w : World) (S : Nat) (n : Nt) (W : World) : Prop := ∃ F, At W S n F ∧ (∀ k, F k → w.heap.size ≤ k) ∧ Below w.heap.size w W
section
variable {w W W' : World} {S : Nat} {n n' : Nt}
theorem Ow.new (w : World) : Ow w w.heap.size N0 (w.alloc (.cells (ncL N0 (.slice none 0 0) (.slice none 0 0)) 61)) :=
  ⟨_, at_new w, fun k hk => by
    rcases hk with rfl | e | e
    · exact Nat.le_refl _
    · exact (psB_nil k e).elim
    · exact (psB_nil k e).elim, (Below.refl _ _).alloc (Nat.le_refl _) _⟩
theorem Ow.below (h : Ow w S n W) : Below w.heap.size w W := by obtain ⟨F, _, _, h⟩ := h; exact h
theorem Ow.after (h : Ow w S n W) (hb : Below W.heap.size W W') : Ow w S n W' := by
  obtain ⟨F, h1, h2, h3⟩ := h
  exact ⟨F, h1.below hb, h2, h3.trans (hb.mono h3.size)⟩
theorem Ow.chg {F : Nat → Prop} (h1 : ∀ k, F k → w.heap.size ≤ k) (hb : Below w.heap.size w W) (hc : Chg W S n' F W') : Ow w S n' W' := by
  obtain ⟨F', a, b, c⟩ := hc
  refine ⟨F', a, fun k hk => ?_, hb.trans (c.below hb.size h1)⟩
  rcases b k hk with e | e
  · exact h1 k e
  · have := hb.size; omega
theorem Ow.push (h : Ow w S n W) (hok : n.Ok) (hsz : n.sz ≤ 90000) (v : Value) (xs : List Int) (hx : NumsIn .u8 W v xs) : Calls Try.prog 15 #[.pointer (some ⟨S, 0, none⟩), v] W fun e w' => e = .returned (.tuple #[.int .i64 (n.pushN xs : Int), .int .i64 (n.pushE xs)]) ∧ Ow w S (n.pushed xs) w' := by
  obtain ⟨F, h1, h2, h3⟩ := h
  exact (Push_any h1 hok hsz v xs hx).mono fun e w' hq => ⟨hq.1, Ow.chg h2 h3 hq.2⟩
theorem Ow.send (h : Ow w S n W) (hok : n.Ok) (hsz : n.sz ≤ 90000) (v : Value) (xs : List Int) (hx : NumsIn .u8 W v xs) : Calls Try.prog 25 #[.pointer (some ⟨S, 0, none⟩), v] W fun e w' => e = .returned (.tuple #[.int .i64 (n.sendN xs : Int), .int .i64 (Nt.sendE xs)]) ∧ Ow w S (n.sent xs) w' := by
  obtain ⟨F, h1, h2, h3⟩ := h
  exact (Send_any h1 hok hsz v xs hx).mono fun e w' hq => ⟨hq.1, Ow.chg h2 h3 hq.2⟩
theorem Ow.take (h : Ow w S n W) (hok : n.Ok) : Calls Try.prog 17 #[.pointer (some ⟨S, 0, none⟩)] W fun e w' => e = .returned (.bool n.takeY) ∧ Ow w S n.took w' := by
  obtain ⟨F, h1, h2, h3⟩ := h
  exact (Take_any h1 hok).mono fun e w' hq => ⟨hq.1, Ow.chg h2 h3 hq.2⟩
theorem Ow.next (h : Ow w S n W) (hok : n.Ok) : Calls Try.prog 21 #[.pointer (some ⟨S, 0, none⟩)] W fun e w' => ∃ v', e = .returned (.tuple #[v', .int .i64 (n.nextN : Int), .bool n.takeY]) ∧ NumsIn .u8 w' v' n.nextB ∧ Ow w S n w' ∧ Below W.heap.size W w' := by
  have h' := h
  obtain ⟨F, h1, h2, h3⟩ := h
  exact (Next_any h1 hok).mono fun e w' ⟨v, hq, hc⟩ => ⟨v, hq, hc.q.nums, h'.after hc.below, hc.below⟩
theorem Ow.waits (h : Ow w S n W) : Calls Try.prog 18 #[.pointer (some ⟨S, 0, none⟩)] W fun e w' => e = .returned (.int .i64 (n.wt.length : Int)) ∧ W = w' := by
  obtain ⟨F, h1, h2, h3⟩ := h
  exact Waits_any h1
theorem Ow.sentL (h : Ow w S n W) (hok : n.Ok) (hsz : n.sz ≤ 90000) : Calls Try.prog 23 #[.pointer (some ⟨S, 0, none⟩)] W fun e w' => ∃ o c, e = .returned (.slice o n.sn.length c) ∧ Ow w S n w' := by
  have h' := h
  obtain ⟨F, h1, h2, h3⟩ := h
  refine (Sent_any h1 hok hsz).mono fun e w' ⟨v, bl, hq, hm⟩ => ?_
  obtain ⟨o, c, e1, _⟩ := hm.ls.g.shape
  have : bl.length = n.sn.length := by rw [← hm.xs]; simp
  rw [this] at e1
  exact ⟨o, c, by rw [hq, e1], h'.after hm.below⟩
end
abbrev K1 : Nt := N0.pushed [97, 98, 99]
abbrev K2 : Nt := K1.pushed [100]
abbrev K3 : Nt := K2.sent [120, 121]
abbrev K4 : Nt := K3.took
theorem conv_lit (w : World) (C : Array Value) (n c : Nat) : (convert 32 32 (.slice (some ⟨w.heap.size, 0, none⟩) n c)).run Try.prog (w.alloc (.cells C 5)) = .ok (.slice (some ⟨w.heap.size, 0, none⟩) n c) (w.alloc (.cells C 5 (C.size, C.size + 1))) :=
  Lib.run_convert_bytes_const (P := Try.prog) w 32 5 C n c Try.underlying32 Try.underlying5
theorem nums_lit (w : World) (fr : Nat × Nat) {xs : List Int} (hb : Byt xs) (hm : xs.length ≤ maxLen) : NumsIn .u8 (w.alloc (.cells (bv xs).toArray 5 fr)) (.slice (some ⟨w.heap.size, 0, none⟩) xs.length xs.length) xs :=
  .inr ⟨_, _, rfl, Nat.le_refl _, hm, fun i x hi => by
    rw [add_lit, Nat.zero_add]
    rw [World.cell?_alloc_mark w (bv xs).toArray 5 fr i, List.getElem?_toArray, bv_at, hi]; rfl, fun x hx => wf_of_u8 (hb x hx)⟩
theorem works_any (w : World) : Calls Try.prog 10 #[] w fun e w' => e = .returned (.bool true) ∧ Below w.heap.size w w' := by
  have ok1 := Lib.hid (ok_N0.pushed [97, 98, 99])
  have ok2 := Lib.hid (ok1.out.pushed [100])
  have ok3 := Lib.hid (ok2.out.sent [120, 121])
  have ok4 := Lib.hid ok3.out.took
  go_enter Try.func10, Try.ntmps10
  go_wp2_with fail
  refine (New_any _).mono ?_
  rintro e w1 ⟨rfl, rfl⟩
  have H1 := Lib.hid ((Ow.new w).after ((Below.refl _ _).alloc (Nat.le_refl _) (.cells #[.int .u8 97, .int .u8 98, .int .u8 99] 5 (3, 4))))
  have HL := Lib.hid (nums_lit (w.alloc (.cells (ncL N0 (.slice none 0 0) (.slice none 0 0)) 61)) (3, 4) (xs := [97, 98, 99]) (by intro x hx; simp at hx; omega) (by simp [maxLen]))
  have hcs := conv_lit (w.alloc (.cells (ncL N0 (.slice none 0 0) (.slice none 0 0)) 61))
  generalize w.alloc (.cells (ncL N0 (.slice none 0 0) (.slice none 0 0)) 61) = wa at *
  go_wp2_with fail
  refine (H1.out.push ok_N0 (by decide) _ [97, 98, 99] HL.out).mono ?_
  rintro e w2 ⟨rfl, h2⟩
  rw [show N0.pushN [97, 98, 99] = 0 from by decide, show N0.pushE [97, 98, 99] = 0 from by decide]
  have H2 := Lib.hid (h2.after ((Below.refl _ _).alloc (Nat.le_refl _) (.cells #[.int .u8 100] 5 (1, 2))))
  have HL2 := Lib.hid (nums_lit w2 (1, 2) (xs := [100]) (by intro x hx; simp at hx; omega) (by simp [maxLen]))
  clear hcs h2 H1 HL
  have hcs := conv_lit w2
  go_wp2_with fail
  refine (H2.out.push ok1.out (by decide) _ [100] HL2.out).mono ?_
  rintro e w3 ⟨rfl, h3⟩
  rw [show K1.pushN [100] = 3 from by decide, show K1.pushE [100] = 0 from by decide]
  have H3 := Lib.hid (show Ow w w.heap.size K2 w3 from h3)
  clear h3 H2 HL2 hcs
  go_wp2_with fail
  obtain ⟨F, g1, g2, g3⟩ := H3.out
  refine (Next_any g1 ok2.out).mono ?_
  rintro e w4 ⟨v, rfl, hc⟩
  rw [show K2.nextN = 0 from by decide, show K2.takeY = true from by decide]
  have hcq := hc.q
  rw [show K2.nextB = [97, 98, 99] from by decide] at hcq
  obtain ⟨vo, vc, rfl, -, -⟩ := hcq.shape
  have hb5 : Below w4.heap.size w4 (w4.alloc (.cells #[.int .u8 120, .int .u8 121] 5 (2, 3))) := (Below.refl _ _).alloc (Nat.le_refl _) _
  have HQ := Lib.hid (hcq.below hb5)
  have HLo := Lib.hid (show ∀ k, blkOf (.slice vo ([97, 98, 99] : List Int).length vc) = some k → ¬ F k from fun k hk hF => by have := hc.lo k hk; have := g1.lt k hF; omega)
  have HA := Lib.hid ((g1.below hc.below).below hb5)
  have HG2 := Lib.hid g2
  have HB := Lib.hid ((g3.trans (hc.below.mono g3.size)).trans (hb5.mono (by have := g3.size; have := hc.below.size; omega)))
  have HL3 := Lib.hid (nums_lit w4 (2, 3) (xs := [120, 121]) (by intro x hx; simp at hx; omega) (by simp [maxLen]))
  have hcs := conv_lit w4
  clear hc hcq hb5 g1 g2 g3 H3
  go_wp2_with fail
  refine (Send_any HA.out ok2.out (by decide) _ [120, 121] HL3.out).mono ?_
  rintro e w5 ⟨rfl, h5⟩
  rw [show K2.sendN [120, 121] = 0 from by decide, show Nt.sendE [120, 121] = 0 from by decide]
  have H5 := Lib.hid (show Ow w w.heap.size K3 w5 from Ow.chg HG2.out HB.out h5)
  obtain ⟨F', -, -, ht⟩ := h5
  have hcv := str_conv ((HQ.out.turned ht (fun k hk => HLo.out k hk)).nums)
  rw [show strOfNums [97, 98, 99] = ⟨#[97, 98, 99]⟩ from by decide] at hcv
  simp only [List.length_cons, List.length_nil, Nat.zero_add, Nat.reduceAdd] at hcv
  clear ht HA HL3 hcs HQ
  go_wp2_with (go_at_call 16; refine (num_any _ _).mono ?_; rintro e w' ⟨rfl, rfl⟩)
  refine (H5.out.take ok3.out).mono ?_
  rintro e w6 ⟨rfl, h6⟩
  rw [show K3.takeY = true from by decide]
  have H6 := Lib.hid (show Ow w w.heap.size K4 w6 from h6)
  clear h6 H5 hcv
  go_wp2_with fail
  refine (H6.out.waits).mono ?_
  rintro e w7 ⟨rfl, rfl⟩
  rw [show ((K4.wt.length : Nat) : Int) = 1 from by decide]
  go_wp2_with fail
  refine (H6.out.sentL ok4.out (by decide)).mono ?_
  rintro e w8 ⟨o, c, rfl, h8⟩
  rw [show K4.sn.length = 1 from by decide]
  have H8 := Lib.hid h8
  clear h8 H6
  go_wp2
  go_ret
  exact ⟨rfl, H8.out.below⟩
end Go.Proofs.Ytepimbebodmajaa
