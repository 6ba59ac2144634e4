/-
  Layer 13: Source, Sink, Copy: walks. Written by gen_s.py.
-/
import Derived.Test.YtdpdoclhdjhjkaaG25
set_option linter.unusedVariables false
set_option linter.unusedSimpArgs false
namespace Go.Proofs.Ytdpdoclhdjhjkaa
open Go.RowKit
set_option maxHeartbeats 8000000
set_option maxRecDepth 100000
set_option linter.unusedVariables false
set_option linter.unusedSimpArgs false

def kindB (s : Int) : Bool := decide (0 < s) && decide (s < 5)
theorem kindB_hi {s : Int} (h : ¬ s < 5) : kindB s = false := by unfold kindB; rw [decide_eq_false h, Bool.and_false]
theorem kindB_lo {s : Int} (h : ¬ 0 < s) : kindB s = false := by unfold kindB; rw [decide_eq_false h, Bool.false_and]
theorem kindB_ok {s : Int} (h : 0 < s) (h5 : s < 5) : kindB s = true := by unfold kindB; rw [decide_eq_true h, decide_eq_true h5]; rfl
theorem turn_no (r : Ru) (j : Nat) (x : Int) : r.turn false j x = r := rfl
theorem turn_yes (r : Ru) (j : Nat) (x : Int) : r.turn true j x = r.set j x := rfl
/-- What a setter gives. -/
def SetP (S : Nat) (r : Ru) (w : World) (E : Int) (rr : Ru) (e : Ending) (w' : World) : Prop := e = .returned (.int .i64 E) ∧ Po w' S rr ∧ Turned (fun k => k = S) w w'
theorem Source_lo {S : Nat} {r : Ru} {w : World} (h : Po w S r) (s x : Int) (hx : W32 x) (hk : ¬ 0 < s) : Calls Try.prog 9 #[.pointer (some ⟨S, 0, none⟩), .int .i64 s, .int .u32 x] w fun e w' => SetP S r w 2 r e w' := by
  have HP := Lib.hid h
  have hr := refuses_po h false x hx
  rw [refE_kind] at hr
  have HR := Lib.hid hr
  clear h hr
  go_enter Try.func9, Try.ntmps9
  go_wp2
  refine L2.wp_scope_fwd 0 rfl ?_
  go_wp2_with fail
  refine HR.out.mono ?_
  rintro e w1 ⟨rfl, hb⟩
  have HB1 := Lib.hid hb
  clear hb
  go_wp2
  go_step3
  refine ⟨rfl, ?_⟩
  go_wp2
  rw [Exit.noGoto_ret]
  go_ret
  exact ⟨rfl, HP.out.below HB1.out, Turned.of_below HB1.out _⟩
theorem Source_hi {S : Nat} {r : Ru} {w : World} (h : Po w S r) (s x : Int) (hx : W32 x) (hk : 0 < s) (hk5 : ¬ s < 5) : Calls Try.prog 9 #[.pointer (some ⟨S, 0, none⟩), .int .i64 s, .int .u32 x] w fun e w' => SetP S r w 2 r e w' := by
  have HP := Lib.hid h
  have hd : decide (s < 5) = false := decide_eq_false hk5
  have hr := refuses_po h false x hx
  rw [refE_kind] at hr
  have HR := Lib.hid hr
  clear h hr
  go_enter Try.func9, Try.ntmps9
  go_wp2
  refine L2.wp_scope_fwd 0 rfl ?_
  go_wp2_with fail
  refine HR.out.mono ?_
  rintro e w1 ⟨rfl, hb⟩
  have HB1 := Lib.hid hb
  clear hb
  go_wp2
  go_step3
  refine ⟨rfl, ?_⟩
  go_wp2
  rw [Exit.noGoto_ret]
  go_ret
  exact ⟨rfl, HP.out.below HB1.out, Turned.of_below HB1.out _⟩
theorem Source_big {S : Nat} {r : Ru} {w : World} (h : Po w S r) (s x : Int) (hx : W32 x) (hk : 0 < s) (hk5 : s < 5) (hx2 : ¬ x < 65536) : Calls Try.prog 9 #[.pointer (some ⟨S, 0, none⟩), .int .i64 s, .int .u32 x] w fun e w' => SetP S r w 2 r e w' := by
  have HP := Lib.hid h
  have hr := refuses_po h true x hx
  rw [refE_no hx2] at hr
  have HR := Lib.hid hr
  clear h hr hx2
  go_enter Try.func9, Try.ntmps9
  go_wp2
  refine L2.wp_scope_fwd 0 rfl ?_
  go_wp2_with fail
  refine HR.out.mono ?_
  rintro e w1 ⟨rfl, hb⟩
  have HB1 := Lib.hid hb
  clear hb
  go_wp2
  go_step3
  refine ⟨rfl, ?_⟩
  go_wp2
  rw [Exit.noGoto_ret]
  go_ret
  exact ⟨rfl, HP.out.below HB1.out, Turned.of_below HB1.out _⟩
theorem Source_ok {S : Nat} {r : Ru} {w : World} (h : Po w S r) (j : Nat) (x : Int) (hx : W32 x) (hk : 0 < (j : Int)) (hk5 : (j : Int) < 5) (hx2 : x < 65536) : Calls Try.prog 9 #[.pointer (some ⟨S, 0, none⟩), .int .i64 (j : Int), .int .u32 x] w fun e w' => SetP S r w 0 (r.set (0 + j) x) e w' := by
  have HP := Lib.hid h
  have hr := refuses_po h true x hx
  rw [refE_ok hx2] at hr
  have HR := Lib.hid hr
  have hj0 : (0 : Int) ≤ (j : Int) := by omega
  have HJ := Lib.hid (show j < 5 by omega)
  clear h hr hx2
  go_enter Try.func9, Try.ntmps9
  go_wp2
  refine L2.wp_scope_fwd 0 rfl ?_
  go_wp2_with fail
  refine HR.out.mono ?_
  rintro e w1 ⟨rfl, hb⟩
  have HP1 := Lib.hid (HP.out.below hb)
  have HB1 := Lib.hid hb
  clear hb
  have c0 := HP1.out.at_ (j := 0 + j) (by have := HJ.out; omega)
  have f0 := HP1.out.blk.frozen (1 + (0 + j))
  rw [show 1 + (0 + j) = 1 + j by omega] at c0 f0
  go_wp2
  rw [L2.Fwd_ret]
  go_ret
  have hp := HP1.out.set (j := 0 + j) (by have := HJ.out; omega) x
  rw [show 1 + (0 + j) = 1 + j by omega] at hp
  exact ⟨rfl, hp, (Turned.of_below HB1.out _).trans ((Turned.refl (fun k => k = S) w1).setCell (.inl rfl) _) (fun _ h => .inl h)⟩
theorem Source_any {S : Nat} {r : Ru} {w : World} (h : Po w S r) (s x : Int) (hs : I64 s) (hx : W32 x) : Calls Try.prog 9 #[.pointer (some ⟨S, 0, none⟩), .int .i64 s, .int .u32 x] w fun e w' =>
    SetP S r w (refE (kindB s) x) (r.turn (kindB s && decide (x < 65536)) (0 + s.toNat) x) e w' := by
  by_cases hk : 0 < s
  · by_cases hk5 : s < 5
    · by_cases hx2 : x < 65536
      · obtain ⟨j, rfl⟩ : ∃ j : Nat, s = (j : Int) := ⟨s.toNat, by omega⟩
        rw [kindB_ok hk hk5, refE_ok hx2, decide_eq_true hx2, Bool.and_self, turn_yes, Int.toNat_natCast]
        exact Source_ok h j x hx hk hk5 hx2
      · rw [refE_no hx2, decide_eq_false hx2, Bool.and_false, turn_no]
        exact Source_big h s x hx hk hk5 hx2
    · rw [kindB_hi hk5, refE_kind, Bool.false_and, turn_no]
      exact Source_hi h s x hx hk hk5
  · rw [kindB_lo hk, refE_kind, Bool.false_and, turn_no]
    exact Source_lo h s x hx hk
theorem Source_no {p : Option Addr} {w : World} (h : NoPo p w) (x : Int) : Calls Try.prog 9 #[.pointer p, .int .i64 1, .int .u32 x] w fun e w' => e = .returned (.int .i64 1) ∧ w = w' := by
  have HR := Lib.hid (refuses_no h true x)
  clear h
  go_enter Try.func9, Try.ntmps9
  go_wp2
  refine L2.wp_scope_fwd 0 rfl ?_
  go_wp2_with fail
  refine HR.out.mono ?_
  rintro e w1 ⟨rfl, rfl⟩
  go_wp2
  go_step3
  refine ⟨rfl, ?_⟩
  go_wp2
  rw [Exit.noGoto_ret]
  go_ret
  exact ⟨rfl, rfl⟩
theorem Sink_lo {S : Nat} {r : Ru} {w : World} (h : Po w S r) (s x : Int) (hx : W32 x) (hk : ¬ 0 < s) : Calls Try.prog 10 #[.pointer (some ⟨S, 0, none⟩), .int .i64 s, .int .u32 x] w fun e w' => SetP S r w 2 r e w' := by
  have HP := Lib.hid h
  have hr := refuses_po h false x hx
  rw [refE_kind] at hr
  have HR := Lib.hid hr
  clear h hr
  go_enter Try.func10, Try.ntmps10
  go_wp2
  refine L2.wp_scope_fwd 0 rfl ?_
  go_wp2_with fail
  refine HR.out.mono ?_
  rintro e w1 ⟨rfl, hb⟩
  have HB1 := Lib.hid hb
  clear hb
  go_wp2
  go_step3
  refine ⟨rfl, ?_⟩
  go_wp2
  rw [Exit.noGoto_ret]
  go_ret
  exact ⟨rfl, HP.out.below HB1.out, Turned.of_below HB1.out _⟩
theorem Sink_hi {S : Nat} {r : Ru} {w : World} (h : Po w S r) (s x : Int) (hx : W32 x) (hk : 0 < s) (hk5 : ¬ s < 5) : Calls Try.prog 10 #[.pointer (some ⟨S, 0, none⟩), .int .i64 s, .int .u32 x] w fun e w' => SetP S r w 2 r e w' := by
  have HP := Lib.hid h
  have hd : decide (s < 5) = false := decide_eq_false hk5
  have hr := refuses_po h false x hx
  rw [refE_kind] at hr
  have HR := Lib.hid hr
  clear h hr
  go_enter Try.func10, Try.ntmps10
  go_wp2
  refine L2.wp_scope_fwd 0 rfl ?_
  go_wp2_with fail
  refine HR.out.mono ?_
  rintro e w1 ⟨rfl, hb⟩
  have HB1 := Lib.hid hb
  clear hb
  go_wp2
  go_step3
  refine ⟨rfl, ?_⟩
  go_wp2
  rw [Exit.noGoto_ret]
  go_ret
  exact ⟨rfl, HP.out.below HB1.out, Turned.of_below HB1.out _⟩
theorem Sink_big {S : Nat} {r : Ru} {w : World} (h : Po w S r) (s x : Int) (hx : W32 x) (hk : 0 < s) (hk5 : s < 5) (hx2 : ¬ x < 65536) : Calls Try.prog 10 #[.pointer (some ⟨S, 0, none⟩), .int .i64 s, .int .u32 x] w fun e w' => SetP S r w 2 r e w' := by
  have HP := Lib.hid h
  have hr := refuses_po h true x hx
  rw [refE_no hx2] at hr
  have HR := Lib.hid hr
  clear h hr hx2
  go_enter Try.func10, Try.ntmps10
  go_wp2
  refine L2.wp_scope_fwd 0 rfl ?_
  go_wp2_with fail
  refine HR.out.mono ?_
  rintro e w1 ⟨rfl, hb⟩
  have HB1 := Lib.hid hb
  clear hb
  go_wp2
  go_step3
  refine ⟨rfl, ?_⟩
  go_wp2
  rw [Exit.noGoto_ret]
  go_ret
  exact ⟨rfl, HP.out.below HB1.out, Turned.of_below HB1.out _⟩
theorem Sink_ok {S : Nat} {r : Ru} {w : World} (h : Po w S r) (j : Nat) (x : Int) (hx : W32 x) (hk : 0 < (j : Int)) (hk5 : (j : Int) < 5) (hx2 : x < 65536) : Calls Try.prog 10 #[.pointer (some ⟨S, 0, none⟩), .int .i64 (j : Int), .int .u32 x] w fun e w' => SetP S r w 0 (r.set (5 + j) x) e w' := by
  have HP := Lib.hid h
  have hr := refuses_po h true x hx
  rw [refE_ok hx2] at hr
  have HR := Lib.hid hr
  have hj0 : (0 : Int) ≤ (j : Int) := by omega
  have HJ := Lib.hid (show j < 5 by omega)
  clear h hr hx2
  go_enter Try.func10, Try.ntmps10
  go_wp2
  refine L2.wp_scope_fwd 0 rfl ?_
  go_wp2_with fail
  refine HR.out.mono ?_
  rintro e w1 ⟨rfl, hb⟩
  have HP1 := Lib.hid (HP.out.below hb)
  have HB1 := Lib.hid hb
  clear hb
  have c0 := HP1.out.at_ (j := 5 + j) (by have := HJ.out; omega)
  have f0 := HP1.out.blk.frozen (1 + (5 + j))
  rw [show 1 + (5 + j) = 6 + j by omega] at c0 f0
  go_wp2
  rw [L2.Fwd_ret]
  go_ret
  have hp := HP1.out.set (j := 5 + j) (by have := HJ.out; omega) x
  rw [show 1 + (5 + j) = 6 + j by omega] at hp
  exact ⟨rfl, hp, (Turned.of_below HB1.out _).trans ((Turned.refl (fun k => k = S) w1).setCell (.inl rfl) _) (fun _ h => .inl h)⟩
theorem Sink_any {S : Nat} {r : Ru} {w : World} (h : Po w S r) (s x : Int) (hs : I64 s) (hx : W32 x) : Calls Try.prog 10 #[.pointer (some ⟨S, 0, none⟩), .int .i64 s, .int .u32 x] w fun e w' =>
    SetP S r w (refE (kindB s) x) (r.turn (kindB s && decide (x < 65536)) (5 + s.toNat) x) e w' := by
  by_cases hk : 0 < s
  · by_cases hk5 : s < 5
    · by_cases hx2 : x < 65536
      · obtain ⟨j, rfl⟩ : ∃ j : Nat, s = (j : Int) := ⟨s.toNat, by omega⟩
        rw [kindB_ok hk hk5, refE_ok hx2, decide_eq_true hx2, Bool.and_self, turn_yes, Int.toNat_natCast]
        exact Sink_ok h j x hx hk hk5 hx2
      · rw [refE_no hx2, decide_eq_false hx2, Bool.and_false, turn_no]
        exact Sink_big h s x hx hk hk5 hx2
    · rw [kindB_hi hk5, refE_kind, Bool.false_and, turn_no]
      exact Sink_hi h s x hx hk hk5
  · rw [kindB_lo hk, refE_kind, Bool.false_and, turn_no]
    exact Sink_lo h s x hx hk
theorem Sink_no {p : Option Addr} {w : World} (h : NoPo p w) (x : Int) : Calls Try.prog 10 #[.pointer p, .int .i64 1, .int .u32 x] w fun e w' => e = .returned (.int .i64 1) ∧ w = w' := by
  have HR := Lib.hid (refuses_no h true x)
  clear h
  go_enter Try.func10, Try.ntmps10
  go_wp2
  refine L2.wp_scope_fwd 0 rfl ?_
  go_wp2_with fail
  refine HR.out.mono ?_
  rintro e w1 ⟨rfl, rfl⟩
  go_wp2
  go_step3
  refine ⟨rfl, ?_⟩
  go_wp2
  rw [Exit.noGoto_ret]
  go_ret
  exact ⟨rfl, rfl⟩
theorem pCopy_any {S : Nat} {r : Ru} {w : World} (h : Po w S r) : Calls Try.prog 8 #[.pointer (some ⟨S, 0, none⟩)] w fun e w' => e = .returned (.pointer (some ⟨w.heap.size, 0, none⟩)) ∧ Po w' w.heap.size r ∧ Below w.heap.size w w' := by
  have HN := Lib.hid (pnone_po h)
  have HX : Hid (Rf 63 12 w S (poC true r)) := ⟨h.blk, (poC_ok true r).1, (poC_ok true r).2⟩
  have HO := Lib.hid (poC_ok true r)
  have HB := Lib.hid (And.intro (blk_new w (poC true r) 63) (bel1 w (.cells (poC true r) 63)))
  clear h
  go_enter Try.func8, Try.ntmps8
  go_wp2_with fail
  refine HN.out.mono ?_
  rintro e w1 ⟨rfl, rfl⟩
  go_wp2_with (first | ((with_reducible refine wp_load_V rvPolicy HX.out ?_ ?_); (rfl)) | ((with_reducible refine wp_store_Vn (poC true r) rvPolicy ⟨?_, HO.out⟩ ?_ ?_ ?_); (rfl); (rfl); (rfl)))
  go_ret
  exact ⟨rfl, HB.out.1, HB.out.2⟩
theorem pCopy_no {p : Option Addr} {w : World} (h : NoPo p w) : Calls Try.prog 8 #[.pointer p] w fun e w' => e = .returned (.pointer none) ∧ w = w' := by
  have HN := Lib.hid (pnone_no h)
  clear h
  go_enter Try.func8, Try.ntmps8
  go_wp2_with fail
  refine HN.out.mono ?_
  rintro e w1 ⟨rfl, rfl⟩
  go_wp2
  go_ret
  exact ⟨rfl, rfl⟩
theorem Alerts_no {p : Option Addr} {w : World} (h : NoPo p w) (q : Option Addr) (v : Value) : Calls Try.prog 18 #[.pointer p, .pointer q, v] w fun e w' => e = .returned (.tuple #[.slice none 0 0, .int .i64 1]) ∧ Below w.heap.size w w' :=
  Alerts_err (S := 0) q (by decide) p (fun W hb => (pDec_no (h.below hb) q v).mono fun e w' ⟨h1, h2⟩ => ⟨h1, h2 ▸ Below.refl _ _⟩)
end Go.Proofs.Ytdpdoclhdjhjkaa
