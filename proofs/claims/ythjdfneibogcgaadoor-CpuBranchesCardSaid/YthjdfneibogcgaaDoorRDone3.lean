/-
  Layer 10: the document's Done: a walk (high). Written by gen_rdone.py.
-/
import Derived.Test.YthjdfneibogcgaaDoorDn
namespace Go.Proofs.YthjdfneibogcgaaDoor
open Go.RowKit
set_option maxHeartbeats 16000000
set_option linter.unusedVariables false
set_option linter.unusedSimpArgs false

set_option maxRecDepth 100000 in
theorem RDone_high (s : Sta) (hs : s.Ok) (x told : Int) (A B : Nat) (m : Int) (hA : A < 8) (hB : B < 8) (hm0 : -32768 ≤ m) (hm1 : m ≤ 32767) (ht : W32 told) (hm : 0 ≤ m ∧ m < 6) (w : World) (P : Wnt) (hk : P.kind ≠ 1) (R : Sta) (hR : Hid (causeS s ⟨27, A, B, m⟩ = 0 ∧ R = doneS s ⟨27, A, B, m⟩ told))
    (HP : Hid (∀ W, Calls Tryd.prog 21 #[.agg (sc s), .int .u32 x] W fun e w' => e = .returned (.agg (wnt P)) ∧ Below W.heap.size W w'))
    (HD : Hid (∀ W, Calls Tryd.prog 35 #[.int .u32 x] W fun e w' => e = .returned (.tuple #[.agg (ic ⟨27, A, B, m⟩), .bool true]) ∧ Below W.heap.size W w')) : Calls Tryd.prog 22 #[.agg (sc s), .int .u32 x, .int .u32 told] w fun e w' => e = .returned (.agg (sc R)) ∧ Below w.heap.size w w' := by
  have HIM := Lib.hid (fun W => RImm_any 27 A B m hm0 hm1 W)
  have HAD := Lib.hid (fun W => RAdd_any s.pc 4 hs.pc ⟨by decide, by decide⟩ W)
  have HML := Lib.hid (fun W => RMul_any 4 (immW m) ⟨by decide, by decide⟩ (immW_w32 m) W)
  have HTO : Hid (∀ W, Calls Tryd.prog 36 #[.int .u32 s.pc, .int .u32 (4 * immW m % 4294967296)] W fun e w' => e = .returned (.int .u32 ((s.pc + 4 * immW m) % 4294967296)) ∧ W = w') := Lib.hid (fun W => by
    have h := RAdd_any s.pc (4 * immW m % 4294967296) hs.pc ⟨by omega, by omega⟩ W
    rw [show (s.pc + 4 * immW m % 4294967296) % 4294967296 = (s.pc + 4 * immW m) % 4294967296 by omega] at h
    exact h)
  obtain ⟨W, HW⟩ : ∃ W, Hid (W = (w.alloc (.cells (sc s) 25)).alloc (.cells #[Value.int .u32 0, Value.int .u32 0, Value.int .u32 0, Value.int .u32 0, Value.int .u32 0, Value.int .u32 0, Value.int .u32 0, Value.int .u32 0, Value.int .u32 0, Value.int .u32 0, Value.int .u32 0, Value.int .u32 0, Value.int .u32 0, Value.bool false, Value.bool false, Value.bool false] 25)) := ⟨_, rfl⟩
  have HBe : Hid (Below w.heap.size w W) := Lib.hid (by rw [HW.out]; exact (bel1 w _).alloc (by simp) _)
  have HLt : Hid (w.heap.size + 1 < W.heap.size) := Lib.hid (by rw [HW.out]; simp)
  have RA : Hid (Rf 25 16 W w.heap.size (sc s)) := Lib.hid (by rw [HW.out]; exact (rs_new w s).alloc _)
  have RB : Hid (Rf 25 16 W (w.heap.size + 1) (sc S0)) := Lib.hid (by rw [HW.out]; exact rs_newZ _ _ (by simp))
  go_enter Tryd.func22, Tryd.ntmps22
  go_wp2_with (first | (rw [← HW.out]) | ((with_reducible refine wp_load_R rowS RA.out ?_ ?_); (kernel_rfl)))
  refine (HP.out _).mono ?_
  rintro e w1 ⟨rfl, b1⟩
  obtain ⟨W1, HW1⟩ : ∃ W1, Hid (W1 = w1.alloc (.cells (wnt P) 42)) := ⟨_, rfl⟩
  have RA1 : Hid (Rf 25 16 W1 w.heap.size (sc s)) := Lib.hid (by rw [HW1.out]; exact (RA.out.below b1).alloc _)
  have RB1 : Hid (Rf 25 16 W1 (w.heap.size + 1) (sc S0)) := Lib.hid (by rw [HW1.out]; exact (RB.out.below b1).alloc _)
  have RW1 : Hid (Rf 42 6 W1 w1.heap.size (wnt P)) := Lib.hid (by rw [HW1.out]; exact (wnt_ok P).new 42 w1)
  have HB1 : Hid (Below w.heap.size w W1) := Lib.hid (by rw [HW1.out]; exact (HBe.out.trans (b1.mono HBe.out.size)).alloc (HBe.out.trans (b1.mono HBe.out.size)).size _)
  have HL1 : Hid (w.heap.size + 1 < W1.heap.size) := Lib.hid (by rw [HW1.out, World.size_alloc]; have := b1.size; have := HLt.out; omega)
  have qw := RW1.out.w6
  clear b1 HBe HLt HP RA RB
  go_wp2_with (first | ((with_reducible refine wp_store_Rn (wnt P) rowW ?_ ?_ ?_ ?_); (exact ⟨rfl, wnt_ok _⟩); (kernel_rfl); (kernel_rfl); (rw [← HW1.out])))
  refine (HD.out _).mono ?_
  rintro e w2 ⟨rfl, b2⟩
  clear qw RW1
  obtain ⟨W2, HW2⟩ : ∃ W2, Hid (W2 = w2.alloc (.cells (ic ⟨27, A, B, m⟩) 56)) := ⟨_, rfl⟩
  have RA2 : Hid (Rf 25 16 W2 w.heap.size (sc s)) := Lib.hid (by rw [HW2.out]; exact (RA1.out.below b2).alloc _)
  have RB2 : Hid (Rf 25 16 W2 (w.heap.size + 1) (sc S0)) := Lib.hid (by rw [HW2.out]; exact (RB1.out.below b2).alloc _)
  have RI2 : Hid (Rf 56 4 W2 w2.heap.size (ic ⟨27, A, B, m⟩)) := Lib.hid (by rw [HW2.out]; exact (ins_ok ⟨27, A, B, m⟩).new 56 w2)
  have HB2 : Hid (Below w.heap.size w W2) := Lib.hid (by rw [HW2.out]; exact (HB1.out.trans (b2.mono HB1.out.size)).alloc (HB1.out.trans (b2.mono HB1.out.size)).size _)
  have HL2 : Hid (w.heap.size + 1 < w2.heap.size) := Lib.hid (by have := b2.size; have := HL1.out; omega)
  have HS2 : Hid (W2.heap.size = w2.heap.size + 1) := Lib.hid (by rw [HW2.out, World.size_alloc])
  clear b2 HL1 HB1 RA1 RB1
  have qi := RI2.out.i
  have qa := RA2.out.sr hA
  have qb := RA2.out.sr hB
  have hA' : (A : Int) < 8 := by omega
  have hB' : (B : Int) < 8 := by omega
  go_wp2_with (first | ((with_reducible refine wp_store_Rn (ic ⟨27, A, B, m⟩) rowI ?_ ?_ ?_ ?_); (exact ⟨rfl, ins_ok _⟩); (kernel_rfl); (kernel_rfl); (rw [← HW2.out])))
  go_region
  obtain ⟨W3, HW3⟩ : ∃ W3, Hid (W3 = (W2.alloc (.cells #[Value.int .u32 0, Value.int .u32 0, Value.int .u32 0, Value.int .u32 0, Value.int .u32 0, Value.int .u32 0, Value.int .u32 0, Value.int .u32 0, Value.int .u32 0, Value.int .u32 0, Value.int .u32 0, Value.int .u32 0, Value.int .u32 0, Value.bool false, Value.bool false, Value.bool false] 25)).drew.setRow (w2.heap.size + 1) (sc s)) := ⟨_, rfl⟩
  have HZ := Lib.hid (rs_newZ W2 (w2.heap.size + 1) HS2.out).drew
  have HS : Hid (Dn w s ⟨27, A, B, m⟩ w2.heap.size (w2.heap.size + 1) s W3) := Lib.hid (by
    rw [HW3.out]
    have h2 := HL2.out; have h3 := HS2.out
    exact ⟨⟨(RA2.out.alloc _).drew.setOther (by omega) _, (RI2.out.alloc _).drew.setOther (by omega) _⟩, (RB2.out.alloc _).drew.setOther (by omega) _, HZ.out.set (sc_ok s), below_setRow ((HB2.out).alloc HB2.out.size _).drew (by omega) _, by omega, by omega⟩)
  have RA3 := Lib.hid RA2.out.drew
  have e2 := HS2.out
  clear RA2 RB2 RI2 HB2 HL2 qi qa qb
  have qs := HS.out.l.a.s
  go_wp2_with (first | ((with_reducible refine wp_load_R rowS RA3.out ?_ ?_); (kernel_rfl)) | ((with_reducible refine wp_store_R (sc s) rowS ⟨HZ.out, sc_ok _⟩ ?_ ?_ ?_); (kernel_rfl); (kernel_rfl); (rw [← HW3.out])))
  refine (HAD.out _).mono ?_
  rintro e w4 ⟨rfl, rfl⟩
  clear RA3 HZ e2 HS2 HW HW1 HW2 HD qs
  go_wp2_with ((with_reducible refine wp_store_o HS.out 8 ((s.pc + 4) % 4294967296) { s with pc := (s.pc + 4) % 4294967296 } ?_ (.int .u32 s.pc) ?_ ?_ ?_ ?_); (rfl); (rfl); (kernel_rfl); (kernel_rfl))
  intro W4 hS
  clear HS HW3
  have qs := hS.l.a.s
  have qi := hS.l.i.i
  have HS := Lib.hid hS
  clear hS
  obtain rfl | rfl | rfl | rfl | rfl | rfl : m = 0 ∨ m = 1 ∨ m = 2 ∨ m = 3 ∨ m = 4 ∨ m = 5 := by omega
  · go_wp2_with ((with_reducible refine wp_store_o HS.out 9 (s.r A) { s with pc := (s.pc + 4) % 4294967296, epc := s.r A } ?_ (.int .u32 s.epc) ?_ ?_ ?_ ?_); (rfl); (rfl); (kernel_rfl); (kernel_rfl))
    intro W5 hS
    clear HS
    have HS := Lib.hid hS
    clear hS
    have HF := Lib.hid (HS.out.r.set (sc_ok { s with pc := (s.pc + 4) % 4294967296, epc := s.r A }))
    have HG := Lib.hid (below_setRow HS.out.b (show w.heap.size ≤ w.heap.size + 1 by omega) (sc { s with pc := (s.pc + 4) % 4294967296, epc := s.r A }))
    go_wp2_with (first | ((with_reducible refine wp_load_R rowS HS.out.o ?_ ?_); (kernel_rfl)) | ((with_reducible refine wp_store_R (sc { s with pc := (s.pc + 4) % 4294967296, epc := s.r A }) rowS ⟨HS.out.r, sc_ok _⟩ ?_ ?_ ?_); (kernel_rfl); (kernel_rfl)))
    exact bodyPost_ret (res_R rowS (fn := Tryd.f22) rfl _ HF.out (by kernel_rfl)) rfl ⟨by rw [hR.out.2]; simp [doneS, hR.out.1, behindS, toS, takenS, hasMade, madeS, setS, upd], HG.out⟩
  · go_wp2_with ((with_reducible refine wp_store_o HS.out 10 (s.r A) { s with pc := (s.pc + 4) % 4294967296, cs := s.r A } ?_ (.int .u32 s.cs) ?_ ?_ ?_ ?_); (rfl); (rfl); (kernel_rfl); (kernel_rfl))
    intro W5 hS
    clear HS
    have HS := Lib.hid hS
    clear hS
    have HF := Lib.hid (HS.out.r.set (sc_ok { s with pc := (s.pc + 4) % 4294967296, cs := s.r A }))
    have HG := Lib.hid (below_setRow HS.out.b (show w.heap.size ≤ w.heap.size + 1 by omega) (sc { s with pc := (s.pc + 4) % 4294967296, cs := s.r A }))
    go_wp2_with (first | ((with_reducible refine wp_load_R rowS HS.out.o ?_ ?_); (kernel_rfl)) | ((with_reducible refine wp_store_R (sc { s with pc := (s.pc + 4) % 4294967296, cs := s.r A }) rowS ⟨HS.out.r, sc_ok _⟩ ?_ ?_ ?_); (kernel_rfl); (kernel_rfl)))
    exact bodyPost_ret (res_R rowS (fn := Tryd.f22) rfl _ HF.out (by kernel_rfl)) rfl ⟨by rw [hR.out.2]; simp [doneS, hR.out.1, behindS, toS, takenS, hasMade, madeS, setS, upd], HG.out⟩
  · go_wp2_with ((with_reducible refine wp_store_o HS.out 11 (s.r A) { s with pc := (s.pc + 4) % 4294967296, vec := s.r A } ?_ (.int .u32 s.vec) ?_ ?_ ?_ ?_); (rfl); (rfl); (kernel_rfl); (kernel_rfl))
    intro W5 hS
    clear HS
    have HS := Lib.hid hS
    clear hS
    have HF := Lib.hid (HS.out.r.set (sc_ok { s with pc := (s.pc + 4) % 4294967296, vec := s.r A }))
    have HG := Lib.hid (below_setRow HS.out.b (show w.heap.size ≤ w.heap.size + 1 by omega) (sc { s with pc := (s.pc + 4) % 4294967296, vec := s.r A }))
    go_wp2_with (first | ((with_reducible refine wp_load_R rowS HS.out.o ?_ ?_); (kernel_rfl)) | ((with_reducible refine wp_store_R (sc { s with pc := (s.pc + 4) % 4294967296, vec := s.r A }) rowS ⟨HS.out.r, sc_ok _⟩ ?_ ?_ ?_); (kernel_rfl); (kernel_rfl)))
    exact bodyPost_ret (res_R rowS (fn := Tryd.f22) rfl _ HF.out (by kernel_rfl)) rfl ⟨by rw [hR.out.2]; simp [doneS, hR.out.1, behindS, toS, takenS, hasMade, madeS, setS, upd], HG.out⟩
  · go_wp2_with ((with_reducible refine wp_store_o HS.out 12 (s.r A) { s with pc := (s.pc + 4) % 4294967296, tab := s.r A } ?_ (.int .u32 s.tab) ?_ ?_ ?_ ?_); (rfl); (rfl); (kernel_rfl); (kernel_rfl))
    intro W5 hS
    clear HS
    have HS := Lib.hid hS
    clear hS
    have HF := Lib.hid (HS.out.r.set (sc_ok { s with pc := (s.pc + 4) % 4294967296, tab := s.r A }))
    have HG := Lib.hid (below_setRow HS.out.b (show w.heap.size ≤ w.heap.size + 1 by omega) (sc { s with pc := (s.pc + 4) % 4294967296, tab := s.r A }))
    go_wp2_with (first | ((with_reducible refine wp_load_R rowS HS.out.o ?_ ?_); (kernel_rfl)) | ((with_reducible refine wp_store_R (sc { s with pc := (s.pc + 4) % 4294967296, tab := s.r A }) rowS ⟨HS.out.r, sc_ok _⟩ ?_ ?_ ?_); (kernel_rfl); (kernel_rfl)))
    exact bodyPost_ret (res_R rowS (fn := Tryd.f22) rfl _ HF.out (by kernel_rfl)) rfl ⟨by rw [hR.out.2]; simp [doneS, hR.out.1, behindS, toS, takenS, hasMade, madeS, setS, upd], HG.out⟩
  · have hr0 := (hs.r A).1
    have hr1 := (hs.r A).2
    go_wp2_with ((with_reducible refine wp_store_ob HS.out 14 (s.r A / 2 % 2 == 1) { s with pc := (s.pc + 4) % 4294967296, pv := (s.r A / 2 % 2 == 1) } ?_ (.bool s.pv) ?_ ?_ ?_ ?_); (rfl); (rfl); (kernel_rfl); (kernel_rfl))
    intro W5 hS
    clear HS
    have HS := Lib.hid hS
    clear hS
    go_wp2_with ((with_reducible refine wp_store_ob HS.out 15 (s.r A / 4 % 2 == 1) { s with pc := (s.pc + 4) % 4294967296, pv := (s.r A / 2 % 2 == 1), en := (s.r A / 4 % 2 == 1) } ?_ (.bool s.en) ?_ ?_ ?_ ?_); (rfl); (rfl); (kernel_rfl); (kernel_rfl))
    intro W5 hS
    clear HS
    have HS := Lib.hid hS
    clear hS
    have HF := Lib.hid (HS.out.r.set (sc_ok { s with pc := (s.pc + 4) % 4294967296, pv := (s.r A / 2 % 2 == 1), en := (s.r A / 4 % 2 == 1) }))
    have HG := Lib.hid (below_setRow HS.out.b (show w.heap.size ≤ w.heap.size + 1 by omega) (sc { s with pc := (s.pc + 4) % 4294967296, pv := (s.r A / 2 % 2 == 1), en := (s.r A / 4 % 2 == 1) }))
    go_wp2_with (first | ((with_reducible refine wp_load_R rowS HS.out.o ?_ ?_); (kernel_rfl)) | ((with_reducible refine wp_store_R (sc { s with pc := (s.pc + 4) % 4294967296, pv := (s.r A / 2 % 2 == 1), en := (s.r A / 4 % 2 == 1) }) rowS ⟨HS.out.r, sc_ok _⟩ ?_ ?_ ?_); (kernel_rfl); (kernel_rfl)))
    exact bodyPost_ret (res_R rowS (fn := Tryd.f22) rfl _ HF.out (by kernel_rfl)) rfl ⟨by rw [hR.out.2]; simp [doneS, hR.out.1, behindS, toS, takenS, hasMade, madeS, setS, upd, show ∀ a b : Int, (a == b) = decide (a = b) from fun a b => rfl], HG.out⟩
  · have HF := Lib.hid (HS.out.r.set (sc_ok { s with pc := (s.pc + 4) % 4294967296 }))
    have HG := Lib.hid (below_setRow HS.out.b (show w.heap.size ≤ w.heap.size + 1 by omega) (sc { s with pc := (s.pc + 4) % 4294967296 }))
    go_wp2_with (first | ((with_reducible refine wp_load_R rowS HS.out.o ?_ ?_); (kernel_rfl)) | ((with_reducible refine wp_store_R (sc { s with pc := (s.pc + 4) % 4294967296 }) rowS ⟨HS.out.r, sc_ok _⟩ ?_ ?_ ?_); (kernel_rfl); (kernel_rfl)))
    exact bodyPost_ret (res_R rowS (fn := Tryd.f22) rfl _ HF.out (by kernel_rfl)) rfl ⟨by rw [hR.out.2]; simp [doneS, hR.out.1, behindS, toS, takenS, hasMade, madeS, setS, upd], HG.out⟩
end Go.Proofs.YthjdfneibogcgaaDoor
