/-
  Layer 10: the document's Done: a walk (more). Written by gen_rdone.py.
-/
import Derived.Test.YthjdfneibogcgaaDoorDn
namespace Go.Proofs.YthjdfneibogcgaaDoor
open Go.RowKit
set_option maxHeartbeats 16000000
set_option linter.unusedVariables false
set_option linter.unusedSimpArgs false

set_option maxRecDepth 100000 in
theorem RDone_more (s : Sta) (hs : s.Ok) (x told op : Int) (A B : Nat) (m : Int) (hA : A < 8) (hB : B < 8) (hm0 : -32768 ≤ m) (hm1 : m ≤ 32767) (ht : W32 told) (hop : op = 13 ∨ op = 15 ∨ op = 17 ∨ op = 18 ∨ op = 19 ∨ op = 20 ∨ op = 21 ∨ op = 22) (w : World) (P : Wnt) (hk : P.kind ≠ 1) (R : Sta) (hR : Hid (causeS s ⟨op, A, B, m⟩ = 0 ∧ R = doneS s ⟨op, A, B, m⟩ told))
    (HP : Hid (∀ W, Calls Tryd.prog 21 #[.agg (sc s), .int .u32 x] W fun e w' => e = .returned (.agg (wnt P)) ∧ Below W.heap.size W w'))
    (HD : Hid (∀ W, Calls Tryd.prog 35 #[.int .u32 x] W fun e w' => e = .returned (.tuple #[.agg (ic ⟨op, A, B, m⟩), .bool true]) ∧ Below W.heap.size W w')) : Calls Tryd.prog 22 #[.agg (sc s), .int .u32 x, .int .u32 told] w fun e w' => e = .returned (.agg (sc R)) ∧ Below w.heap.size w w' := by
  have HIM := Lib.hid (fun W => RImm_any op A B m hm0 hm1 W)
  have HAD := Lib.hid (fun W => RAdd_any s.pc 4 hs.pc ⟨by decide, by decide⟩ W)
  have HML := Lib.hid (fun W => RMul_any 4 (immW m) ⟨by decide, by decide⟩ (immW_w32 m) W)
  have HTO : Hid (∀ W, Calls Tryd.prog 36 #[.int .u32 s.pc, .int .u32 (4 * immW m % 4294967296)] W fun e w' => e = .returned (.int .u32 ((s.pc + 4 * immW m) % 4294967296)) ∧ W = w') := Lib.hid (fun W => by
    have h := RAdd_any s.pc (4 * immW m % 4294967296) hs.pc ⟨by omega, by omega⟩ W
    rw [show (s.pc + 4 * immW m % 4294967296) % 4294967296 = (s.pc + 4 * immW m) % 4294967296 by omega] at h
    exact h)
  obtain ⟨W, HW⟩ : ∃ W, Hid (W = (w.alloc (.cells (sc s) 25)).alloc (.cells #[Value.int .u32 0, Value.int .u32 0, Value.int .u32 0, Value.int .u32 0, Value.int .u32 0, Value.int .u32 0, Value.int .u32 0, Value.int .u32 0, Value.int .u32 0, Value.int .u32 0, Value.int .u32 0, Value.int .u32 0, Value.int .u32 0, Value.bool false, Value.bool false, Value.bool false] 25)) := ⟨_, rfl⟩
  have HBe : Hid (Below w.heap.size w W) := Lib.hid (by rw [HW.out]; exact (bel1 w _).alloc (by simp) _)
  have HLt : Hid (w.heap.size + 1 < W.heap.size) := Lib.hid (by rw [HW.out]; simp)
  have RA : Hid (Rf 25 16 W w.heap.size (sc s)) := Lib.hid (by rw [HW.out]; exact (rs_new w s).alloc _)
  have RB : Hid (Rf 25 16 W (w.heap.size + 1) (sc S0)) := Lib.hid (by rw [HW.out]; exact rs_newZ _ _ (by simp))
  go_enter Tryd.func22, Tryd.ntmps22
  go_wp2_with (first | (rw [← HW.out]) | ((with_reducible refine wp_load_R rowS RA.out ?_ ?_); (kernel_rfl)))
  refine (HP.out _).mono ?_
  rintro e w1 ⟨rfl, b1⟩
  obtain ⟨W1, HW1⟩ : ∃ W1, Hid (W1 = w1.alloc (.cells (wnt P) 42)) := ⟨_, rfl⟩
  have RA1 : Hid (Rf 25 16 W1 w.heap.size (sc s)) := Lib.hid (by rw [HW1.out]; exact (RA.out.below b1).alloc _)
  have RB1 : Hid (Rf 25 16 W1 (w.heap.size + 1) (sc S0)) := Lib.hid (by rw [HW1.out]; exact (RB.out.below b1).alloc _)
  have RW1 : Hid (Rf 42 6 W1 w1.heap.size (wnt P)) := Lib.hid (by rw [HW1.out]; exact (wnt_ok P).new 42 w1)
  have HB1 : Hid (Below w.heap.size w W1) := Lib.hid (by rw [HW1.out]; exact (HBe.out.trans (b1.mono HBe.out.size)).alloc (HBe.out.trans (b1.mono HBe.out.size)).size _)
  have HL1 : Hid (w.heap.size + 1 < W1.heap.size) := Lib.hid (by rw [HW1.out, World.size_alloc]; have := b1.size; have := HLt.out; omega)
  have qw := RW1.out.w6
  clear b1 HBe HLt HP RA RB
  go_wp2_with (first | ((with_reducible refine wp_store_Rn (wnt P) rowW ?_ ?_ ?_ ?_); (exact ⟨rfl, wnt_ok _⟩); (kernel_rfl); (kernel_rfl); (rw [← HW1.out])))
  refine (HD.out _).mono ?_
  rintro e w2 ⟨rfl, b2⟩
  clear qw RW1
  obtain ⟨W2, HW2⟩ : ∃ W2, Hid (W2 = w2.alloc (.cells (ic ⟨op, A, B, m⟩) 56)) := ⟨_, rfl⟩
  have RA2 : Hid (Rf 25 16 W2 w.heap.size (sc s)) := Lib.hid (by rw [HW2.out]; exact (RA1.out.below b2).alloc _)
  have RB2 : Hid (Rf 25 16 W2 (w.heap.size + 1) (sc S0)) := Lib.hid (by rw [HW2.out]; exact (RB1.out.below b2).alloc _)
  have RI2 : Hid (Rf 56 4 W2 w2.heap.size (ic ⟨op, A, B, m⟩)) := Lib.hid (by rw [HW2.out]; exact (ins_ok ⟨op, A, B, m⟩).new 56 w2)
  have HB2 : Hid (Below w.heap.size w W2) := Lib.hid (by rw [HW2.out]; exact (HB1.out.trans (b2.mono HB1.out.size)).alloc (HB1.out.trans (b2.mono HB1.out.size)).size _)
  have HL2 : Hid (w.heap.size + 1 < w2.heap.size) := Lib.hid (by have := b2.size; have := HL1.out; omega)
  have HS2 : Hid (W2.heap.size = w2.heap.size + 1) := Lib.hid (by rw [HW2.out, World.size_alloc])
  clear b2 HL1 HB1 RA1 RB1
  have qi := RI2.out.i
  have qa := RA2.out.sr hA
  have qb := RA2.out.sr hB
  have hA' : (A : Int) < 8 := by omega
  have hB' : (B : Int) < 8 := by omega
  go_wp2_with (first | ((with_reducible refine wp_store_Rn (ic ⟨op, A, B, m⟩) rowI ?_ ?_ ?_ ?_); (exact ⟨rfl, ins_ok _⟩); (kernel_rfl); (kernel_rfl); (rw [← HW2.out])))
  go_region
  obtain ⟨W3, HW3⟩ : ∃ W3, Hid (W3 = (W2.alloc (.cells #[Value.int .u32 0, Value.int .u32 0, Value.int .u32 0, Value.int .u32 0, Value.int .u32 0, Value.int .u32 0, Value.int .u32 0, Value.int .u32 0, Value.int .u32 0, Value.int .u32 0, Value.int .u32 0, Value.int .u32 0, Value.int .u32 0, Value.bool false, Value.bool false, Value.bool false] 25)).drew.setRow (w2.heap.size + 1) (sc s)) := ⟨_, rfl⟩
  have HZ := Lib.hid (rs_newZ W2 (w2.heap.size + 1) HS2.out).drew
  have HS : Hid (Dn w s ⟨op, A, B, m⟩ w2.heap.size (w2.heap.size + 1) s W3) := Lib.hid (by
    rw [HW3.out]
    have h2 := HL2.out; have h3 := HS2.out
    exact ⟨⟨(RA2.out.alloc _).drew.setOther (by omega) _, (RI2.out.alloc _).drew.setOther (by omega) _⟩, (RB2.out.alloc _).drew.setOther (by omega) _, HZ.out.set (sc_ok s), below_setRow ((HB2.out).alloc HB2.out.size _).drew (by omega) _, by omega, by omega⟩)
  have RA3 := Lib.hid RA2.out.drew
  have e2 := HS2.out
  clear RA2 RB2 RI2 HB2 HL2 qi qa qb
  have qs := HS.out.l.a.s
  go_wp2_with (first | ((with_reducible refine wp_load_R rowS RA3.out ?_ ?_); (kernel_rfl)) | ((with_reducible refine wp_store_R (sc s) rowS ⟨HZ.out, sc_ok _⟩ ?_ ?_ ?_); (kernel_rfl); (kernel_rfl); (rw [← HW3.out])))
  refine (HAD.out _).mono ?_
  rintro e w4 ⟨rfl, rfl⟩
  clear RA3 HZ e2 HS2 HW HW1 HW2 HD qs
  go_wp2_with ((with_reducible refine wp_store_o HS.out 8 ((s.pc + 4) % 4294967296) { s with pc := (s.pc + 4) % 4294967296 } ?_ (.int .u32 s.pc) ?_ ?_ ?_ ?_); (rfl); (rfl); (kernel_rfl); (kernel_rfl))
  intro W4 hS
  clear HS HW3
  have qs := hS.l.a.s
  have qi := hS.l.i.i
  have HS := Lib.hid hS
  clear hS
  rcases hop with rfl | rfl | rfl | rfl | rfl | rfl | rfl | rfl
  · have hr0 := ht.1
    have hr1 := ht.2
    go_wp2_with ((with_reducible refine wp_store_o HS.out A (told) (upd { s with pc := (s.pc + 4) % 4294967296 } A (told)) ?_ (.int .u32 (s.r A)) ?_ ?_ ?_ ?_); (exact sc_upd _ _ hA); (exact sc_reg _ hA); (kernel_rfl); (kernel_rfl))
    intro W5 hS
    clear HS
    have HS := Lib.hid hS
    clear hS
    have HF := Lib.hid (HS.out.r.set (sc_ok (upd { s with pc := (s.pc + 4) % 4294967296 } A (told))))
    have HG := Lib.hid (below_setRow HS.out.b (show w.heap.size ≤ w.heap.size + 1 by omega) (sc (upd { s with pc := (s.pc + 4) % 4294967296 } A (told))))
    go_wp2_with (first | ((with_reducible refine wp_load_R rowS HS.out.o ?_ ?_); (kernel_rfl)) | ((with_reducible refine wp_store_R (sc (upd { s with pc := (s.pc + 4) % 4294967296 } A (told))) rowS ⟨HS.out.r, sc_ok _⟩ ?_ ?_ ?_); (kernel_rfl); (kernel_rfl)))
    exact bodyPost_ret (res_R rowS (fn := Tryd.f22) rfl _ HF.out (by kernel_rfl)) rfl ⟨by rw [hR.out.2]; simp [doneS, hR.out.1, behindS, toS, takenS, hasMade, madeS, setS, upd], HG.out⟩
  · have hr0 := ht.1
    have hr1 := ht.2
    go_wp2_with ((with_reducible refine wp_store_o HS.out A (told % 256) (upd { s with pc := (s.pc + 4) % 4294967296 } A (told % 256)) ?_ (.int .u32 (s.r A)) ?_ ?_ ?_ ?_); (exact sc_upd _ _ hA); (exact sc_reg _ hA); (kernel_rfl); (kernel_rfl))
    intro W5 hS
    clear HS
    have HS := Lib.hid hS
    clear hS
    have HF := Lib.hid (HS.out.r.set (sc_ok (upd { s with pc := (s.pc + 4) % 4294967296 } A (told % 256))))
    have HG := Lib.hid (below_setRow HS.out.b (show w.heap.size ≤ w.heap.size + 1 by omega) (sc (upd { s with pc := (s.pc + 4) % 4294967296 } A (told % 256))))
    go_wp2_with (first | ((with_reducible refine wp_load_R rowS HS.out.o ?_ ?_); (kernel_rfl)) | ((with_reducible refine wp_store_R (sc (upd { s with pc := (s.pc + 4) % 4294967296 } A (told % 256))) rowS ⟨HS.out.r, sc_ok _⟩ ?_ ?_ ?_); (kernel_rfl); (kernel_rfl)))
    exact bodyPost_ret (res_R rowS (fn := Tryd.f22) rfl _ HF.out (by kernel_rfl)) rfl ⟨by rw [hR.out.2]; simp [doneS, hR.out.1, behindS, toS, takenS, hasMade, madeS, setS, upd], HG.out⟩
  · by_cases c1 : s.r A = s.r B
    · have C1 := Lib.hid c1
      go_wp2
      have hK0 := HS.out.drew
      refine wp_region_held_drew (S := Dl s ⟨17, A, B, m⟩ w.heap.size w2.heap.size) (by kernel_rfl) hK0.l (fun _ => ?_)
      have hS := hK0
      refine take_d (i := 0) (d := some 79) (v := ?_) rfl rfl (by kernel_rfl) (by kernel_rfl) (by kernel_rfl) (fun _ _ _ h => h) (.inl ⟨by rfl, ?_⟩) hS.l ?_
      rotate_left
      · intro W hW
        go_simp
        try with_reducible rfl
      try simp only [Act.put, List.setIfInBounds_toArray, List.set_cons_zero, List.set_cons_succ]
      refine take_d (i := 1) (d := some 80) (v := ?_) rfl rfl (by kernel_rfl) (by kernel_rfl) (by kernel_rfl) (fun _ _ _ h => h) (.inl ⟨by rfl, ?_⟩) hS.l ?_
      rotate_left
      · intro W hW
        have qa := hW.a.s; have qi := hW.i.i
        go_simp
        try with_reducible rfl
      try simp only [Act.put, List.setIfInBounds_toArray, List.set_cons_zero, List.set_cons_succ]
      refine take_d (i := 2) (d := some 81) (v := .agg (ic ⟨17, A, B, m⟩)) rfl rfl (by kernel_rfl) (by kernel_rfl) (by kernel_rfl) (fun _ _ _ h => h) (y_R rowI (by kernel_rfl) rfl rfl (fun W hW => hW.i)) hS.l ?_
      try simp only [Act.put, List.setIfInBounds_toArray, List.set_cons_zero, List.set_cons_succ]
      refine wpAnyH_all (rs := [3]) (by kernel_rfl) (by simp) (fun i hi => ?_)
      simp only [List.mem_cons, List.not_mem_nil, or_false] at hi
      subst hi
      refine .inl ?_
      go_simp
      refine (HIM.out _).mono ?_
      rintro e wc ⟨rfl, hb⟩
      have hS := hS.after hb
      clear hb
      refine ⟨hS.l, ?_⟩
      try simp only [Act.put, List.setIfInBounds_toArray, List.set_cons_zero, List.set_cons_succ]
      refine wpAnyH_all (rs := [4]) (by kernel_rfl) (by simp) (fun i hi => ?_)
      simp only [List.mem_cons, List.not_mem_nil, or_false] at hi
      subst hi
      refine .inl ?_
      go_simp
      refine (HML.out _).mono ?_
      rintro e wc ⟨rfl, rfl⟩
      refine ⟨hS.l, ?_⟩
      try simp only [Act.put, List.setIfInBounds_toArray, List.set_cons_zero, List.set_cons_succ]
      refine wpAnyH_all (rs := [5]) (by kernel_rfl) (by simp) (fun i hi => ?_)
      simp only [List.mem_cons, List.not_mem_nil, or_false] at hi
      subst hi
      refine .inl ?_
      go_simp
      refine (HTO.out _).mono ?_
      rintro e wc ⟨rfl, rfl⟩
      refine ⟨hS.l, ?_⟩
      try simp only [Act.put, List.setIfInBounds_toArray, List.set_cons_zero, List.set_cons_succ]
      refine take_d (i := 6) (d := some 85) (v := ?_) rfl rfl (by kernel_rfl) (by kernel_rfl) (by kernel_rfl) (fun _ _ _ h => h) (.inl ⟨by rfl, ?_⟩) hS.l ?_
      rotate_left
      · intro W hW
        go_simp
        try with_reducible rfl
      try simp only [Act.put, List.setIfInBounds_toArray, List.set_cons_zero, List.set_cons_succ]
      refine wpAnyH_all (rs := [7]) (by kernel_rfl) (by simp) (fun i hi => ?_)
      simp only [List.mem_cons, List.not_mem_nil, or_false] at hi
      subst hi
      refine .inl ?_
      refine o_store_o (d := none) hS 8 ((s.pc + 4 * immW m) % 4294967296) { s with pc := (s.pc + 4 * immW m) % 4294967296 } rfl (.int .u32 ((s.pc + 4) % 4294967296)) rfl rfl rfl rfl rfl ?_
      clear hS
      intro WS hS
      refine ⟨hS.l, ?_⟩
      try simp only [Act.put, List.setIfInBounds_toArray, List.set_cons_zero, List.set_cons_succ]
      refine wpAnyH_done (by kernel_rfl) ?_ _
      clear qs qi HS
      have qs := hS.l.a.s
      have qi := hS.l.i.i
      have HS := Lib.hid hS
      clear hS hK0
      have HF := Lib.hid (HS.out.r.set (sc_ok { s with pc := (s.pc + 4 * immW m) % 4294967296 }))
      have HG := Lib.hid (below_setRow HS.out.b (show w.heap.size ≤ w.heap.size + 1 by omega) (sc { s with pc := (s.pc + 4 * immW m) % 4294967296 }))
      go_wp2_with (first | ((with_reducible refine wp_load_R rowS HS.out.o ?_ ?_); (kernel_rfl)) | ((with_reducible refine wp_store_R (sc { s with pc := (s.pc + 4 * immW m) % 4294967296 }) rowS ⟨HS.out.r, sc_ok _⟩ ?_ ?_ ?_); (kernel_rfl); (kernel_rfl)))
      exact bodyPost_ret (res_R rowS (fn := Tryd.f22) rfl _ HF.out (by kernel_rfl)) rfl ⟨by rw [hR.out.2]; simp [doneS, hR.out.1, behindS, toS, takenS, hasMade, madeS, setS, upd, (show s.r A = s.r B by have := C1.out; omega)], HG.out⟩
    · have C1 := Lib.hid c1
      have HF := Lib.hid (HS.out.r.set (sc_ok { s with pc := (s.pc + 4) % 4294967296 }))
      have HG := Lib.hid (below_setRow HS.out.b (show w.heap.size ≤ w.heap.size + 1 by omega) (sc { s with pc := (s.pc + 4) % 4294967296 }))
      go_wp2_with (first | ((with_reducible refine wp_load_R rowS HS.out.o ?_ ?_); (kernel_rfl)) | ((with_reducible refine wp_store_R (sc { s with pc := (s.pc + 4) % 4294967296 }) rowS ⟨HS.out.r, sc_ok _⟩ ?_ ?_ ?_); (kernel_rfl); (kernel_rfl)))
      exact bodyPost_ret (res_R rowS (fn := Tryd.f22) rfl _ HF.out (by kernel_rfl)) rfl ⟨by rw [hR.out.2]; simp [doneS, hR.out.1, behindS, toS, takenS, hasMade, madeS, setS, upd, (show ¬ (s.r A = s.r B) by have := C1.out; omega)], HG.out⟩
  · by_cases c1 : ¬ s.r A = s.r B
    · have C1 := Lib.hid c1
      go_wp2
      have hK0 := HS.out.drew
      refine wp_region_held_drew (S := Dl s ⟨18, A, B, m⟩ w.heap.size w2.heap.size) (by kernel_rfl) hK0.l (fun _ => ?_)
      have hS := hK0
      refine take_d (i := 0) (d := some 79) (v := ?_) rfl rfl (by kernel_rfl) (by kernel_rfl) (by kernel_rfl) (fun _ _ _ h => h) (.inl ⟨by rfl, ?_⟩) hS.l ?_
      rotate_left
      · intro W hW
        go_simp
        try with_reducible rfl
      try simp only [Act.put, List.setIfInBounds_toArray, List.set_cons_zero, List.set_cons_succ]
      refine take_d (i := 1) (d := some 80) (v := ?_) rfl rfl (by kernel_rfl) (by kernel_rfl) (by kernel_rfl) (fun _ _ _ h => h) (.inl ⟨by rfl, ?_⟩) hS.l ?_
      rotate_left
      · intro W hW
        have qa := hW.a.s; have qi := hW.i.i
        go_simp
        try with_reducible rfl
      try simp only [Act.put, List.setIfInBounds_toArray, List.set_cons_zero, List.set_cons_succ]
      refine take_d (i := 2) (d := some 81) (v := .agg (ic ⟨18, A, B, m⟩)) rfl rfl (by kernel_rfl) (by kernel_rfl) (by kernel_rfl) (fun _ _ _ h => h) (y_R rowI (by kernel_rfl) rfl rfl (fun W hW => hW.i)) hS.l ?_
      try simp only [Act.put, List.setIfInBounds_toArray, List.set_cons_zero, List.set_cons_succ]
      refine wpAnyH_all (rs := [3]) (by kernel_rfl) (by simp) (fun i hi => ?_)
      simp only [List.mem_cons, List.not_mem_nil, or_false] at hi
      subst hi
      refine .inl ?_
      go_simp
      refine (HIM.out _).mono ?_
      rintro e wc ⟨rfl, hb⟩
      have hS := hS.after hb
      clear hb
      refine ⟨hS.l, ?_⟩
      try simp only [Act.put, List.setIfInBounds_toArray, List.set_cons_zero, List.set_cons_succ]
      refine wpAnyH_all (rs := [4]) (by kernel_rfl) (by simp) (fun i hi => ?_)
      simp only [List.mem_cons, List.not_mem_nil, or_false] at hi
      subst hi
      refine .inl ?_
      go_simp
      refine (HML.out _).mono ?_
      rintro e wc ⟨rfl, rfl⟩
      refine ⟨hS.l, ?_⟩
      try simp only [Act.put, List.setIfInBounds_toArray, List.set_cons_zero, List.set_cons_succ]
      refine wpAnyH_all (rs := [5]) (by kernel_rfl) (by simp) (fun i hi => ?_)
      simp only [List.mem_cons, List.not_mem_nil, or_false] at hi
      subst hi
      refine .inl ?_
      go_simp
      refine (HTO.out _).mono ?_
      rintro e wc ⟨rfl, rfl⟩
      refine ⟨hS.l, ?_⟩
      try simp only [Act.put, List.setIfInBounds_toArray, List.set_cons_zero, List.set_cons_succ]
      refine take_d (i := 6) (d := some 85) (v := ?_) rfl rfl (by kernel_rfl) (by kernel_rfl) (by kernel_rfl) (fun _ _ _ h => h) (.inl ⟨by rfl, ?_⟩) hS.l ?_
      rotate_left
      · intro W hW
        go_simp
        try with_reducible rfl
      try simp only [Act.put, List.setIfInBounds_toArray, List.set_cons_zero, List.set_cons_succ]
      refine wpAnyH_all (rs := [7]) (by kernel_rfl) (by simp) (fun i hi => ?_)
      simp only [List.mem_cons, List.not_mem_nil, or_false] at hi
      subst hi
      refine .inl ?_
      refine o_store_o (d := none) hS 8 ((s.pc + 4 * immW m) % 4294967296) { s with pc := (s.pc + 4 * immW m) % 4294967296 } rfl (.int .u32 ((s.pc + 4) % 4294967296)) rfl rfl rfl rfl rfl ?_
      clear hS
      intro WS hS
      refine ⟨hS.l, ?_⟩
      try simp only [Act.put, List.setIfInBounds_toArray, List.set_cons_zero, List.set_cons_succ]
      refine wpAnyH_done (by kernel_rfl) ?_ _
      clear qs qi HS
      have qs := hS.l.a.s
      have qi := hS.l.i.i
      have HS := Lib.hid hS
      clear hS hK0
      have HF := Lib.hid (HS.out.r.set (sc_ok { s with pc := (s.pc + 4 * immW m) % 4294967296 }))
      have HG := Lib.hid (below_setRow HS.out.b (show w.heap.size ≤ w.heap.size + 1 by omega) (sc { s with pc := (s.pc + 4 * immW m) % 4294967296 }))
      go_wp2_with (first | ((with_reducible refine wp_load_R rowS HS.out.o ?_ ?_); (kernel_rfl)) | ((with_reducible refine wp_store_R (sc { s with pc := (s.pc + 4 * immW m) % 4294967296 }) rowS ⟨HS.out.r, sc_ok _⟩ ?_ ?_ ?_); (kernel_rfl); (kernel_rfl)))
      exact bodyPost_ret (res_R rowS (fn := Tryd.f22) rfl _ HF.out (by kernel_rfl)) rfl ⟨by rw [hR.out.2]; simp [doneS, hR.out.1, behindS, toS, takenS, hasMade, madeS, setS, upd, (show ¬ s.r A = s.r B by have := C1.out; omega)], HG.out⟩
    · have C1 := Lib.hid c1
      have HF := Lib.hid (HS.out.r.set (sc_ok { s with pc := (s.pc + 4) % 4294967296 }))
      have HG := Lib.hid (below_setRow HS.out.b (show w.heap.size ≤ w.heap.size + 1 by omega) (sc { s with pc := (s.pc + 4) % 4294967296 }))
      go_wp2_with (first | ((with_reducible refine wp_load_R rowS HS.out.o ?_ ?_); (kernel_rfl)) | ((with_reducible refine wp_store_R (sc { s with pc := (s.pc + 4) % 4294967296 }) rowS ⟨HS.out.r, sc_ok _⟩ ?_ ?_ ?_); (kernel_rfl); (kernel_rfl)))
      exact bodyPost_ret (res_R rowS (fn := Tryd.f22) rfl _ HF.out (by kernel_rfl)) rfl ⟨by rw [hR.out.2]; simp [doneS, hR.out.1, behindS, toS, takenS, hasMade, madeS, setS, upd, (show ¬ (¬ s.r A = s.r B) by have := C1.out; omega)], HG.out⟩
  · by_cases c1 : sgn (s.r A) < sgn (s.r B)
    · have C1 := Lib.hid c1
      go_wp2_with fail
      refine (RSign_any _ (hs.r A) _).mono ?_
      rintro e w5 ⟨rfl, rfl⟩
      go_wp2_with fail
      refine (RSign_any _ (hs.r B) _).mono ?_
      rintro e w5 ⟨rfl, rfl⟩
      go_wp2
      have hK0 := HS.out.drew
      refine wp_region_held_drew (S := Dl s ⟨19, A, B, m⟩ w.heap.size w2.heap.size) (by kernel_rfl) hK0.l (fun _ => ?_)
      have hS := hK0
      refine take_d (i := 0) (d := some 79) (v := ?_) rfl rfl (by kernel_rfl) (by kernel_rfl) (by kernel_rfl) (fun _ _ _ h => h) (.inl ⟨by rfl, ?_⟩) hS.l ?_
      rotate_left
      · intro W hW
        go_simp
        try with_reducible rfl
      try simp only [Act.put, List.setIfInBounds_toArray, List.set_cons_zero, List.set_cons_succ]
      refine take_d (i := 1) (d := some 80) (v := ?_) rfl rfl (by kernel_rfl) (by kernel_rfl) (by kernel_rfl) (fun _ _ _ h => h) (.inl ⟨by rfl, ?_⟩) hS.l ?_
      rotate_left
      · intro W hW
        have qa := hW.a.s; have qi := hW.i.i
        go_simp
        try with_reducible rfl
      try simp only [Act.put, List.setIfInBounds_toArray, List.set_cons_zero, List.set_cons_succ]
      refine take_d (i := 2) (d := some 81) (v := .agg (ic ⟨19, A, B, m⟩)) rfl rfl (by kernel_rfl) (by kernel_rfl) (by kernel_rfl) (fun _ _ _ h => h) (y_R rowI (by kernel_rfl) rfl rfl (fun W hW => hW.i)) hS.l ?_
      try simp only [Act.put, List.setIfInBounds_toArray, List.set_cons_zero, List.set_cons_succ]
      refine wpAnyH_all (rs := [3]) (by kernel_rfl) (by simp) (fun i hi => ?_)
      simp only [List.mem_cons, List.not_mem_nil, or_false] at hi
      subst hi
      refine .inl ?_
      go_simp
      refine (HIM.out _).mono ?_
      rintro e wc ⟨rfl, hb⟩
      have hS := hS.after hb
      clear hb
      refine ⟨hS.l, ?_⟩
      try simp only [Act.put, List.setIfInBounds_toArray, List.set_cons_zero, List.set_cons_succ]
      refine wpAnyH_all (rs := [4]) (by kernel_rfl) (by simp) (fun i hi => ?_)
      simp only [List.mem_cons, List.not_mem_nil, or_false] at hi
      subst hi
      refine .inl ?_
      go_simp
      refine (HML.out _).mono ?_
      rintro e wc ⟨rfl, rfl⟩
      refine ⟨hS.l, ?_⟩
      try simp only [Act.put, List.setIfInBounds_toArray, List.set_cons_zero, List.set_cons_succ]
      refine wpAnyH_all (rs := [5]) (by kernel_rfl) (by simp) (fun i hi => ?_)
      simp only [List.mem_cons, List.not_mem_nil, or_false] at hi
      subst hi
      refine .inl ?_
      go_simp
      refine (HTO.out _).mono ?_
      rintro e wc ⟨rfl, rfl⟩
      refine ⟨hS.l, ?_⟩
      try simp only [Act.put, List.setIfInBounds_toArray, List.set_cons_zero, List.set_cons_succ]
      refine take_d (i := 6) (d := some 85) (v := ?_) rfl rfl (by kernel_rfl) (by kernel_rfl) (by kernel_rfl) (fun _ _ _ h => h) (.inl ⟨by rfl, ?_⟩) hS.l ?_
      rotate_left
      · intro W hW
        go_simp
        try with_reducible rfl
      try simp only [Act.put, List.setIfInBounds_toArray, List.set_cons_zero, List.set_cons_succ]
      refine wpAnyH_all (rs := [7]) (by kernel_rfl) (by simp) (fun i hi => ?_)
      simp only [List.mem_cons, List.not_mem_nil, or_false] at hi
      subst hi
      refine .inl ?_
      refine o_store_o (d := none) hS 8 ((s.pc + 4 * immW m) % 4294967296) { s with pc := (s.pc + 4 * immW m) % 4294967296 } rfl (.int .u32 ((s.pc + 4) % 4294967296)) rfl rfl rfl rfl rfl ?_
      clear hS
      intro WS hS
      refine ⟨hS.l, ?_⟩
      try simp only [Act.put, List.setIfInBounds_toArray, List.set_cons_zero, List.set_cons_succ]
      refine wpAnyH_done (by kernel_rfl) ?_ _
      clear qs qi HS
      have qs := hS.l.a.s
      have qi := hS.l.i.i
      have HS := Lib.hid hS
      clear hS hK0
      have HF := Lib.hid (HS.out.r.set (sc_ok { s with pc := (s.pc + 4 * immW m) % 4294967296 }))
      have HG := Lib.hid (below_setRow HS.out.b (show w.heap.size ≤ w.heap.size + 1 by omega) (sc { s with pc := (s.pc + 4 * immW m) % 4294967296 }))
      go_wp2_with (first | ((with_reducible refine wp_load_R rowS HS.out.o ?_ ?_); (kernel_rfl)) | ((with_reducible refine wp_store_R (sc { s with pc := (s.pc + 4 * immW m) % 4294967296 }) rowS ⟨HS.out.r, sc_ok _⟩ ?_ ?_ ?_); (kernel_rfl); (kernel_rfl)))
      exact bodyPost_ret (res_R rowS (fn := Tryd.f22) rfl _ HF.out (by kernel_rfl)) rfl ⟨by rw [hR.out.2]; simp [doneS, hR.out.1, behindS, toS, takenS, hasMade, madeS, setS, upd, (show sgn (s.r A) < sgn (s.r B) by have := C1.out; omega)], HG.out⟩
    · have C1 := Lib.hid c1
      go_wp2_with fail
      refine (RSign_any _ (hs.r A) _).mono ?_
      rintro e w5 ⟨rfl, rfl⟩
      go_wp2_with fail
      refine (RSign_any _ (hs.r B) _).mono ?_
      rintro e w5 ⟨rfl, rfl⟩
      have HF := Lib.hid (HS.out.r.set (sc_ok { s with pc := (s.pc + 4) % 4294967296 }))
      have HG := Lib.hid (below_setRow HS.out.b (show w.heap.size ≤ w.heap.size + 1 by omega) (sc { s with pc := (s.pc + 4) % 4294967296 }))
      go_wp2_with (first | ((with_reducible refine wp_load_R rowS HS.out.o ?_ ?_); (kernel_rfl)) | ((with_reducible refine wp_store_R (sc { s with pc := (s.pc + 4) % 4294967296 }) rowS ⟨HS.out.r, sc_ok _⟩ ?_ ?_ ?_); (kernel_rfl); (kernel_rfl)))
      exact bodyPost_ret (res_R rowS (fn := Tryd.f22) rfl _ HF.out (by kernel_rfl)) rfl ⟨by rw [hR.out.2]; simp [doneS, hR.out.1, behindS, toS, takenS, hasMade, madeS, setS, upd, (show ¬ (sgn (s.r A) < sgn (s.r B)) by have := C1.out; omega)], HG.out⟩
  · go_wp2
    have hK0 := HS.out.drew
    refine wp_region_held_drew (S := Dl s ⟨20, A, B, m⟩ w.heap.size w2.heap.size) (by kernel_rfl) hK0.l (fun _ => ?_)
    have hS := hK0
    refine take_d (i := 0) (d := some 79) (v := ?_) rfl rfl (by kernel_rfl) (by kernel_rfl) (by kernel_rfl) (fun _ _ _ h => h) (.inl ⟨by rfl, ?_⟩) hS.l ?_
    rotate_left
    · intro W hW
      go_simp
      try with_reducible rfl
    try simp only [Act.put, List.setIfInBounds_toArray, List.set_cons_zero, List.set_cons_succ]
    refine take_d (i := 1) (d := some 80) (v := ?_) rfl rfl (by kernel_rfl) (by kernel_rfl) (by kernel_rfl) (fun _ _ _ h => h) (.inl ⟨by rfl, ?_⟩) hS.l ?_
    rotate_left
    · intro W hW
      have qa := hW.a.s; have qi := hW.i.i
      go_simp
      try with_reducible rfl
    try simp only [Act.put, List.setIfInBounds_toArray, List.set_cons_zero, List.set_cons_succ]
    refine take_d (i := 2) (d := some 81) (v := .agg (ic ⟨20, A, B, m⟩)) rfl rfl (by kernel_rfl) (by kernel_rfl) (by kernel_rfl) (fun _ _ _ h => h) (y_R rowI (by kernel_rfl) rfl rfl (fun W hW => hW.i)) hS.l ?_
    try simp only [Act.put, List.setIfInBounds_toArray, List.set_cons_zero, List.set_cons_succ]
    refine wpAnyH_all (rs := [3]) (by kernel_rfl) (by simp) (fun i hi => ?_)
    simp only [List.mem_cons, List.not_mem_nil, or_false] at hi
    subst hi
    refine .inl ?_
    go_simp
    refine (HIM.out _).mono ?_
    rintro e wc ⟨rfl, hb⟩
    have hS := hS.after hb
    clear hb
    refine ⟨hS.l, ?_⟩
    try simp only [Act.put, List.setIfInBounds_toArray, List.set_cons_zero, List.set_cons_succ]
    refine wpAnyH_all (rs := [4]) (by kernel_rfl) (by simp) (fun i hi => ?_)
    simp only [List.mem_cons, List.not_mem_nil, or_false] at hi
    subst hi
    refine .inl ?_
    go_simp
    refine (HML.out _).mono ?_
    rintro e wc ⟨rfl, rfl⟩
    refine ⟨hS.l, ?_⟩
    try simp only [Act.put, List.setIfInBounds_toArray, List.set_cons_zero, List.set_cons_succ]
    refine wpAnyH_all (rs := [5]) (by kernel_rfl) (by simp) (fun i hi => ?_)
    simp only [List.mem_cons, List.not_mem_nil, or_false] at hi
    subst hi
    refine .inl ?_
    go_simp
    refine (HTO.out _).mono ?_
    rintro e wc ⟨rfl, rfl⟩
    refine ⟨hS.l, ?_⟩
    try simp only [Act.put, List.setIfInBounds_toArray, List.set_cons_zero, List.set_cons_succ]
    refine take_d (i := 6) (d := some 85) (v := ?_) rfl rfl (by kernel_rfl) (by kernel_rfl) (by kernel_rfl) (fun _ _ _ h => h) (.inl ⟨by rfl, ?_⟩) hS.l ?_
    rotate_left
    · intro W hW
      go_simp
      try with_reducible rfl
    try simp only [Act.put, List.setIfInBounds_toArray, List.set_cons_zero, List.set_cons_succ]
    refine wpAnyH_all (rs := [7]) (by kernel_rfl) (by simp) (fun i hi => ?_)
    simp only [List.mem_cons, List.not_mem_nil, or_false] at hi
    subst hi
    refine .inl ?_
    refine o_store_o (d := none) hS 8 ((s.pc + 4 * immW m) % 4294967296) { s with pc := (s.pc + 4 * immW m) % 4294967296 } rfl (.int .u32 ((s.pc + 4) % 4294967296)) rfl rfl rfl rfl rfl ?_
    clear hS
    intro WS hS
    refine ⟨hS.l, ?_⟩
    try simp only [Act.put, List.setIfInBounds_toArray, List.set_cons_zero, List.set_cons_succ]
    refine wpAnyH_done (by kernel_rfl) ?_ _
    clear qs qi HS
    have qs := hS.l.a.s
    have qi := hS.l.i.i
    have HS := Lib.hid hS
    clear hS hK0
    go_wp2
    have hK0 := HS.out.drew
    refine wp_region_held_drew (S := Dl s ⟨20, A, B, m⟩ w.heap.size w2.heap.size) (by kernel_rfl) hK0.l (fun _ => ?_)
    have hS := hK0
    refine take_d (i := 0) (d := some 131) (v := ?_) rfl rfl (by kernel_rfl) (by kernel_rfl) (by kernel_rfl) (fun _ _ _ h => h) (.inl ⟨by rfl, ?_⟩) hS.l ?_
    rotate_left
    · intro W hW
      go_simp
      try with_reducible rfl
    try simp only [Act.put, List.setIfInBounds_toArray, List.set_cons_zero, List.set_cons_succ]
    refine take_d (i := 1) (d := some 132) (v := ?_) rfl rfl (by kernel_rfl) (by kernel_rfl) (by kernel_rfl) (fun _ _ _ h => h) (.inl ⟨by rfl, ?_⟩) hS.l ?_
    rotate_left
    · intro W hW
      have qa := hW.a.s; have qi := hW.i.i
      go_simp
      try with_reducible rfl
    try simp only [Act.put, List.setIfInBounds_toArray, List.set_cons_zero, List.set_cons_succ]
    refine take_d (i := 2) (d := some 133) (v := ?_) rfl rfl (by kernel_rfl) (by kernel_rfl) (by kernel_rfl) (fun _ _ _ h => h) (.inl ⟨by rfl, ?_⟩) hS.l ?_
    rotate_left
    · intro W hW
      go_simp
      try with_reducible rfl
    try simp only [Act.put, List.setIfInBounds_toArray, List.set_cons_zero, List.set_cons_succ]
    refine take_d (i := 3) (d := some 134) (v := ?_) rfl rfl (by kernel_rfl) (by kernel_rfl) (by kernel_rfl) (fun _ _ _ h => h) (.inl ⟨by rfl, ?_⟩) hS.l ?_
    rotate_left
    · intro W hW
      have qa := hW.a.s; have qi := hW.i.i
      go_simp
      try with_reducible rfl
    try simp only [Act.put, List.setIfInBounds_toArray, List.set_cons_zero, List.set_cons_succ]
    refine take_d (i := 5) (d := some 136) (v := ?_) rfl rfl (by kernel_rfl) (by kernel_rfl) (by kernel_rfl) (fun _ _ _ h => h) (.inl ⟨by rfl, ?_⟩) hS.l ?_
    rotate_left
    · intro W hW
      go_simp
      try with_reducible rfl
    try simp only [Act.put, List.setIfInBounds_toArray, List.set_cons_zero, List.set_cons_succ]
    refine wpAnyH_all (rs := [4]) (by kernel_rfl) (by simp) (fun i hi => ?_)
    simp only [List.mem_cons, List.not_mem_nil, or_false] at hi
    subst hi
    refine .inl ?_
    go_simp
    refine (HAD.out _).mono ?_
    rintro e wc ⟨rfl, rfl⟩
    refine ⟨hS.l, ?_⟩
    try simp only [Act.put, List.setIfInBounds_toArray, List.set_cons_zero, List.set_cons_succ]
    refine take_d (i := 6) (d := some 137) (v := ?_) rfl rfl (by kernel_rfl) (by kernel_rfl) (by kernel_rfl) (fun _ _ _ h => h) (.inl ⟨by rfl, ?_⟩) hS.l ?_
    rotate_left
    · intro W hW
      go_simp
      try with_reducible rfl
    try simp only [Act.put, List.setIfInBounds_toArray, List.set_cons_zero, List.set_cons_succ]
    refine wpAnyH_all (rs := [7]) (by kernel_rfl) (by simp) (fun i hi => ?_)
    simp only [List.mem_cons, List.not_mem_nil, or_false] at hi
    subst hi
    refine .inl ?_
    refine o_store_o (d := none) hS A ((s.pc + 4) % 4294967296) (upd { s with pc := (s.pc + 4 * immW m) % 4294967296 } A ((s.pc + 4) % 4294967296)) (sc_upd _ _ hA) (.int .u32 (s.r A)) (sc_reg _ hA) rfl rfl rfl rfl ?_
    clear hS
    intro WS hS
    refine ⟨hS.l, ?_⟩
    try simp only [Act.put, List.setIfInBounds_toArray, List.set_cons_zero, List.set_cons_succ]
    refine wpAnyH_done (by kernel_rfl) ?_ _
    clear qs qi HS
    have qs := hS.l.a.s
    have qi := hS.l.i.i
    have HS := Lib.hid hS
    clear hS hK0
    have HF := Lib.hid (HS.out.r.set (sc_ok (upd { s with pc := (s.pc + 4 * immW m) % 4294967296 } A ((s.pc + 4) % 4294967296))))
    have HG := Lib.hid (below_setRow HS.out.b (show w.heap.size ≤ w.heap.size + 1 by omega) (sc (upd { s with pc := (s.pc + 4 * immW m) % 4294967296 } A ((s.pc + 4) % 4294967296))))
    go_wp2_with (first | ((with_reducible refine wp_load_R rowS HS.out.o ?_ ?_); (kernel_rfl)) | ((with_reducible refine wp_store_R (sc (upd { s with pc := (s.pc + 4 * immW m) % 4294967296 } A ((s.pc + 4) % 4294967296))) rowS ⟨HS.out.r, sc_ok _⟩ ?_ ?_ ?_); (kernel_rfl); (kernel_rfl)))
    exact bodyPost_ret (res_R rowS (fn := Tryd.f22) rfl _ HF.out (by kernel_rfl)) rfl ⟨by rw [hR.out.2]; simp [doneS, hR.out.1, behindS, toS, takenS, hasMade, madeS, setS, upd], HG.out⟩
  · go_wp2
    have hK0 := HS.out.drew
    refine wp_region_held_drew (S := Dl s ⟨21, A, B, m⟩ w.heap.size w2.heap.size) (by kernel_rfl) hK0.l (fun _ => ?_)
    have hS := hK0
    refine take_d (i := 0) (d := some 131) (v := ?_) rfl rfl (by kernel_rfl) (by kernel_rfl) (by kernel_rfl) (fun _ _ _ h => h) (.inl ⟨by rfl, ?_⟩) hS.l ?_
    rotate_left
    · intro W hW
      go_simp
      try with_reducible rfl
    try simp only [Act.put, List.setIfInBounds_toArray, List.set_cons_zero, List.set_cons_succ]
    refine take_d (i := 1) (d := some 132) (v := ?_) rfl rfl (by kernel_rfl) (by kernel_rfl) (by kernel_rfl) (fun _ _ _ h => h) (.inl ⟨by rfl, ?_⟩) hS.l ?_
    rotate_left
    · intro W hW
      have qa := hW.a.s; have qi := hW.i.i
      go_simp
      try with_reducible rfl
    try simp only [Act.put, List.setIfInBounds_toArray, List.set_cons_zero, List.set_cons_succ]
    refine take_d (i := 2) (d := some 133) (v := ?_) rfl rfl (by kernel_rfl) (by kernel_rfl) (by kernel_rfl) (fun _ _ _ h => h) (.inl ⟨by rfl, ?_⟩) hS.l ?_
    rotate_left
    · intro W hW
      go_simp
      try with_reducible rfl
    try simp only [Act.put, List.setIfInBounds_toArray, List.set_cons_zero, List.set_cons_succ]
    refine take_d (i := 3) (d := some 134) (v := ?_) rfl rfl (by kernel_rfl) (by kernel_rfl) (by kernel_rfl) (fun _ _ _ h => h) (.inl ⟨by rfl, ?_⟩) hS.l ?_
    rotate_left
    · intro W hW
      have qa := hW.a.s; have qi := hW.i.i
      go_simp
      try with_reducible rfl
    try simp only [Act.put, List.setIfInBounds_toArray, List.set_cons_zero, List.set_cons_succ]
    refine take_d (i := 5) (d := some 136) (v := ?_) rfl rfl (by kernel_rfl) (by kernel_rfl) (by kernel_rfl) (fun _ _ _ h => h) (.inl ⟨by rfl, ?_⟩) hS.l ?_
    rotate_left
    · intro W hW
      go_simp
      try with_reducible rfl
    try simp only [Act.put, List.setIfInBounds_toArray, List.set_cons_zero, List.set_cons_succ]
    refine wpAnyH_all (rs := [4]) (by kernel_rfl) (by simp) (fun i hi => ?_)
    simp only [List.mem_cons, List.not_mem_nil, or_false] at hi
    subst hi
    refine .inl ?_
    go_simp
    refine (HAD.out _).mono ?_
    rintro e wc ⟨rfl, rfl⟩
    refine ⟨hS.l, ?_⟩
    try simp only [Act.put, List.setIfInBounds_toArray, List.set_cons_zero, List.set_cons_succ]
    refine take_d (i := 6) (d := some 137) (v := ?_) rfl rfl (by kernel_rfl) (by kernel_rfl) (by kernel_rfl) (fun _ _ _ h => h) (.inl ⟨by rfl, ?_⟩) hS.l ?_
    rotate_left
    · intro W hW
      go_simp
      try with_reducible rfl
    try simp only [Act.put, List.setIfInBounds_toArray, List.set_cons_zero, List.set_cons_succ]
    refine wpAnyH_all (rs := [7]) (by kernel_rfl) (by simp) (fun i hi => ?_)
    simp only [List.mem_cons, List.not_mem_nil, or_false] at hi
    subst hi
    refine .inl ?_
    refine o_store_o (d := none) hS A ((s.pc + 4) % 4294967296) (upd { s with pc := (s.pc + 4) % 4294967296 } A ((s.pc + 4) % 4294967296)) (sc_upd _ _ hA) (.int .u32 (s.r A)) (sc_reg _ hA) rfl rfl rfl rfl ?_
    clear hS
    intro WS hS
    refine ⟨hS.l, ?_⟩
    try simp only [Act.put, List.setIfInBounds_toArray, List.set_cons_zero, List.set_cons_succ]
    refine wpAnyH_done (by kernel_rfl) ?_ _
    clear qs qi HS
    have qs := hS.l.a.s
    have qi := hS.l.i.i
    have HS := Lib.hid hS
    clear hS hK0
    go_wp2_with ((with_reducible refine wp_store_o HS.out 8 (s.r B) { (upd { s with pc := (s.pc + 4) % 4294967296 } A ((s.pc + 4) % 4294967296)) with pc := s.r B } ?_ (.int .u32 ((s.pc + 4) % 4294967296)) ?_ ?_ ?_ ?_); (rfl); (rfl); (kernel_rfl); (kernel_rfl))
    intro W5 hS
    clear HS
    have HS := Lib.hid hS
    clear hS
    have HF := Lib.hid (HS.out.r.set (sc_ok { (upd { s with pc := (s.pc + 4) % 4294967296 } A ((s.pc + 4) % 4294967296)) with pc := s.r B }))
    have HG := Lib.hid (below_setRow HS.out.b (show w.heap.size ≤ w.heap.size + 1 by omega) (sc { (upd { s with pc := (s.pc + 4) % 4294967296 } A ((s.pc + 4) % 4294967296)) with pc := s.r B }))
    go_wp2_with (first | ((with_reducible refine wp_load_R rowS HS.out.o ?_ ?_); (kernel_rfl)) | ((with_reducible refine wp_store_R (sc { (upd { s with pc := (s.pc + 4) % 4294967296 } A ((s.pc + 4) % 4294967296)) with pc := s.r B }) rowS ⟨HS.out.r, sc_ok _⟩ ?_ ?_ ?_); (kernel_rfl); (kernel_rfl)))
    exact bodyPost_ret (res_R rowS (fn := Tryd.f22) rfl _ HF.out (by kernel_rfl)) rfl ⟨by rw [hR.out.2]; simp [doneS, hR.out.1, behindS, toS, takenS, hasMade, madeS, setS, upd], HG.out⟩
  · have hr0 := ht.1
    have hr1 := ht.2
    go_wp2_with ((with_reducible refine wp_store_o HS.out A (told) (upd { s with pc := (s.pc + 4) % 4294967296 } A (told)) ?_ (.int .u32 (s.r A)) ?_ ?_ ?_ ?_); (exact sc_upd _ _ hA); (exact sc_reg _ hA); (kernel_rfl); (kernel_rfl))
    intro W5 hS
    clear HS
    have HS := Lib.hid hS
    clear hS
    have HF := Lib.hid (HS.out.r.set (sc_ok (upd { s with pc := (s.pc + 4) % 4294967296 } A (told))))
    have HG := Lib.hid (below_setRow HS.out.b (show w.heap.size ≤ w.heap.size + 1 by omega) (sc (upd { s with pc := (s.pc + 4) % 4294967296 } A (told))))
    go_wp2_with (first | ((with_reducible refine wp_load_R rowS HS.out.o ?_ ?_); (kernel_rfl)) | ((with_reducible refine wp_store_R (sc (upd { s with pc := (s.pc + 4) % 4294967296 } A (told))) rowS ⟨HS.out.r, sc_ok _⟩ ?_ ?_ ?_); (kernel_rfl); (kernel_rfl)))
    exact bodyPost_ret (res_R rowS (fn := Tryd.f22) rfl _ HF.out (by kernel_rfl)) rfl ⟨by rw [hR.out.2]; simp [doneS, hR.out.1, behindS, toS, takenS, hasMade, madeS, setS, upd], HG.out⟩
end Go.Proofs.YthjdfneibogcgaaDoor
