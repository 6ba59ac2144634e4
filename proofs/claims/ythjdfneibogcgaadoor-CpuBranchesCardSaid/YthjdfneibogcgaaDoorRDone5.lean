/-
  Layer 10: the document's Done: a walk (get). Written by gen_rdone.py.
-/
import Derived.Test.YthjdfneibogcgaaDoorDn
namespace Go.Proofs.YthjdfneibogcgaaDoor
open Go.RowKit
set_option maxHeartbeats 16000000
set_option linter.unusedVariables false
set_option linter.unusedSimpArgs false

set_option maxRecDepth 100000 in
theorem RDone_get (s : Sta) (hs : s.Ok) (x told : Int) (A B : Nat) (m : Int) (hA : A < 8) (hB : B < 8) (hm0 : -32768 ≤ m) (hm1 : m ≤ 32767) (ht : W32 told) (hm : 0 ≤ m ∧ m < 6) (w : World) (P : Wnt) (hk : P.kind ≠ 1) (R : Sta) (hR : Hid (causeS s ⟨26, A, B, m⟩ = 0 ∧ R = doneS s ⟨26, A, B, m⟩ told))
    (HP : Hid (∀ W, Calls Tryd.prog 21 #[.agg (sc s), .int .u32 x] W fun e w' => e = .returned (.agg (wnt P)) ∧ Below W.heap.size W w'))
    (HD : Hid (∀ W, Calls Tryd.prog 35 #[.int .u32 x] W fun e w' => e = .returned (.tuple #[.agg (ic ⟨26, A, B, m⟩), .bool true]) ∧ Below W.heap.size W w')) : Calls Tryd.prog 22 #[.agg (sc s), .int .u32 x, .int .u32 told] w fun e w' => e = .returned (.agg (sc R)) ∧ Below w.heap.size w w' := by
  have HIM := Lib.hid (fun W => RImm_any 26 A B m hm0 hm1 W)
  have HAD := Lib.hid (fun W => RAdd_any s.pc 4 hs.pc ⟨by decide, by decide⟩ W)
  have HML := Lib.hid (fun W => RMul_any 4 (immW m) ⟨by decide, by decide⟩ (immW_w32 m) W)
  have HTO : Hid (∀ W, Calls Tryd.prog 36 #[.int .u32 s.pc, .int .u32 (4 * immW m % 4294967296)] W fun e w' => e = .returned (.int .u32 ((s.pc + 4 * immW m) % 4294967296)) ∧ W = w') := Lib.hid (fun W => by
    have h := RAdd_any s.pc (4 * immW m % 4294967296) hs.pc ⟨by omega, by omega⟩ W
    rw [show (s.pc + 4 * immW m % 4294967296) % 4294967296 = (s.pc + 4 * immW m) % 4294967296 by omega] at h
    exact h)
  obtain ⟨W, HW⟩ : ∃ W, Hid (W = (w.alloc (.cells (sc s) 25)).alloc (.cells #[Value.int .u32 0, Value.int .u32 0, Value.int .u32 0, Value.int .u32 0, Value.int .u32 0, Value.int .u32 0, Value.int .u32 0, Value.int .u32 0, Value.int .u32 0, Value.int .u32 0, Value.int .u32 0, Value.int .u32 0, Value.int .u32 0, Value.bool false, Value.bool false, Value.bool false] 25)) := ⟨_, rfl⟩
  have HBe : Hid (Below w.heap.size w W) := Lib.hid (by rw [HW.out]; exact (bel1 w _).alloc (by simp) _)
  have HLt : Hid (w.heap.size + 1 < W.heap.size) := Lib.hid (by rw [HW.out]; simp)
  have RA : Hid (Rf 25 16 W w.heap.size (sc s)) := Lib.hid (by rw [HW.out]; exact (rs_new w s).alloc _)
  have RB : Hid (Rf 25 16 W (w.heap.size + 1) (sc S0)) := Lib.hid (by rw [HW.out]; exact rs_newZ _ _ (by simp))
  go_enter Tryd.func22, Tryd.ntmps22
  go_wp2_with (first | (rw [← HW.out]) | ((with_reducible refine wp_load_R rowS RA.out ?_ ?_); (kernel_rfl)))
  refine (HP.out _).mono ?_
  rintro e w1 ⟨rfl, b1⟩
  obtain ⟨W1, HW1⟩ : ∃ W1, Hid (W1 = w1.alloc (.cells (wnt P) 42)) := ⟨_, rfl⟩
  have RA1 : Hid (Rf 25 16 W1 w.heap.size (sc s)) := Lib.hid (by rw [HW1.out]; exact (RA.out.below b1).alloc _)
  have RB1 : Hid (Rf 25 16 W1 (w.heap.size + 1) (sc S0)) := Lib.hid (by rw [HW1.out]; exact (RB.out.below b1).alloc _)
  have RW1 : Hid (Rf 42 6 W1 w1.heap.size (wnt P)) := Lib.hid (by rw [HW1.out]; exact (wnt_ok P).new 42 w1)
  have HB1 : Hid (Below w.heap.size w W1) := Lib.hid (by rw [HW1.out]; exact (HBe.out.trans (b1.mono HBe.out.size)).alloc (HBe.out.trans (b1.mono HBe.out.size)).size _)
  have HL1 : Hid (w.heap.size + 1 < W1.heap.size) := Lib.hid (by rw [HW1.out, World.size_alloc]; have := b1.size; have := HLt.out; omega)
  have qw := RW1.out.w6
  clear b1 HBe HLt HP RA RB
  go_wp2_with (first | ((with_reducible refine wp_store_Rn (wnt P) rowW ?_ ?_ ?_ ?_); (exact ⟨rfl, wnt_ok _⟩); (kernel_rfl); (kernel_rfl); (rw [← HW1.out])))
  refine (HD.out _).mono ?_
  rintro e w2 ⟨rfl, b2⟩
  clear qw RW1
  obtain ⟨W2, HW2⟩ : ∃ W2, Hid (W2 = w2.alloc (.cells (ic ⟨26, A, B, m⟩) 56)) := ⟨_, rfl⟩
  have RA2 : Hid (Rf 25 16 W2 w.heap.size (sc s)) := Lib.hid (by rw [HW2.out]; exact (RA1.out.below b2).alloc _)
  have RB2 : Hid (Rf 25 16 W2 (w.heap.size + 1) (sc S0)) := Lib.hid (by rw [HW2.out]; exact (RB1.out.below b2).alloc _)
  have RI2 : Hid (Rf 56 4 W2 w2.heap.size (ic ⟨26, A, B, m⟩)) := Lib.hid (by rw [HW2.out]; exact (ins_ok ⟨26, A, B, m⟩).new 56 w2)
  have HB2 : Hid (Below w.heap.size w W2) := Lib.hid (by rw [HW2.out]; exact (HB1.out.trans (b2.mono HB1.out.size)).alloc (HB1.out.trans (b2.mono HB1.out.size)).size _)
  have HL2 : Hid (w.heap.size + 1 < w2.heap.size) := Lib.hid (by have := b2.size; have := HL1.out; omega)
  have HS2 : Hid (W2.heap.size = w2.heap.size + 1) := Lib.hid (by rw [HW2.out, World.size_alloc])
  clear b2 HL1 HB1 RA1 RB1
  have qi := RI2.out.i
  have qa := RA2.out.sr hA
  have qb := RA2.out.sr hB
  have hA' : (A : Int) < 8 := by omega
  have hB' : (B : Int) < 8 := by omega
  go_wp2_with (first | ((with_reducible refine wp_store_Rn (ic ⟨26, A, B, m⟩) rowI ?_ ?_ ?_ ?_); (exact ⟨rfl, ins_ok _⟩); (kernel_rfl); (kernel_rfl); (rw [← HW2.out])))
  go_region
  obtain ⟨W3, HW3⟩ : ∃ W3, Hid (W3 = (W2.alloc (.cells #[Value.int .u32 0, Value.int .u32 0, Value.int .u32 0, Value.int .u32 0, Value.int .u32 0, Value.int .u32 0, Value.int .u32 0, Value.int .u32 0, Value.int .u32 0, Value.int .u32 0, Value.int .u32 0, Value.int .u32 0, Value.int .u32 0, Value.bool false, Value.bool false, Value.bool false] 25)).drew.setRow (w2.heap.size + 1) (sc s)) := ⟨_, rfl⟩
  have HZ := Lib.hid (rs_newZ W2 (w2.heap.size + 1) HS2.out).drew
  have HS : Hid (Dn w s ⟨26, A, B, m⟩ w2.heap.size (w2.heap.size + 1) s W3) := Lib.hid (by
    rw [HW3.out]
    have h2 := HL2.out; have h3 := HS2.out
    exact ⟨⟨(RA2.out.alloc _).drew.setOther (by omega) _, (RI2.out.alloc _).drew.setOther (by omega) _⟩, (RB2.out.alloc _).drew.setOther (by omega) _, HZ.out.set (sc_ok s), below_setRow ((HB2.out).alloc HB2.out.size _).drew (by omega) _, by omega, by omega⟩)
  have RA3 := Lib.hid RA2.out.drew
  have e2 := HS2.out
  clear RA2 RB2 RI2 HB2 HL2 qi qa qb
  have qs := HS.out.l.a.s
  go_wp2_with (first | ((with_reducible refine wp_load_R rowS RA3.out ?_ ?_); (kernel_rfl)) | ((with_reducible refine wp_store_R (sc s) rowS ⟨HZ.out, sc_ok _⟩ ?_ ?_ ?_); (kernel_rfl); (kernel_rfl); (rw [← HW3.out])))
  refine (HAD.out _).mono ?_
  rintro e w4 ⟨rfl, rfl⟩
  clear RA3 HZ e2 HS2 HW HW1 HW2 HD qs
  go_wp2_with ((with_reducible refine wp_store_o HS.out 8 ((s.pc + 4) % 4294967296) { s with pc := (s.pc + 4) % 4294967296 } ?_ (.int .u32 s.pc) ?_ ?_ ?_ ?_); (rfl); (rfl); (kernel_rfl); (kernel_rfl))
  intro W4 hS
  clear HS HW3
  have qs := hS.l.a.s
  have qi := hS.l.i.i
  have HS := Lib.hid hS
  clear hS
  obtain rfl | rfl | rfl | rfl | rfl | rfl : m = 0 ∨ m = 1 ∨ m = 2 ∨ m = 3 ∨ m = 4 ∨ m = 5 := by omega
  · go_wp2
    have hK0 := HS.out.drew
    refine wp_region_held_drew (S := Dl s ⟨26, A, B, 0⟩ w.heap.size w2.heap.size) (by kernel_rfl) hK0.l (fun _ => ?_)
    have hS := hK0
    refine take_d (i := 0) (d := some 145) (v := ?_) rfl rfl (by kernel_rfl) (by kernel_rfl) (by kernel_rfl) (fun _ _ _ h => h) (.inl ⟨by rfl, ?_⟩) hS.l ?_
    rotate_left
    · intro W hW
      go_simp
      try with_reducible rfl
    try simp only [Act.put, List.setIfInBounds_toArray, List.set_cons_zero, List.set_cons_succ]
    refine take_d (i := 1) (d := some 146) (v := ?_) rfl rfl (by kernel_rfl) (by kernel_rfl) (by kernel_rfl) (fun _ _ _ h => h) (.inl ⟨by rfl, ?_⟩) hS.l ?_
    rotate_left
    · intro W hW
      have qa := hW.a.s; have qi := hW.i.i
      go_simp
      try with_reducible rfl
    try simp only [Act.put, List.setIfInBounds_toArray, List.set_cons_zero, List.set_cons_succ]
    refine take_d (i := 2) (d := some 147) (v := ?_) rfl rfl (by kernel_rfl) (by kernel_rfl) (by kernel_rfl) (fun _ _ _ h => h) (.inl ⟨by rfl, ?_⟩) hS.l ?_
    rotate_left
    · intro W hW
      go_simp
      try with_reducible rfl
    try simp only [Act.put, List.setIfInBounds_toArray, List.set_cons_zero, List.set_cons_succ]
    refine take_d (i := 3) (d := some 148) (v := ?_) rfl rfl (by kernel_rfl) (by kernel_rfl) (by kernel_rfl) (fun _ _ _ h => h) (.inl ⟨by rfl, ?_⟩) hS.l ?_
    rotate_left
    · intro W hW
      have qa := hW.a.s; have qi := hW.i.i
      go_simp
      try with_reducible rfl
    try simp only [Act.put, List.setIfInBounds_toArray, List.set_cons_zero, List.set_cons_succ]
    refine take_d (i := 4) (d := some 149) (v := ?_) rfl rfl (by kernel_rfl) (by kernel_rfl) (by kernel_rfl) (fun _ _ _ h => h) (.inl ⟨by rfl, ?_⟩) hS.l ?_
    rotate_left
    · intro W hW
      go_simp
      try with_reducible rfl
    try simp only [Act.put, List.setIfInBounds_toArray, List.set_cons_zero, List.set_cons_succ]
    refine take_d (i := 5) (d := some 150) (v := ?_) rfl rfl (by kernel_rfl) (by kernel_rfl) (by kernel_rfl) (fun _ _ _ h => h) (.inl ⟨by rfl, ?_⟩) hS.l ?_
    rotate_left
    · intro W hW
      have qa := hW.a.s; have qi := hW.i.i
      go_simp
      try with_reducible rfl
    try simp only [Act.put, List.setIfInBounds_toArray, List.set_cons_zero, List.set_cons_succ]
    refine take_d (i := 6) (d := some 151) (v := ?_) rfl rfl (by kernel_rfl) (by kernel_rfl) (by kernel_rfl) (fun _ _ _ h => h) (.inl ⟨by rfl, ?_⟩) hS.l ?_
    rotate_left
    · intro W hW
      go_simp
      try with_reducible rfl
    try simp only [Act.put, List.setIfInBounds_toArray, List.set_cons_zero, List.set_cons_succ]
    refine take_d (i := 7) (d := some 152) (v := ?_) rfl rfl (by kernel_rfl) (by kernel_rfl) (by kernel_rfl) (fun _ _ _ h => h) (.inl ⟨by rfl, ?_⟩) hS.l ?_
    rotate_left
    · intro W hW
      have qa := hW.a.s; have qi := hW.i.i
      go_simp
      try with_reducible rfl
    try simp only [Act.put, List.setIfInBounds_toArray, List.set_cons_zero, List.set_cons_succ]
    refine take_d (i := 8) (d := some 153) (v := ?_) rfl rfl (by kernel_rfl) (by kernel_rfl) (by kernel_rfl) (fun _ _ _ h => h) (.inl ⟨by rfl, ?_⟩) hS.l ?_
    rotate_left
    · intro W hW
      go_simp
      try with_reducible rfl
    try simp only [Act.put, List.setIfInBounds_toArray, List.set_cons_zero, List.set_cons_succ]
    refine take_d (i := 9) (d := some 154) (v := ?_) rfl rfl (by kernel_rfl) (by kernel_rfl) (by kernel_rfl) (fun _ _ _ h => h) (.inl ⟨by rfl, ?_⟩) hS.l ?_
    rotate_left
    · intro W hW
      have qa := hW.a.s; have qi := hW.i.i
      go_simp
      try with_reducible rfl
    try simp only [Act.put, List.setIfInBounds_toArray, List.set_cons_zero, List.set_cons_succ]
    refine take_d (i := 10) (d := some 155) (v := .agg (sc s)) rfl rfl (by kernel_rfl) (by kernel_rfl) (by kernel_rfl) (fun _ _ _ h => h) (y_R rowS (by kernel_rfl) rfl rfl (fun W hW => hW.a)) hS.l ?_
    try simp only [Act.put, List.setIfInBounds_toArray, List.set_cons_zero, List.set_cons_succ]
    refine take_d (i := 12) (d := some 157) (v := ?_) rfl rfl (by kernel_rfl) (by kernel_rfl) (by kernel_rfl) (fun _ _ _ h => h) (.inl ⟨by rfl, ?_⟩) hS.l ?_
    rotate_left
    · intro W hW
      go_simp
      try with_reducible rfl
    try simp only [Act.put, List.setIfInBounds_toArray, List.set_cons_zero, List.set_cons_succ]
    refine take_d (i := 13) (d := some 158) (v := ?_) rfl rfl (by kernel_rfl) (by kernel_rfl) (by kernel_rfl) (fun _ _ _ h => h) (.inl ⟨by rfl, ?_⟩) hS.l ?_
    rotate_left
    · intro W hW
      have qa := hW.a.s; have qi := hW.i.i
      go_simp
      try with_reducible rfl
    try simp only [Act.put, List.setIfInBounds_toArray, List.set_cons_zero, List.set_cons_succ]
    refine take_d (i := 15) (d := some 160) (v := ?_) rfl rfl (by kernel_rfl) (by kernel_rfl) (by kernel_rfl) (fun _ _ _ h => h) (.inl ⟨by rfl, ?_⟩) hS.l ?_
    rotate_left
    · intro W hW
      go_simp
      try with_reducible rfl
    try simp only [Act.put, List.setIfInBounds_toArray, List.set_cons_zero, List.set_cons_succ]
    refine take_d (i := 16) (d := some 161) (v := ?_) rfl rfl (by kernel_rfl) (by kernel_rfl) (by kernel_rfl) (fun _ _ _ h => h) (.inl ⟨by rfl, ?_⟩) hS.l ?_
    rotate_left
    · intro W hW
      have qa := hW.a.s; have qi := hW.i.i
      go_simp
      try with_reducible rfl
    try simp only [Act.put, List.setIfInBounds_toArray, List.set_cons_zero, List.set_cons_succ]
    refine take_d (i := 19) (d := some 164) (v := ?_) rfl rfl (by kernel_rfl) (by kernel_rfl) (by kernel_rfl) (fun _ _ _ h => h) (.inl ⟨by rfl, ?_⟩) hS.l ?_
    rotate_left
    · intro W hW
      go_simp
      try with_reducible rfl
    try simp only [Act.put, List.setIfInBounds_toArray, List.set_cons_zero, List.set_cons_succ]
    refine wpAnyH_all (rs := [11]) (by kernel_rfl) (by simp) (fun i hi => ?_)
    simp only [List.mem_cons, List.not_mem_nil, or_false] at hi
    subst hi
    refine .inl ?_
    go_simp
    refine (RStatus_any s _).mono ?_
    rintro e wc ⟨rfl, hb⟩
    have hS := hS.after hb
    clear hb
    refine ⟨hS.l, ?_⟩
    try simp only [Act.put, List.setIfInBounds_toArray, List.set_cons_zero, List.set_cons_succ]
    refine wpAnyH_all (rs := [14]) (by kernel_rfl) (by simp) (fun i hi => ?_)
    simp only [List.mem_cons, List.not_mem_nil, or_false] at hi
    subst hi
    refine .inl ?_
    refine o_row (ty := 22) (d := some 159) rfl #[.int .u32 s.epc, .int .u32 s.cs, .int .u32 s.vec, .int .u32 s.tab, .int .u32 (statusS s), .int .u32 s.pc] 6 (by go_simp) ?_
    intro g WR hg hbR
    replace hS := hS.after hbR
    have hcel : WR.cell? ⟨g, 0, none⟩ = some (.int .u32 (s.epc)) := (hg.cell 0).trans rfl
    clear hg hbR
    refine ⟨hS.l, ?_⟩
    try simp only [Act.put, List.setIfInBounds_toArray, List.set_cons_zero, List.set_cons_succ]
    refine take_d (i := 17) (d := some 162) (v := ?_) rfl rfl (by kernel_rfl) (by kernel_rfl) (by kernel_rfl) (fun _ _ _ h => h) (.inl ⟨by rfl, ?_⟩) hS.l ?_
    rotate_left
    · intro W hW
      go_simp
      try with_reducible rfl
    try simp only [Act.put, List.setIfInBounds_toArray, List.set_cons_zero, List.set_cons_succ]
    refine wpAnyH_all (rs := [18]) (by kernel_rfl) (by simp) (fun i hi => ?_)
    simp only [List.mem_cons, List.not_mem_nil, or_false] at hi
    subst hi
    refine .inl ?_
    refine o_ok (d := some 163) rfl (.int .u32 (s.epc)) _ (by go_simp) ⟨hS.l, ?_⟩
    try simp only [Act.put, List.setIfInBounds_toArray, List.set_cons_zero, List.set_cons_succ]
    refine take_d (i := 20) (d := some 165) (v := ?_) rfl rfl (by kernel_rfl) (by kernel_rfl) (by kernel_rfl) (fun _ _ _ h => h) (.inl ⟨by rfl, ?_⟩) hS.l ?_
    rotate_left
    · intro W hW
      go_simp
      try with_reducible rfl
    try simp only [Act.put, List.setIfInBounds_toArray, List.set_cons_zero, List.set_cons_succ]
    refine wpAnyH_all (rs := [21]) (by kernel_rfl) (by simp) (fun i hi => ?_)
    simp only [List.mem_cons, List.not_mem_nil, or_false] at hi
    subst hi
    refine .inl ?_
    refine o_store_o (d := none) hS A (s.epc) (upd { s with pc := (s.pc + 4) % 4294967296 } A (s.epc)) (sc_upd _ _ hA) (.int .u32 (s.r A)) (sc_reg _ hA) rfl rfl rfl rfl ?_
    clear hS
    intro WS hS
    refine ⟨hS.l, ?_⟩
    try simp only [Act.put, List.setIfInBounds_toArray, List.set_cons_zero, List.set_cons_succ]
    refine wpAnyH_done (by kernel_rfl) ?_ _
    clear qs qi HS
    have qs := hS.l.a.s
    have qi := hS.l.i.i
    have HS := Lib.hid hS
    clear hS hK0
    have HF := Lib.hid (HS.out.r.set (sc_ok (upd { s with pc := (s.pc + 4) % 4294967296 } A (s.epc))))
    have HG := Lib.hid (below_setRow HS.out.b (show w.heap.size ≤ w.heap.size + 1 by omega) (sc (upd { s with pc := (s.pc + 4) % 4294967296 } A (s.epc))))
    go_wp2_with (first | ((with_reducible refine wp_load_R rowS HS.out.o ?_ ?_); (kernel_rfl)) | ((with_reducible refine wp_store_R (sc (upd { s with pc := (s.pc + 4) % 4294967296 } A (s.epc))) rowS ⟨HS.out.r, sc_ok _⟩ ?_ ?_ ?_); (kernel_rfl); (kernel_rfl)))
    exact bodyPost_ret (res_R rowS (fn := Tryd.f22) rfl _ HF.out (by kernel_rfl)) rfl ⟨by rw [hR.out.2]; simp [doneS, hR.out.1, behindS, toS, takenS, hasMade, madeS, setS, upd, getS], HG.out⟩
  · go_wp2
    have hK0 := HS.out.drew
    refine wp_region_held_drew (S := Dl s ⟨26, A, B, 1⟩ w.heap.size w2.heap.size) (by kernel_rfl) hK0.l (fun _ => ?_)
    have hS := hK0
    refine take_d (i := 0) (d := some 145) (v := ?_) rfl rfl (by kernel_rfl) (by kernel_rfl) (by kernel_rfl) (fun _ _ _ h => h) (.inl ⟨by rfl, ?_⟩) hS.l ?_
    rotate_left
    · intro W hW
      go_simp
      try with_reducible rfl
    try simp only [Act.put, List.setIfInBounds_toArray, List.set_cons_zero, List.set_cons_succ]
    refine take_d (i := 1) (d := some 146) (v := ?_) rfl rfl (by kernel_rfl) (by kernel_rfl) (by kernel_rfl) (fun _ _ _ h => h) (.inl ⟨by rfl, ?_⟩) hS.l ?_
    rotate_left
    · intro W hW
      have qa := hW.a.s; have qi := hW.i.i
      go_simp
      try with_reducible rfl
    try simp only [Act.put, List.setIfInBounds_toArray, List.set_cons_zero, List.set_cons_succ]
    refine take_d (i := 2) (d := some 147) (v := ?_) rfl rfl (by kernel_rfl) (by kernel_rfl) (by kernel_rfl) (fun _ _ _ h => h) (.inl ⟨by rfl, ?_⟩) hS.l ?_
    rotate_left
    · intro W hW
      go_simp
      try with_reducible rfl
    try simp only [Act.put, List.setIfInBounds_toArray, List.set_cons_zero, List.set_cons_succ]
    refine take_d (i := 3) (d := some 148) (v := ?_) rfl rfl (by kernel_rfl) (by kernel_rfl) (by kernel_rfl) (fun _ _ _ h => h) (.inl ⟨by rfl, ?_⟩) hS.l ?_
    rotate_left
    · intro W hW
      have qa := hW.a.s; have qi := hW.i.i
      go_simp
      try with_reducible rfl
    try simp only [Act.put, List.setIfInBounds_toArray, List.set_cons_zero, List.set_cons_succ]
    refine take_d (i := 4) (d := some 149) (v := ?_) rfl rfl (by kernel_rfl) (by kernel_rfl) (by kernel_rfl) (fun _ _ _ h => h) (.inl ⟨by rfl, ?_⟩) hS.l ?_
    rotate_left
    · intro W hW
      go_simp
      try with_reducible rfl
    try simp only [Act.put, List.setIfInBounds_toArray, List.set_cons_zero, List.set_cons_succ]
    refine take_d (i := 5) (d := some 150) (v := ?_) rfl rfl (by kernel_rfl) (by kernel_rfl) (by kernel_rfl) (fun _ _ _ h => h) (.inl ⟨by rfl, ?_⟩) hS.l ?_
    rotate_left
    · intro W hW
      have qa := hW.a.s; have qi := hW.i.i
      go_simp
      try with_reducible rfl
    try simp only [Act.put, List.setIfInBounds_toArray, List.set_cons_zero, List.set_cons_succ]
    refine take_d (i := 6) (d := some 151) (v := ?_) rfl rfl (by kernel_rfl) (by kernel_rfl) (by kernel_rfl) (fun _ _ _ h => h) (.inl ⟨by rfl, ?_⟩) hS.l ?_
    rotate_left
    · intro W hW
      go_simp
      try with_reducible rfl
    try simp only [Act.put, List.setIfInBounds_toArray, List.set_cons_zero, List.set_cons_succ]
    refine take_d (i := 7) (d := some 152) (v := ?_) rfl rfl (by kernel_rfl) (by kernel_rfl) (by kernel_rfl) (fun _ _ _ h => h) (.inl ⟨by rfl, ?_⟩) hS.l ?_
    rotate_left
    · intro W hW
      have qa := hW.a.s; have qi := hW.i.i
      go_simp
      try with_reducible rfl
    try simp only [Act.put, List.setIfInBounds_toArray, List.set_cons_zero, List.set_cons_succ]
    refine take_d (i := 8) (d := some 153) (v := ?_) rfl rfl (by kernel_rfl) (by kernel_rfl) (by kernel_rfl) (fun _ _ _ h => h) (.inl ⟨by rfl, ?_⟩) hS.l ?_
    rotate_left
    · intro W hW
      go_simp
      try with_reducible rfl
    try simp only [Act.put, List.setIfInBounds_toArray, List.set_cons_zero, List.set_cons_succ]
    refine take_d (i := 9) (d := some 154) (v := ?_) rfl rfl (by kernel_rfl) (by kernel_rfl) (by kernel_rfl) (fun _ _ _ h => h) (.inl ⟨by rfl, ?_⟩) hS.l ?_
    rotate_left
    · intro W hW
      have qa := hW.a.s; have qi := hW.i.i
      go_simp
      try with_reducible rfl
    try simp only [Act.put, List.setIfInBounds_toArray, List.set_cons_zero, List.set_cons_succ]
    refine take_d (i := 10) (d := some 155) (v := .agg (sc s)) rfl rfl (by kernel_rfl) (by kernel_rfl) (by kernel_rfl) (fun _ _ _ h => h) (y_R rowS (by kernel_rfl) rfl rfl (fun W hW => hW.a)) hS.l ?_
    try simp only [Act.put, List.setIfInBounds_toArray, List.set_cons_zero, List.set_cons_succ]
    refine take_d (i := 12) (d := some 157) (v := ?_) rfl rfl (by kernel_rfl) (by kernel_rfl) (by kernel_rfl) (fun _ _ _ h => h) (.inl ⟨by rfl, ?_⟩) hS.l ?_
    rotate_left
    · intro W hW
      go_simp
      try with_reducible rfl
    try simp only [Act.put, List.setIfInBounds_toArray, List.set_cons_zero, List.set_cons_succ]
    refine take_d (i := 13) (d := some 158) (v := ?_) rfl rfl (by kernel_rfl) (by kernel_rfl) (by kernel_rfl) (fun _ _ _ h => h) (.inl ⟨by rfl, ?_⟩) hS.l ?_
    rotate_left
    · intro W hW
      have qa := hW.a.s; have qi := hW.i.i
      go_simp
      try with_reducible rfl
    try simp only [Act.put, List.setIfInBounds_toArray, List.set_cons_zero, List.set_cons_succ]
    refine take_d (i := 15) (d := some 160) (v := ?_) rfl rfl (by kernel_rfl) (by kernel_rfl) (by kernel_rfl) (fun _ _ _ h => h) (.inl ⟨by rfl, ?_⟩) hS.l ?_
    rotate_left
    · intro W hW
      go_simp
      try with_reducible rfl
    try simp only [Act.put, List.setIfInBounds_toArray, List.set_cons_zero, List.set_cons_succ]
    refine take_d (i := 16) (d := some 161) (v := ?_) rfl rfl (by kernel_rfl) (by kernel_rfl) (by kernel_rfl) (fun _ _ _ h => h) (.inl ⟨by rfl, ?_⟩) hS.l ?_
    rotate_left
    · intro W hW
      have qa := hW.a.s; have qi := hW.i.i
      go_simp
      try with_reducible rfl
    try simp only [Act.put, List.setIfInBounds_toArray, List.set_cons_zero, List.set_cons_succ]
    refine take_d (i := 19) (d := some 164) (v := ?_) rfl rfl (by kernel_rfl) (by kernel_rfl) (by kernel_rfl) (fun _ _ _ h => h) (.inl ⟨by rfl, ?_⟩) hS.l ?_
    rotate_left
    · intro W hW
      go_simp
      try with_reducible rfl
    try simp only [Act.put, List.setIfInBounds_toArray, List.set_cons_zero, List.set_cons_succ]
    refine wpAnyH_all (rs := [11]) (by kernel_rfl) (by simp) (fun i hi => ?_)
    simp only [List.mem_cons, List.not_mem_nil, or_false] at hi
    subst hi
    refine .inl ?_
    go_simp
    refine (RStatus_any s _).mono ?_
    rintro e wc ⟨rfl, hb⟩
    have hS := hS.after hb
    clear hb
    refine ⟨hS.l, ?_⟩
    try simp only [Act.put, List.setIfInBounds_toArray, List.set_cons_zero, List.set_cons_succ]
    refine wpAnyH_all (rs := [14]) (by kernel_rfl) (by simp) (fun i hi => ?_)
    simp only [List.mem_cons, List.not_mem_nil, or_false] at hi
    subst hi
    refine .inl ?_
    refine o_row (ty := 22) (d := some 159) rfl #[.int .u32 s.epc, .int .u32 s.cs, .int .u32 s.vec, .int .u32 s.tab, .int .u32 (statusS s), .int .u32 s.pc] 6 (by go_simp) ?_
    intro g WR hg hbR
    replace hS := hS.after hbR
    have hcel : WR.cell? ⟨g, 1, none⟩ = some (.int .u32 (s.cs)) := (hg.cell 1).trans rfl
    clear hg hbR
    refine ⟨hS.l, ?_⟩
    try simp only [Act.put, List.setIfInBounds_toArray, List.set_cons_zero, List.set_cons_succ]
    refine take_d (i := 17) (d := some 162) (v := ?_) rfl rfl (by kernel_rfl) (by kernel_rfl) (by kernel_rfl) (fun _ _ _ h => h) (.inl ⟨by rfl, ?_⟩) hS.l ?_
    rotate_left
    · intro W hW
      go_simp
      try with_reducible rfl
    try simp only [Act.put, List.setIfInBounds_toArray, List.set_cons_zero, List.set_cons_succ]
    refine wpAnyH_all (rs := [18]) (by kernel_rfl) (by simp) (fun i hi => ?_)
    simp only [List.mem_cons, List.not_mem_nil, or_false] at hi
    subst hi
    refine .inl ?_
    refine o_ok (d := some 163) rfl (.int .u32 (s.cs)) _ (by go_simp) ⟨hS.l, ?_⟩
    try simp only [Act.put, List.setIfInBounds_toArray, List.set_cons_zero, List.set_cons_succ]
    refine take_d (i := 20) (d := some 165) (v := ?_) rfl rfl (by kernel_rfl) (by kernel_rfl) (by kernel_rfl) (fun _ _ _ h => h) (.inl ⟨by rfl, ?_⟩) hS.l ?_
    rotate_left
    · intro W hW
      go_simp
      try with_reducible rfl
    try simp only [Act.put, List.setIfInBounds_toArray, List.set_cons_zero, List.set_cons_succ]
    refine wpAnyH_all (rs := [21]) (by kernel_rfl) (by simp) (fun i hi => ?_)
    simp only [List.mem_cons, List.not_mem_nil, or_false] at hi
    subst hi
    refine .inl ?_
    refine o_store_o (d := none) hS A (s.cs) (upd { s with pc := (s.pc + 4) % 4294967296 } A (s.cs)) (sc_upd _ _ hA) (.int .u32 (s.r A)) (sc_reg _ hA) rfl rfl rfl rfl ?_
    clear hS
    intro WS hS
    refine ⟨hS.l, ?_⟩
    try simp only [Act.put, List.setIfInBounds_toArray, List.set_cons_zero, List.set_cons_succ]
    refine wpAnyH_done (by kernel_rfl) ?_ _
    clear qs qi HS
    have qs := hS.l.a.s
    have qi := hS.l.i.i
    have HS := Lib.hid hS
    clear hS hK0
    have HF := Lib.hid (HS.out.r.set (sc_ok (upd { s with pc := (s.pc + 4) % 4294967296 } A (s.cs))))
    have HG := Lib.hid (below_setRow HS.out.b (show w.heap.size ≤ w.heap.size + 1 by omega) (sc (upd { s with pc := (s.pc + 4) % 4294967296 } A (s.cs))))
    go_wp2_with (first | ((with_reducible refine wp_load_R rowS HS.out.o ?_ ?_); (kernel_rfl)) | ((with_reducible refine wp_store_R (sc (upd { s with pc := (s.pc + 4) % 4294967296 } A (s.cs))) rowS ⟨HS.out.r, sc_ok _⟩ ?_ ?_ ?_); (kernel_rfl); (kernel_rfl)))
    exact bodyPost_ret (res_R rowS (fn := Tryd.f22) rfl _ HF.out (by kernel_rfl)) rfl ⟨by rw [hR.out.2]; simp [doneS, hR.out.1, behindS, toS, takenS, hasMade, madeS, setS, upd, getS], HG.out⟩
  · go_wp2
    have hK0 := HS.out.drew
    refine wp_region_held_drew (S := Dl s ⟨26, A, B, 2⟩ w.heap.size w2.heap.size) (by kernel_rfl) hK0.l (fun _ => ?_)
    have hS := hK0
    refine take_d (i := 0) (d := some 145) (v := ?_) rfl rfl (by kernel_rfl) (by kernel_rfl) (by kernel_rfl) (fun _ _ _ h => h) (.inl ⟨by rfl, ?_⟩) hS.l ?_
    rotate_left
    · intro W hW
      go_simp
      try with_reducible rfl
    try simp only [Act.put, List.setIfInBounds_toArray, List.set_cons_zero, List.set_cons_succ]
    refine take_d (i := 1) (d := some 146) (v := ?_) rfl rfl (by kernel_rfl) (by kernel_rfl) (by kernel_rfl) (fun _ _ _ h => h) (.inl ⟨by rfl, ?_⟩) hS.l ?_
    rotate_left
    · intro W hW
      have qa := hW.a.s; have qi := hW.i.i
      go_simp
      try with_reducible rfl
    try simp only [Act.put, List.setIfInBounds_toArray, List.set_cons_zero, List.set_cons_succ]
    refine take_d (i := 2) (d := some 147) (v := ?_) rfl rfl (by kernel_rfl) (by kernel_rfl) (by kernel_rfl) (fun _ _ _ h => h) (.inl ⟨by rfl, ?_⟩) hS.l ?_
    rotate_left
    · intro W hW
      go_simp
      try with_reducible rfl
    try simp only [Act.put, List.setIfInBounds_toArray, List.set_cons_zero, List.set_cons_succ]
    refine take_d (i := 3) (d := some 148) (v := ?_) rfl rfl (by kernel_rfl) (by kernel_rfl) (by kernel_rfl) (fun _ _ _ h => h) (.inl ⟨by rfl, ?_⟩) hS.l ?_
    rotate_left
    · intro W hW
      have qa := hW.a.s; have qi := hW.i.i
      go_simp
      try with_reducible rfl
    try simp only [Act.put, List.setIfInBounds_toArray, List.set_cons_zero, List.set_cons_succ]
    refine take_d (i := 4) (d := some 149) (v := ?_) rfl rfl (by kernel_rfl) (by kernel_rfl) (by kernel_rfl) (fun _ _ _ h => h) (.inl ⟨by rfl, ?_⟩) hS.l ?_
    rotate_left
    · intro W hW
      go_simp
      try with_reducible rfl
    try simp only [Act.put, List.setIfInBounds_toArray, List.set_cons_zero, List.set_cons_succ]
    refine take_d (i := 5) (d := some 150) (v := ?_) rfl rfl (by kernel_rfl) (by kernel_rfl) (by kernel_rfl) (fun _ _ _ h => h) (.inl ⟨by rfl, ?_⟩) hS.l ?_
    rotate_left
    · intro W hW
      have qa := hW.a.s; have qi := hW.i.i
      go_simp
      try with_reducible rfl
    try simp only [Act.put, List.setIfInBounds_toArray, List.set_cons_zero, List.set_cons_succ]
    refine take_d (i := 6) (d := some 151) (v := ?_) rfl rfl (by kernel_rfl) (by kernel_rfl) (by kernel_rfl) (fun _ _ _ h => h) (.inl ⟨by rfl, ?_⟩) hS.l ?_
    rotate_left
    · intro W hW
      go_simp
      try with_reducible rfl
    try simp only [Act.put, List.setIfInBounds_toArray, List.set_cons_zero, List.set_cons_succ]
    refine take_d (i := 7) (d := some 152) (v := ?_) rfl rfl (by kernel_rfl) (by kernel_rfl) (by kernel_rfl) (fun _ _ _ h => h) (.inl ⟨by rfl, ?_⟩) hS.l ?_
    rotate_left
    · intro W hW
      have qa := hW.a.s; have qi := hW.i.i
      go_simp
      try with_reducible rfl
    try simp only [Act.put, List.setIfInBounds_toArray, List.set_cons_zero, List.set_cons_succ]
    refine take_d (i := 8) (d := some 153) (v := ?_) rfl rfl (by kernel_rfl) (by kernel_rfl) (by kernel_rfl) (fun _ _ _ h => h) (.inl ⟨by rfl, ?_⟩) hS.l ?_
    rotate_left
    · intro W hW
      go_simp
      try with_reducible rfl
    try simp only [Act.put, List.setIfInBounds_toArray, List.set_cons_zero, List.set_cons_succ]
    refine take_d (i := 9) (d := some 154) (v := ?_) rfl rfl (by kernel_rfl) (by kernel_rfl) (by kernel_rfl) (fun _ _ _ h => h) (.inl ⟨by rfl, ?_⟩) hS.l ?_
    rotate_left
    · intro W hW
      have qa := hW.a.s; have qi := hW.i.i
      go_simp
      try with_reducible rfl
    try simp only [Act.put, List.setIfInBounds_toArray, List.set_cons_zero, List.set_cons_succ]
    refine take_d (i := 10) (d := some 155) (v := .agg (sc s)) rfl rfl (by kernel_rfl) (by kernel_rfl) (by kernel_rfl) (fun _ _ _ h => h) (y_R rowS (by kernel_rfl) rfl rfl (fun W hW => hW.a)) hS.l ?_
    try simp only [Act.put, List.setIfInBounds_toArray, List.set_cons_zero, List.set_cons_succ]
    refine take_d (i := 12) (d := some 157) (v := ?_) rfl rfl (by kernel_rfl) (by kernel_rfl) (by kernel_rfl) (fun _ _ _ h => h) (.inl ⟨by rfl, ?_⟩) hS.l ?_
    rotate_left
    · intro W hW
      go_simp
      try with_reducible rfl
    try simp only [Act.put, List.setIfInBounds_toArray, List.set_cons_zero, List.set_cons_succ]
    refine take_d (i := 13) (d := some 158) (v := ?_) rfl rfl (by kernel_rfl) (by kernel_rfl) (by kernel_rfl) (fun _ _ _ h => h) (.inl ⟨by rfl, ?_⟩) hS.l ?_
    rotate_left
    · intro W hW
      have qa := hW.a.s; have qi := hW.i.i
      go_simp
      try with_reducible rfl
    try simp only [Act.put, List.setIfInBounds_toArray, List.set_cons_zero, List.set_cons_succ]
    refine take_d (i := 15) (d := some 160) (v := ?_) rfl rfl (by kernel_rfl) (by kernel_rfl) (by kernel_rfl) (fun _ _ _ h => h) (.inl ⟨by rfl, ?_⟩) hS.l ?_
    rotate_left
    · intro W hW
      go_simp
      try with_reducible rfl
    try simp only [Act.put, List.setIfInBounds_toArray, List.set_cons_zero, List.set_cons_succ]
    refine take_d (i := 16) (d := some 161) (v := ?_) rfl rfl (by kernel_rfl) (by kernel_rfl) (by kernel_rfl) (fun _ _ _ h => h) (.inl ⟨by rfl, ?_⟩) hS.l ?_
    rotate_left
    · intro W hW
      have qa := hW.a.s; have qi := hW.i.i
      go_simp
      try with_reducible rfl
    try simp only [Act.put, List.setIfInBounds_toArray, List.set_cons_zero, List.set_cons_succ]
    refine take_d (i := 19) (d := some 164) (v := ?_) rfl rfl (by kernel_rfl) (by kernel_rfl) (by kernel_rfl) (fun _ _ _ h => h) (.inl ⟨by rfl, ?_⟩) hS.l ?_
    rotate_left
    · intro W hW
      go_simp
      try with_reducible rfl
    try simp only [Act.put, List.setIfInBounds_toArray, List.set_cons_zero, List.set_cons_succ]
    refine wpAnyH_all (rs := [11]) (by kernel_rfl) (by simp) (fun i hi => ?_)
    simp only [List.mem_cons, List.not_mem_nil, or_false] at hi
    subst hi
    refine .inl ?_
    go_simp
    refine (RStatus_any s _).mono ?_
    rintro e wc ⟨rfl, hb⟩
    have hS := hS.after hb
    clear hb
    refine ⟨hS.l, ?_⟩
    try simp only [Act.put, List.setIfInBounds_toArray, List.set_cons_zero, List.set_cons_succ]
    refine wpAnyH_all (rs := [14]) (by kernel_rfl) (by simp) (fun i hi => ?_)
    simp only [List.mem_cons, List.not_mem_nil, or_false] at hi
    subst hi
    refine .inl ?_
    refine o_row (ty := 22) (d := some 159) rfl #[.int .u32 s.epc, .int .u32 s.cs, .int .u32 s.vec, .int .u32 s.tab, .int .u32 (statusS s), .int .u32 s.pc] 6 (by go_simp) ?_
    intro g WR hg hbR
    replace hS := hS.after hbR
    have hcel : WR.cell? ⟨g, 2, none⟩ = some (.int .u32 (s.vec)) := (hg.cell 2).trans rfl
    clear hg hbR
    refine ⟨hS.l, ?_⟩
    try simp only [Act.put, List.setIfInBounds_toArray, List.set_cons_zero, List.set_cons_succ]
    refine take_d (i := 17) (d := some 162) (v := ?_) rfl rfl (by kernel_rfl) (by kernel_rfl) (by kernel_rfl) (fun _ _ _ h => h) (.inl ⟨by rfl, ?_⟩) hS.l ?_
    rotate_left
    · intro W hW
      go_simp
      try with_reducible rfl
    try simp only [Act.put, List.setIfInBounds_toArray, List.set_cons_zero, List.set_cons_succ]
    refine wpAnyH_all (rs := [18]) (by kernel_rfl) (by simp) (fun i hi => ?_)
    simp only [List.mem_cons, List.not_mem_nil, or_false] at hi
    subst hi
    refine .inl ?_
    refine o_ok (d := some 163) rfl (.int .u32 (s.vec)) _ (by go_simp) ⟨hS.l, ?_⟩
    try simp only [Act.put, List.setIfInBounds_toArray, List.set_cons_zero, List.set_cons_succ]
    refine take_d (i := 20) (d := some 165) (v := ?_) rfl rfl (by kernel_rfl) (by kernel_rfl) (by kernel_rfl) (fun _ _ _ h => h) (.inl ⟨by rfl, ?_⟩) hS.l ?_
    rotate_left
    · intro W hW
      go_simp
      try with_reducible rfl
    try simp only [Act.put, List.setIfInBounds_toArray, List.set_cons_zero, List.set_cons_succ]
    refine wpAnyH_all (rs := [21]) (by kernel_rfl) (by simp) (fun i hi => ?_)
    simp only [List.mem_cons, List.not_mem_nil, or_false] at hi
    subst hi
    refine .inl ?_
    refine o_store_o (d := none) hS A (s.vec) (upd { s with pc := (s.pc + 4) % 4294967296 } A (s.vec)) (sc_upd _ _ hA) (.int .u32 (s.r A)) (sc_reg _ hA) rfl rfl rfl rfl ?_
    clear hS
    intro WS hS
    refine ⟨hS.l, ?_⟩
    try simp only [Act.put, List.setIfInBounds_toArray, List.set_cons_zero, List.set_cons_succ]
    refine wpAnyH_done (by kernel_rfl) ?_ _
    clear qs qi HS
    have qs := hS.l.a.s
    have qi := hS.l.i.i
    have HS := Lib.hid hS
    clear hS hK0
    have HF := Lib.hid (HS.out.r.set (sc_ok (upd { s with pc := (s.pc + 4) % 4294967296 } A (s.vec))))
    have HG := Lib.hid (below_setRow HS.out.b (show w.heap.size ≤ w.heap.size + 1 by omega) (sc (upd { s with pc := (s.pc + 4) % 4294967296 } A (s.vec))))
    go_wp2_with (first | ((with_reducible refine wp_load_R rowS HS.out.o ?_ ?_); (kernel_rfl)) | ((with_reducible refine wp_store_R (sc (upd { s with pc := (s.pc + 4) % 4294967296 } A (s.vec))) rowS ⟨HS.out.r, sc_ok _⟩ ?_ ?_ ?_); (kernel_rfl); (kernel_rfl)))
    exact bodyPost_ret (res_R rowS (fn := Tryd.f22) rfl _ HF.out (by kernel_rfl)) rfl ⟨by rw [hR.out.2]; simp [doneS, hR.out.1, behindS, toS, takenS, hasMade, madeS, setS, upd, getS], HG.out⟩
  · go_wp2
    have hK0 := HS.out.drew
    refine wp_region_held_drew (S := Dl s ⟨26, A, B, 3⟩ w.heap.size w2.heap.size) (by kernel_rfl) hK0.l (fun _ => ?_)
    have hS := hK0
    refine take_d (i := 0) (d := some 145) (v := ?_) rfl rfl (by kernel_rfl) (by kernel_rfl) (by kernel_rfl) (fun _ _ _ h => h) (.inl ⟨by rfl, ?_⟩) hS.l ?_
    rotate_left
    · intro W hW
      go_simp
      try with_reducible rfl
    try simp only [Act.put, List.setIfInBounds_toArray, List.set_cons_zero, List.set_cons_succ]
    refine take_d (i := 1) (d := some 146) (v := ?_) rfl rfl (by kernel_rfl) (by kernel_rfl) (by kernel_rfl) (fun _ _ _ h => h) (.inl ⟨by rfl, ?_⟩) hS.l ?_
    rotate_left
    · intro W hW
      have qa := hW.a.s; have qi := hW.i.i
      go_simp
      try with_reducible rfl
    try simp only [Act.put, List.setIfInBounds_toArray, List.set_cons_zero, List.set_cons_succ]
    refine take_d (i := 2) (d := some 147) (v := ?_) rfl rfl (by kernel_rfl) (by kernel_rfl) (by kernel_rfl) (fun _ _ _ h => h) (.inl ⟨by rfl, ?_⟩) hS.l ?_
    rotate_left
    · intro W hW
      go_simp
      try with_reducible rfl
    try simp only [Act.put, List.setIfInBounds_toArray, List.set_cons_zero, List.set_cons_succ]
    refine take_d (i := 3) (d := some 148) (v := ?_) rfl rfl (by kernel_rfl) (by kernel_rfl) (by kernel_rfl) (fun _ _ _ h => h) (.inl ⟨by rfl, ?_⟩) hS.l ?_
    rotate_left
    · intro W hW
      have qa := hW.a.s; have qi := hW.i.i
      go_simp
      try with_reducible rfl
    try simp only [Act.put, List.setIfInBounds_toArray, List.set_cons_zero, List.set_cons_succ]
    refine take_d (i := 4) (d := some 149) (v := ?_) rfl rfl (by kernel_rfl) (by kernel_rfl) (by kernel_rfl) (fun _ _ _ h => h) (.inl ⟨by rfl, ?_⟩) hS.l ?_
    rotate_left
    · intro W hW
      go_simp
      try with_reducible rfl
    try simp only [Act.put, List.setIfInBounds_toArray, List.set_cons_zero, List.set_cons_succ]
    refine take_d (i := 5) (d := some 150) (v := ?_) rfl rfl (by kernel_rfl) (by kernel_rfl) (by kernel_rfl) (fun _ _ _ h => h) (.inl ⟨by rfl, ?_⟩) hS.l ?_
    rotate_left
    · intro W hW
      have qa := hW.a.s; have qi := hW.i.i
      go_simp
      try with_reducible rfl
    try simp only [Act.put, List.setIfInBounds_toArray, List.set_cons_zero, List.set_cons_succ]
    refine take_d (i := 6) (d := some 151) (v := ?_) rfl rfl (by kernel_rfl) (by kernel_rfl) (by kernel_rfl) (fun _ _ _ h => h) (.inl ⟨by rfl, ?_⟩) hS.l ?_
    rotate_left
    · intro W hW
      go_simp
      try with_reducible rfl
    try simp only [Act.put, List.setIfInBounds_toArray, List.set_cons_zero, List.set_cons_succ]
    refine take_d (i := 7) (d := some 152) (v := ?_) rfl rfl (by kernel_rfl) (by kernel_rfl) (by kernel_rfl) (fun _ _ _ h => h) (.inl ⟨by rfl, ?_⟩) hS.l ?_
    rotate_left
    · intro W hW
      have qa := hW.a.s; have qi := hW.i.i
      go_simp
      try with_reducible rfl
    try simp only [Act.put, List.setIfInBounds_toArray, List.set_cons_zero, List.set_cons_succ]
    refine take_d (i := 8) (d := some 153) (v := ?_) rfl rfl (by kernel_rfl) (by kernel_rfl) (by kernel_rfl) (fun _ _ _ h => h) (.inl ⟨by rfl, ?_⟩) hS.l ?_
    rotate_left
    · intro W hW
      go_simp
      try with_reducible rfl
    try simp only [Act.put, List.setIfInBounds_toArray, List.set_cons_zero, List.set_cons_succ]
    refine take_d (i := 9) (d := some 154) (v := ?_) rfl rfl (by kernel_rfl) (by kernel_rfl) (by kernel_rfl) (fun _ _ _ h => h) (.inl ⟨by rfl, ?_⟩) hS.l ?_
    rotate_left
    · intro W hW
      have qa := hW.a.s; have qi := hW.i.i
      go_simp
      try with_reducible rfl
    try simp only [Act.put, List.setIfInBounds_toArray, List.set_cons_zero, List.set_cons_succ]
    refine take_d (i := 10) (d := some 155) (v := .agg (sc s)) rfl rfl (by kernel_rfl) (by kernel_rfl) (by kernel_rfl) (fun _ _ _ h => h) (y_R rowS (by kernel_rfl) rfl rfl (fun W hW => hW.a)) hS.l ?_
    try simp only [Act.put, List.setIfInBounds_toArray, List.set_cons_zero, List.set_cons_succ]
    refine take_d (i := 12) (d := some 157) (v := ?_) rfl rfl (by kernel_rfl) (by kernel_rfl) (by kernel_rfl) (fun _ _ _ h => h) (.inl ⟨by rfl, ?_⟩) hS.l ?_
    rotate_left
    · intro W hW
      go_simp
      try with_reducible rfl
    try simp only [Act.put, List.setIfInBounds_toArray, List.set_cons_zero, List.set_cons_succ]
    refine take_d (i := 13) (d := some 158) (v := ?_) rfl rfl (by kernel_rfl) (by kernel_rfl) (by kernel_rfl) (fun _ _ _ h => h) (.inl ⟨by rfl, ?_⟩) hS.l ?_
    rotate_left
    · intro W hW
      have qa := hW.a.s; have qi := hW.i.i
      go_simp
      try with_reducible rfl
    try simp only [Act.put, List.setIfInBounds_toArray, List.set_cons_zero, List.set_cons_succ]
    refine take_d (i := 15) (d := some 160) (v := ?_) rfl rfl (by kernel_rfl) (by kernel_rfl) (by kernel_rfl) (fun _ _ _ h => h) (.inl ⟨by rfl, ?_⟩) hS.l ?_
    rotate_left
    · intro W hW
      go_simp
      try with_reducible rfl
    try simp only [Act.put, List.setIfInBounds_toArray, List.set_cons_zero, List.set_cons_succ]
    refine take_d (i := 16) (d := some 161) (v := ?_) rfl rfl (by kernel_rfl) (by kernel_rfl) (by kernel_rfl) (fun _ _ _ h => h) (.inl ⟨by rfl, ?_⟩) hS.l ?_
    rotate_left
    · intro W hW
      have qa := hW.a.s; have qi := hW.i.i
      go_simp
      try with_reducible rfl
    try simp only [Act.put, List.setIfInBounds_toArray, List.set_cons_zero, List.set_cons_succ]
    refine take_d (i := 19) (d := some 164) (v := ?_) rfl rfl (by kernel_rfl) (by kernel_rfl) (by kernel_rfl) (fun _ _ _ h => h) (.inl ⟨by rfl, ?_⟩) hS.l ?_
    rotate_left
    · intro W hW
      go_simp
      try with_reducible rfl
    try simp only [Act.put, List.setIfInBounds_toArray, List.set_cons_zero, List.set_cons_succ]
    refine wpAnyH_all (rs := [11]) (by kernel_rfl) (by simp) (fun i hi => ?_)
    simp only [List.mem_cons, List.not_mem_nil, or_false] at hi
    subst hi
    refine .inl ?_
    go_simp
    refine (RStatus_any s _).mono ?_
    rintro e wc ⟨rfl, hb⟩
    have hS := hS.after hb
    clear hb
    refine ⟨hS.l, ?_⟩
    try simp only [Act.put, List.setIfInBounds_toArray, List.set_cons_zero, List.set_cons_succ]
    refine wpAnyH_all (rs := [14]) (by kernel_rfl) (by simp) (fun i hi => ?_)
    simp only [List.mem_cons, List.not_mem_nil, or_false] at hi
    subst hi
    refine .inl ?_
    refine o_row (ty := 22) (d := some 159) rfl #[.int .u32 s.epc, .int .u32 s.cs, .int .u32 s.vec, .int .u32 s.tab, .int .u32 (statusS s), .int .u32 s.pc] 6 (by go_simp) ?_
    intro g WR hg hbR
    replace hS := hS.after hbR
    have hcel : WR.cell? ⟨g, 3, none⟩ = some (.int .u32 (s.tab)) := (hg.cell 3).trans rfl
    clear hg hbR
    refine ⟨hS.l, ?_⟩
    try simp only [Act.put, List.setIfInBounds_toArray, List.set_cons_zero, List.set_cons_succ]
    refine take_d (i := 17) (d := some 162) (v := ?_) rfl rfl (by kernel_rfl) (by kernel_rfl) (by kernel_rfl) (fun _ _ _ h => h) (.inl ⟨by rfl, ?_⟩) hS.l ?_
    rotate_left
    · intro W hW
      go_simp
      try with_reducible rfl
    try simp only [Act.put, List.setIfInBounds_toArray, List.set_cons_zero, List.set_cons_succ]
    refine wpAnyH_all (rs := [18]) (by kernel_rfl) (by simp) (fun i hi => ?_)
    simp only [List.mem_cons, List.not_mem_nil, or_false] at hi
    subst hi
    refine .inl ?_
    refine o_ok (d := some 163) rfl (.int .u32 (s.tab)) _ (by go_simp) ⟨hS.l, ?_⟩
    try simp only [Act.put, List.setIfInBounds_toArray, List.set_cons_zero, List.set_cons_succ]
    refine take_d (i := 20) (d := some 165) (v := ?_) rfl rfl (by kernel_rfl) (by kernel_rfl) (by kernel_rfl) (fun _ _ _ h => h) (.inl ⟨by rfl, ?_⟩) hS.l ?_
    rotate_left
    · intro W hW
      go_simp
      try with_reducible rfl
    try simp only [Act.put, List.setIfInBounds_toArray, List.set_cons_zero, List.set_cons_succ]
    refine wpAnyH_all (rs := [21]) (by kernel_rfl) (by simp) (fun i hi => ?_)
    simp only [List.mem_cons, List.not_mem_nil, or_false] at hi
    subst hi
    refine .inl ?_
    refine o_store_o (d := none) hS A (s.tab) (upd { s with pc := (s.pc + 4) % 4294967296 } A (s.tab)) (sc_upd _ _ hA) (.int .u32 (s.r A)) (sc_reg _ hA) rfl rfl rfl rfl ?_
    clear hS
    intro WS hS
    refine ⟨hS.l, ?_⟩
    try simp only [Act.put, List.setIfInBounds_toArray, List.set_cons_zero, List.set_cons_succ]
    refine wpAnyH_done (by kernel_rfl) ?_ _
    clear qs qi HS
    have qs := hS.l.a.s
    have qi := hS.l.i.i
    have HS := Lib.hid hS
    clear hS hK0
    have HF := Lib.hid (HS.out.r.set (sc_ok (upd { s with pc := (s.pc + 4) % 4294967296 } A (s.tab))))
    have HG := Lib.hid (below_setRow HS.out.b (show w.heap.size ≤ w.heap.size + 1 by omega) (sc (upd { s with pc := (s.pc + 4) % 4294967296 } A (s.tab))))
    go_wp2_with (first | ((with_reducible refine wp_load_R rowS HS.out.o ?_ ?_); (kernel_rfl)) | ((with_reducible refine wp_store_R (sc (upd { s with pc := (s.pc + 4) % 4294967296 } A (s.tab))) rowS ⟨HS.out.r, sc_ok _⟩ ?_ ?_ ?_); (kernel_rfl); (kernel_rfl)))
    exact bodyPost_ret (res_R rowS (fn := Tryd.f22) rfl _ HF.out (by kernel_rfl)) rfl ⟨by rw [hR.out.2]; simp [doneS, hR.out.1, behindS, toS, takenS, hasMade, madeS, setS, upd, getS], HG.out⟩
  · go_wp2
    have hK0 := HS.out.drew
    refine wp_region_held_drew (S := Dl s ⟨26, A, B, 4⟩ w.heap.size w2.heap.size) (by kernel_rfl) hK0.l (fun _ => ?_)
    have hS := hK0
    refine take_d (i := 0) (d := some 145) (v := ?_) rfl rfl (by kernel_rfl) (by kernel_rfl) (by kernel_rfl) (fun _ _ _ h => h) (.inl ⟨by rfl, ?_⟩) hS.l ?_
    rotate_left
    · intro W hW
      go_simp
      try with_reducible rfl
    try simp only [Act.put, List.setIfInBounds_toArray, List.set_cons_zero, List.set_cons_succ]
    refine take_d (i := 1) (d := some 146) (v := ?_) rfl rfl (by kernel_rfl) (by kernel_rfl) (by kernel_rfl) (fun _ _ _ h => h) (.inl ⟨by rfl, ?_⟩) hS.l ?_
    rotate_left
    · intro W hW
      have qa := hW.a.s; have qi := hW.i.i
      go_simp
      try with_reducible rfl
    try simp only [Act.put, List.setIfInBounds_toArray, List.set_cons_zero, List.set_cons_succ]
    refine take_d (i := 2) (d := some 147) (v := ?_) rfl rfl (by kernel_rfl) (by kernel_rfl) (by kernel_rfl) (fun _ _ _ h => h) (.inl ⟨by rfl, ?_⟩) hS.l ?_
    rotate_left
    · intro W hW
      go_simp
      try with_reducible rfl
    try simp only [Act.put, List.setIfInBounds_toArray, List.set_cons_zero, List.set_cons_succ]
    refine take_d (i := 3) (d := some 148) (v := ?_) rfl rfl (by kernel_rfl) (by kernel_rfl) (by kernel_rfl) (fun _ _ _ h => h) (.inl ⟨by rfl, ?_⟩) hS.l ?_
    rotate_left
    · intro W hW
      have qa := hW.a.s; have qi := hW.i.i
      go_simp
      try with_reducible rfl
    try simp only [Act.put, List.setIfInBounds_toArray, List.set_cons_zero, List.set_cons_succ]
    refine take_d (i := 4) (d := some 149) (v := ?_) rfl rfl (by kernel_rfl) (by kernel_rfl) (by kernel_rfl) (fun _ _ _ h => h) (.inl ⟨by rfl, ?_⟩) hS.l ?_
    rotate_left
    · intro W hW
      go_simp
      try with_reducible rfl
    try simp only [Act.put, List.setIfInBounds_toArray, List.set_cons_zero, List.set_cons_succ]
    refine take_d (i := 5) (d := some 150) (v := ?_) rfl rfl (by kernel_rfl) (by kernel_rfl) (by kernel_rfl) (fun _ _ _ h => h) (.inl ⟨by rfl, ?_⟩) hS.l ?_
    rotate_left
    · intro W hW
      have qa := hW.a.s; have qi := hW.i.i
      go_simp
      try with_reducible rfl
    try simp only [Act.put, List.setIfInBounds_toArray, List.set_cons_zero, List.set_cons_succ]
    refine take_d (i := 6) (d := some 151) (v := ?_) rfl rfl (by kernel_rfl) (by kernel_rfl) (by kernel_rfl) (fun _ _ _ h => h) (.inl ⟨by rfl, ?_⟩) hS.l ?_
    rotate_left
    · intro W hW
      go_simp
      try with_reducible rfl
    try simp only [Act.put, List.setIfInBounds_toArray, List.set_cons_zero, List.set_cons_succ]
    refine take_d (i := 7) (d := some 152) (v := ?_) rfl rfl (by kernel_rfl) (by kernel_rfl) (by kernel_rfl) (fun _ _ _ h => h) (.inl ⟨by rfl, ?_⟩) hS.l ?_
    rotate_left
    · intro W hW
      have qa := hW.a.s; have qi := hW.i.i
      go_simp
      try with_reducible rfl
    try simp only [Act.put, List.setIfInBounds_toArray, List.set_cons_zero, List.set_cons_succ]
    refine take_d (i := 8) (d := some 153) (v := ?_) rfl rfl (by kernel_rfl) (by kernel_rfl) (by kernel_rfl) (fun _ _ _ h => h) (.inl ⟨by rfl, ?_⟩) hS.l ?_
    rotate_left
    · intro W hW
      go_simp
      try with_reducible rfl
    try simp only [Act.put, List.setIfInBounds_toArray, List.set_cons_zero, List.set_cons_succ]
    refine take_d (i := 9) (d := some 154) (v := ?_) rfl rfl (by kernel_rfl) (by kernel_rfl) (by kernel_rfl) (fun _ _ _ h => h) (.inl ⟨by rfl, ?_⟩) hS.l ?_
    rotate_left
    · intro W hW
      have qa := hW.a.s; have qi := hW.i.i
      go_simp
      try with_reducible rfl
    try simp only [Act.put, List.setIfInBounds_toArray, List.set_cons_zero, List.set_cons_succ]
    refine take_d (i := 10) (d := some 155) (v := .agg (sc s)) rfl rfl (by kernel_rfl) (by kernel_rfl) (by kernel_rfl) (fun _ _ _ h => h) (y_R rowS (by kernel_rfl) rfl rfl (fun W hW => hW.a)) hS.l ?_
    try simp only [Act.put, List.setIfInBounds_toArray, List.set_cons_zero, List.set_cons_succ]
    refine take_d (i := 12) (d := some 157) (v := ?_) rfl rfl (by kernel_rfl) (by kernel_rfl) (by kernel_rfl) (fun _ _ _ h => h) (.inl ⟨by rfl, ?_⟩) hS.l ?_
    rotate_left
    · intro W hW
      go_simp
      try with_reducible rfl
    try simp only [Act.put, List.setIfInBounds_toArray, List.set_cons_zero, List.set_cons_succ]
    refine take_d (i := 13) (d := some 158) (v := ?_) rfl rfl (by kernel_rfl) (by kernel_rfl) (by kernel_rfl) (fun _ _ _ h => h) (.inl ⟨by rfl, ?_⟩) hS.l ?_
    rotate_left
    · intro W hW
      have qa := hW.a.s; have qi := hW.i.i
      go_simp
      try with_reducible rfl
    try simp only [Act.put, List.setIfInBounds_toArray, List.set_cons_zero, List.set_cons_succ]
    refine take_d (i := 15) (d := some 160) (v := ?_) rfl rfl (by kernel_rfl) (by kernel_rfl) (by kernel_rfl) (fun _ _ _ h => h) (.inl ⟨by rfl, ?_⟩) hS.l ?_
    rotate_left
    · intro W hW
      go_simp
      try with_reducible rfl
    try simp only [Act.put, List.setIfInBounds_toArray, List.set_cons_zero, List.set_cons_succ]
    refine take_d (i := 16) (d := some 161) (v := ?_) rfl rfl (by kernel_rfl) (by kernel_rfl) (by kernel_rfl) (fun _ _ _ h => h) (.inl ⟨by rfl, ?_⟩) hS.l ?_
    rotate_left
    · intro W hW
      have qa := hW.a.s; have qi := hW.i.i
      go_simp
      try with_reducible rfl
    try simp only [Act.put, List.setIfInBounds_toArray, List.set_cons_zero, List.set_cons_succ]
    refine take_d (i := 19) (d := some 164) (v := ?_) rfl rfl (by kernel_rfl) (by kernel_rfl) (by kernel_rfl) (fun _ _ _ h => h) (.inl ⟨by rfl, ?_⟩) hS.l ?_
    rotate_left
    · intro W hW
      go_simp
      try with_reducible rfl
    try simp only [Act.put, List.setIfInBounds_toArray, List.set_cons_zero, List.set_cons_succ]
    refine wpAnyH_all (rs := [11]) (by kernel_rfl) (by simp) (fun i hi => ?_)
    simp only [List.mem_cons, List.not_mem_nil, or_false] at hi
    subst hi
    refine .inl ?_
    go_simp
    refine (RStatus_any s _).mono ?_
    rintro e wc ⟨rfl, hb⟩
    have hS := hS.after hb
    clear hb
    refine ⟨hS.l, ?_⟩
    try simp only [Act.put, List.setIfInBounds_toArray, List.set_cons_zero, List.set_cons_succ]
    refine wpAnyH_all (rs := [14]) (by kernel_rfl) (by simp) (fun i hi => ?_)
    simp only [List.mem_cons, List.not_mem_nil, or_false] at hi
    subst hi
    refine .inl ?_
    refine o_row (ty := 22) (d := some 159) rfl #[.int .u32 s.epc, .int .u32 s.cs, .int .u32 s.vec, .int .u32 s.tab, .int .u32 (statusS s), .int .u32 s.pc] 6 (by go_simp) ?_
    intro g WR hg hbR
    replace hS := hS.after hbR
    have hcel : WR.cell? ⟨g, 4, none⟩ = some (.int .u32 (statusS s)) := (hg.cell 4).trans rfl
    clear hg hbR
    refine ⟨hS.l, ?_⟩
    try simp only [Act.put, List.setIfInBounds_toArray, List.set_cons_zero, List.set_cons_succ]
    refine take_d (i := 17) (d := some 162) (v := ?_) rfl rfl (by kernel_rfl) (by kernel_rfl) (by kernel_rfl) (fun _ _ _ h => h) (.inl ⟨by rfl, ?_⟩) hS.l ?_
    rotate_left
    · intro W hW
      go_simp
      try with_reducible rfl
    try simp only [Act.put, List.setIfInBounds_toArray, List.set_cons_zero, List.set_cons_succ]
    refine wpAnyH_all (rs := [18]) (by kernel_rfl) (by simp) (fun i hi => ?_)
    simp only [List.mem_cons, List.not_mem_nil, or_false] at hi
    subst hi
    refine .inl ?_
    refine o_ok (d := some 163) rfl (.int .u32 (statusS s)) _ (by go_simp) ⟨hS.l, ?_⟩
    try simp only [Act.put, List.setIfInBounds_toArray, List.set_cons_zero, List.set_cons_succ]
    refine take_d (i := 20) (d := some 165) (v := ?_) rfl rfl (by kernel_rfl) (by kernel_rfl) (by kernel_rfl) (fun _ _ _ h => h) (.inl ⟨by rfl, ?_⟩) hS.l ?_
    rotate_left
    · intro W hW
      go_simp
      try with_reducible rfl
    try simp only [Act.put, List.setIfInBounds_toArray, List.set_cons_zero, List.set_cons_succ]
    refine wpAnyH_all (rs := [21]) (by kernel_rfl) (by simp) (fun i hi => ?_)
    simp only [List.mem_cons, List.not_mem_nil, or_false] at hi
    subst hi
    refine .inl ?_
    refine o_store_o (d := none) hS A (statusS s) (upd { s with pc := (s.pc + 4) % 4294967296 } A (statusS s)) (sc_upd _ _ hA) (.int .u32 (s.r A)) (sc_reg _ hA) rfl rfl rfl rfl ?_
    clear hS
    intro WS hS
    refine ⟨hS.l, ?_⟩
    try simp only [Act.put, List.setIfInBounds_toArray, List.set_cons_zero, List.set_cons_succ]
    refine wpAnyH_done (by kernel_rfl) ?_ _
    clear qs qi HS
    have qs := hS.l.a.s
    have qi := hS.l.i.i
    have HS := Lib.hid hS
    clear hS hK0
    have HF := Lib.hid (HS.out.r.set (sc_ok (upd { s with pc := (s.pc + 4) % 4294967296 } A (statusS s))))
    have HG := Lib.hid (below_setRow HS.out.b (show w.heap.size ≤ w.heap.size + 1 by omega) (sc (upd { s with pc := (s.pc + 4) % 4294967296 } A (statusS s))))
    go_wp2_with (first | ((with_reducible refine wp_load_R rowS HS.out.o ?_ ?_); (kernel_rfl)) | ((with_reducible refine wp_store_R (sc (upd { s with pc := (s.pc + 4) % 4294967296 } A (statusS s))) rowS ⟨HS.out.r, sc_ok _⟩ ?_ ?_ ?_); (kernel_rfl); (kernel_rfl)))
    exact bodyPost_ret (res_R rowS (fn := Tryd.f22) rfl _ HF.out (by kernel_rfl)) rfl ⟨by rw [hR.out.2]; simp [doneS, hR.out.1, behindS, toS, takenS, hasMade, madeS, setS, upd, getS], HG.out⟩
  · go_wp2
    have hK0 := HS.out.drew
    refine wp_region_held_drew (S := Dl s ⟨26, A, B, 5⟩ w.heap.size w2.heap.size) (by kernel_rfl) hK0.l (fun _ => ?_)
    have hS := hK0
    refine take_d (i := 0) (d := some 145) (v := ?_) rfl rfl (by kernel_rfl) (by kernel_rfl) (by kernel_rfl) (fun _ _ _ h => h) (.inl ⟨by rfl, ?_⟩) hS.l ?_
    rotate_left
    · intro W hW
      go_simp
      try with_reducible rfl
    try simp only [Act.put, List.setIfInBounds_toArray, List.set_cons_zero, List.set_cons_succ]
    refine take_d (i := 1) (d := some 146) (v := ?_) rfl rfl (by kernel_rfl) (by kernel_rfl) (by kernel_rfl) (fun _ _ _ h => h) (.inl ⟨by rfl, ?_⟩) hS.l ?_
    rotate_left
    · intro W hW
      have qa := hW.a.s; have qi := hW.i.i
      go_simp
      try with_reducible rfl
    try simp only [Act.put, List.setIfInBounds_toArray, List.set_cons_zero, List.set_cons_succ]
    refine take_d (i := 2) (d := some 147) (v := ?_) rfl rfl (by kernel_rfl) (by kernel_rfl) (by kernel_rfl) (fun _ _ _ h => h) (.inl ⟨by rfl, ?_⟩) hS.l ?_
    rotate_left
    · intro W hW
      go_simp
      try with_reducible rfl
    try simp only [Act.put, List.setIfInBounds_toArray, List.set_cons_zero, List.set_cons_succ]
    refine take_d (i := 3) (d := some 148) (v := ?_) rfl rfl (by kernel_rfl) (by kernel_rfl) (by kernel_rfl) (fun _ _ _ h => h) (.inl ⟨by rfl, ?_⟩) hS.l ?_
    rotate_left
    · intro W hW
      have qa := hW.a.s; have qi := hW.i.i
      go_simp
      try with_reducible rfl
    try simp only [Act.put, List.setIfInBounds_toArray, List.set_cons_zero, List.set_cons_succ]
    refine take_d (i := 4) (d := some 149) (v := ?_) rfl rfl (by kernel_rfl) (by kernel_rfl) (by kernel_rfl) (fun _ _ _ h => h) (.inl ⟨by rfl, ?_⟩) hS.l ?_
    rotate_left
    · intro W hW
      go_simp
      try with_reducible rfl
    try simp only [Act.put, List.setIfInBounds_toArray, List.set_cons_zero, List.set_cons_succ]
    refine take_d (i := 5) (d := some 150) (v := ?_) rfl rfl (by kernel_rfl) (by kernel_rfl) (by kernel_rfl) (fun _ _ _ h => h) (.inl ⟨by rfl, ?_⟩) hS.l ?_
    rotate_left
    · intro W hW
      have qa := hW.a.s; have qi := hW.i.i
      go_simp
      try with_reducible rfl
    try simp only [Act.put, List.setIfInBounds_toArray, List.set_cons_zero, List.set_cons_succ]
    refine take_d (i := 6) (d := some 151) (v := ?_) rfl rfl (by kernel_rfl) (by kernel_rfl) (by kernel_rfl) (fun _ _ _ h => h) (.inl ⟨by rfl, ?_⟩) hS.l ?_
    rotate_left
    · intro W hW
      go_simp
      try with_reducible rfl
    try simp only [Act.put, List.setIfInBounds_toArray, List.set_cons_zero, List.set_cons_succ]
    refine take_d (i := 7) (d := some 152) (v := ?_) rfl rfl (by kernel_rfl) (by kernel_rfl) (by kernel_rfl) (fun _ _ _ h => h) (.inl ⟨by rfl, ?_⟩) hS.l ?_
    rotate_left
    · intro W hW
      have qa := hW.a.s; have qi := hW.i.i
      go_simp
      try with_reducible rfl
    try simp only [Act.put, List.setIfInBounds_toArray, List.set_cons_zero, List.set_cons_succ]
    refine take_d (i := 8) (d := some 153) (v := ?_) rfl rfl (by kernel_rfl) (by kernel_rfl) (by kernel_rfl) (fun _ _ _ h => h) (.inl ⟨by rfl, ?_⟩) hS.l ?_
    rotate_left
    · intro W hW
      go_simp
      try with_reducible rfl
    try simp only [Act.put, List.setIfInBounds_toArray, List.set_cons_zero, List.set_cons_succ]
    refine take_d (i := 9) (d := some 154) (v := ?_) rfl rfl (by kernel_rfl) (by kernel_rfl) (by kernel_rfl) (fun _ _ _ h => h) (.inl ⟨by rfl, ?_⟩) hS.l ?_
    rotate_left
    · intro W hW
      have qa := hW.a.s; have qi := hW.i.i
      go_simp
      try with_reducible rfl
    try simp only [Act.put, List.setIfInBounds_toArray, List.set_cons_zero, List.set_cons_succ]
    refine take_d (i := 10) (d := some 155) (v := .agg (sc s)) rfl rfl (by kernel_rfl) (by kernel_rfl) (by kernel_rfl) (fun _ _ _ h => h) (y_R rowS (by kernel_rfl) rfl rfl (fun W hW => hW.a)) hS.l ?_
    try simp only [Act.put, List.setIfInBounds_toArray, List.set_cons_zero, List.set_cons_succ]
    refine take_d (i := 12) (d := some 157) (v := ?_) rfl rfl (by kernel_rfl) (by kernel_rfl) (by kernel_rfl) (fun _ _ _ h => h) (.inl ⟨by rfl, ?_⟩) hS.l ?_
    rotate_left
    · intro W hW
      go_simp
      try with_reducible rfl
    try simp only [Act.put, List.setIfInBounds_toArray, List.set_cons_zero, List.set_cons_succ]
    refine take_d (i := 13) (d := some 158) (v := ?_) rfl rfl (by kernel_rfl) (by kernel_rfl) (by kernel_rfl) (fun _ _ _ h => h) (.inl ⟨by rfl, ?_⟩) hS.l ?_
    rotate_left
    · intro W hW
      have qa := hW.a.s; have qi := hW.i.i
      go_simp
      try with_reducible rfl
    try simp only [Act.put, List.setIfInBounds_toArray, List.set_cons_zero, List.set_cons_succ]
    refine take_d (i := 15) (d := some 160) (v := ?_) rfl rfl (by kernel_rfl) (by kernel_rfl) (by kernel_rfl) (fun _ _ _ h => h) (.inl ⟨by rfl, ?_⟩) hS.l ?_
    rotate_left
    · intro W hW
      go_simp
      try with_reducible rfl
    try simp only [Act.put, List.setIfInBounds_toArray, List.set_cons_zero, List.set_cons_succ]
    refine take_d (i := 16) (d := some 161) (v := ?_) rfl rfl (by kernel_rfl) (by kernel_rfl) (by kernel_rfl) (fun _ _ _ h => h) (.inl ⟨by rfl, ?_⟩) hS.l ?_
    rotate_left
    · intro W hW
      have qa := hW.a.s; have qi := hW.i.i
      go_simp
      try with_reducible rfl
    try simp only [Act.put, List.setIfInBounds_toArray, List.set_cons_zero, List.set_cons_succ]
    refine take_d (i := 19) (d := some 164) (v := ?_) rfl rfl (by kernel_rfl) (by kernel_rfl) (by kernel_rfl) (fun _ _ _ h => h) (.inl ⟨by rfl, ?_⟩) hS.l ?_
    rotate_left
    · intro W hW
      go_simp
      try with_reducible rfl
    try simp only [Act.put, List.setIfInBounds_toArray, List.set_cons_zero, List.set_cons_succ]
    refine wpAnyH_all (rs := [11]) (by kernel_rfl) (by simp) (fun i hi => ?_)
    simp only [List.mem_cons, List.not_mem_nil, or_false] at hi
    subst hi
    refine .inl ?_
    go_simp
    refine (RStatus_any s _).mono ?_
    rintro e wc ⟨rfl, hb⟩
    have hS := hS.after hb
    clear hb
    refine ⟨hS.l, ?_⟩
    try simp only [Act.put, List.setIfInBounds_toArray, List.set_cons_zero, List.set_cons_succ]
    refine wpAnyH_all (rs := [14]) (by kernel_rfl) (by simp) (fun i hi => ?_)
    simp only [List.mem_cons, List.not_mem_nil, or_false] at hi
    subst hi
    refine .inl ?_
    refine o_row (ty := 22) (d := some 159) rfl #[.int .u32 s.epc, .int .u32 s.cs, .int .u32 s.vec, .int .u32 s.tab, .int .u32 (statusS s), .int .u32 s.pc] 6 (by go_simp) ?_
    intro g WR hg hbR
    replace hS := hS.after hbR
    have hcel : WR.cell? ⟨g, 5, none⟩ = some (.int .u32 (s.pc)) := (hg.cell 5).trans rfl
    clear hg hbR
    refine ⟨hS.l, ?_⟩
    try simp only [Act.put, List.setIfInBounds_toArray, List.set_cons_zero, List.set_cons_succ]
    refine take_d (i := 17) (d := some 162) (v := ?_) rfl rfl (by kernel_rfl) (by kernel_rfl) (by kernel_rfl) (fun _ _ _ h => h) (.inl ⟨by rfl, ?_⟩) hS.l ?_
    rotate_left
    · intro W hW
      go_simp
      try with_reducible rfl
    try simp only [Act.put, List.setIfInBounds_toArray, List.set_cons_zero, List.set_cons_succ]
    refine wpAnyH_all (rs := [18]) (by kernel_rfl) (by simp) (fun i hi => ?_)
    simp only [List.mem_cons, List.not_mem_nil, or_false] at hi
    subst hi
    refine .inl ?_
    refine o_ok (d := some 163) rfl (.int .u32 (s.pc)) _ (by go_simp) ⟨hS.l, ?_⟩
    try simp only [Act.put, List.setIfInBounds_toArray, List.set_cons_zero, List.set_cons_succ]
    refine take_d (i := 20) (d := some 165) (v := ?_) rfl rfl (by kernel_rfl) (by kernel_rfl) (by kernel_rfl) (fun _ _ _ h => h) (.inl ⟨by rfl, ?_⟩) hS.l ?_
    rotate_left
    · intro W hW
      go_simp
      try with_reducible rfl
    try simp only [Act.put, List.setIfInBounds_toArray, List.set_cons_zero, List.set_cons_succ]
    refine wpAnyH_all (rs := [21]) (by kernel_rfl) (by simp) (fun i hi => ?_)
    simp only [List.mem_cons, List.not_mem_nil, or_false] at hi
    subst hi
    refine .inl ?_
    refine o_store_o (d := none) hS A (s.pc) (upd { s with pc := (s.pc + 4) % 4294967296 } A (s.pc)) (sc_upd _ _ hA) (.int .u32 (s.r A)) (sc_reg _ hA) rfl rfl rfl rfl ?_
    clear hS
    intro WS hS
    refine ⟨hS.l, ?_⟩
    try simp only [Act.put, List.setIfInBounds_toArray, List.set_cons_zero, List.set_cons_succ]
    refine wpAnyH_done (by kernel_rfl) ?_ _
    clear qs qi HS
    have qs := hS.l.a.s
    have qi := hS.l.i.i
    have HS := Lib.hid hS
    clear hS hK0
    have HF := Lib.hid (HS.out.r.set (sc_ok (upd { s with pc := (s.pc + 4) % 4294967296 } A (s.pc))))
    have HG := Lib.hid (below_setRow HS.out.b (show w.heap.size ≤ w.heap.size + 1 by omega) (sc (upd { s with pc := (s.pc + 4) % 4294967296 } A (s.pc))))
    go_wp2_with (first | ((with_reducible refine wp_load_R rowS HS.out.o ?_ ?_); (kernel_rfl)) | ((with_reducible refine wp_store_R (sc (upd { s with pc := (s.pc + 4) % 4294967296 } A (s.pc))) rowS ⟨HS.out.r, sc_ok _⟩ ?_ ?_ ?_); (kernel_rfl); (kernel_rfl)))
    exact bodyPost_ret (res_R rowS (fn := Tryd.f22) rfl _ HF.out (by kernel_rfl)) rfl ⟨by rw [hR.out.2]; simp [doneS, hR.out.1, behindS, toS, takenS, hasMade, madeS, setS, upd, getS], HG.out⟩
end Go.Proofs.YthjdfneibogcgaaDoor
