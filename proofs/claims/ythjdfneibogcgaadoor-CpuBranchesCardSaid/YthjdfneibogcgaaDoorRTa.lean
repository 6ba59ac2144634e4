/-
  Layer 10: the document's Touches: a walk, more words. Written by gen_tq.py.
-/
import Derived.Test.YthjdfneibogcgaaDoorRTb
namespace Go.Proofs.YthjdfneibogcgaaDoor
open Go.RowKit
set_option maxHeartbeats 16000000
set_option linter.unusedVariables false
set_option linter.unusedSimpArgs false

set_option maxRecDepth 100000 in
theorem RTouches_a (s : Sta) (x op : Int) (A B : Nat) (m : Int) (hA : A < 8) (hB : B < 8) (QQ : Bool) (P : Wnt) (LR : List Tch)
    (hcase : Hid ((P.kind = 1 ∧ P.cause = 6 ∧ LR = [⟨on 0, [rg B]⟩] ++ trapT) ∨ (P.kind = 1 ∧ P.cause ≠ 6 ∧ LR = trapT) ∨ (P.kind ≠ 1 ∧ (op = 1 ∨ op = 2 ∨ op = 3 ∨ op = 4 ∨ op = 5 ∨ op = 6 ∨ op = 7 ∨ op = 8 ∨ op = 9 ∨ op = 10 ∨ op = 11 ∨ op = 12 ∨ op = 13 ∨ op = 14 ∨ op = 15 ∨ op = 16 ∨ op = 17 ∨ op = 18 ∨ op = 19 ∨ op = 22 ∨ op = 23 ∨ op = 24 ∨ op = 25 ∨ op = 28) ∧ (op = 26 ∨ op = 27 → 0 ≤ m ∧ m < 6) ∧ LR = aheadT ⟨op, A, B, m⟩ ++ behindT ⟨op, A, B, m⟩ ++ movedT ⟨op, A, B, m⟩))) (w : World)
    (HP : Hid (∀ W, Calls Tryd.prog 21 #[.agg (sc s), .int .u32 x] W fun e w' => e = .returned (.agg (wnt P)) ∧ Below W.heap.size W w'))
    (HD : Hid (∀ W, Calls Tryd.prog 35 #[.int .u32 x] W fun e w' => e = .returned (.tuple #[.agg (ic ⟨op, A, B, m⟩), .bool QQ]) ∧ Below W.heap.size W w')) : Calls Tryd.prog 24 #[.agg (sc s), .int .u32 x] w fun e w' => (∃ v, e = .returned v ∧ TsIs w' v LR) ∧ Below w.heap.size w w' := by
  have HS := Lib.hid (rs_new w s)
  have HB := Lib.hid (bel1 w (.cells (sc s) 25))
  go_enter Tryd.func24, Tryd.ntmps24
  go_wp2_with ((with_reducible refine wp_load_R rowS HS.out ?_ ?_); (kernel_rfl))
  refine (HP.out _).mono ?_
  rintro e w1 ⟨rfl, b1⟩
  obtain ⟨W1, HX1⟩ : ∃ W1, Hid (W1 = w1.alloc (.cells (wnt P) 42)) := ⟨_, rfl⟩
  have hb1 := HB.out.trans (b1.mono HB.out.size)
  have HW1 : Hid (w.heap.size < w1.heap.size) := Lib.hid (by have := b1.size; simp at this; omega)
  have HP1 : Hid (Pb w [(w1.heap.size, 42, 6, wnt P)] W1) := Lib.hid (by
    rw [HX1.out]
    exact ⟨hb1.alloc hb1.size _, ⟨⟨(wnt_ok P).new 42 w1, by decide, by decide⟩, trivial⟩⟩)
  clear b1 hb1 HS HP
  go_wp2_with (first | ((with_reducible refine wp_store_Rn (wnt P) rowW ?_ ?_ ?_ ?_); (exact ⟨rfl, wnt_ok _⟩); (kernel_rfl); (kernel_rfl); (rw [← HX1.out])))
  refine (HD.out _).mono ?_
  rintro e w2 ⟨rfl, b2⟩
  obtain ⟨W2, HX2⟩ : ∃ W2, Hid (W2 = w2.alloc (.cells (ic ⟨op, A, B, m⟩) 56)) := ⟨_, rfl⟩
  have HP2 : Hid (Pb w [(w2.heap.size, 56, 4, ic ⟨op, A, B, m⟩), (w1.heap.size, 42, 6, wnt P)] W2) := Lib.hid (by
    rw [HX2.out]
    exact (HP1.out.after b2).box (bel1 w2 _) ((ins_ok ⟨op, A, B, m⟩).new 56 w2) (by decide) (by decide))
  clear b2 HP1 HB HX1
  go_wp2_with (first | ((with_reducible refine wp_store_Rn (ic ⟨op, A, B, m⟩) rowI ?_ ?_ ?_ ?_); (exact ⟨rfl, ins_ok _⟩); (kernel_rfl); (kernel_rfl); (rw [← HX2.out])))
  have hK0 := HP2.out.drew
  clear HP2 HX2 HD
  refine cut_r (fun g4 g5 => ⟨#[Value.agg (sc s), Value.int .u32 x, Value.pointer (some ⟨w.heap.size, 0, none⟩), undef, Value.slice none 0 0, Value.pointer (some ⟨w1.heap.size, 0, none⟩), Value.pointer (some ⟨w2.heap.size, 0, none⟩), Value.bool QQ, Value.pointer (some ⟨g4, 0, none⟩), Value.pointer (some ⟨g5, 0, none⟩), undef, undef, undef, Value.agg (sc s), Value.int .u32 x, Value.agg (wnt P), Value.tuple #[Value.agg (ic ⟨op, A, B, m⟩), Value.bool QQ], Value.int .u32 x, Value.tuple #[Value.agg (ic ⟨op, A, B, m⟩), Value.bool QQ], Value.agg (ic ⟨op, A, B, m⟩), Value.bool QQ, Value.pointer (some ⟨w2.heap.size, 1, none⟩), Value.int .i64 A, Value.agg #[Value.int .i64 1, Value.int .i64 A], Value.pointer (some ⟨w2.heap.size, 2, none⟩), Value.int .i64 B, Value.agg #[Value.int .i64 1, Value.int .i64 B], undef, undef, undef, undef, undef, undef, undef, undef, undef, undef, undef, undef, undef, undef, undef, undef, undef, undef, undef, undef, undef, undef, undef, undef, undef, undef, undef, undef, undef, undef, undef, undef, undef, undef, undef, undef, undef, undef, undef, undef, undef, undef, undef, undef, undef, undef, undef, undef, undef, undef, undef, undef, undef, undef, undef, undef, undef, undef, undef, undef, undef, undef, undef, undef, undef, undef, undef, undef, undef, undef, undef, undef, undef, undef, undef, undef, undef, undef, undef, undef, undef, undef, undef, undef, undef, undef, undef, undef, undef, undef, undef, undef, undef, undef, undef, undef, undef, undef, undef, undef, undef, undef, undef, undef, undef, undef, undef, undef, undef, undef, undef, undef, undef, undef, undef, undef, undef, undef, undef, undef, undef, undef, undef, undef, undef, undef, undef, undef, undef, undef, undef, undef, undef, undef, undef, undef, undef, undef, undef, undef, undef, undef, undef, undef, undef, undef, undef, undef, undef, undef, undef, undef, undef, undef, undef, undef, undef, undef, undef, undef, undef, undef, undef, undef, undef, undef, undef, undef, undef, undef, undef, undef, undef, undef, undef, undef, undef, undef, undef, undef, undef, undef, undef, undef, undef, undef, undef, undef, undef, undef, undef, undef, undef, undef, undef, undef, undef, undef, undef, undef], []⟩) (fun g4 g5 W' => Rh w [(w2.heap.size, 56, 4, ic ⟨op, A, B, m⟩), (w1.heap.size, 42, 6, wnt P)] A B g4 g5 W') (fun hQ => ?_) ?_
  · refine wp_region_held_drew (S := fun W => Bks W [(w2.heap.size, 56, 4, ic ⟨op, A, B, m⟩), (w1.heap.size, 42, 6, wnt P)]) (by kernel_rfl) hK0.b (fun _ => ?_)
    have hS := hK0
    refine take_d (i := 0) (d := some 21) (v := ?_) rfl rfl (by kernel_rfl) (by kernel_rfl) (by kernel_rfl) (fun _ _ _ h => h) (.inl ⟨by rfl, ?_⟩) hS.b ?_
    rotate_left
    · intro W hW
      go_simp
      try with_reducible rfl
    try simp only [Act.put, List.setIfInBounds_toArray, List.set_cons_zero, List.set_cons_succ]
    refine take_d (i := 1) (d := some 22) (v := ?_) rfl rfl (by kernel_rfl) (by kernel_rfl) (by kernel_rfl) (fun _ _ _ h => h) (.inl ⟨by rfl, ?_⟩) hS.b ?_
    rotate_left
    · intro W hW
      have q := hW.h0.i
      go_simp
      try with_reducible rfl
    try simp only [Act.put, List.setIfInBounds_toArray, List.set_cons_zero, List.set_cons_succ]
    refine take_d (i := 3) (d := some 24) (v := ?_) rfl rfl (by kernel_rfl) (by kernel_rfl) (by kernel_rfl) (fun _ _ _ h => h) (.inl ⟨by rfl, ?_⟩) hS.b ?_
    rotate_left
    · intro W hW
      go_simp
      try with_reducible rfl
    try simp only [Act.put, List.setIfInBounds_toArray, List.set_cons_zero, List.set_cons_succ]
    refine take_d (i := 4) (d := some 25) (v := ?_) rfl rfl (by kernel_rfl) (by kernel_rfl) (by kernel_rfl) (fun _ _ _ h => h) (.inl ⟨by rfl, ?_⟩) hS.b ?_
    rotate_left
    · intro W hW
      have q := hW.h0.i
      go_simp
      try with_reducible rfl
    try simp only [Act.put, List.setIfInBounds_toArray, List.set_cons_zero, List.set_cons_succ]
    refine wpAnyH_all (rs := [2,6,7]) (by kernel_rfl) (by simp) (fun i hi => ?_)
    simp only [List.mem_cons, List.not_mem_nil, or_false] at hi
    rcases hi with rfl | rfl | rfl
    · refine .inl ?_
      go_simp
      refine (RReg_any A _).mono ?_
      rintro e wc ⟨rfl, hb⟩
      try replace rg4 := Rf.below rg4 hb
      try replace rg5 := Rf.below rg5 hb
      try replace ltg4 : g4 < _ := Nat.lt_of_lt_of_le ltg4 hb.size
      try replace ltg5 : g5 < _ := Nat.lt_of_lt_of_le ltg5 hb.size
      replace hS := hS.after hb
      clear hb
      refine ⟨hS.b, ?_⟩
      try simp only [Act.put, List.setIfInBounds_toArray, List.set_cons_zero, List.set_cons_succ]
      refine wpAnyH_all (rs := [5,6,7]) (by kernel_rfl) (by simp) (fun i hi => ?_)
      simp only [List.mem_cons, List.not_mem_nil, or_false] at hi
      rcases hi with rfl | rfl | rfl
      · refine .inl ?_
        go_simp
        refine (RReg_any B _).mono ?_
        rintro e wc ⟨rfl, hb⟩
        try replace rg4 := Rf.below rg4 hb
        try replace rg5 := Rf.below rg5 hb
        try replace ltg4 : g4 < _ := Nat.lt_of_lt_of_le ltg4 hb.size
        try replace ltg5 : g5 < _ := Nat.lt_of_lt_of_le ltg5 hb.size
        replace hS := hS.after hb
        clear hb
        refine ⟨hS.b, ?_⟩
        try simp only [Act.put, List.setIfInBounds_toArray, List.set_cons_zero, List.set_cons_succ]
        refine wpAnyH_all (rs := [6,7]) (by kernel_rfl) (by simp) (fun i hi => ?_)
        simp only [List.mem_cons, List.not_mem_nil, or_false] at hi
        rcases hi with rfl | rfl
        · refine .inl ?_
          refine o_alloc (ty := 49) (d := some 8) rfl (pla ⟨0, 0⟩) (pla_ok _) (by go_simp; try rfl) ?_
          intro g4 WA eg4 rg4 hb ltg4
          try have dis : g4 ≠ g5 := by omega
          try replace rg5 := Rf.below rg5 hb
          try replace ltg5 : g5 < _ := Nat.lt_of_lt_of_le ltg5 hb.size
          have neg4 : w2.heap.size < g4 ∧ w1.heap.size < g4 ∧ w.heap.size < g4 := by have := hS.b.g0; have := hS.b.g1; have := HW1.out; omega
          replace hS := hS.after hb
          clear hb
          refine ⟨hS.b, ?_⟩
          try simp only [Act.put, List.setIfInBounds_toArray, List.set_cons_zero, List.set_cons_succ]
          refine wpAnyH_all (rs := [7]) (by kernel_rfl) (by simp) (fun i hi => ?_)
          simp only [List.mem_cons, List.not_mem_nil, or_false] at hi
          subst hi
          refine .inl ?_
          refine o_alloc (ty := 49) (d := some 9) rfl (pla ⟨0, 0⟩) (pla_ok _) (by go_simp; try rfl) ?_
          intro g5 WA eg5 rg5 hb ltg5
          try have dis : g4 ≠ g5 := by omega
          try replace rg4 := Rf.below rg4 hb
          try replace ltg4 : g4 < _ := Nat.lt_of_lt_of_le ltg4 hb.size
          have neg5 : w2.heap.size < g5 ∧ w1.heap.size < g5 ∧ w.heap.size < g5 := by have := hS.b.g0; have := hS.b.g1; have := HW1.out; omega
          replace hS := hS.after hb
          clear hb
          refine ⟨hS.b, ?_⟩
          try simp only [Act.put, List.setIfInBounds_toArray, List.set_cons_zero, List.set_cons_succ]
          refine wpAnyH_all (rs := [8]) (by kernel_rfl) (by simp) (fun i hi => ?_)
          simp only [List.mem_cons, List.not_mem_nil, or_false] at hi
          subst hi
          refine .inl ?_
          refine o_store_R (d := none) rfl (pla (rg A)) rowP rg4 (pla_ok _) rfl rfl rfl ?_
          replace hS := hS.setP (g := g4) (c := pla (rg A)) neg4.2.2 (by simp; omega)
          replace rg5 := rg5.setOther (g := g4) (by omega) (pla (rg A))
          replace rg4 := rg4.set (pla_ok (rg A))
          refine ⟨hS.b, ?_⟩
          try simp only [Act.put, List.setIfInBounds_toArray, List.set_cons_zero, List.set_cons_succ]
          refine wpAnyH_all (rs := [9]) (by kernel_rfl) (by simp) (fun i hi => ?_)
          simp only [List.mem_cons, List.not_mem_nil, or_false] at hi
          subst hi
          refine .inl ?_
          refine o_store_R (d := none) rfl (pla (rg B)) rowP rg5 (pla_ok _) rfl rfl rfl ?_
          replace hS := hS.setP (g := g5) (c := pla (rg B)) neg5.2.2 (by simp; omega)
          replace rg4 := rg4.setOther (g := g5) (by omega) (pla (rg B))
          replace rg5 := rg5.set (pla_ok (rg B))
          refine ⟨hS.b, ?_⟩
          try simp only [Act.put, List.setIfInBounds_toArray, List.set_cons_zero, List.set_cons_succ]
          refine wpAnyH_done (by kernel_rfl) ?_ _
          exact hQ _ _ _ ⟨hS, rg4, rg5⟩
        · refine .inl ?_
          refine o_alloc (ty := 49) (d := some 9) rfl (pla ⟨0, 0⟩) (pla_ok _) (by go_simp; try rfl) ?_
          intro g5 WA eg5 rg5 hb ltg5
          try have dis : g4 ≠ g5 := by omega
          try replace rg4 := Rf.below rg4 hb
          try replace ltg4 : g4 < _ := Nat.lt_of_lt_of_le ltg4 hb.size
          have neg5 : w2.heap.size < g5 ∧ w1.heap.size < g5 ∧ w.heap.size < g5 := by have := hS.b.g0; have := hS.b.g1; have := HW1.out; omega
          replace hS := hS.after hb
          clear hb
          refine ⟨hS.b, ?_⟩
          try simp only [Act.put, List.setIfInBounds_toArray, List.set_cons_zero, List.set_cons_succ]
          refine wpAnyH_all (rs := [6]) (by kernel_rfl) (by simp) (fun i hi => ?_)
          simp only [List.mem_cons, List.not_mem_nil, or_false] at hi
          subst hi
          refine .inl ?_
          refine o_alloc (ty := 49) (d := some 8) rfl (pla ⟨0, 0⟩) (pla_ok _) (by go_simp; try rfl) ?_
          intro g4 WA eg4 rg4 hb ltg4
          try have dis : g4 ≠ g5 := by omega
          try replace rg5 := Rf.below rg5 hb
          try replace ltg5 : g5 < _ := Nat.lt_of_lt_of_le ltg5 hb.size
          have neg4 : w2.heap.size < g4 ∧ w1.heap.size < g4 ∧ w.heap.size < g4 := by have := hS.b.g0; have := hS.b.g1; have := HW1.out; omega
          replace hS := hS.after hb
          clear hb
          refine ⟨hS.b, ?_⟩
          try simp only [Act.put, List.setIfInBounds_toArray, List.set_cons_zero, List.set_cons_succ]
          refine wpAnyH_all (rs := [8]) (by kernel_rfl) (by simp) (fun i hi => ?_)
          simp only [List.mem_cons, List.not_mem_nil, or_false] at hi
          subst hi
          refine .inl ?_
          refine o_store_R (d := none) rfl (pla (rg A)) rowP rg4 (pla_ok _) rfl rfl rfl ?_
          replace hS := hS.setP (g := g4) (c := pla (rg A)) neg4.2.2 (by simp; omega)
          replace rg5 := rg5.setOther (g := g4) (by omega) (pla (rg A))
          replace rg4 := rg4.set (pla_ok (rg A))
          refine ⟨hS.b, ?_⟩
          try simp only [Act.put, List.setIfInBounds_toArray, List.set_cons_zero, List.set_cons_succ]
          refine wpAnyH_all (rs := [9]) (by kernel_rfl) (by simp) (fun i hi => ?_)
          simp only [List.mem_cons, List.not_mem_nil, or_false] at hi
          subst hi
          refine .inl ?_
          refine o_store_R (d := none) rfl (pla (rg B)) rowP rg5 (pla_ok _) rfl rfl rfl ?_
          replace hS := hS.setP (g := g5) (c := pla (rg B)) neg5.2.2 (by simp; omega)
          replace rg4 := rg4.setOther (g := g5) (by omega) (pla (rg B))
          replace rg5 := rg5.set (pla_ok (rg B))
          refine ⟨hS.b, ?_⟩
          try simp only [Act.put, List.setIfInBounds_toArray, List.set_cons_zero, List.set_cons_succ]
          refine wpAnyH_done (by kernel_rfl) ?_ _
          exact hQ _ _ _ ⟨hS, rg4, rg5⟩
      · refine .inl ?_
        refine o_alloc (ty := 49) (d := some 8) rfl (pla ⟨0, 0⟩) (pla_ok _) (by go_simp; try rfl) ?_
        intro g4 WA eg4 rg4 hb ltg4
        try have dis : g4 ≠ g5 := by omega
        try replace rg5 := Rf.below rg5 hb
        try replace ltg5 : g5 < _ := Nat.lt_of_lt_of_le ltg5 hb.size
        have neg4 : w2.heap.size < g4 ∧ w1.heap.size < g4 ∧ w.heap.size < g4 := by have := hS.b.g0; have := hS.b.g1; have := HW1.out; omega
        replace hS := hS.after hb
        clear hb
        refine ⟨hS.b, ?_⟩
        try simp only [Act.put, List.setIfInBounds_toArray, List.set_cons_zero, List.set_cons_succ]
        refine wpAnyH_all (rs := [5,7]) (by kernel_rfl) (by simp) (fun i hi => ?_)
        simp only [List.mem_cons, List.not_mem_nil, or_false] at hi
        rcases hi with rfl | rfl
        · refine .inl ?_
          go_simp
          refine (RReg_any B _).mono ?_
          rintro e wc ⟨rfl, hb⟩
          try replace rg4 := Rf.below rg4 hb
          try replace rg5 := Rf.below rg5 hb
          try replace ltg4 : g4 < _ := Nat.lt_of_lt_of_le ltg4 hb.size
          try replace ltg5 : g5 < _ := Nat.lt_of_lt_of_le ltg5 hb.size
          replace hS := hS.after hb
          clear hb
          refine ⟨hS.b, ?_⟩
          try simp only [Act.put, List.setIfInBounds_toArray, List.set_cons_zero, List.set_cons_succ]
          refine wpAnyH_all (rs := [7]) (by kernel_rfl) (by simp) (fun i hi => ?_)
          simp only [List.mem_cons, List.not_mem_nil, or_false] at hi
          subst hi
          refine .inl ?_
          refine o_alloc (ty := 49) (d := some 9) rfl (pla ⟨0, 0⟩) (pla_ok _) (by go_simp; try rfl) ?_
          intro g5 WA eg5 rg5 hb ltg5
          try have dis : g4 ≠ g5 := by omega
          try replace rg4 := Rf.below rg4 hb
          try replace ltg4 : g4 < _ := Nat.lt_of_lt_of_le ltg4 hb.size
          have neg5 : w2.heap.size < g5 ∧ w1.heap.size < g5 ∧ w.heap.size < g5 := by have := hS.b.g0; have := hS.b.g1; have := HW1.out; omega
          replace hS := hS.after hb
          clear hb
          refine ⟨hS.b, ?_⟩
          try simp only [Act.put, List.setIfInBounds_toArray, List.set_cons_zero, List.set_cons_succ]
          refine wpAnyH_all (rs := [8]) (by kernel_rfl) (by simp) (fun i hi => ?_)
          simp only [List.mem_cons, List.not_mem_nil, or_false] at hi
          subst hi
          refine .inl ?_
          refine o_store_R (d := none) rfl (pla (rg A)) rowP rg4 (pla_ok _) rfl rfl rfl ?_
          replace hS := hS.setP (g := g4) (c := pla (rg A)) neg4.2.2 (by simp; omega)
          replace rg5 := rg5.setOther (g := g4) (by omega) (pla (rg A))
          replace rg4 := rg4.set (pla_ok (rg A))
          refine ⟨hS.b, ?_⟩
          try simp only [Act.put, List.setIfInBounds_toArray, List.set_cons_zero, List.set_cons_succ]
          refine wpAnyH_all (rs := [9]) (by kernel_rfl) (by simp) (fun i hi => ?_)
          simp only [List.mem_cons, List.not_mem_nil, or_false] at hi
          subst hi
          refine .inl ?_
          refine o_store_R (d := none) rfl (pla (rg B)) rowP rg5 (pla_ok _) rfl rfl rfl ?_
          replace hS := hS.setP (g := g5) (c := pla (rg B)) neg5.2.2 (by simp; omega)
          replace rg4 := rg4.setOther (g := g5) (by omega) (pla (rg B))
          replace rg5 := rg5.set (pla_ok (rg B))
          refine ⟨hS.b, ?_⟩
          try simp only [Act.put, List.setIfInBounds_toArray, List.set_cons_zero, List.set_cons_succ]
          refine wpAnyH_done (by kernel_rfl) ?_ _
          exact hQ _ _ _ ⟨hS, rg4, rg5⟩
        · refine .inl ?_
          refine o_alloc (ty := 49) (d := some 9) rfl (pla ⟨0, 0⟩) (pla_ok _) (by go_simp; try rfl) ?_
          intro g5 WA eg5 rg5 hb ltg5
          try have dis : g4 ≠ g5 := by omega
          try replace rg4 := Rf.below rg4 hb
          try replace ltg4 : g4 < _ := Nat.lt_of_lt_of_le ltg4 hb.size
          have neg5 : w2.heap.size < g5 ∧ w1.heap.size < g5 ∧ w.heap.size < g5 := by have := hS.b.g0; have := hS.b.g1; have := HW1.out; omega
          replace hS := hS.after hb
          clear hb
          refine ⟨hS.b, ?_⟩
          try simp only [Act.put, List.setIfInBounds_toArray, List.set_cons_zero, List.set_cons_succ]
          refine wpAnyH_all (rs := [5]) (by kernel_rfl) (by simp) (fun i hi => ?_)
          simp only [List.mem_cons, List.not_mem_nil, or_false] at hi
          subst hi
          refine .inl ?_
          go_simp
          refine (RReg_any B _).mono ?_
          rintro e wc ⟨rfl, hb⟩
          try replace rg4 := Rf.below rg4 hb
          try replace rg5 := Rf.below rg5 hb
          try replace ltg4 : g4 < _ := Nat.lt_of_lt_of_le ltg4 hb.size
          try replace ltg5 : g5 < _ := Nat.lt_of_lt_of_le ltg5 hb.size
          replace hS := hS.after hb
          clear hb
          refine ⟨hS.b, ?_⟩
          try simp only [Act.put, List.setIfInBounds_toArray, List.set_cons_zero, List.set_cons_succ]
          refine wpAnyH_all (rs := [8]) (by kernel_rfl) (by simp) (fun i hi => ?_)
          simp only [List.mem_cons, List.not_mem_nil, or_false] at hi
          subst hi
          refine .inl ?_
          refine o_store_R (d := none) rfl (pla (rg A)) rowP rg4 (pla_ok _) rfl rfl rfl ?_
          replace hS := hS.setP (g := g4) (c := pla (rg A)) neg4.2.2 (by simp; omega)
          replace rg5 := rg5.setOther (g := g4) (by omega) (pla (rg A))
          replace rg4 := rg4.set (pla_ok (rg A))
          refine ⟨hS.b, ?_⟩
          try simp only [Act.put, List.setIfInBounds_toArray, List.set_cons_zero, List.set_cons_succ]
          refine wpAnyH_all (rs := [9]) (by kernel_rfl) (by simp) (fun i hi => ?_)
          simp only [List.mem_cons, List.not_mem_nil, or_false] at hi
          subst hi
          refine .inl ?_
          refine o_store_R (d := none) rfl (pla (rg B)) rowP rg5 (pla_ok _) rfl rfl rfl ?_
          replace hS := hS.setP (g := g5) (c := pla (rg B)) neg5.2.2 (by simp; omega)
          replace rg4 := rg4.setOther (g := g5) (by omega) (pla (rg B))
          replace rg5 := rg5.set (pla_ok (rg B))
          refine ⟨hS.b, ?_⟩
          try simp only [Act.put, List.setIfInBounds_toArray, List.set_cons_zero, List.set_cons_succ]
          refine wpAnyH_done (by kernel_rfl) ?_ _
          exact hQ _ _ _ ⟨hS, rg4, rg5⟩
      · refine .inl ?_
        refine o_alloc (ty := 49) (d := some 9) rfl (pla ⟨0, 0⟩) (pla_ok _) (by go_simp; try rfl) ?_
        intro g5 WA eg5 rg5 hb ltg5
        try have dis : g4 ≠ g5 := by omega
        try replace rg4 := Rf.below rg4 hb
        try replace ltg4 : g4 < _ := Nat.lt_of_lt_of_le ltg4 hb.size
        have neg5 : w2.heap.size < g5 ∧ w1.heap.size < g5 ∧ w.heap.size < g5 := by have := hS.b.g0; have := hS.b.g1; have := HW1.out; omega
        replace hS := hS.after hb
        clear hb
        refine ⟨hS.b, ?_⟩
        try simp only [Act.put, List.setIfInBounds_toArray, List.set_cons_zero, List.set_cons_succ]
        refine wpAnyH_all (rs := [5,6]) (by kernel_rfl) (by simp) (fun i hi => ?_)
        simp only [List.mem_cons, List.not_mem_nil, or_false] at hi
        rcases hi with rfl | rfl
        · refine .inl ?_
          go_simp
          refine (RReg_any B _).mono ?_
          rintro e wc ⟨rfl, hb⟩
          try replace rg4 := Rf.below rg4 hb
          try replace rg5 := Rf.below rg5 hb
          try replace ltg4 : g4 < _ := Nat.lt_of_lt_of_le ltg4 hb.size
          try replace ltg5 : g5 < _ := Nat.lt_of_lt_of_le ltg5 hb.size
          replace hS := hS.after hb
          clear hb
          refine ⟨hS.b, ?_⟩
          try simp only [Act.put, List.setIfInBounds_toArray, List.set_cons_zero, List.set_cons_succ]
          refine wpAnyH_all (rs := [6]) (by kernel_rfl) (by simp) (fun i hi => ?_)
          simp only [List.mem_cons, List.not_mem_nil, or_false] at hi
          subst hi
          refine .inl ?_
          refine o_alloc (ty := 49) (d := some 8) rfl (pla ⟨0, 0⟩) (pla_ok _) (by go_simp; try rfl) ?_
          intro g4 WA eg4 rg4 hb ltg4
          try have dis : g4 ≠ g5 := by omega
          try replace rg5 := Rf.below rg5 hb
          try replace ltg5 : g5 < _ := Nat.lt_of_lt_of_le ltg5 hb.size
          have neg4 : w2.heap.size < g4 ∧ w1.heap.size < g4 ∧ w.heap.size < g4 := by have := hS.b.g0; have := hS.b.g1; have := HW1.out; omega
          replace hS := hS.after hb
          clear hb
          refine ⟨hS.b, ?_⟩
          try simp only [Act.put, List.setIfInBounds_toArray, List.set_cons_zero, List.set_cons_succ]
          refine wpAnyH_all (rs := [8]) (by kernel_rfl) (by simp) (fun i hi => ?_)
          simp only [List.mem_cons, List.not_mem_nil, or_false] at hi
          subst hi
          refine .inl ?_
          refine o_store_R (d := none) rfl (pla (rg A)) rowP rg4 (pla_ok _) rfl rfl rfl ?_
          replace hS := hS.setP (g := g4) (c := pla (rg A)) neg4.2.2 (by simp; omega)
          replace rg5 := rg5.setOther (g := g4) (by omega) (pla (rg A))
          replace rg4 := rg4.set (pla_ok (rg A))
          refine ⟨hS.b, ?_⟩
          try simp only [Act.put, List.setIfInBounds_toArray, List.set_cons_zero, List.set_cons_succ]
          refine wpAnyH_all (rs := [9]) (by kernel_rfl) (by simp) (fun i hi => ?_)
          simp only [List.mem_cons, List.not_mem_nil, or_false] at hi
          subst hi
          refine .inl ?_
          refine o_store_R (d := none) rfl (pla (rg B)) rowP rg5 (pla_ok _) rfl rfl rfl ?_
          replace hS := hS.setP (g := g5) (c := pla (rg B)) neg5.2.2 (by simp; omega)
          replace rg4 := rg4.setOther (g := g5) (by omega) (pla (rg B))
          replace rg5 := rg5.set (pla_ok (rg B))
          refine ⟨hS.b, ?_⟩
          try simp only [Act.put, List.setIfInBounds_toArray, List.set_cons_zero, List.set_cons_succ]
          refine wpAnyH_done (by kernel_rfl) ?_ _
          exact hQ _ _ _ ⟨hS, rg4, rg5⟩
        · refine .inl ?_
          refine o_alloc (ty := 49) (d := some 8) rfl (pla ⟨0, 0⟩) (pla_ok _) (by go_simp; try rfl) ?_
          intro g4 WA eg4 rg4 hb ltg4
          try have dis : g4 ≠ g5 := by omega
          try replace rg5 := Rf.below rg5 hb
          try replace ltg5 : g5 < _ := Nat.lt_of_lt_of_le ltg5 hb.size
          have neg4 : w2.heap.size < g4 ∧ w1.heap.size < g4 ∧ w.heap.size < g4 := by have := hS.b.g0; have := hS.b.g1; have := HW1.out; omega
          replace hS := hS.after hb
          clear hb
          refine ⟨hS.b, ?_⟩
          try simp only [Act.put, List.setIfInBounds_toArray, List.set_cons_zero, List.set_cons_succ]
          refine wpAnyH_all (rs := [5]) (by kernel_rfl) (by simp) (fun i hi => ?_)
          simp only [List.mem_cons, List.not_mem_nil, or_false] at hi
          subst hi
          refine .inl ?_
          go_simp
          refine (RReg_any B _).mono ?_
          rintro e wc ⟨rfl, hb⟩
          try replace rg4 := Rf.below rg4 hb
          try replace rg5 := Rf.below rg5 hb
          try replace ltg4 : g4 < _ := Nat.lt_of_lt_of_le ltg4 hb.size
          try replace ltg5 : g5 < _ := Nat.lt_of_lt_of_le ltg5 hb.size
          replace hS := hS.after hb
          clear hb
          refine ⟨hS.b, ?_⟩
          try simp only [Act.put, List.setIfInBounds_toArray, List.set_cons_zero, List.set_cons_succ]
          refine wpAnyH_all (rs := [8]) (by kernel_rfl) (by simp) (fun i hi => ?_)
          simp only [List.mem_cons, List.not_mem_nil, or_false] at hi
          subst hi
          refine .inl ?_
          refine o_store_R (d := none) rfl (pla (rg A)) rowP rg4 (pla_ok _) rfl rfl rfl ?_
          replace hS := hS.setP (g := g4) (c := pla (rg A)) neg4.2.2 (by simp; omega)
          replace rg5 := rg5.setOther (g := g4) (by omega) (pla (rg A))
          replace rg4 := rg4.set (pla_ok (rg A))
          refine ⟨hS.b, ?_⟩
          try simp only [Act.put, List.setIfInBounds_toArray, List.set_cons_zero, List.set_cons_succ]
          refine wpAnyH_all (rs := [9]) (by kernel_rfl) (by simp) (fun i hi => ?_)
          simp only [List.mem_cons, List.not_mem_nil, or_false] at hi
          subst hi
          refine .inl ?_
          refine o_store_R (d := none) rfl (pla (rg B)) rowP rg5 (pla_ok _) rfl rfl rfl ?_
          replace hS := hS.setP (g := g5) (c := pla (rg B)) neg5.2.2 (by simp; omega)
          replace rg4 := rg4.setOther (g := g5) (by omega) (pla (rg B))
          replace rg5 := rg5.set (pla_ok (rg B))
          refine ⟨hS.b, ?_⟩
          try simp only [Act.put, List.setIfInBounds_toArray, List.set_cons_zero, List.set_cons_succ]
          refine wpAnyH_done (by kernel_rfl) ?_ _
          exact hQ _ _ _ ⟨hS, rg4, rg5⟩
    · refine .inl ?_
      refine o_alloc (ty := 49) (d := some 8) rfl (pla ⟨0, 0⟩) (pla_ok _) (by go_simp; try rfl) ?_
      intro g4 WA eg4 rg4 hb ltg4
      try have dis : g4 ≠ g5 := by omega
      try replace rg5 := Rf.below rg5 hb
      try replace ltg5 : g5 < _ := Nat.lt_of_lt_of_le ltg5 hb.size
      have neg4 : w2.heap.size < g4 ∧ w1.heap.size < g4 ∧ w.heap.size < g4 := by have := hS.b.g0; have := hS.b.g1; have := HW1.out; omega
      replace hS := hS.after hb
      clear hb
      refine ⟨hS.b, ?_⟩
      try simp only [Act.put, List.setIfInBounds_toArray, List.set_cons_zero, List.set_cons_succ]
      refine wpAnyH_all (rs := [2,7]) (by kernel_rfl) (by simp) (fun i hi => ?_)
      simp only [List.mem_cons, List.not_mem_nil, or_false] at hi
      rcases hi with rfl | rfl
      · refine .inl ?_
        go_simp
        refine (RReg_any A _).mono ?_
        rintro e wc ⟨rfl, hb⟩
        try replace rg4 := Rf.below rg4 hb
        try replace rg5 := Rf.below rg5 hb
        try replace ltg4 : g4 < _ := Nat.lt_of_lt_of_le ltg4 hb.size
        try replace ltg5 : g5 < _ := Nat.lt_of_lt_of_le ltg5 hb.size
        replace hS := hS.after hb
        clear hb
        refine ⟨hS.b, ?_⟩
        try simp only [Act.put, List.setIfInBounds_toArray, List.set_cons_zero, List.set_cons_succ]
        refine wpAnyH_all (rs := [5,7]) (by kernel_rfl) (by simp) (fun i hi => ?_)
        simp only [List.mem_cons, List.not_mem_nil, or_false] at hi
        rcases hi with rfl | rfl
        · refine .inl ?_
          go_simp
          refine (RReg_any B _).mono ?_
          rintro e wc ⟨rfl, hb⟩
          try replace rg4 := Rf.below rg4 hb
          try replace rg5 := Rf.below rg5 hb
          try replace ltg4 : g4 < _ := Nat.lt_of_lt_of_le ltg4 hb.size
          try replace ltg5 : g5 < _ := Nat.lt_of_lt_of_le ltg5 hb.size
          replace hS := hS.after hb
          clear hb
          refine ⟨hS.b, ?_⟩
          try simp only [Act.put, List.setIfInBounds_toArray, List.set_cons_zero, List.set_cons_succ]
          refine wpAnyH_all (rs := [7]) (by kernel_rfl) (by simp) (fun i hi => ?_)
          simp only [List.mem_cons, List.not_mem_nil, or_false] at hi
          subst hi
          refine .inl ?_
          refine o_alloc (ty := 49) (d := some 9) rfl (pla ⟨0, 0⟩) (pla_ok _) (by go_simp; try rfl) ?_
          intro g5 WA eg5 rg5 hb ltg5
          try have dis : g4 ≠ g5 := by omega
          try replace rg4 := Rf.below rg4 hb
          try replace ltg4 : g4 < _ := Nat.lt_of_lt_of_le ltg4 hb.size
          have neg5 : w2.heap.size < g5 ∧ w1.heap.size < g5 ∧ w.heap.size < g5 := by have := hS.b.g0; have := hS.b.g1; have := HW1.out; omega
          replace hS := hS.after hb
          clear hb
          refine ⟨hS.b, ?_⟩
          try simp only [Act.put, List.setIfInBounds_toArray, List.set_cons_zero, List.set_cons_succ]
          refine wpAnyH_all (rs := [8]) (by kernel_rfl) (by simp) (fun i hi => ?_)
          simp only [List.mem_cons, List.not_mem_nil, or_false] at hi
          subst hi
          refine .inl ?_
          refine o_store_R (d := none) rfl (pla (rg A)) rowP rg4 (pla_ok _) rfl rfl rfl ?_
          replace hS := hS.setP (g := g4) (c := pla (rg A)) neg4.2.2 (by simp; omega)
          replace rg5 := rg5.setOther (g := g4) (by omega) (pla (rg A))
          replace rg4 := rg4.set (pla_ok (rg A))
          refine ⟨hS.b, ?_⟩
          try simp only [Act.put, List.setIfInBounds_toArray, List.set_cons_zero, List.set_cons_succ]
          refine wpAnyH_all (rs := [9]) (by kernel_rfl) (by simp) (fun i hi => ?_)
          simp only [List.mem_cons, List.not_mem_nil, or_false] at hi
          subst hi
          refine .inl ?_
          refine o_store_R (d := none) rfl (pla (rg B)) rowP rg5 (pla_ok _) rfl rfl rfl ?_
          replace hS := hS.setP (g := g5) (c := pla (rg B)) neg5.2.2 (by simp; omega)
          replace rg4 := rg4.setOther (g := g5) (by omega) (pla (rg B))
          replace rg5 := rg5.set (pla_ok (rg B))
          refine ⟨hS.b, ?_⟩
          try simp only [Act.put, List.setIfInBounds_toArray, List.set_cons_zero, List.set_cons_succ]
          refine wpAnyH_done (by kernel_rfl) ?_ _
          exact hQ _ _ _ ⟨hS, rg4, rg5⟩
        · refine .inl ?_
          refine o_alloc (ty := 49) (d := some 9) rfl (pla ⟨0, 0⟩) (pla_ok _) (by go_simp; try rfl) ?_
          intro g5 WA eg5 rg5 hb ltg5
          try have dis : g4 ≠ g5 := by omega
          try replace rg4 := Rf.below rg4 hb
          try replace ltg4 : g4 < _ := Nat.lt_of_lt_of_le ltg4 hb.size
          have neg5 : w2.heap.size < g5 ∧ w1.heap.size < g5 ∧ w.heap.size < g5 := by have := hS.b.g0; have := hS.b.g1; have := HW1.out; omega
          replace hS := hS.after hb
          clear hb
          refine ⟨hS.b, ?_⟩
          try simp only [Act.put, List.setIfInBounds_toArray, List.set_cons_zero, List.set_cons_succ]
          refine wpAnyH_all (rs := [5]) (by kernel_rfl) (by simp) (fun i hi => ?_)
          simp only [List.mem_cons, List.not_mem_nil, or_false] at hi
          subst hi
          refine .inl ?_
          go_simp
          refine (RReg_any B _).mono ?_
          rintro e wc ⟨rfl, hb⟩
          try replace rg4 := Rf.below rg4 hb
          try replace rg5 := Rf.below rg5 hb
          try replace ltg4 : g4 < _ := Nat.lt_of_lt_of_le ltg4 hb.size
          try replace ltg5 : g5 < _ := Nat.lt_of_lt_of_le ltg5 hb.size
          replace hS := hS.after hb
          clear hb
          refine ⟨hS.b, ?_⟩
          try simp only [Act.put, List.setIfInBounds_toArray, List.set_cons_zero, List.set_cons_succ]
          refine wpAnyH_all (rs := [8]) (by kernel_rfl) (by simp) (fun i hi => ?_)
          simp only [List.mem_cons, List.not_mem_nil, or_false] at hi
          subst hi
          refine .inl ?_
          refine o_store_R (d := none) rfl (pla (rg A)) rowP rg4 (pla_ok _) rfl rfl rfl ?_
          replace hS := hS.setP (g := g4) (c := pla (rg A)) neg4.2.2 (by simp; omega)
          replace rg5 := rg5.setOther (g := g4) (by omega) (pla (rg A))
          replace rg4 := rg4.set (pla_ok (rg A))
          refine ⟨hS.b, ?_⟩
          try simp only [Act.put, List.setIfInBounds_toArray, List.set_cons_zero, List.set_cons_succ]
          refine wpAnyH_all (rs := [9]) (by kernel_rfl) (by simp) (fun i hi => ?_)
          simp only [List.mem_cons, List.not_mem_nil, or_false] at hi
          subst hi
          refine .inl ?_
          refine o_store_R (d := none) rfl (pla (rg B)) rowP rg5 (pla_ok _) rfl rfl rfl ?_
          replace hS := hS.setP (g := g5) (c := pla (rg B)) neg5.2.2 (by simp; omega)
          replace rg4 := rg4.setOther (g := g5) (by omega) (pla (rg B))
          replace rg5 := rg5.set (pla_ok (rg B))
          refine ⟨hS.b, ?_⟩
          try simp only [Act.put, List.setIfInBounds_toArray, List.set_cons_zero, List.set_cons_succ]
          refine wpAnyH_done (by kernel_rfl) ?_ _
          exact hQ _ _ _ ⟨hS, rg4, rg5⟩
      · refine .inl ?_
        refine o_alloc (ty := 49) (d := some 9) rfl (pla ⟨0, 0⟩) (pla_ok _) (by go_simp; try rfl) ?_
        intro g5 WA eg5 rg5 hb ltg5
        try have dis : g4 ≠ g5 := by omega
        try replace rg4 := Rf.below rg4 hb
        try replace ltg4 : g4 < _ := Nat.lt_of_lt_of_le ltg4 hb.size
        have neg5 : w2.heap.size < g5 ∧ w1.heap.size < g5 ∧ w.heap.size < g5 := by have := hS.b.g0; have := hS.b.g1; have := HW1.out; omega
        replace hS := hS.after hb
        clear hb
        refine ⟨hS.b, ?_⟩
        try simp only [Act.put, List.setIfInBounds_toArray, List.set_cons_zero, List.set_cons_succ]
        refine wpAnyH_all (rs := [2]) (by kernel_rfl) (by simp) (fun i hi => ?_)
        simp only [List.mem_cons, List.not_mem_nil, or_false] at hi
        subst hi
        refine .inl ?_
        go_simp
        refine (RReg_any A _).mono ?_
        rintro e wc ⟨rfl, hb⟩
        try replace rg4 := Rf.below rg4 hb
        try replace rg5 := Rf.below rg5 hb
        try replace ltg4 : g4 < _ := Nat.lt_of_lt_of_le ltg4 hb.size
        try replace ltg5 : g5 < _ := Nat.lt_of_lt_of_le ltg5 hb.size
        replace hS := hS.after hb
        clear hb
        refine ⟨hS.b, ?_⟩
        try simp only [Act.put, List.setIfInBounds_toArray, List.set_cons_zero, List.set_cons_succ]
        refine wpAnyH_all (rs := [5]) (by kernel_rfl) (by simp) (fun i hi => ?_)
        simp only [List.mem_cons, List.not_mem_nil, or_false] at hi
        subst hi
        refine .inl ?_
        go_simp
        refine (RReg_any B _).mono ?_
        rintro e wc ⟨rfl, hb⟩
        try replace rg4 := Rf.below rg4 hb
        try replace rg5 := Rf.below rg5 hb
        try replace ltg4 : g4 < _ := Nat.lt_of_lt_of_le ltg4 hb.size
        try replace ltg5 : g5 < _ := Nat.lt_of_lt_of_le ltg5 hb.size
        replace hS := hS.after hb
        clear hb
        refine ⟨hS.b, ?_⟩
        try simp only [Act.put, List.setIfInBounds_toArray, List.set_cons_zero, List.set_cons_succ]
        refine wpAnyH_all (rs := [8]) (by kernel_rfl) (by simp) (fun i hi => ?_)
        simp only [List.mem_cons, List.not_mem_nil, or_false] at hi
        subst hi
        refine .inl ?_
        refine o_store_R (d := none) rfl (pla (rg A)) rowP rg4 (pla_ok _) rfl rfl rfl ?_
        replace hS := hS.setP (g := g4) (c := pla (rg A)) neg4.2.2 (by simp; omega)
        replace rg5 := rg5.setOther (g := g4) (by omega) (pla (rg A))
        replace rg4 := rg4.set (pla_ok (rg A))
        refine ⟨hS.b, ?_⟩
        try simp only [Act.put, List.setIfInBounds_toArray, List.set_cons_zero, List.set_cons_succ]
        refine wpAnyH_all (rs := [9]) (by kernel_rfl) (by simp) (fun i hi => ?_)
        simp only [List.mem_cons, List.not_mem_nil, or_false] at hi
        subst hi
        refine .inl ?_
        refine o_store_R (d := none) rfl (pla (rg B)) rowP rg5 (pla_ok _) rfl rfl rfl ?_
        replace hS := hS.setP (g := g5) (c := pla (rg B)) neg5.2.2 (by simp; omega)
        replace rg4 := rg4.setOther (g := g5) (by omega) (pla (rg B))
        replace rg5 := rg5.set (pla_ok (rg B))
        refine ⟨hS.b, ?_⟩
        try simp only [Act.put, List.setIfInBounds_toArray, List.set_cons_zero, List.set_cons_succ]
        refine wpAnyH_done (by kernel_rfl) ?_ _
        exact hQ _ _ _ ⟨hS, rg4, rg5⟩
    · refine .inl ?_
      refine o_alloc (ty := 49) (d := some 9) rfl (pla ⟨0, 0⟩) (pla_ok _) (by go_simp; try rfl) ?_
      intro g5 WA eg5 rg5 hb ltg5
      try have dis : g4 ≠ g5 := by omega
      try replace rg4 := Rf.below rg4 hb
      try replace ltg4 : g4 < _ := Nat.lt_of_lt_of_le ltg4 hb.size
      have neg5 : w2.heap.size < g5 ∧ w1.heap.size < g5 ∧ w.heap.size < g5 := by have := hS.b.g0; have := hS.b.g1; have := HW1.out; omega
      replace hS := hS.after hb
      clear hb
      refine ⟨hS.b, ?_⟩
      try simp only [Act.put, List.setIfInBounds_toArray, List.set_cons_zero, List.set_cons_succ]
      refine wpAnyH_all (rs := [2,6]) (by kernel_rfl) (by simp) (fun i hi => ?_)
      simp only [List.mem_cons, List.not_mem_nil, or_false] at hi
      rcases hi with rfl | rfl
      · refine .inl ?_
        go_simp
        refine (RReg_any A _).mono ?_
        rintro e wc ⟨rfl, hb⟩
        try replace rg4 := Rf.below rg4 hb
        try replace rg5 := Rf.below rg5 hb
        try replace ltg4 : g4 < _ := Nat.lt_of_lt_of_le ltg4 hb.size
        try replace ltg5 : g5 < _ := Nat.lt_of_lt_of_le ltg5 hb.size
        replace hS := hS.after hb
        clear hb
        refine ⟨hS.b, ?_⟩
        try simp only [Act.put, List.setIfInBounds_toArray, List.set_cons_zero, List.set_cons_succ]
        refine wpAnyH_all (rs := [5,6]) (by kernel_rfl) (by simp) (fun i hi => ?_)
        simp only [List.mem_cons, List.not_mem_nil, or_false] at hi
        rcases hi with rfl | rfl
        · refine .inl ?_
          go_simp
          refine (RReg_any B _).mono ?_
          rintro e wc ⟨rfl, hb⟩
          try replace rg4 := Rf.below rg4 hb
          try replace rg5 := Rf.below rg5 hb
          try replace ltg4 : g4 < _ := Nat.lt_of_lt_of_le ltg4 hb.size
          try replace ltg5 : g5 < _ := Nat.lt_of_lt_of_le ltg5 hb.size
          replace hS := hS.after hb
          clear hb
          refine ⟨hS.b, ?_⟩
          try simp only [Act.put, List.setIfInBounds_toArray, List.set_cons_zero, List.set_cons_succ]
          refine wpAnyH_all (rs := [6]) (by kernel_rfl) (by simp) (fun i hi => ?_)
          simp only [List.mem_cons, List.not_mem_nil, or_false] at hi
          subst hi
          refine .inl ?_
          refine o_alloc (ty := 49) (d := some 8) rfl (pla ⟨0, 0⟩) (pla_ok _) (by go_simp; try rfl) ?_
          intro g4 WA eg4 rg4 hb ltg4
          try have dis : g4 ≠ g5 := by omega
          try replace rg5 := Rf.below rg5 hb
          try replace ltg5 : g5 < _ := Nat.lt_of_lt_of_le ltg5 hb.size
          have neg4 : w2.heap.size < g4 ∧ w1.heap.size < g4 ∧ w.heap.size < g4 := by have := hS.b.g0; have := hS.b.g1; have := HW1.out; omega
          replace hS := hS.after hb
          clear hb
          refine ⟨hS.b, ?_⟩
          try simp only [Act.put, List.setIfInBounds_toArray, List.set_cons_zero, List.set_cons_succ]
          refine wpAnyH_all (rs := [8]) (by kernel_rfl) (by simp) (fun i hi => ?_)
          simp only [List.mem_cons, List.not_mem_nil, or_false] at hi
          subst hi
          refine .inl ?_
          refine o_store_R (d := none) rfl (pla (rg A)) rowP rg4 (pla_ok _) rfl rfl rfl ?_
          replace hS := hS.setP (g := g4) (c := pla (rg A)) neg4.2.2 (by simp; omega)
          replace rg5 := rg5.setOther (g := g4) (by omega) (pla (rg A))
          replace rg4 := rg4.set (pla_ok (rg A))
          refine ⟨hS.b, ?_⟩
          try simp only [Act.put, List.setIfInBounds_toArray, List.set_cons_zero, List.set_cons_succ]
          refine wpAnyH_all (rs := [9]) (by kernel_rfl) (by simp) (fun i hi => ?_)
          simp only [List.mem_cons, List.not_mem_nil, or_false] at hi
          subst hi
          refine .inl ?_
          refine o_store_R (d := none) rfl (pla (rg B)) rowP rg5 (pla_ok _) rfl rfl rfl ?_
          replace hS := hS.setP (g := g5) (c := pla (rg B)) neg5.2.2 (by simp; omega)
          replace rg4 := rg4.setOther (g := g5) (by omega) (pla (rg B))
          replace rg5 := rg5.set (pla_ok (rg B))
          refine ⟨hS.b, ?_⟩
          try simp only [Act.put, List.setIfInBounds_toArray, List.set_cons_zero, List.set_cons_succ]
          refine wpAnyH_done (by kernel_rfl) ?_ _
          exact hQ _ _ _ ⟨hS, rg4, rg5⟩
        · refine .inl ?_
          refine o_alloc (ty := 49) (d := some 8) rfl (pla ⟨0, 0⟩) (pla_ok _) (by go_simp; try rfl) ?_
          intro g4 WA eg4 rg4 hb ltg4
          try have dis : g4 ≠ g5 := by omega
          try replace rg5 := Rf.below rg5 hb
          try replace ltg5 : g5 < _ := Nat.lt_of_lt_of_le ltg5 hb.size
          have neg4 : w2.heap.size < g4 ∧ w1.heap.size < g4 ∧ w.heap.size < g4 := by have := hS.b.g0; have := hS.b.g1; have := HW1.out; omega
          replace hS := hS.after hb
          clear hb
          refine ⟨hS.b, ?_⟩
          try simp only [Act.put, List.setIfInBounds_toArray, List.set_cons_zero, List.set_cons_succ]
          refine wpAnyH_all (rs := [5]) (by kernel_rfl) (by simp) (fun i hi => ?_)
          simp only [List.mem_cons, List.not_mem_nil, or_false] at hi
          subst hi
          refine .inl ?_
          go_simp
          refine (RReg_any B _).mono ?_
          rintro e wc ⟨rfl, hb⟩
          try replace rg4 := Rf.below rg4 hb
          try replace rg5 := Rf.below rg5 hb
          try replace ltg4 : g4 < _ := Nat.lt_of_lt_of_le ltg4 hb.size
          try replace ltg5 : g5 < _ := Nat.lt_of_lt_of_le ltg5 hb.size
          replace hS := hS.after hb
          clear hb
          refine ⟨hS.b, ?_⟩
          try simp only [Act.put, List.setIfInBounds_toArray, List.set_cons_zero, List.set_cons_succ]
          refine wpAnyH_all (rs := [8]) (by kernel_rfl) (by simp) (fun i hi => ?_)
          simp only [List.mem_cons, List.not_mem_nil, or_false] at hi
          subst hi
          refine .inl ?_
          refine o_store_R (d := none) rfl (pla (rg A)) rowP rg4 (pla_ok _) rfl rfl rfl ?_
          replace hS := hS.setP (g := g4) (c := pla (rg A)) neg4.2.2 (by simp; omega)
          replace rg5 := rg5.setOther (g := g4) (by omega) (pla (rg A))
          replace rg4 := rg4.set (pla_ok (rg A))
          refine ⟨hS.b, ?_⟩
          try simp only [Act.put, List.setIfInBounds_toArray, List.set_cons_zero, List.set_cons_succ]
          refine wpAnyH_all (rs := [9]) (by kernel_rfl) (by simp) (fun i hi => ?_)
          simp only [List.mem_cons, List.not_mem_nil, or_false] at hi
          subst hi
          refine .inl ?_
          refine o_store_R (d := none) rfl (pla (rg B)) rowP rg5 (pla_ok _) rfl rfl rfl ?_
          replace hS := hS.setP (g := g5) (c := pla (rg B)) neg5.2.2 (by simp; omega)
          replace rg4 := rg4.setOther (g := g5) (by omega) (pla (rg B))
          replace rg5 := rg5.set (pla_ok (rg B))
          refine ⟨hS.b, ?_⟩
          try simp only [Act.put, List.setIfInBounds_toArray, List.set_cons_zero, List.set_cons_succ]
          refine wpAnyH_done (by kernel_rfl) ?_ _
          exact hQ _ _ _ ⟨hS, rg4, rg5⟩
      · refine .inl ?_
        refine o_alloc (ty := 49) (d := some 8) rfl (pla ⟨0, 0⟩) (pla_ok _) (by go_simp; try rfl) ?_
        intro g4 WA eg4 rg4 hb ltg4
        try have dis : g4 ≠ g5 := by omega
        try replace rg5 := Rf.below rg5 hb
        try replace ltg5 : g5 < _ := Nat.lt_of_lt_of_le ltg5 hb.size
        have neg4 : w2.heap.size < g4 ∧ w1.heap.size < g4 ∧ w.heap.size < g4 := by have := hS.b.g0; have := hS.b.g1; have := HW1.out; omega
        replace hS := hS.after hb
        clear hb
        refine ⟨hS.b, ?_⟩
        try simp only [Act.put, List.setIfInBounds_toArray, List.set_cons_zero, List.set_cons_succ]
        refine wpAnyH_all (rs := [2]) (by kernel_rfl) (by simp) (fun i hi => ?_)
        simp only [List.mem_cons, List.not_mem_nil, or_false] at hi
        subst hi
        refine .inl ?_
        go_simp
        refine (RReg_any A _).mono ?_
        rintro e wc ⟨rfl, hb⟩
        try replace rg4 := Rf.below rg4 hb
        try replace rg5 := Rf.below rg5 hb
        try replace ltg4 : g4 < _ := Nat.lt_of_lt_of_le ltg4 hb.size
        try replace ltg5 : g5 < _ := Nat.lt_of_lt_of_le ltg5 hb.size
        replace hS := hS.after hb
        clear hb
        refine ⟨hS.b, ?_⟩
        try simp only [Act.put, List.setIfInBounds_toArray, List.set_cons_zero, List.set_cons_succ]
        refine wpAnyH_all (rs := [5]) (by kernel_rfl) (by simp) (fun i hi => ?_)
        simp only [List.mem_cons, List.not_mem_nil, or_false] at hi
        subst hi
        refine .inl ?_
        go_simp
        refine (RReg_any B _).mono ?_
        rintro e wc ⟨rfl, hb⟩
        try replace rg4 := Rf.below rg4 hb
        try replace rg5 := Rf.below rg5 hb
        try replace ltg4 : g4 < _ := Nat.lt_of_lt_of_le ltg4 hb.size
        try replace ltg5 : g5 < _ := Nat.lt_of_lt_of_le ltg5 hb.size
        replace hS := hS.after hb
        clear hb
        refine ⟨hS.b, ?_⟩
        try simp only [Act.put, List.setIfInBounds_toArray, List.set_cons_zero, List.set_cons_succ]
        refine wpAnyH_all (rs := [8]) (by kernel_rfl) (by simp) (fun i hi => ?_)
        simp only [List.mem_cons, List.not_mem_nil, or_false] at hi
        subst hi
        refine .inl ?_
        refine o_store_R (d := none) rfl (pla (rg A)) rowP rg4 (pla_ok _) rfl rfl rfl ?_
        replace hS := hS.setP (g := g4) (c := pla (rg A)) neg4.2.2 (by simp; omega)
        replace rg5 := rg5.setOther (g := g4) (by omega) (pla (rg A))
        replace rg4 := rg4.set (pla_ok (rg A))
        refine ⟨hS.b, ?_⟩
        try simp only [Act.put, List.setIfInBounds_toArray, List.set_cons_zero, List.set_cons_succ]
        refine wpAnyH_all (rs := [9]) (by kernel_rfl) (by simp) (fun i hi => ?_)
        simp only [List.mem_cons, List.not_mem_nil, or_false] at hi
        subst hi
        refine .inl ?_
        refine o_store_R (d := none) rfl (pla (rg B)) rowP rg5 (pla_ok _) rfl rfl rfl ?_
        replace hS := hS.setP (g := g5) (c := pla (rg B)) neg5.2.2 (by simp; omega)
        replace rg4 := rg4.setOther (g := g5) (by omega) (pla (rg B))
        replace rg5 := rg5.set (pla_ok (rg B))
        refine ⟨hS.b, ?_⟩
        try simp only [Act.put, List.setIfInBounds_toArray, List.set_cons_zero, List.set_cons_succ]
        refine wpAnyH_done (by kernel_rfl) ?_ _
        exact hQ _ _ _ ⟨hS, rg4, rg5⟩
  intro g4 g5 W5 hB
  have HT := Lib.hid hB.tg
  have HE4 : Hid (Rf 49 2 W5 g4 #[.int .i64 1, .int .i64 A]) := Lib.hid HT.out.b.h0
  clear hB hK0
  have qi := HT.out.b.h2.i
  have qw := HT.out.b.h3.w6
  rcases hcase.out with ⟨hk, hc6, hL⟩ | ⟨hk, hc6, hL⟩ | ⟨hk, hop, hm, hL⟩
  · have hLR := Lib.hid hL
    clear hL hcase
    have HB5 : Hid (Rf 49 2 _ g5 #[.int .i64 1, .int .i64 B]) := Lib.hid HT.out.b.h1
    go_wp2_with ((with_reducible refine wp_load_R rowP HB5.out ?_ ?_); (rfl))
    refine (RDecide_x _ 1 1 _).mono ?_
    rintro e v6 ⟨rfl, hb⟩
    have HR := Lib.hid ((pl1 W5 1 B).below hb)
    replace HT := Lib.hid ((HT.out.after (bel1 _ _)).after hb)
    clear hb
    go_wp2_with ((with_reducible refine wp_app_x 0 0 [⟨1, B⟩] HT.out HR.out (by first | omega | (simp only [List.length_append, List.length_cons, List.length_nil]; omega) | (simp; done)) ?_ ?_ ?_); (kernel_rfl); (kernel_rfl))
    intro vv v7 hT
    replace HT := Lib.hid hT
    clear hT
    go_wp2_with fail
    refine (RTrapped_any _).mono ?_
    rintro e w9 ⟨⟨vt, rfl, ht⟩, hb⟩
    replace HT := Lib.hid (HT.out.after hb)
    have HX := Lib.hid ht
    obtain ⟨to, tc, rfl, _, _⟩ := ht.shape
    clear hb ht HB5
    go_wp2_with ((with_reducible refine wp_apps HT.out HX.out (by simp [trapT]) ?_ ?_ ?_); (kernel_rfl); (kernel_rfl))
    intro vv w10 hT
    replace HT := Lib.hid hT
    clear hT
    go_wp2
    go_ret
    refine ⟨⟨_, rfl, ?_⟩, HT.out.low⟩
    have := HT.out.t
    rw [hLR.out]
    simpa [on, rg] using this
  · have hLR := Lib.hid hL
    clear hL hcase
    go_wp2_with fail
    refine (RTrapped_any _).mono ?_
    rintro e w9 ⟨⟨vt, rfl, ht⟩, hb⟩
    replace HT := Lib.hid (HT.out.after hb)
    have HX := Lib.hid ht
    obtain ⟨to, tc, rfl, _, _⟩ := ht.shape
    clear hb ht
    go_wp2_with ((with_reducible refine wp_apps HT.out HX.out (by simp [trapT]) ?_ ?_ ?_); (kernel_rfl); (kernel_rfl))
    intro vv w10 hT
    replace HT := Lib.hid hT
    clear hT
    go_wp2
    go_ret
    refine ⟨⟨_, rfl, ?_⟩, HT.out.low⟩
    have := HT.out.t
    rw [hLR.out]
    simpa using this
  · have hLR := Lib.hid hL
    have hm := Lib.hid hm
    clear hL hcase
    rcases hop with rfl | rfl | rfl | rfl | rfl | rfl | rfl | rfl | rfl | rfl | rfl | rfl | rfl | rfl | rfl | rfl | rfl | rfl | rfl | rfl | rfl | rfl | rfl | rfl
    · have HA4 : Hid (Rf 49 2 _ g4 #[.int .i64 1, .int .i64 A]) := Lib.hid HT.out.b.h0
      have HB5 : Hid (Rf 49 2 _ g5 #[.int .i64 1, .int .i64 B]) := Lib.hid HT.out.b.h1
      clear HA4 HB5
      obtain ⟨v6, HK⟩ : ∃ WK, Hid (WK = W5.alloc (.cells #[.int .i64 3, .int .i64 4, .int .i64 5, .int .i64 6, .int .i64 7, .int .i64 2] 3)) := ⟨_, rfl⟩
      replace HT := HT.out.box (ty := 3) (n := 6) (c := #[.int .i64 3, .int .i64 4, .int .i64 5, .int .i64 6, .int .i64 7, .int .i64 2]) ⟨rfl, by simp [Value.oneCell']⟩ (by decide) (by decide)
      rw [← HK.out] at HT
      replace HT := Lib.hid HT
      obtain ⟨gk, hgk⟩ : ∃ gk, Hid (gk = W5.heap.size) := ⟨_, rfl⟩
      rw [← hgk.out] at HT
      have HA4 : Hid (Rf 49 2 _ g4 #[.int .i64 1, .int .i64 A]) := Lib.hid HT.out.b.h1
      have HB5 : Hid (Rf 49 2 _ g5 #[.int .i64 1, .int .i64 B]) := Lib.hid HT.out.b.h2
      go_wp2_with (first | (rw [← HK.out]) | (rw [← hgk.out]))
      clear HA4 HB5
      refine (ROnly_any 2 _).mono ?_
      rintro e v7 ⟨rfl, hb⟩
      replace HT := Lib.hid (HT.out.after hb)
      clear hb
      go_wp2_with fail
      refine (ROnly_any 2 _).mono ?_
      rintro e v8 ⟨rfl, hb⟩
      replace HT := Lib.hid (HT.out.after hb)
      clear hb
      go_wp2_with fail
      refine (RMove_x 2 0 _ 1 1 _).mono ?_
      rintro e v9 ⟨rfl, hb⟩
      have HR := Lib.hid ((pl1 v8 2 0).below hb)
      replace HT := Lib.hid ((HT.out.after (bel1 _ _)).after hb)
      clear hb
      go_wp2_with ((with_reducible refine wp_app_x 2 0 [⟨2, 0⟩] HT.out HR.out (by first | omega | (simp only [List.length_append, List.length_cons, List.length_nil]; omega) | (simp; done)) ?_ ?_ ?_); (kernel_rfl); (kernel_rfl))
      intro vv v10 hT
      replace HT := Lib.hid hT
      clear hT
      go_wp2
      go_ret
      refine ⟨⟨_, rfl, ?_⟩, HT.out.low⟩
      have := HT.out.t
      rw [hLR.out]
      simpa [aheadT, behindT, movedT, keptK, on, rg] using this
    · have HA4 : Hid (Rf 49 2 _ g4 #[.int .i64 1, .int .i64 A]) := Lib.hid HT.out.b.h0
      have HB5 : Hid (Rf 49 2 _ g5 #[.int .i64 1, .int .i64 B]) := Lib.hid HT.out.b.h1
      clear HA4 HB5
      obtain ⟨v6, HK⟩ : ∃ WK, Hid (WK = W5.alloc (.cells #[.int .i64 3, .int .i64 4, .int .i64 5, .int .i64 6, .int .i64 7, .int .i64 2] 3)) := ⟨_, rfl⟩
      replace HT := HT.out.box (ty := 3) (n := 6) (c := #[.int .i64 3, .int .i64 4, .int .i64 5, .int .i64 6, .int .i64 7, .int .i64 2]) ⟨rfl, by simp [Value.oneCell']⟩ (by decide) (by decide)
      rw [← HK.out] at HT
      replace HT := Lib.hid HT
      obtain ⟨gk, hgk⟩ : ∃ gk, Hid (gk = W5.heap.size) := ⟨_, rfl⟩
      rw [← hgk.out] at HT
      have HA4 : Hid (Rf 49 2 _ g4 #[.int .i64 1, .int .i64 A]) := Lib.hid HT.out.b.h1
      have HB5 : Hid (Rf 49 2 _ g5 #[.int .i64 1, .int .i64 B]) := Lib.hid HT.out.b.h2
      go_wp2_with (first | (rw [← HK.out]) | (rw [← hgk.out]) | ((with_reducible refine wp_load_R rowP HA4.out ?_ ?_); (rfl)))
      refine (RMove_x 1 A none 0 0 _).mono ?_
      rintro e v7 ⟨rfl, hb⟩
      replace HT := Lib.hid (HT.out.after hb)
      clear hb
      go_wp2_with ((with_reducible refine wp_app_x 1 A [] HT.out (PlIs.nil _) (by first | omega | (simp only [List.length_append, List.length_cons, List.length_nil]; omega) | (simp; done)) ?_ ?_ ?_); (kernel_rfl); (kernel_rfl))
      intro vv v8 hT
      replace HT := Lib.hid hT
      clear hT
      clear HA4 HB5
      go_wp2_with fail
      refine (ROnly_any 2 _).mono ?_
      rintro e v9 ⟨rfl, hb⟩
      replace HT := Lib.hid (HT.out.after hb)
      clear hb
      go_wp2_with fail
      refine (ROnly_any 2 _).mono ?_
      rintro e v10 ⟨rfl, hb⟩
      replace HT := Lib.hid (HT.out.after hb)
      clear hb
      go_wp2_with fail
      refine (RMove_x 2 0 _ 1 1 _).mono ?_
      rintro e v11 ⟨rfl, hb⟩
      have HR := Lib.hid ((pl1 v10 2 0).below hb)
      replace HT := Lib.hid ((HT.out.after (bel1 _ _)).after hb)
      clear hb
      go_wp2_with ((with_reducible refine wp_app_x 2 0 [⟨2, 0⟩] HT.out HR.out (by first | omega | (simp only [List.length_append, List.length_cons, List.length_nil]; omega) | (simp; done)) ?_ ?_ ?_); (kernel_rfl); (kernel_rfl))
      intro vv v12 hT
      replace HT := Lib.hid hT
      clear hT
      go_wp2
      go_ret
      refine ⟨⟨_, rfl, ?_⟩, HT.out.low⟩
      have := HT.out.t
      rw [hLR.out]
      simpa [aheadT, behindT, movedT, keptK, on, rg] using this
    · have HA4 : Hid (Rf 49 2 _ g4 #[.int .i64 1, .int .i64 A]) := Lib.hid HT.out.b.h0
      have HB5 : Hid (Rf 49 2 _ g5 #[.int .i64 1, .int .i64 B]) := Lib.hid HT.out.b.h1
      clear HA4 HB5
      obtain ⟨v6, HK⟩ : ∃ WK, Hid (WK = W5.alloc (.cells #[.int .i64 3, .int .i64 4, .int .i64 5, .int .i64 6, .int .i64 7, .int .i64 2] 3)) := ⟨_, rfl⟩
      replace HT := HT.out.box (ty := 3) (n := 6) (c := #[.int .i64 3, .int .i64 4, .int .i64 5, .int .i64 6, .int .i64 7, .int .i64 2]) ⟨rfl, by simp [Value.oneCell']⟩ (by decide) (by decide)
      rw [← HK.out] at HT
      replace HT := Lib.hid HT
      obtain ⟨gk, hgk⟩ : ∃ gk, Hid (gk = W5.heap.size) := ⟨_, rfl⟩
      rw [← hgk.out] at HT
      have HA4 : Hid (Rf 49 2 _ g4 #[.int .i64 1, .int .i64 A]) := Lib.hid HT.out.b.h1
      have HB5 : Hid (Rf 49 2 _ g5 #[.int .i64 1, .int .i64 B]) := Lib.hid HT.out.b.h2
      go_wp2_with (first | (rw [← HK.out]) | (rw [← hgk.out]) | ((with_reducible refine wp_load_R rowP HA4.out ?_ ?_); (rfl)) | ((with_reducible refine wp_load_R rowP HB5.out ?_ ?_); (rfl)))
      refine (RMove_x 1 A _ 1 1 _).mono ?_
      rintro e v7 ⟨rfl, hb⟩
      have HR := Lib.hid ((pl1 v6 1 B).below hb)
      replace HT := Lib.hid ((HT.out.after (bel1 _ _)).after hb)
      clear hb
      go_wp2_with ((with_reducible refine wp_app_x 1 A [⟨1, B⟩] HT.out HR.out (by first | omega | (simp only [List.length_append, List.length_cons, List.length_nil]; omega) | (simp; done)) ?_ ?_ ?_); (kernel_rfl); (kernel_rfl))
      intro vv v8 hT
      replace HT := Lib.hid hT
      clear hT
      clear HA4 HB5
      go_wp2_with fail
      refine (ROnly_any 2 _).mono ?_
      rintro e v9 ⟨rfl, hb⟩
      replace HT := Lib.hid (HT.out.after hb)
      clear hb
      go_wp2_with fail
      refine (ROnly_any 2 _).mono ?_
      rintro e v10 ⟨rfl, hb⟩
      replace HT := Lib.hid (HT.out.after hb)
      clear hb
      go_wp2_with fail
      refine (RMove_x 2 0 _ 1 1 _).mono ?_
      rintro e v11 ⟨rfl, hb⟩
      have HR := Lib.hid ((pl1 v10 2 0).below hb)
      replace HT := Lib.hid ((HT.out.after (bel1 _ _)).after hb)
      clear hb
      go_wp2_with ((with_reducible refine wp_app_x 2 0 [⟨2, 0⟩] HT.out HR.out (by first | omega | (simp only [List.length_append, List.length_cons, List.length_nil]; omega) | (simp; done)) ?_ ?_ ?_); (kernel_rfl); (kernel_rfl))
      intro vv v12 hT
      replace HT := Lib.hid hT
      clear hT
      go_wp2
      go_ret
      refine ⟨⟨_, rfl, ?_⟩, HT.out.low⟩
      have := HT.out.t
      rw [hLR.out]
      simpa [aheadT, behindT, movedT, keptK, on, rg] using this
    · have HA4 : Hid (Rf 49 2 _ g4 #[.int .i64 1, .int .i64 A]) := Lib.hid HT.out.b.h0
      have HB5 : Hid (Rf 49 2 _ g5 #[.int .i64 1, .int .i64 B]) := Lib.hid HT.out.b.h1
      clear HA4 HB5
      obtain ⟨v6, HK⟩ : ∃ WK, Hid (WK = W5.alloc (.cells #[.int .i64 3, .int .i64 4, .int .i64 5, .int .i64 6, .int .i64 7, .int .i64 2] 3)) := ⟨_, rfl⟩
      replace HT := HT.out.box (ty := 3) (n := 6) (c := #[.int .i64 3, .int .i64 4, .int .i64 5, .int .i64 6, .int .i64 7, .int .i64 2]) ⟨rfl, by simp [Value.oneCell']⟩ (by decide) (by decide)
      rw [← HK.out] at HT
      replace HT := Lib.hid HT
      obtain ⟨gk, hgk⟩ : ∃ gk, Hid (gk = W5.heap.size) := ⟨_, rfl⟩
      rw [← hgk.out] at HT
      have HA4 : Hid (Rf 49 2 _ g4 #[.int .i64 1, .int .i64 A]) := Lib.hid HT.out.b.h1
      have HB5 : Hid (Rf 49 2 _ g5 #[.int .i64 1, .int .i64 B]) := Lib.hid HT.out.b.h2
      go_wp2_with (first | (rw [← HK.out]) | (rw [← hgk.out]) | ((with_reducible refine wp_load_R rowP HA4.out ?_ ?_); (rfl)) | ((with_reducible refine wp_load_R rowP HB5.out ?_ ?_); (rfl)))
      refine (RMove_x 1 A _ 2 2 _).mono ?_
      rintro e v7 ⟨rfl, hb⟩
      have HR := Lib.hid ((pl2 v6 1 A 1 B).below hb)
      replace HT := Lib.hid ((HT.out.after (bel1 _ _)).after hb)
      clear hb
      go_wp2_with ((with_reducible refine wp_app_x 1 A [⟨1, A⟩, ⟨1, B⟩] HT.out HR.out (by first | omega | (simp only [List.length_append, List.length_cons, List.length_nil]; omega) | (simp; done)) ?_ ?_ ?_); (kernel_rfl); (kernel_rfl))
      intro vv v8 hT
      replace HT := Lib.hid hT
      clear hT
      clear HA4 HB5
      go_wp2_with fail
      refine (ROnly_any 2 _).mono ?_
      rintro e v9 ⟨rfl, hb⟩
      replace HT := Lib.hid (HT.out.after hb)
      clear hb
      go_wp2_with fail
      refine (ROnly_any 2 _).mono ?_
      rintro e v10 ⟨rfl, hb⟩
      replace HT := Lib.hid (HT.out.after hb)
      clear hb
      go_wp2_with fail
      refine (RMove_x 2 0 _ 1 1 _).mono ?_
      rintro e v11 ⟨rfl, hb⟩
      have HR := Lib.hid ((pl1 v10 2 0).below hb)
      replace HT := Lib.hid ((HT.out.after (bel1 _ _)).after hb)
      clear hb
      go_wp2_with ((with_reducible refine wp_app_x 2 0 [⟨2, 0⟩] HT.out HR.out (by first | omega | (simp only [List.length_append, List.length_cons, List.length_nil]; omega) | (simp; done)) ?_ ?_ ?_); (kernel_rfl); (kernel_rfl))
      intro vv v12 hT
      replace HT := Lib.hid hT
      clear hT
      go_wp2
      go_ret
      refine ⟨⟨_, rfl, ?_⟩, HT.out.low⟩
      have := HT.out.t
      rw [hLR.out]
      simpa [aheadT, behindT, movedT, keptK, on, rg] using this
    · have HA4 : Hid (Rf 49 2 _ g4 #[.int .i64 1, .int .i64 A]) := Lib.hid HT.out.b.h0
      have HB5 : Hid (Rf 49 2 _ g5 #[.int .i64 1, .int .i64 B]) := Lib.hid HT.out.b.h1
      clear HA4 HB5
      obtain ⟨v6, HK⟩ : ∃ WK, Hid (WK = W5.alloc (.cells #[.int .i64 3, .int .i64 4, .int .i64 5, .int .i64 6, .int .i64 7, .int .i64 2] 3)) := ⟨_, rfl⟩
      replace HT := HT.out.box (ty := 3) (n := 6) (c := #[.int .i64 3, .int .i64 4, .int .i64 5, .int .i64 6, .int .i64 7, .int .i64 2]) ⟨rfl, by simp [Value.oneCell']⟩ (by decide) (by decide)
      rw [← HK.out] at HT
      replace HT := Lib.hid HT
      obtain ⟨gk, hgk⟩ : ∃ gk, Hid (gk = W5.heap.size) := ⟨_, rfl⟩
      rw [← hgk.out] at HT
      have HA4 : Hid (Rf 49 2 _ g4 #[.int .i64 1, .int .i64 A]) := Lib.hid HT.out.b.h1
      have HB5 : Hid (Rf 49 2 _ g5 #[.int .i64 1, .int .i64 B]) := Lib.hid HT.out.b.h2
      go_wp2_with (first | (rw [← HK.out]) | (rw [← hgk.out]) | ((with_reducible refine wp_load_R rowP HA4.out ?_ ?_); (rfl)) | ((with_reducible refine wp_load_R rowP HB5.out ?_ ?_); (rfl)))
      refine (RMove_x 1 A _ 2 2 _).mono ?_
      rintro e v7 ⟨rfl, hb⟩
      have HR := Lib.hid ((pl2 v6 1 A 1 B).below hb)
      replace HT := Lib.hid ((HT.out.after (bel1 _ _)).after hb)
      clear hb
      go_wp2_with ((with_reducible refine wp_app_x 1 A [⟨1, A⟩, ⟨1, B⟩] HT.out HR.out (by first | omega | (simp only [List.length_append, List.length_cons, List.length_nil]; omega) | (simp; done)) ?_ ?_ ?_); (kernel_rfl); (kernel_rfl))
      intro vv v8 hT
      replace HT := Lib.hid hT
      clear hT
      clear HA4 HB5
      go_wp2_with fail
      refine (ROnly_any 2 _).mono ?_
      rintro e v9 ⟨rfl, hb⟩
      replace HT := Lib.hid (HT.out.after hb)
      clear hb
      go_wp2_with fail
      refine (ROnly_any 2 _).mono ?_
      rintro e v10 ⟨rfl, hb⟩
      replace HT := Lib.hid (HT.out.after hb)
      clear hb
      go_wp2_with fail
      refine (RMove_x 2 0 _ 1 1 _).mono ?_
      rintro e v11 ⟨rfl, hb⟩
      have HR := Lib.hid ((pl1 v10 2 0).below hb)
      replace HT := Lib.hid ((HT.out.after (bel1 _ _)).after hb)
      clear hb
      go_wp2_with ((with_reducible refine wp_app_x 2 0 [⟨2, 0⟩] HT.out HR.out (by first | omega | (simp only [List.length_append, List.length_cons, List.length_nil]; omega) | (simp; done)) ?_ ?_ ?_); (kernel_rfl); (kernel_rfl))
      intro vv v12 hT
      replace HT := Lib.hid hT
      clear hT
      go_wp2
      go_ret
      refine ⟨⟨_, rfl, ?_⟩, HT.out.low⟩
      have := HT.out.t
      rw [hLR.out]
      simpa [aheadT, behindT, movedT, keptK, on, rg] using this
    · have HA4 : Hid (Rf 49 2 _ g4 #[.int .i64 1, .int .i64 A]) := Lib.hid HT.out.b.h0
      have HB5 : Hid (Rf 49 2 _ g5 #[.int .i64 1, .int .i64 B]) := Lib.hid HT.out.b.h1
      clear HA4 HB5
      obtain ⟨v6, HK⟩ : ∃ WK, Hid (WK = W5.alloc (.cells #[.int .i64 3, .int .i64 4, .int .i64 5, .int .i64 6, .int .i64 7, .int .i64 2] 3)) := ⟨_, rfl⟩
      replace HT := HT.out.box (ty := 3) (n := 6) (c := #[.int .i64 3, .int .i64 4, .int .i64 5, .int .i64 6, .int .i64 7, .int .i64 2]) ⟨rfl, by simp [Value.oneCell']⟩ (by decide) (by decide)
      rw [← HK.out] at HT
      replace HT := Lib.hid HT
      obtain ⟨gk, hgk⟩ : ∃ gk, Hid (gk = W5.heap.size) := ⟨_, rfl⟩
      rw [← hgk.out] at HT
      have HA4 : Hid (Rf 49 2 _ g4 #[.int .i64 1, .int .i64 A]) := Lib.hid HT.out.b.h1
      have HB5 : Hid (Rf 49 2 _ g5 #[.int .i64 1, .int .i64 B]) := Lib.hid HT.out.b.h2
      go_wp2_with (first | (rw [← HK.out]) | (rw [← hgk.out]) | ((with_reducible refine wp_load_R rowP HA4.out ?_ ?_); (rfl)) | ((with_reducible refine wp_load_R rowP HB5.out ?_ ?_); (rfl)))
      refine (RMove_x 1 A _ 2 2 _).mono ?_
      rintro e v7 ⟨rfl, hb⟩
      have HR := Lib.hid ((pl2 v6 1 A 1 B).below hb)
      replace HT := Lib.hid ((HT.out.after (bel1 _ _)).after hb)
      clear hb
      go_wp2_with ((with_reducible refine wp_app_x 1 A [⟨1, A⟩, ⟨1, B⟩] HT.out HR.out (by first | omega | (simp only [List.length_append, List.length_cons, List.length_nil]; omega) | (simp; done)) ?_ ?_ ?_); (kernel_rfl); (kernel_rfl))
      intro vv v8 hT
      replace HT := Lib.hid hT
      clear hT
      clear HA4 HB5
      go_wp2_with fail
      refine (ROnly_any 2 _).mono ?_
      rintro e v9 ⟨rfl, hb⟩
      replace HT := Lib.hid (HT.out.after hb)
      clear hb
      go_wp2_with fail
      refine (ROnly_any 2 _).mono ?_
      rintro e v10 ⟨rfl, hb⟩
      replace HT := Lib.hid (HT.out.after hb)
      clear hb
      go_wp2_with fail
      refine (RMove_x 2 0 _ 1 1 _).mono ?_
      rintro e v11 ⟨rfl, hb⟩
      have HR := Lib.hid ((pl1 v10 2 0).below hb)
      replace HT := Lib.hid ((HT.out.after (bel1 _ _)).after hb)
      clear hb
      go_wp2_with ((with_reducible refine wp_app_x 2 0 [⟨2, 0⟩] HT.out HR.out (by first | omega | (simp only [List.length_append, List.length_cons, List.length_nil]; omega) | (simp; done)) ?_ ?_ ?_); (kernel_rfl); (kernel_rfl))
      intro vv v12 hT
      replace HT := Lib.hid hT
      clear hT
      go_wp2
      go_ret
      refine ⟨⟨_, rfl, ?_⟩, HT.out.low⟩
      have := HT.out.t
      rw [hLR.out]
      simpa [aheadT, behindT, movedT, keptK, on, rg] using this
    · have HA4 : Hid (Rf 49 2 _ g4 #[.int .i64 1, .int .i64 A]) := Lib.hid HT.out.b.h0
      have HB5 : Hid (Rf 49 2 _ g5 #[.int .i64 1, .int .i64 B]) := Lib.hid HT.out.b.h1
      clear HA4 HB5
      obtain ⟨v6, HK⟩ : ∃ WK, Hid (WK = W5.alloc (.cells #[.int .i64 3, .int .i64 4, .int .i64 5, .int .i64 6, .int .i64 7, .int .i64 2] 3)) := ⟨_, rfl⟩
      replace HT := HT.out.box (ty := 3) (n := 6) (c := #[.int .i64 3, .int .i64 4, .int .i64 5, .int .i64 6, .int .i64 7, .int .i64 2]) ⟨rfl, by simp [Value.oneCell']⟩ (by decide) (by decide)
      rw [← HK.out] at HT
      replace HT := Lib.hid HT
      obtain ⟨gk, hgk⟩ : ∃ gk, Hid (gk = W5.heap.size) := ⟨_, rfl⟩
      rw [← hgk.out] at HT
      have HA4 : Hid (Rf 49 2 _ g4 #[.int .i64 1, .int .i64 A]) := Lib.hid HT.out.b.h1
      have HB5 : Hid (Rf 49 2 _ g5 #[.int .i64 1, .int .i64 B]) := Lib.hid HT.out.b.h2
      go_wp2_with (first | (rw [← HK.out]) | (rw [← hgk.out]) | ((with_reducible refine wp_load_R rowP HA4.out ?_ ?_); (rfl)) | ((with_reducible refine wp_load_R rowP HB5.out ?_ ?_); (rfl)))
      refine (RMove_x 1 A _ 2 2 _).mono ?_
      rintro e v7 ⟨rfl, hb⟩
      have HR := Lib.hid ((pl2 v6 1 A 1 B).below hb)
      replace HT := Lib.hid ((HT.out.after (bel1 _ _)).after hb)
      clear hb
      go_wp2_with ((with_reducible refine wp_app_x 1 A [⟨1, A⟩, ⟨1, B⟩] HT.out HR.out (by first | omega | (simp only [List.length_append, List.length_cons, List.length_nil]; omega) | (simp; done)) ?_ ?_ ?_); (kernel_rfl); (kernel_rfl))
      intro vv v8 hT
      replace HT := Lib.hid hT
      clear hT
      clear HA4 HB5
      go_wp2_with fail
      refine (ROnly_any 2 _).mono ?_
      rintro e v9 ⟨rfl, hb⟩
      replace HT := Lib.hid (HT.out.after hb)
      clear hb
      go_wp2_with fail
      refine (ROnly_any 2 _).mono ?_
      rintro e v10 ⟨rfl, hb⟩
      replace HT := Lib.hid (HT.out.after hb)
      clear hb
      go_wp2_with fail
      refine (RMove_x 2 0 _ 1 1 _).mono ?_
      rintro e v11 ⟨rfl, hb⟩
      have HR := Lib.hid ((pl1 v10 2 0).below hb)
      replace HT := Lib.hid ((HT.out.after (bel1 _ _)).after hb)
      clear hb
      go_wp2_with ((with_reducible refine wp_app_x 2 0 [⟨2, 0⟩] HT.out HR.out (by first | omega | (simp only [List.length_append, List.length_cons, List.length_nil]; omega) | (simp; done)) ?_ ?_ ?_); (kernel_rfl); (kernel_rfl))
      intro vv v12 hT
      replace HT := Lib.hid hT
      clear hT
      go_wp2
      go_ret
      refine ⟨⟨_, rfl, ?_⟩, HT.out.low⟩
      have := HT.out.t
      rw [hLR.out]
      simpa [aheadT, behindT, movedT, keptK, on, rg] using this
    · have HA4 : Hid (Rf 49 2 _ g4 #[.int .i64 1, .int .i64 A]) := Lib.hid HT.out.b.h0
      have HB5 : Hid (Rf 49 2 _ g5 #[.int .i64 1, .int .i64 B]) := Lib.hid HT.out.b.h1
      clear HA4 HB5
      obtain ⟨v6, HK⟩ : ∃ WK, Hid (WK = W5.alloc (.cells #[.int .i64 3, .int .i64 4, .int .i64 5, .int .i64 6, .int .i64 7, .int .i64 2] 3)) := ⟨_, rfl⟩
      replace HT := HT.out.box (ty := 3) (n := 6) (c := #[.int .i64 3, .int .i64 4, .int .i64 5, .int .i64 6, .int .i64 7, .int .i64 2]) ⟨rfl, by simp [Value.oneCell']⟩ (by decide) (by decide)
      rw [← HK.out] at HT
      replace HT := Lib.hid HT
      obtain ⟨gk, hgk⟩ : ∃ gk, Hid (gk = W5.heap.size) := ⟨_, rfl⟩
      rw [← hgk.out] at HT
      have HA4 : Hid (Rf 49 2 _ g4 #[.int .i64 1, .int .i64 A]) := Lib.hid HT.out.b.h1
      have HB5 : Hid (Rf 49 2 _ g5 #[.int .i64 1, .int .i64 B]) := Lib.hid HT.out.b.h2
      go_wp2_with (first | (rw [← HK.out]) | (rw [← hgk.out]) | ((with_reducible refine wp_load_R rowP HA4.out ?_ ?_); (rfl)) | ((with_reducible refine wp_load_R rowP HB5.out ?_ ?_); (rfl)))
      refine (RMove_x 1 A _ 2 2 _).mono ?_
      rintro e v7 ⟨rfl, hb⟩
      have HR := Lib.hid ((pl2 v6 1 A 1 B).below hb)
      replace HT := Lib.hid ((HT.out.after (bel1 _ _)).after hb)
      clear hb
      go_wp2_with ((with_reducible refine wp_app_x 1 A [⟨1, A⟩, ⟨1, B⟩] HT.out HR.out (by first | omega | (simp only [List.length_append, List.length_cons, List.length_nil]; omega) | (simp; done)) ?_ ?_ ?_); (kernel_rfl); (kernel_rfl))
      intro vv v8 hT
      replace HT := Lib.hid hT
      clear hT
      clear HA4 HB5
      go_wp2_with fail
      refine (ROnly_any 2 _).mono ?_
      rintro e v9 ⟨rfl, hb⟩
      replace HT := Lib.hid (HT.out.after hb)
      clear hb
      go_wp2_with fail
      refine (ROnly_any 2 _).mono ?_
      rintro e v10 ⟨rfl, hb⟩
      replace HT := Lib.hid (HT.out.after hb)
      clear hb
      go_wp2_with fail
      refine (RMove_x 2 0 _ 1 1 _).mono ?_
      rintro e v11 ⟨rfl, hb⟩
      have HR := Lib.hid ((pl1 v10 2 0).below hb)
      replace HT := Lib.hid ((HT.out.after (bel1 _ _)).after hb)
      clear hb
      go_wp2_with ((with_reducible refine wp_app_x 2 0 [⟨2, 0⟩] HT.out HR.out (by first | omega | (simp only [List.length_append, List.length_cons, List.length_nil]; omega) | (simp; done)) ?_ ?_ ?_); (kernel_rfl); (kernel_rfl))
      intro vv v12 hT
      replace HT := Lib.hid hT
      clear hT
      go_wp2
      go_ret
      refine ⟨⟨_, rfl, ?_⟩, HT.out.low⟩
      have := HT.out.t
      rw [hLR.out]
      simpa [aheadT, behindT, movedT, keptK, on, rg] using this
    · have HA4 : Hid (Rf 49 2 _ g4 #[.int .i64 1, .int .i64 A]) := Lib.hid HT.out.b.h0
      have HB5 : Hid (Rf 49 2 _ g5 #[.int .i64 1, .int .i64 B]) := Lib.hid HT.out.b.h1
      clear HA4 HB5
      obtain ⟨v6, HK⟩ : ∃ WK, Hid (WK = W5.alloc (.cells #[.int .i64 3, .int .i64 4, .int .i64 5, .int .i64 6, .int .i64 7, .int .i64 2] 3)) := ⟨_, rfl⟩
      replace HT := HT.out.box (ty := 3) (n := 6) (c := #[.int .i64 3, .int .i64 4, .int .i64 5, .int .i64 6, .int .i64 7, .int .i64 2]) ⟨rfl, by simp [Value.oneCell']⟩ (by decide) (by decide)
      rw [← HK.out] at HT
      replace HT := Lib.hid HT
      obtain ⟨gk, hgk⟩ : ∃ gk, Hid (gk = W5.heap.size) := ⟨_, rfl⟩
      rw [← hgk.out] at HT
      have HA4 : Hid (Rf 49 2 _ g4 #[.int .i64 1, .int .i64 A]) := Lib.hid HT.out.b.h1
      have HB5 : Hid (Rf 49 2 _ g5 #[.int .i64 1, .int .i64 B]) := Lib.hid HT.out.b.h2
      go_wp2_with (first | (rw [← HK.out]) | (rw [← hgk.out]) | ((with_reducible refine wp_load_R rowP HA4.out ?_ ?_); (rfl)) | ((with_reducible refine wp_load_R rowP HB5.out ?_ ?_); (rfl)))
      refine (RMove_x 1 A _ 2 2 _).mono ?_
      rintro e v7 ⟨rfl, hb⟩
      have HR := Lib.hid ((pl2 v6 1 A 1 B).below hb)
      replace HT := Lib.hid ((HT.out.after (bel1 _ _)).after hb)
      clear hb
      go_wp2_with ((with_reducible refine wp_app_x 1 A [⟨1, A⟩, ⟨1, B⟩] HT.out HR.out (by first | omega | (simp only [List.length_append, List.length_cons, List.length_nil]; omega) | (simp; done)) ?_ ?_ ?_); (kernel_rfl); (kernel_rfl))
      intro vv v8 hT
      replace HT := Lib.hid hT
      clear hT
      clear HA4 HB5
      go_wp2_with fail
      refine (ROnly_any 2 _).mono ?_
      rintro e v9 ⟨rfl, hb⟩
      replace HT := Lib.hid (HT.out.after hb)
      clear hb
      go_wp2_with fail
      refine (ROnly_any 2 _).mono ?_
      rintro e v10 ⟨rfl, hb⟩
      replace HT := Lib.hid (HT.out.after hb)
      clear hb
      go_wp2_with fail
      refine (RMove_x 2 0 _ 1 1 _).mono ?_
      rintro e v11 ⟨rfl, hb⟩
      have HR := Lib.hid ((pl1 v10 2 0).below hb)
      replace HT := Lib.hid ((HT.out.after (bel1 _ _)).after hb)
      clear hb
      go_wp2_with ((with_reducible refine wp_app_x 2 0 [⟨2, 0⟩] HT.out HR.out (by first | omega | (simp only [List.length_append, List.length_cons, List.length_nil]; omega) | (simp; done)) ?_ ?_ ?_); (kernel_rfl); (kernel_rfl))
      intro vv v12 hT
      replace HT := Lib.hid hT
      clear hT
      go_wp2
      go_ret
      refine ⟨⟨_, rfl, ?_⟩, HT.out.low⟩
      have := HT.out.t
      rw [hLR.out]
      simpa [aheadT, behindT, movedT, keptK, on, rg] using this
    · have HA4 : Hid (Rf 49 2 _ g4 #[.int .i64 1, .int .i64 A]) := Lib.hid HT.out.b.h0
      have HB5 : Hid (Rf 49 2 _ g5 #[.int .i64 1, .int .i64 B]) := Lib.hid HT.out.b.h1
      clear HA4 HB5
      obtain ⟨v6, HK⟩ : ∃ WK, Hid (WK = W5.alloc (.cells #[.int .i64 3, .int .i64 4, .int .i64 5, .int .i64 6, .int .i64 7, .int .i64 2] 3)) := ⟨_, rfl⟩
      replace HT := HT.out.box (ty := 3) (n := 6) (c := #[.int .i64 3, .int .i64 4, .int .i64 5, .int .i64 6, .int .i64 7, .int .i64 2]) ⟨rfl, by simp [Value.oneCell']⟩ (by decide) (by decide)
      rw [← HK.out] at HT
      replace HT := Lib.hid HT
      obtain ⟨gk, hgk⟩ : ∃ gk, Hid (gk = W5.heap.size) := ⟨_, rfl⟩
      rw [← hgk.out] at HT
      have HA4 : Hid (Rf 49 2 _ g4 #[.int .i64 1, .int .i64 A]) := Lib.hid HT.out.b.h1
      have HB5 : Hid (Rf 49 2 _ g5 #[.int .i64 1, .int .i64 B]) := Lib.hid HT.out.b.h2
      go_wp2_with (first | (rw [← HK.out]) | (rw [← hgk.out]) | ((with_reducible refine wp_load_R rowP HA4.out ?_ ?_); (rfl)) | ((with_reducible refine wp_load_R rowP HB5.out ?_ ?_); (rfl)))
      refine (RMove_x 1 A _ 2 2 _).mono ?_
      rintro e v7 ⟨rfl, hb⟩
      have HR := Lib.hid ((pl2 v6 1 A 1 B).below hb)
      replace HT := Lib.hid ((HT.out.after (bel1 _ _)).after hb)
      clear hb
      go_wp2_with ((with_reducible refine wp_app_x 1 A [⟨1, A⟩, ⟨1, B⟩] HT.out HR.out (by first | omega | (simp only [List.length_append, List.length_cons, List.length_nil]; omega) | (simp; done)) ?_ ?_ ?_); (kernel_rfl); (kernel_rfl))
      intro vv v8 hT
      replace HT := Lib.hid hT
      clear hT
      clear HA4 HB5
      go_wp2_with fail
      refine (ROnly_any 2 _).mono ?_
      rintro e v9 ⟨rfl, hb⟩
      replace HT := Lib.hid (HT.out.after hb)
      clear hb
      go_wp2_with fail
      refine (ROnly_any 2 _).mono ?_
      rintro e v10 ⟨rfl, hb⟩
      replace HT := Lib.hid (HT.out.after hb)
      clear hb
      go_wp2_with fail
      refine (RMove_x 2 0 _ 1 1 _).mono ?_
      rintro e v11 ⟨rfl, hb⟩
      have HR := Lib.hid ((pl1 v10 2 0).below hb)
      replace HT := Lib.hid ((HT.out.after (bel1 _ _)).after hb)
      clear hb
      go_wp2_with ((with_reducible refine wp_app_x 2 0 [⟨2, 0⟩] HT.out HR.out (by first | omega | (simp only [List.length_append, List.length_cons, List.length_nil]; omega) | (simp; done)) ?_ ?_ ?_); (kernel_rfl); (kernel_rfl))
      intro vv v12 hT
      replace HT := Lib.hid hT
      clear hT
      go_wp2
      go_ret
      refine ⟨⟨_, rfl, ?_⟩, HT.out.low⟩
      have := HT.out.t
      rw [hLR.out]
      simpa [aheadT, behindT, movedT, keptK, on, rg] using this
    · have HA4 : Hid (Rf 49 2 _ g4 #[.int .i64 1, .int .i64 A]) := Lib.hid HT.out.b.h0
      have HB5 : Hid (Rf 49 2 _ g5 #[.int .i64 1, .int .i64 B]) := Lib.hid HT.out.b.h1
      clear HA4 HB5
      obtain ⟨v6, HK⟩ : ∃ WK, Hid (WK = W5.alloc (.cells #[.int .i64 3, .int .i64 4, .int .i64 5, .int .i64 6, .int .i64 7, .int .i64 2] 3)) := ⟨_, rfl⟩
      replace HT := HT.out.box (ty := 3) (n := 6) (c := #[.int .i64 3, .int .i64 4, .int .i64 5, .int .i64 6, .int .i64 7, .int .i64 2]) ⟨rfl, by simp [Value.oneCell']⟩ (by decide) (by decide)
      rw [← HK.out] at HT
      replace HT := Lib.hid HT
      obtain ⟨gk, hgk⟩ : ∃ gk, Hid (gk = W5.heap.size) := ⟨_, rfl⟩
      rw [← hgk.out] at HT
      have HA4 : Hid (Rf 49 2 _ g4 #[.int .i64 1, .int .i64 A]) := Lib.hid HT.out.b.h1
      have HB5 : Hid (Rf 49 2 _ g5 #[.int .i64 1, .int .i64 B]) := Lib.hid HT.out.b.h2
      go_wp2_with (first | (rw [← HK.out]) | (rw [← hgk.out]) | ((with_reducible refine wp_load_R rowP HA4.out ?_ ?_); (rfl)) | ((with_reducible refine wp_load_R rowP HB5.out ?_ ?_); (rfl)))
      refine (RMove_x 1 A _ 2 2 _).mono ?_
      rintro e v7 ⟨rfl, hb⟩
      have HR := Lib.hid ((pl2 v6 1 A 1 B).below hb)
      replace HT := Lib.hid ((HT.out.after (bel1 _ _)).after hb)
      clear hb
      go_wp2_with ((with_reducible refine wp_app_x 1 A [⟨1, A⟩, ⟨1, B⟩] HT.out HR.out (by first | omega | (simp only [List.length_append, List.length_cons, List.length_nil]; omega) | (simp; done)) ?_ ?_ ?_); (kernel_rfl); (kernel_rfl))
      intro vv v8 hT
      replace HT := Lib.hid hT
      clear hT
      clear HA4 HB5
      go_wp2_with fail
      refine (ROnly_any 2 _).mono ?_
      rintro e v9 ⟨rfl, hb⟩
      replace HT := Lib.hid (HT.out.after hb)
      clear hb
      go_wp2_with fail
      refine (ROnly_any 2 _).mono ?_
      rintro e v10 ⟨rfl, hb⟩
      replace HT := Lib.hid (HT.out.after hb)
      clear hb
      go_wp2_with fail
      refine (RMove_x 2 0 _ 1 1 _).mono ?_
      rintro e v11 ⟨rfl, hb⟩
      have HR := Lib.hid ((pl1 v10 2 0).below hb)
      replace HT := Lib.hid ((HT.out.after (bel1 _ _)).after hb)
      clear hb
      go_wp2_with ((with_reducible refine wp_app_x 2 0 [⟨2, 0⟩] HT.out HR.out (by first | omega | (simp only [List.length_append, List.length_cons, List.length_nil]; omega) | (simp; done)) ?_ ?_ ?_); (kernel_rfl); (kernel_rfl))
      intro vv v12 hT
      replace HT := Lib.hid hT
      clear hT
      go_wp2
      go_ret
      refine ⟨⟨_, rfl, ?_⟩, HT.out.low⟩
      have := HT.out.t
      rw [hLR.out]
      simpa [aheadT, behindT, movedT, keptK, on, rg] using this
    · have HA4 : Hid (Rf 49 2 _ g4 #[.int .i64 1, .int .i64 A]) := Lib.hid HT.out.b.h0
      have HB5 : Hid (Rf 49 2 _ g5 #[.int .i64 1, .int .i64 B]) := Lib.hid HT.out.b.h1
      clear HA4 HB5
      obtain ⟨v6, HK⟩ : ∃ WK, Hid (WK = W5.alloc (.cells #[.int .i64 3, .int .i64 4, .int .i64 5, .int .i64 6, .int .i64 7, .int .i64 2] 3)) := ⟨_, rfl⟩
      replace HT := HT.out.box (ty := 3) (n := 6) (c := #[.int .i64 3, .int .i64 4, .int .i64 5, .int .i64 6, .int .i64 7, .int .i64 2]) ⟨rfl, by simp [Value.oneCell']⟩ (by decide) (by decide)
      rw [← HK.out] at HT
      replace HT := Lib.hid HT
      obtain ⟨gk, hgk⟩ : ∃ gk, Hid (gk = W5.heap.size) := ⟨_, rfl⟩
      rw [← hgk.out] at HT
      have HA4 : Hid (Rf 49 2 _ g4 #[.int .i64 1, .int .i64 A]) := Lib.hid HT.out.b.h1
      have HB5 : Hid (Rf 49 2 _ g5 #[.int .i64 1, .int .i64 B]) := Lib.hid HT.out.b.h2
      go_wp2_with (first | (rw [← HK.out]) | (rw [← hgk.out]) | ((with_reducible refine wp_load_R rowP HA4.out ?_ ?_); (rfl)) | ((with_reducible refine wp_load_R rowP HB5.out ?_ ?_); (rfl)))
      refine (RMove_x 1 A _ 2 2 _).mono ?_
      rintro e v7 ⟨rfl, hb⟩
      have HR := Lib.hid ((pl2 v6 1 A 1 B).below hb)
      replace HT := Lib.hid ((HT.out.after (bel1 _ _)).after hb)
      clear hb
      go_wp2_with ((with_reducible refine wp_app_x 1 A [⟨1, A⟩, ⟨1, B⟩] HT.out HR.out (by first | omega | (simp only [List.length_append, List.length_cons, List.length_nil]; omega) | (simp; done)) ?_ ?_ ?_); (kernel_rfl); (kernel_rfl))
      intro vv v8 hT
      replace HT := Lib.hid hT
      clear hT
      clear HA4 HB5
      go_wp2_with fail
      refine (ROnly_any 2 _).mono ?_
      rintro e v9 ⟨rfl, hb⟩
      replace HT := Lib.hid (HT.out.after hb)
      clear hb
      go_wp2_with fail
      refine (ROnly_any 2 _).mono ?_
      rintro e v10 ⟨rfl, hb⟩
      replace HT := Lib.hid (HT.out.after hb)
      clear hb
      go_wp2_with fail
      refine (RMove_x 2 0 _ 1 1 _).mono ?_
      rintro e v11 ⟨rfl, hb⟩
      have HR := Lib.hid ((pl1 v10 2 0).below hb)
      replace HT := Lib.hid ((HT.out.after (bel1 _ _)).after hb)
      clear hb
      go_wp2_with ((with_reducible refine wp_app_x 2 0 [⟨2, 0⟩] HT.out HR.out (by first | omega | (simp only [List.length_append, List.length_cons, List.length_nil]; omega) | (simp; done)) ?_ ?_ ?_); (kernel_rfl); (kernel_rfl))
      intro vv v12 hT
      replace HT := Lib.hid hT
      clear hT
      go_wp2
      go_ret
      refine ⟨⟨_, rfl, ?_⟩, HT.out.low⟩
      have := HT.out.t
      rw [hLR.out]
      simpa [aheadT, behindT, movedT, keptK, on, rg] using this
    · have HA4 : Hid (Rf 49 2 _ g4 #[.int .i64 1, .int .i64 A]) := Lib.hid HT.out.b.h0
      have HB5 : Hid (Rf 49 2 _ g5 #[.int .i64 1, .int .i64 B]) := Lib.hid HT.out.b.h1
      go_wp2_with ((with_reducible refine wp_load_R rowP HB5.out ?_ ?_); (rfl))
      refine (RDecide_x _ 1 1 _).mono ?_
      rintro e v6 ⟨rfl, hb⟩
      have HR := Lib.hid ((pl1 W5 1 B).below hb)
      replace HT := Lib.hid ((HT.out.after (bel1 _ _)).after hb)
      clear hb
      go_wp2_with ((with_reducible refine wp_app_x 0 0 [⟨1, B⟩] HT.out HR.out (by first | omega | (simp only [List.length_append, List.length_cons, List.length_nil]; omega) | (simp; done)) ?_ ?_ ?_); (kernel_rfl); (kernel_rfl))
      intro vv v7 hT
      replace HT := Lib.hid hT
      clear hT
      clear HA4 HB5
      obtain ⟨v8, HK⟩ : ∃ WK, Hid (WK = v7.alloc (.cells #[.int .i64 3, .int .i64 4, .int .i64 5, .int .i64 6, .int .i64 7, .int .i64 2] 3)) := ⟨_, rfl⟩
      replace HT := HT.out.box (ty := 3) (n := 6) (c := #[.int .i64 3, .int .i64 4, .int .i64 5, .int .i64 6, .int .i64 7, .int .i64 2]) ⟨rfl, by simp [Value.oneCell']⟩ (by decide) (by decide)
      rw [← HK.out] at HT
      replace HT := Lib.hid HT
      obtain ⟨gk, hgk⟩ : ∃ gk, Hid (gk = v7.heap.size) := ⟨_, rfl⟩
      rw [← hgk.out] at HT
      have HA4 : Hid (Rf 49 2 _ g4 #[.int .i64 1, .int .i64 A]) := Lib.hid HT.out.b.h1
      have HB5 : Hid (Rf 49 2 _ g5 #[.int .i64 1, .int .i64 B]) := Lib.hid HT.out.b.h2
      go_wp2_with (first | (rw [← HK.out]) | (rw [← hgk.out]))
      clear HA4 HB5
      refine (ROnly_any 2 _).mono ?_
      rintro e v9 ⟨rfl, hb⟩
      replace HT := Lib.hid (HT.out.after hb)
      clear hb
      go_wp2_with fail
      refine (ROnly_any 2 _).mono ?_
      rintro e v10 ⟨rfl, hb⟩
      replace HT := Lib.hid (HT.out.after hb)
      clear hb
      go_wp2_with fail
      refine (RMove_x 2 0 _ 1 1 _).mono ?_
      rintro e v11 ⟨rfl, hb⟩
      have HR := Lib.hid ((pl1 v10 2 0).below hb)
      replace HT := Lib.hid ((HT.out.after (bel1 _ _)).after hb)
      clear hb
      go_wp2_with ((with_reducible refine wp_app_x 2 0 [⟨2, 0⟩] HT.out HR.out (by first | omega | (simp only [List.length_append, List.length_cons, List.length_nil]; omega) | (simp; done)) ?_ ?_ ?_); (kernel_rfl); (kernel_rfl))
      intro vv v12 hT
      replace HT := Lib.hid hT
      clear hT
      go_wp2
      go_ret
      refine ⟨⟨_, rfl, ?_⟩, HT.out.low⟩
      have := HT.out.t
      rw [hLR.out]
      simpa [aheadT, behindT, movedT, keptK, on, rg] using this
    · have HA4 : Hid (Rf 49 2 _ g4 #[.int .i64 1, .int .i64 A]) := Lib.hid HT.out.b.h0
      have HB5 : Hid (Rf 49 2 _ g5 #[.int .i64 1, .int .i64 B]) := Lib.hid HT.out.b.h1
      go_wp2_with ((with_reducible refine wp_load_R rowP HB5.out ?_ ?_); (rfl))
      refine (RDecide_x _ 1 1 _).mono ?_
      rintro e v6 ⟨rfl, hb⟩
      have HR := Lib.hid ((pl1 W5 1 B).below hb)
      replace HT := Lib.hid ((HT.out.after (bel1 _ _)).after hb)
      clear hb
      go_wp2_with ((with_reducible refine wp_app_x 0 0 [⟨1, B⟩] HT.out HR.out (by first | omega | (simp only [List.length_append, List.length_cons, List.length_nil]; omega) | (simp; done)) ?_ ?_ ?_); (kernel_rfl); (kernel_rfl))
      intro vv v7 hT
      replace HT := Lib.hid hT
      clear hT
      clear HA4 HB5
      obtain ⟨v8, HK⟩ : ∃ WK, Hid (WK = v7.alloc (.cells #[.int .i64 3, .int .i64 4, .int .i64 5, .int .i64 6, .int .i64 7, .int .i64 2] 3)) := ⟨_, rfl⟩
      replace HT := HT.out.box (ty := 3) (n := 6) (c := #[.int .i64 3, .int .i64 4, .int .i64 5, .int .i64 6, .int .i64 7, .int .i64 2]) ⟨rfl, by simp [Value.oneCell']⟩ (by decide) (by decide)
      rw [← HK.out] at HT
      replace HT := Lib.hid HT
      obtain ⟨gk, hgk⟩ : ∃ gk, Hid (gk = v7.heap.size) := ⟨_, rfl⟩
      rw [← hgk.out] at HT
      have HA4 : Hid (Rf 49 2 _ g4 #[.int .i64 1, .int .i64 A]) := Lib.hid HT.out.b.h1
      have HB5 : Hid (Rf 49 2 _ g5 #[.int .i64 1, .int .i64 B]) := Lib.hid HT.out.b.h2
      go_wp2_with (first | (rw [← HK.out]) | (rw [← hgk.out]))
      clear HA4 HB5
      refine (ROnly_any 2 _).mono ?_
      rintro e v9 ⟨rfl, hb⟩
      replace HT := Lib.hid (HT.out.after hb)
      clear hb
      go_wp2_with fail
      refine (ROnly_any 2 _).mono ?_
      rintro e v10 ⟨rfl, hb⟩
      replace HT := Lib.hid (HT.out.after hb)
      clear hb
      go_wp2_with fail
      refine (RMove_x 2 0 _ 1 1 _).mono ?_
      rintro e v11 ⟨rfl, hb⟩
      have HR := Lib.hid ((pl1 v10 2 0).below hb)
      replace HT := Lib.hid ((HT.out.after (bel1 _ _)).after hb)
      clear hb
      go_wp2_with ((with_reducible refine wp_app_x 2 0 [⟨2, 0⟩] HT.out HR.out (by first | omega | (simp only [List.length_append, List.length_cons, List.length_nil]; omega) | (simp; done)) ?_ ?_ ?_); (kernel_rfl); (kernel_rfl))
      intro vv v12 hT
      replace HT := Lib.hid hT
      clear hT
      go_wp2
      go_ret
      refine ⟨⟨_, rfl, ?_⟩, HT.out.low⟩
      have := HT.out.t
      rw [hLR.out]
      simpa [aheadT, behindT, movedT, keptK, on, rg] using this
    · have HA4 : Hid (Rf 49 2 _ g4 #[.int .i64 1, .int .i64 A]) := Lib.hid HT.out.b.h0
      have HB5 : Hid (Rf 49 2 _ g5 #[.int .i64 1, .int .i64 B]) := Lib.hid HT.out.b.h1
      go_wp2_with ((with_reducible refine wp_load_R rowP HB5.out ?_ ?_); (rfl))
      refine (RDecide_x _ 1 1 _).mono ?_
      rintro e v6 ⟨rfl, hb⟩
      have HR := Lib.hid ((pl1 W5 1 B).below hb)
      replace HT := Lib.hid ((HT.out.after (bel1 _ _)).after hb)
      clear hb
      go_wp2_with ((with_reducible refine wp_app_x 0 0 [⟨1, B⟩] HT.out HR.out (by first | omega | (simp only [List.length_append, List.length_cons, List.length_nil]; omega) | (simp; done)) ?_ ?_ ?_); (kernel_rfl); (kernel_rfl))
      intro vv v7 hT
      replace HT := Lib.hid hT
      clear hT
      clear HA4 HB5
      obtain ⟨v8, HK⟩ : ∃ WK, Hid (WK = v7.alloc (.cells #[.int .i64 3, .int .i64 4, .int .i64 5, .int .i64 6, .int .i64 7, .int .i64 2] 3)) := ⟨_, rfl⟩
      replace HT := HT.out.box (ty := 3) (n := 6) (c := #[.int .i64 3, .int .i64 4, .int .i64 5, .int .i64 6, .int .i64 7, .int .i64 2]) ⟨rfl, by simp [Value.oneCell']⟩ (by decide) (by decide)
      rw [← HK.out] at HT
      replace HT := Lib.hid HT
      obtain ⟨gk, hgk⟩ : ∃ gk, Hid (gk = v7.heap.size) := ⟨_, rfl⟩
      rw [← hgk.out] at HT
      have HA4 : Hid (Rf 49 2 _ g4 #[.int .i64 1, .int .i64 A]) := Lib.hid HT.out.b.h1
      have HB5 : Hid (Rf 49 2 _ g5 #[.int .i64 1, .int .i64 B]) := Lib.hid HT.out.b.h2
      go_wp2_with (first | (rw [← HK.out]) | (rw [← hgk.out]))
      clear HA4 HB5
      refine (ROnly_any 2 _).mono ?_
      rintro e v9 ⟨rfl, hb⟩
      replace HT := Lib.hid (HT.out.after hb)
      clear hb
      go_wp2_with fail
      refine (ROnly_any 2 _).mono ?_
      rintro e v10 ⟨rfl, hb⟩
      replace HT := Lib.hid (HT.out.after hb)
      clear hb
      go_wp2_with fail
      refine (RMove_x 2 0 _ 1 1 _).mono ?_
      rintro e v11 ⟨rfl, hb⟩
      have HR := Lib.hid ((pl1 v10 2 0).below hb)
      replace HT := Lib.hid ((HT.out.after (bel1 _ _)).after hb)
      clear hb
      go_wp2_with ((with_reducible refine wp_app_x 2 0 [⟨2, 0⟩] HT.out HR.out (by first | omega | (simp only [List.length_append, List.length_cons, List.length_nil]; omega) | (simp; done)) ?_ ?_ ?_); (kernel_rfl); (kernel_rfl))
      intro vv v12 hT
      replace HT := Lib.hid hT
      clear hT
      go_wp2
      go_ret
      refine ⟨⟨_, rfl, ?_⟩, HT.out.low⟩
      have := HT.out.t
      rw [hLR.out]
      simpa [aheadT, behindT, movedT, keptK, on, rg] using this
    · have HA4 : Hid (Rf 49 2 _ g4 #[.int .i64 1, .int .i64 A]) := Lib.hid HT.out.b.h0
      have HB5 : Hid (Rf 49 2 _ g5 #[.int .i64 1, .int .i64 B]) := Lib.hid HT.out.b.h1
      go_wp2_with ((with_reducible refine wp_load_R rowP HB5.out ?_ ?_); (rfl))
      refine (RDecide_x _ 1 1 _).mono ?_
      rintro e v6 ⟨rfl, hb⟩
      have HR := Lib.hid ((pl1 W5 1 B).below hb)
      replace HT := Lib.hid ((HT.out.after (bel1 _ _)).after hb)
      clear hb
      go_wp2_with ((with_reducible refine wp_app_x 0 0 [⟨1, B⟩] HT.out HR.out (by first | omega | (simp only [List.length_append, List.length_cons, List.length_nil]; omega) | (simp; done)) ?_ ?_ ?_); (kernel_rfl); (kernel_rfl))
      intro vv v7 hT
      replace HT := Lib.hid hT
      clear hT
      clear HA4 HB5
      obtain ⟨v8, HK⟩ : ∃ WK, Hid (WK = v7.alloc (.cells #[.int .i64 3, .int .i64 4, .int .i64 5, .int .i64 6, .int .i64 7, .int .i64 2] 3)) := ⟨_, rfl⟩
      replace HT := HT.out.box (ty := 3) (n := 6) (c := #[.int .i64 3, .int .i64 4, .int .i64 5, .int .i64 6, .int .i64 7, .int .i64 2]) ⟨rfl, by simp [Value.oneCell']⟩ (by decide) (by decide)
      rw [← HK.out] at HT
      replace HT := Lib.hid HT
      obtain ⟨gk, hgk⟩ : ∃ gk, Hid (gk = v7.heap.size) := ⟨_, rfl⟩
      rw [← hgk.out] at HT
      have HA4 : Hid (Rf 49 2 _ g4 #[.int .i64 1, .int .i64 A]) := Lib.hid HT.out.b.h1
      have HB5 : Hid (Rf 49 2 _ g5 #[.int .i64 1, .int .i64 B]) := Lib.hid HT.out.b.h2
      go_wp2_with (first | (rw [← HK.out]) | (rw [← hgk.out]))
      clear HA4 HB5
      refine (ROnly_any 2 _).mono ?_
      rintro e v9 ⟨rfl, hb⟩
      replace HT := Lib.hid (HT.out.after hb)
      clear hb
      go_wp2_with fail
      refine (ROnly_any 2 _).mono ?_
      rintro e v10 ⟨rfl, hb⟩
      replace HT := Lib.hid (HT.out.after hb)
      clear hb
      go_wp2_with fail
      refine (RMove_x 2 0 _ 1 1 _).mono ?_
      rintro e v11 ⟨rfl, hb⟩
      have HR := Lib.hid ((pl1 v10 2 0).below hb)
      replace HT := Lib.hid ((HT.out.after (bel1 _ _)).after hb)
      clear hb
      go_wp2_with ((with_reducible refine wp_app_x 2 0 [⟨2, 0⟩] HT.out HR.out (by first | omega | (simp only [List.length_append, List.length_cons, List.length_nil]; omega) | (simp; done)) ?_ ?_ ?_); (kernel_rfl); (kernel_rfl))
      intro vv v12 hT
      replace HT := Lib.hid hT
      clear hT
      go_wp2
      go_ret
      refine ⟨⟨_, rfl, ?_⟩, HT.out.low⟩
      have := HT.out.t
      rw [hLR.out]
      simpa [aheadT, behindT, movedT, keptK, on, rg] using this
    · have HA4 : Hid (Rf 49 2 _ g4 #[.int .i64 1, .int .i64 A]) := Lib.hid HT.out.b.h0
      have HB5 : Hid (Rf 49 2 _ g5 #[.int .i64 1, .int .i64 B]) := Lib.hid HT.out.b.h1
      go_wp2_with (first | ((with_reducible refine wp_load_R rowP HA4.out ?_ ?_); (rfl)) | ((with_reducible refine wp_load_R rowP HB5.out ?_ ?_); (rfl)))
      refine (RDecide_x _ 2 2 _).mono ?_
      rintro e v6 ⟨rfl, hb⟩
      have HR := Lib.hid ((pl2 W5 1 A 1 B).below hb)
      replace HT := Lib.hid ((HT.out.after (bel1 _ _)).after hb)
      clear hb
      go_wp2_with ((with_reducible refine wp_app_x 0 0 [⟨1, A⟩, ⟨1, B⟩] HT.out HR.out (by first | omega | (simp only [List.length_append, List.length_cons, List.length_nil]; omega) | (simp; done)) ?_ ?_ ?_); (kernel_rfl); (kernel_rfl))
      intro vv v7 hT
      replace HT := Lib.hid hT
      clear hT
      clear HA4 HB5
      obtain ⟨v8, HK⟩ : ∃ WK, Hid (WK = v7.alloc (.cells #[.int .i64 3, .int .i64 4, .int .i64 5, .int .i64 6, .int .i64 7, .int .i64 2] 3)) := ⟨_, rfl⟩
      replace HT := HT.out.box (ty := 3) (n := 6) (c := #[.int .i64 3, .int .i64 4, .int .i64 5, .int .i64 6, .int .i64 7, .int .i64 2]) ⟨rfl, by simp [Value.oneCell']⟩ (by decide) (by decide)
      rw [← HK.out] at HT
      replace HT := Lib.hid HT
      obtain ⟨gk, hgk⟩ : ∃ gk, Hid (gk = v7.heap.size) := ⟨_, rfl⟩
      rw [← hgk.out] at HT
      have HA4 : Hid (Rf 49 2 _ g4 #[.int .i64 1, .int .i64 A]) := Lib.hid HT.out.b.h1
      have HB5 : Hid (Rf 49 2 _ g5 #[.int .i64 1, .int .i64 B]) := Lib.hid HT.out.b.h2
      go_wp2_with (first | (rw [← HK.out]) | (rw [← hgk.out]))
      clear HA4 HB5
      refine (ROnly_any 2 _).mono ?_
      rintro e v9 ⟨rfl, hb⟩
      replace HT := Lib.hid (HT.out.after hb)
      clear hb
      go_wp2_with fail
      refine (ROnly_any 2 _).mono ?_
      rintro e v10 ⟨rfl, hb⟩
      replace HT := Lib.hid (HT.out.after hb)
      clear hb
      go_wp2_with fail
      refine (RMove_x 2 0 _ 1 1 _).mono ?_
      rintro e v11 ⟨rfl, hb⟩
      have HR := Lib.hid ((pl1 v10 2 0).below hb)
      replace HT := Lib.hid ((HT.out.after (bel1 _ _)).after hb)
      clear hb
      go_wp2_with ((with_reducible refine wp_app_x 2 0 [⟨2, 0⟩] HT.out HR.out (by first | omega | (simp only [List.length_append, List.length_cons, List.length_nil]; omega) | (simp; done)) ?_ ?_ ?_); (kernel_rfl); (kernel_rfl))
      intro vv v12 hT
      replace HT := Lib.hid hT
      clear hT
      go_wp2
      go_ret
      refine ⟨⟨_, rfl, ?_⟩, HT.out.low⟩
      have := HT.out.t
      rw [hLR.out]
      simpa [aheadT, behindT, movedT, keptK, on, rg] using this
    · have HA4 : Hid (Rf 49 2 _ g4 #[.int .i64 1, .int .i64 A]) := Lib.hid HT.out.b.h0
      have HB5 : Hid (Rf 49 2 _ g5 #[.int .i64 1, .int .i64 B]) := Lib.hid HT.out.b.h1
      go_wp2_with (first | ((with_reducible refine wp_load_R rowP HA4.out ?_ ?_); (rfl)) | ((with_reducible refine wp_load_R rowP HB5.out ?_ ?_); (rfl)))
      refine (RDecide_x _ 2 2 _).mono ?_
      rintro e v6 ⟨rfl, hb⟩
      have HR := Lib.hid ((pl2 W5 1 A 1 B).below hb)
      replace HT := Lib.hid ((HT.out.after (bel1 _ _)).after hb)
      clear hb
      go_wp2_with ((with_reducible refine wp_app_x 0 0 [⟨1, A⟩, ⟨1, B⟩] HT.out HR.out (by first | omega | (simp only [List.length_append, List.length_cons, List.length_nil]; omega) | (simp; done)) ?_ ?_ ?_); (kernel_rfl); (kernel_rfl))
      intro vv v7 hT
      replace HT := Lib.hid hT
      clear hT
      clear HA4 HB5
      obtain ⟨v8, HK⟩ : ∃ WK, Hid (WK = v7.alloc (.cells #[.int .i64 3, .int .i64 4, .int .i64 5, .int .i64 6, .int .i64 7, .int .i64 2] 3)) := ⟨_, rfl⟩
      replace HT := HT.out.box (ty := 3) (n := 6) (c := #[.int .i64 3, .int .i64 4, .int .i64 5, .int .i64 6, .int .i64 7, .int .i64 2]) ⟨rfl, by simp [Value.oneCell']⟩ (by decide) (by decide)
      rw [← HK.out] at HT
      replace HT := Lib.hid HT
      obtain ⟨gk, hgk⟩ : ∃ gk, Hid (gk = v7.heap.size) := ⟨_, rfl⟩
      rw [← hgk.out] at HT
      have HA4 : Hid (Rf 49 2 _ g4 #[.int .i64 1, .int .i64 A]) := Lib.hid HT.out.b.h1
      have HB5 : Hid (Rf 49 2 _ g5 #[.int .i64 1, .int .i64 B]) := Lib.hid HT.out.b.h2
      go_wp2_with (first | (rw [← HK.out]) | (rw [← hgk.out]))
      clear HA4 HB5
      refine (ROnly_any 2 _).mono ?_
      rintro e v9 ⟨rfl, hb⟩
      replace HT := Lib.hid (HT.out.after hb)
      clear hb
      go_wp2_with fail
      refine (ROnly_any 2 _).mono ?_
      rintro e v10 ⟨rfl, hb⟩
      replace HT := Lib.hid (HT.out.after hb)
      clear hb
      go_wp2_with fail
      refine (RMove_x 2 0 _ 1 1 _).mono ?_
      rintro e v11 ⟨rfl, hb⟩
      have HR := Lib.hid ((pl1 v10 2 0).below hb)
      replace HT := Lib.hid ((HT.out.after (bel1 _ _)).after hb)
      clear hb
      go_wp2_with ((with_reducible refine wp_app_x 2 0 [⟨2, 0⟩] HT.out HR.out (by first | omega | (simp only [List.length_append, List.length_cons, List.length_nil]; omega) | (simp; done)) ?_ ?_ ?_); (kernel_rfl); (kernel_rfl))
      intro vv v12 hT
      replace HT := Lib.hid hT
      clear hT
      go_wp2
      go_ret
      refine ⟨⟨_, rfl, ?_⟩, HT.out.low⟩
      have := HT.out.t
      rw [hLR.out]
      simpa [aheadT, behindT, movedT, keptK, on, rg] using this
    · have HA4 : Hid (Rf 49 2 _ g4 #[.int .i64 1, .int .i64 A]) := Lib.hid HT.out.b.h0
      have HB5 : Hid (Rf 49 2 _ g5 #[.int .i64 1, .int .i64 B]) := Lib.hid HT.out.b.h1
      go_wp2_with (first | ((with_reducible refine wp_load_R rowP HA4.out ?_ ?_); (rfl)) | ((with_reducible refine wp_load_R rowP HB5.out ?_ ?_); (rfl)))
      refine (RDecide_x _ 2 2 _).mono ?_
      rintro e v6 ⟨rfl, hb⟩
      have HR := Lib.hid ((pl2 W5 1 A 1 B).below hb)
      replace HT := Lib.hid ((HT.out.after (bel1 _ _)).after hb)
      clear hb
      go_wp2_with ((with_reducible refine wp_app_x 0 0 [⟨1, A⟩, ⟨1, B⟩] HT.out HR.out (by first | omega | (simp only [List.length_append, List.length_cons, List.length_nil]; omega) | (simp; done)) ?_ ?_ ?_); (kernel_rfl); (kernel_rfl))
      intro vv v7 hT
      replace HT := Lib.hid hT
      clear hT
      clear HA4 HB5
      obtain ⟨v8, HK⟩ : ∃ WK, Hid (WK = v7.alloc (.cells #[.int .i64 3, .int .i64 4, .int .i64 5, .int .i64 6, .int .i64 7, .int .i64 2] 3)) := ⟨_, rfl⟩
      replace HT := HT.out.box (ty := 3) (n := 6) (c := #[.int .i64 3, .int .i64 4, .int .i64 5, .int .i64 6, .int .i64 7, .int .i64 2]) ⟨rfl, by simp [Value.oneCell']⟩ (by decide) (by decide)
      rw [← HK.out] at HT
      replace HT := Lib.hid HT
      obtain ⟨gk, hgk⟩ : ∃ gk, Hid (gk = v7.heap.size) := ⟨_, rfl⟩
      rw [← hgk.out] at HT
      have HA4 : Hid (Rf 49 2 _ g4 #[.int .i64 1, .int .i64 A]) := Lib.hid HT.out.b.h1
      have HB5 : Hid (Rf 49 2 _ g5 #[.int .i64 1, .int .i64 B]) := Lib.hid HT.out.b.h2
      go_wp2_with (first | (rw [← HK.out]) | (rw [← hgk.out]))
      clear HA4 HB5
      refine (ROnly_any 2 _).mono ?_
      rintro e v9 ⟨rfl, hb⟩
      replace HT := Lib.hid (HT.out.after hb)
      clear hb
      go_wp2_with fail
      refine (ROnly_any 2 _).mono ?_
      rintro e v10 ⟨rfl, hb⟩
      replace HT := Lib.hid (HT.out.after hb)
      clear hb
      go_wp2_with fail
      refine (RMove_x 2 0 _ 1 1 _).mono ?_
      rintro e v11 ⟨rfl, hb⟩
      have HR := Lib.hid ((pl1 v10 2 0).below hb)
      replace HT := Lib.hid ((HT.out.after (bel1 _ _)).after hb)
      clear hb
      go_wp2_with ((with_reducible refine wp_app_x 2 0 [⟨2, 0⟩] HT.out HR.out (by first | omega | (simp only [List.length_append, List.length_cons, List.length_nil]; omega) | (simp; done)) ?_ ?_ ?_); (kernel_rfl); (kernel_rfl))
      intro vv v12 hT
      replace HT := Lib.hid hT
      clear hT
      go_wp2
      go_ret
      refine ⟨⟨_, rfl, ?_⟩, HT.out.low⟩
      have := HT.out.t
      rw [hLR.out]
      simpa [aheadT, behindT, movedT, keptK, on, rg] using this
    · have HA4 : Hid (Rf 49 2 _ g4 #[.int .i64 1, .int .i64 A]) := Lib.hid HT.out.b.h0
      have HB5 : Hid (Rf 49 2 _ g5 #[.int .i64 1, .int .i64 B]) := Lib.hid HT.out.b.h1
      clear HA4 HB5
      obtain ⟨v6, HK⟩ : ∃ WK, Hid (WK = W5.alloc (.cells #[.int .i64 3, .int .i64 4, .int .i64 5, .int .i64 6, .int .i64 7, .int .i64 2] 3)) := ⟨_, rfl⟩
      replace HT := HT.out.box (ty := 3) (n := 6) (c := #[.int .i64 3, .int .i64 4, .int .i64 5, .int .i64 6, .int .i64 7, .int .i64 2]) ⟨rfl, by simp [Value.oneCell']⟩ (by decide) (by decide)
      rw [← HK.out] at HT
      replace HT := Lib.hid HT
      obtain ⟨gk, hgk⟩ : ∃ gk, Hid (gk = W5.heap.size) := ⟨_, rfl⟩
      rw [← hgk.out] at HT
      have HA4 : Hid (Rf 49 2 _ g4 #[.int .i64 1, .int .i64 A]) := Lib.hid HT.out.b.h1
      have HB5 : Hid (Rf 49 2 _ g5 #[.int .i64 1, .int .i64 B]) := Lib.hid HT.out.b.h2
      go_wp2_with (first | (rw [← HK.out]) | (rw [← hgk.out]))
      clear HA4 HB5
      refine (ROnly_any 2 _).mono ?_
      rintro e v7 ⟨rfl, hb⟩
      replace HT := Lib.hid (HT.out.after hb)
      clear hb
      go_wp2_with fail
      refine (ROnly_any 2 _).mono ?_
      rintro e v8 ⟨rfl, hb⟩
      replace HT := Lib.hid (HT.out.after hb)
      clear hb
      go_wp2_with fail
      refine (RMove_x 2 0 _ 1 1 _).mono ?_
      rintro e v9 ⟨rfl, hb⟩
      have HR := Lib.hid ((pl1 v8 2 0).below hb)
      replace HT := Lib.hid ((HT.out.after (bel1 _ _)).after hb)
      clear hb
      go_wp2_with ((with_reducible refine wp_app_x 2 0 [⟨2, 0⟩] HT.out HR.out (by first | omega | (simp only [List.length_append, List.length_cons, List.length_nil]; omega) | (simp; done)) ?_ ?_ ?_); (kernel_rfl); (kernel_rfl))
      intro vv v10 hT
      replace HT := Lib.hid hT
      clear hT
      go_wp2
      go_ret
      refine ⟨⟨_, rfl, ?_⟩, HT.out.low⟩
      have := HT.out.t
      rw [hLR.out]
      simpa [aheadT, behindT, movedT, keptK, on, rg] using this
    · by_cases hm1 : m = 1
      · subst hm1
        have HA4 : Hid (Rf 49 2 _ g4 #[.int .i64 1, .int .i64 A]) := Lib.hid HT.out.b.h0
        have HB5 : Hid (Rf 49 2 _ g5 #[.int .i64 1, .int .i64 B]) := Lib.hid HT.out.b.h1
        clear HA4 HB5
        obtain ⟨v6, HK⟩ : ∃ WK, Hid (WK = W5.alloc (.cells #[.int .i64 3, .int .i64 4, .int .i64 5, .int .i64 6, .int .i64 7, .int .i64 2] 3)) := ⟨_, rfl⟩
        replace HT := HT.out.box (ty := 3) (n := 6) (c := #[.int .i64 3, .int .i64 4, .int .i64 5, .int .i64 6, .int .i64 7, .int .i64 2]) ⟨rfl, by simp [Value.oneCell']⟩ (by decide) (by decide)
        rw [← HK.out] at HT
        replace HT := Lib.hid HT
        obtain ⟨gk, hgk⟩ : ∃ gk, Hid (gk = W5.heap.size) := ⟨_, rfl⟩
        rw [← hgk.out] at HT
        have HA4 : Hid (Rf 49 2 _ g4 #[.int .i64 1, .int .i64 A]) := Lib.hid HT.out.b.h1
        have HB5 : Hid (Rf 49 2 _ g5 #[.int .i64 1, .int .i64 B]) := Lib.hid HT.out.b.h2
        go_wp2_with (first | (rw [← HK.out]) | (rw [← hgk.out]))
        clear HA4 HB5
        refine (ROnly_any 2 _).mono ?_
        rintro e v7 ⟨rfl, hb⟩
        replace HT := Lib.hid (HT.out.after hb)
        clear hb
        go_wp2_with fail
        refine (ROnly_any 2 _).mono ?_
        rintro e v8 ⟨rfl, hb⟩
        replace HT := Lib.hid (HT.out.after hb)
        clear hb
        go_wp2_with fail
        refine (RMove_x 2 0 _ 1 1 _).mono ?_
        rintro e v9 ⟨rfl, hb⟩
        have HR := Lib.hid ((pl1 v8 2 0).below hb)
        replace HT := Lib.hid ((HT.out.after (bel1 _ _)).after hb)
        clear hb
        go_wp2_with ((with_reducible refine wp_app_x 2 0 [⟨2, 0⟩] HT.out HR.out (by first | omega | (simp only [List.length_append, List.length_cons, List.length_nil]; omega) | (simp; done)) ?_ ?_ ?_); (kernel_rfl); (kernel_rfl))
        intro vv v10 hT
        replace HT := Lib.hid hT
        clear hT
        go_wp2
        go_ret
        refine ⟨⟨_, rfl, ?_⟩, HT.out.low⟩
        have := HT.out.t
        rw [hLR.out]
        simpa [aheadT, behindT, movedT, keptK, on, rg] using this
      · have hm1 := Lib.hid hm1
        have hmm := hm1.out
        have HA4 : Hid (Rf 49 2 _ g4 #[.int .i64 1, .int .i64 A]) := Lib.hid HT.out.b.h0
        have HB5 : Hid (Rf 49 2 _ g5 #[.int .i64 1, .int .i64 B]) := Lib.hid HT.out.b.h1
        go_wp2_with ((with_reducible refine wp_load_R rowP HA4.out ?_ ?_); (rfl))
        refine (RDecide_x _ 1 1 _).mono ?_
        rintro e v6 ⟨rfl, hb⟩
        have HR := Lib.hid ((pl1 W5 1 A).below hb)
        replace HT := Lib.hid ((HT.out.after (bel1 _ _)).after hb)
        clear hb
        go_wp2_with ((with_reducible refine wp_app_x 0 0 [⟨1, A⟩] HT.out HR.out (by first | omega | (simp only [List.length_append, List.length_cons, List.length_nil]; omega) | (simp; done)) ?_ ?_ ?_); (kernel_rfl); (kernel_rfl))
        intro vv v7 hT
        replace HT := Lib.hid hT
        clear hT
        clear HA4 HB5
        obtain ⟨v8, HK⟩ : ∃ WK, Hid (WK = v7.alloc (.cells #[.int .i64 3, .int .i64 4, .int .i64 5, .int .i64 6, .int .i64 7, .int .i64 2] 3)) := ⟨_, rfl⟩
        replace HT := HT.out.box (ty := 3) (n := 6) (c := #[.int .i64 3, .int .i64 4, .int .i64 5, .int .i64 6, .int .i64 7, .int .i64 2]) ⟨rfl, by simp [Value.oneCell']⟩ (by decide) (by decide)
        rw [← HK.out] at HT
        replace HT := Lib.hid HT
        obtain ⟨gk, hgk⟩ : ∃ gk, Hid (gk = v7.heap.size) := ⟨_, rfl⟩
        rw [← hgk.out] at HT
        have HA4 : Hid (Rf 49 2 _ g4 #[.int .i64 1, .int .i64 A]) := Lib.hid HT.out.b.h1
        have HB5 : Hid (Rf 49 2 _ g5 #[.int .i64 1, .int .i64 B]) := Lib.hid HT.out.b.h2
        go_wp2_with (first | (rw [← HK.out]) | (rw [← hgk.out]))
        clear HA4 HB5
        refine (ROnly_any 2 _).mono ?_
        rintro e v9 ⟨rfl, hb⟩
        replace HT := Lib.hid (HT.out.after hb)
        clear hb
        go_wp2_with fail
        refine (ROnly_any 2 _).mono ?_
        rintro e v10 ⟨rfl, hb⟩
        replace HT := Lib.hid (HT.out.after hb)
        clear hb
        go_wp2_with fail
        refine (RMove_x 2 0 _ 1 1 _).mono ?_
        rintro e v11 ⟨rfl, hb⟩
        have HR := Lib.hid ((pl1 v10 2 0).below hb)
        replace HT := Lib.hid ((HT.out.after (bel1 _ _)).after hb)
        clear hb
        go_wp2_with ((with_reducible refine wp_app_x 2 0 [⟨2, 0⟩] HT.out HR.out (by first | omega | (simp only [List.length_append, List.length_cons, List.length_nil]; omega) | (simp; done)) ?_ ?_ ?_); (kernel_rfl); (kernel_rfl))
        intro vv v12 hT
        replace HT := Lib.hid hT
        clear hT
        go_wp2
        go_ret
        refine ⟨⟨_, rfl, ?_⟩, HT.out.low⟩
        have := HT.out.t
        rw [hLR.out]
        simpa [aheadT, behindT, movedT, keptK, on, rg, hm1.out] using this
    · have HA4 : Hid (Rf 49 2 _ g4 #[.int .i64 1, .int .i64 A]) := Lib.hid HT.out.b.h0
      have HB5 : Hid (Rf 49 2 _ g5 #[.int .i64 1, .int .i64 B]) := Lib.hid HT.out.b.h1
      clear HA4 HB5
      obtain ⟨v6, HK⟩ : ∃ WK, Hid (WK = W5.alloc (.cells #[.int .i64 3, .int .i64 4, .int .i64 5, .int .i64 6, .int .i64 7, .int .i64 2] 3)) := ⟨_, rfl⟩
      replace HT := HT.out.box (ty := 3) (n := 6) (c := #[.int .i64 3, .int .i64 4, .int .i64 5, .int .i64 6, .int .i64 7, .int .i64 2]) ⟨rfl, by simp [Value.oneCell']⟩ (by decide) (by decide)
      rw [← HK.out] at HT
      replace HT := Lib.hid HT
      obtain ⟨gk, hgk⟩ : ∃ gk, Hid (gk = W5.heap.size) := ⟨_, rfl⟩
      rw [← hgk.out] at HT
      have HA4 : Hid (Rf 49 2 _ g4 #[.int .i64 1, .int .i64 A]) := Lib.hid HT.out.b.h1
      have HB5 : Hid (Rf 49 2 _ g5 #[.int .i64 1, .int .i64 B]) := Lib.hid HT.out.b.h2
      go_wp2_with (first | (rw [← HK.out]) | (rw [← hgk.out]))
      clear HA4 HB5
      refine (ROnly_any 2 _).mono ?_
      rintro e v7 ⟨rfl, hb⟩
      replace HT := Lib.hid (HT.out.after hb)
      clear hb
      go_wp2_with fail
      refine (ROnly_any 2 _).mono ?_
      rintro e v8 ⟨rfl, hb⟩
      replace HT := Lib.hid (HT.out.after hb)
      clear hb
      go_wp2_with fail
      refine (RMove_x 2 0 _ 1 1 _).mono ?_
      rintro e v9 ⟨rfl, hb⟩
      have HR := Lib.hid ((pl1 v8 2 0).below hb)
      replace HT := Lib.hid ((HT.out.after (bel1 _ _)).after hb)
      clear hb
      go_wp2_with ((with_reducible refine wp_app_x 2 0 [⟨2, 0⟩] HT.out HR.out (by first | omega | (simp only [List.length_append, List.length_cons, List.length_nil]; omega) | (simp; done)) ?_ ?_ ?_); (kernel_rfl); (kernel_rfl))
      intro vv v10 hT
      replace HT := Lib.hid hT
      clear hT
      go_wp2
      go_ret
      refine ⟨⟨_, rfl, ?_⟩, HT.out.low⟩
      have := HT.out.t
      rw [hLR.out]
      simpa [aheadT, behindT, movedT, keptK, on, rg] using this
    · have HA4 : Hid (Rf 49 2 _ g4 #[.int .i64 1, .int .i64 A]) := Lib.hid HT.out.b.h0
      have HB5 : Hid (Rf 49 2 _ g5 #[.int .i64 1, .int .i64 B]) := Lib.hid HT.out.b.h1
      go_wp2_with fail
      refine (ROnly_any 7 _).mono ?_
      rintro e v6 ⟨rfl, hb⟩
      replace HT := Lib.hid (HT.out.after hb)
      clear hb
      go_wp2_with fail
      refine (RDecide_x _ 1 1 _).mono ?_
      rintro e v7 ⟨rfl, hb⟩
      have HR := Lib.hid ((pl1 v6 7 0).below hb)
      replace HT := Lib.hid ((HT.out.after (bel1 _ _)).after hb)
      clear hb
      go_wp2_with ((with_reducible refine wp_app_x 0 0 [⟨7, 0⟩] HT.out HR.out (by first | omega | (simp only [List.length_append, List.length_cons, List.length_nil]; omega) | (simp; done)) ?_ ?_ ?_); (kernel_rfl); (kernel_rfl))
      intro vv v8 hT
      replace HT := Lib.hid hT
      clear hT
      clear HA4 HB5
      obtain ⟨v9, HK⟩ : ∃ WK, Hid (WK = v8.alloc (.cells #[.int .i64 3, .int .i64 4, .int .i64 5, .int .i64 6, .int .i64 7, .int .i64 2] 3)) := ⟨_, rfl⟩
      replace HT := HT.out.box (ty := 3) (n := 6) (c := #[.int .i64 3, .int .i64 4, .int .i64 5, .int .i64 6, .int .i64 7, .int .i64 2]) ⟨rfl, by simp [Value.oneCell']⟩ (by decide) (by decide)
      rw [← HK.out] at HT
      replace HT := Lib.hid HT
      obtain ⟨gk, hgk⟩ : ∃ gk, Hid (gk = v8.heap.size) := ⟨_, rfl⟩
      rw [← hgk.out] at HT
      have HA4 : Hid (Rf 49 2 _ g4 #[.int .i64 1, .int .i64 A]) := Lib.hid HT.out.b.h1
      have HB5 : Hid (Rf 49 2 _ g5 #[.int .i64 1, .int .i64 B]) := Lib.hid HT.out.b.h2
      go_wp2_with (first | (rw [← HK.out]) | (rw [← hgk.out]))
      clear HA4 HB5
      refine (ROnly_any 2 _).mono ?_
      rintro e v10 ⟨rfl, hb⟩
      replace HT := Lib.hid (HT.out.after hb)
      clear hb
      go_wp2_with fail
      refine (ROnly_any 3 _).mono ?_
      rintro e v11 ⟨rfl, hb⟩
      replace HT := Lib.hid (HT.out.after hb)
      clear hb
      go_wp2_with fail
      refine (RMove_x 2 0 _ 1 1 _).mono ?_
      rintro e v12 ⟨rfl, hb⟩
      have HR := Lib.hid ((pl1 v11 3 0).below hb)
      replace HT := Lib.hid ((HT.out.after (bel1 _ _)).after hb)
      clear hb
      have HR1 := HR
      go_wp2_with fail
      refine (ROnly_any 7 _).mono ?_
      rintro e v13 ⟨rfl, hb⟩
      replace HR1 := Lib.hid (HR1.out.below hb)
      replace HT := Lib.hid (HT.out.after hb)
      clear hb
      go_wp2_with fail
      refine (ROnly_any 7 _).mono ?_
      rintro e v14 ⟨rfl, hb⟩
      replace HR1 := Lib.hid (HR1.out.below hb)
      replace HT := Lib.hid (HT.out.after hb)
      clear hb
      go_wp2_with fail
      refine (RMove_x 7 0 _ 1 1 _).mono ?_
      rintro e v15 ⟨rfl, hb⟩
      replace HR1 := Lib.hid (HR1.out.below ((bel1 _ (.cells #[.int .i64 7, .int .i64 0] 49)).trans (hb.mono (bel1 _ _).size)))
      have HR := Lib.hid ((pl1 v14 7 0).below hb)
      replace HT := Lib.hid ((HT.out.after (bel1 _ _)).after hb)
      clear hb
      have HX := Lib.hid (two_src (W := v15) (k := 2) (n := 0) (k' := 7) (n' := 0) HR1.out HR.out)
      replace HT := Lib.hid (HT.out.after (bel1 v15 (.cells #[.int .i64 2, .int .i64 0, .slice (some ⟨v11.heap.size, 0, none⟩) 1 1, .int .i64 7, .int .i64 0, .slice (some ⟨v14.heap.size, 0, none⟩) 1 1] 70)))
      go_wp2_with ((with_reducible refine wp_apps HT.out HX.out (by simp) ?_ ?_ ?_); (kernel_rfl); (kernel_rfl))
      intro vv v16 hT
      replace HT := Lib.hid hT
      clear hT
      go_wp2
      go_ret
      refine ⟨⟨_, rfl, ?_⟩, HT.out.low⟩
      have := HT.out.t
      rw [hLR.out]
      simpa [aheadT, behindT, movedT, keptK, on, rg] using this
    · have HA4 : Hid (Rf 49 2 _ g4 #[.int .i64 1, .int .i64 A]) := Lib.hid HT.out.b.h0
      have HB5 : Hid (Rf 49 2 _ g5 #[.int .i64 1, .int .i64 B]) := Lib.hid HT.out.b.h1
      clear HA4 HB5
      obtain ⟨v6, HK⟩ : ∃ WK, Hid (WK = W5.alloc (.cells #[.int .i64 3, .int .i64 4, .int .i64 5, .int .i64 6, .int .i64 7, .int .i64 2] 3)) := ⟨_, rfl⟩
      replace HT := HT.out.box (ty := 3) (n := 6) (c := #[.int .i64 3, .int .i64 4, .int .i64 5, .int .i64 6, .int .i64 7, .int .i64 2]) ⟨rfl, by simp [Value.oneCell']⟩ (by decide) (by decide)
      rw [← HK.out] at HT
      replace HT := Lib.hid HT
      obtain ⟨gk, hgk⟩ : ∃ gk, Hid (gk = W5.heap.size) := ⟨_, rfl⟩
      rw [← hgk.out] at HT
      have HA4 : Hid (Rf 49 2 _ g4 #[.int .i64 1, .int .i64 A]) := Lib.hid HT.out.b.h1
      have HB5 : Hid (Rf 49 2 _ g5 #[.int .i64 1, .int .i64 B]) := Lib.hid HT.out.b.h2
      go_wp2_with (first | (rw [← HK.out]) | (rw [← hgk.out]))
      clear HA4 HB5
      refine (ROnly_any 2 _).mono ?_
      rintro e v7 ⟨rfl, hb⟩
      replace HT := Lib.hid (HT.out.after hb)
      clear hb
      go_wp2_with fail
      refine (ROnly_any 2 _).mono ?_
      rintro e v8 ⟨rfl, hb⟩
      replace HT := Lib.hid (HT.out.after hb)
      clear hb
      go_wp2_with fail
      refine (RMove_x 2 0 _ 1 1 _).mono ?_
      rintro e v9 ⟨rfl, hb⟩
      have HR := Lib.hid ((pl1 v8 2 0).below hb)
      replace HT := Lib.hid ((HT.out.after (bel1 _ _)).after hb)
      clear hb
      go_wp2_with ((with_reducible refine wp_app_x 2 0 [⟨2, 0⟩] HT.out HR.out (by first | omega | (simp only [List.length_append, List.length_cons, List.length_nil]; omega) | (simp; done)) ?_ ?_ ?_); (kernel_rfl); (kernel_rfl))
      intro vv v10 hT
      replace HT := Lib.hid hT
      clear hT
      go_wp2
      go_ret
      refine ⟨⟨_, rfl, ?_⟩, HT.out.low⟩
      have := HT.out.t
      rw [hLR.out]
      simpa [aheadT, behindT, movedT, keptK, on, rg] using this
end Go.Proofs.YthjdfneibogcgaaDoor
