/-
  Layer 10: behind of touches: walks. Written by gen_tq.py.
-/
import Derived.Test.YthjdfneibogcgaaDoorMoved
import Derived.Test.YthjdfneibogcgaaDoorSett
namespace Go.Proofs.YthjdfneibogcgaaDoor
open Go.RowKit
set_option maxHeartbeats 16000000
set_option linter.unusedVariables false
set_option linter.unusedSimpArgs false

/-- Behind the first region of behind. -/
structure Bh (w : World) (s : Sta) (i : Ins) (A B : Nat) (g4 g5 : Nat) (W : World) : Prop where
  p : Pb w [(w.heap.size, 58, 20, xc s i)] W
  r4 : Rf 49 2 W g4 (pla (rg A))
  r5 : Rf 49 2 W g5 (pla (rg B))
  n4 : w.heap.size < g4
  n5 : w.heap.size < g5
  d : g4 ≠ g5
theorem cut_at {P : Program} {c : Code} {a : Act} {w : World} {Q : Exit → Act → World → Prop} (F : Nat → Nat → Act) (C : Nat → Nat → World → Prop) (h1 : (∀ g4 g5 W', C g4 g5 W' → Q .normal (F g4 g5) W') → Code.wp P c Q a w) (h2 : ∀ g4 g5 W', C g4 g5 W' → Q .normal (F g4 g5) W') : Code.wp P c Q a w := h1 h2
theorem Pb.setO {w W : World} {g : Nat} {ty : TypeId} {n : Nat} {c0 c : Array Value} (h : Pb w [(w.heap.size, ty, n, c0)] W) (hg : w.heap.size < g) : Pb w [(w.heap.size, ty, n, c0)] (W.setRow g c) :=
  ⟨below_setRow h.k (Nat.le_of_lt hg) c, h.b.setOther (by simp; omega)⟩
theorem Bh.tq {w W : World} {s : Sta} {i : Ins} {A B g4 g5 N T : Nat} {l : List Tch} (h : Bh w s i A B g4 g5 W) (hA : At N w T l) : Tq N w T l [(g4, 49, 2, pla (rg A)), (g5, 49, 2, pla (rg B)), (w.heap.size, 58, 20, xc s i)] W :=
  have h2 := h.p.tq hA
  ⟨h2.a, h2.k, ⟨⟨h.r4, by decide, by decide⟩, ⟨⟨h.r5, by decide, by decide⟩, h2.b⟩⟩⟩
set_option maxRecDepth 20000 in
theorem behind_other {N : Nat} {w : World} {T : Nat} {l : List Tch} (h : At N w T l) (hl : l.length ≤ 3) (s : Sta) (op : Int) (h2 : op ≠ 2) (h3 : op ≠ 3) (h4 : op ≠ 4) (h5 : op ≠ 5) (h6 : op ≠ 6) (h7 : op ≠ 7) (h8 : op ≠ 8) (h9 : op ≠ 9) (h10 : op ≠ 10) (h11 : op ≠ 11) (h12 : op ≠ 12) (h20 : op ≠ 20) (h21 : op ≠ 21) (h26 : op ≠ 26) (h27 : op ≠ 27) (A B : Nat) (m : Int) (hA : A < 8) (hB : B < 8) (hN : Nam w) (hg : 0 < N) :
    Calls Tryd.prog 30 #[.pointer (some ⟨T, 0, none⟩), .agg (xc s ⟨op, A, B, m⟩)] w fun e w' => e = .returned (.tuple #[]) ∧ At N w' T (l ++ ([] : List Tch)) ∧ Kp N w w' := by
  have HAt := Lib.hid h
  have hK0 := (Pb.new w (x_ok s ⟨op, A, B, m⟩) (ty := 58) (by decide) (by decide)).drew
  clear h
  go_enter Tryd.func30, Tryd.ntmps30
  go_wp2
  refine cut_at (fun g4 g5 => ⟨#[Value.pointer (some ⟨T, 0, none⟩), Value.agg (xc s ⟨op, A, B, m⟩), undef, Value.pointer (some ⟨w.heap.size, 0, none⟩), Value.pointer (some ⟨g4, 0, none⟩), Value.pointer (some ⟨g5, 0, none⟩), Value.pointer (some ⟨w.heap.size, 16, none⟩), Value.pointer (some ⟨w.heap.size, 17, none⟩), Value.int .i64 A, Value.agg #[Value.int .i64 1, Value.int .i64 A], Value.pointer (some ⟨w.heap.size, 16, none⟩), Value.pointer (some ⟨w.heap.size, 18, none⟩), Value.int .i64 B, Value.agg #[Value.int .i64 1, Value.int .i64 B], undef, undef, undef, undef, undef, undef, undef, undef, undef, undef, undef, undef, undef, undef, undef, undef, undef, undef, undef, undef, undef, undef, undef, undef, undef, undef, undef, undef, undef, undef, undef, undef, undef, undef, undef, undef, undef, undef, undef, undef, undef, undef, undef, undef, undef, undef, undef, undef, undef, undef, undef, undef, undef, undef, undef, undef, undef, undef, undef, undef, undef, undef], []⟩) (fun g4 g5 W' => Bh w s ⟨op, A, B, m⟩ A B g4 g5 W') (fun hQ => ?_) ?_
  · refine wp_region_held_drew (S := fun W => Bks W [(w.heap.size, 58, 20, xc s ⟨op, A, B, m⟩)]) (by kernel_rfl) hK0.b (fun _ => ?_)
    have hS := hK0
    refine take_d (i := 0) (d := some 6) (v := ?_) rfl rfl (by kernel_rfl) (by kernel_rfl) (by kernel_rfl) (fun _ _ _ h => h) (.inl ⟨by rfl, ?_⟩) hS.b ?_
    rotate_left
    · intro W hW
      go_simp
      try with_reducible rfl
    try simp only [Act.put, List.setIfInBounds_toArray, List.set_cons_zero, List.set_cons_succ]
    refine take_d (i := 1) (d := some 7) (v := ?_) rfl rfl (by kernel_rfl) (by kernel_rfl) (by kernel_rfl) (fun _ _ _ h => h) (.inl ⟨by rfl, ?_⟩) hS.b ?_
    rotate_left
    · intro W hW
      go_simp
      try with_reducible rfl
    try simp only [Act.put, List.setIfInBounds_toArray, List.set_cons_zero, List.set_cons_succ]
    refine take_d (i := 2) (d := some 8) (v := ?_) rfl rfl (by kernel_rfl) (by kernel_rfl) (by kernel_rfl) (fun _ _ _ h => h) (.inl ⟨by rfl, ?_⟩) hS.b ?_
    rotate_left
    · intro W hW
      have q := hW.h0.x
      go_simp
      try with_reducible rfl
    try simp only [Act.put, List.setIfInBounds_toArray, List.set_cons_zero, List.set_cons_succ]
    refine take_d (i := 4) (d := some 10) (v := ?_) rfl rfl (by kernel_rfl) (by kernel_rfl) (by kernel_rfl) (fun _ _ _ h => h) (.inl ⟨by rfl, ?_⟩) hS.b ?_
    rotate_left
    · intro W hW
      go_simp
      try with_reducible rfl
    try simp only [Act.put, List.setIfInBounds_toArray, List.set_cons_zero, List.set_cons_succ]
    refine take_d (i := 5) (d := some 11) (v := ?_) rfl rfl (by kernel_rfl) (by kernel_rfl) (by kernel_rfl) (fun _ _ _ h => h) (.inl ⟨by rfl, ?_⟩) hS.b ?_
    rotate_left
    · intro W hW
      go_simp
      try with_reducible rfl
    try simp only [Act.put, List.setIfInBounds_toArray, List.set_cons_zero, List.set_cons_succ]
    refine take_d (i := 6) (d := some 12) (v := ?_) rfl rfl (by kernel_rfl) (by kernel_rfl) (by kernel_rfl) (fun _ _ _ h => h) (.inl ⟨by rfl, ?_⟩) hS.b ?_
    rotate_left
    · intro W hW
      have q := hW.h0.x
      go_simp
      try with_reducible rfl
    try simp only [Act.put, List.setIfInBounds_toArray, List.set_cons_zero, List.set_cons_succ]
    refine wpAnyH_all (rs := [3,8,9]) (by kernel_rfl) (by simp) (fun i hi => ?_)
    simp only [List.mem_cons, List.not_mem_nil, or_false] at hi
    rcases hi with rfl | rfl | rfl
    · refine .inl ?_
      go_simp
      refine (register_any A _).mono ?_
      rintro e wc ⟨rfl, hb⟩
      try replace rg4 := Rf.below rg4 hb
      try replace rg5 := Rf.below rg5 hb
      try replace ltg4 : g4 < _ := Nat.lt_of_lt_of_le ltg4 hb.size
      try replace ltg5 : g5 < _ := Nat.lt_of_lt_of_le ltg5 hb.size
      replace hS := hS.after hb
      clear hb
      refine ⟨hS.b, ?_⟩
      try simp only [Act.put, List.setIfInBounds_toArray, List.set_cons_zero, List.set_cons_succ]
      refine wpAnyH_all (rs := [7,8,9]) (by kernel_rfl) (by simp) (fun i hi => ?_)
      simp only [List.mem_cons, List.not_mem_nil, or_false] at hi
      rcases hi with rfl | rfl | rfl
      · refine .inl ?_
        go_simp
        refine (register_any B _).mono ?_
        rintro e wc ⟨rfl, hb⟩
        try replace rg4 := Rf.below rg4 hb
        try replace rg5 := Rf.below rg5 hb
        try replace ltg4 : g4 < _ := Nat.lt_of_lt_of_le ltg4 hb.size
        try replace ltg5 : g5 < _ := Nat.lt_of_lt_of_le ltg5 hb.size
        replace hS := hS.after hb
        clear hb
        refine ⟨hS.b, ?_⟩
        try simp only [Act.put, List.setIfInBounds_toArray, List.set_cons_zero, List.set_cons_succ]
        refine wpAnyH_all (rs := [8,9]) (by kernel_rfl) (by simp) (fun i hi => ?_)
        simp only [List.mem_cons, List.not_mem_nil, or_false] at hi
        rcases hi with rfl | rfl
        · refine .inl ?_
          refine o_alloc (ty := 49) (d := some 4) rfl (pla ⟨0, 0⟩) (pla_ok _) (by go_simp; try rfl) ?_
          intro g4 WA eg4 rg4 hb ltg4
          try have dis : g4 ≠ g5 := by omega
          try replace rg5 := Rf.below rg5 hb
          try replace ltg5 : g5 < _ := Nat.lt_of_lt_of_le ltg5 hb.size
          have neg4 : w.heap.size < g4 := by have := hS.b.h0.lt; omega
          replace hS := hS.after hb
          clear hb
          refine ⟨hS.b, ?_⟩
          try simp only [Act.put, List.setIfInBounds_toArray, List.set_cons_zero, List.set_cons_succ]
          refine wpAnyH_all (rs := [9]) (by kernel_rfl) (by simp) (fun i hi => ?_)
          simp only [List.mem_cons, List.not_mem_nil, or_false] at hi
          subst hi
          refine .inl ?_
          refine o_alloc (ty := 49) (d := some 5) rfl (pla ⟨0, 0⟩) (pla_ok _) (by go_simp; try rfl) ?_
          intro g5 WA eg5 rg5 hb ltg5
          try have dis : g4 ≠ g5 := by omega
          try replace rg4 := Rf.below rg4 hb
          try replace ltg4 : g4 < _ := Nat.lt_of_lt_of_le ltg4 hb.size
          have neg5 : w.heap.size < g5 := by have := hS.b.h0.lt; omega
          replace hS := hS.after hb
          clear hb
          refine ⟨hS.b, ?_⟩
          try simp only [Act.put, List.setIfInBounds_toArray, List.set_cons_zero, List.set_cons_succ]
          refine wpAnyH_all (rs := [10]) (by kernel_rfl) (by simp) (fun i hi => ?_)
          simp only [List.mem_cons, List.not_mem_nil, or_false] at hi
          subst hi
          refine .inl ?_
          refine o_store_R (d := none) rfl (pla (rg A)) rowP rg4 (pla_ok _) rfl rfl rfl ?_
          replace hS := hS.setO (g := g4) (c := pla (rg A)) neg4
          replace rg5 := rg5.setOther (g := g4) (by omega) (pla (rg A))
          replace rg4 := rg4.set (pla_ok (rg A))
          refine ⟨hS.b, ?_⟩
          try simp only [Act.put, List.setIfInBounds_toArray, List.set_cons_zero, List.set_cons_succ]
          refine wpAnyH_all (rs := [11]) (by kernel_rfl) (by simp) (fun i hi => ?_)
          simp only [List.mem_cons, List.not_mem_nil, or_false] at hi
          subst hi
          refine .inl ?_
          refine o_store_R (d := none) rfl (pla (rg B)) rowP rg5 (pla_ok _) rfl rfl rfl ?_
          replace hS := hS.setO (g := g5) (c := pla (rg B)) neg5
          replace rg4 := rg4.setOther (g := g5) (by omega) (pla (rg B))
          replace rg5 := rg5.set (pla_ok (rg B))
          refine ⟨hS.b, ?_⟩
          try simp only [Act.put, List.setIfInBounds_toArray, List.set_cons_zero, List.set_cons_succ]
          refine wpAnyH_done (by kernel_rfl) ?_ _
          exact hQ _ _ _ ⟨hS, rg4, rg5, neg4, neg5, dis⟩
        · refine .inl ?_
          refine o_alloc (ty := 49) (d := some 5) rfl (pla ⟨0, 0⟩) (pla_ok _) (by go_simp; try rfl) ?_
          intro g5 WA eg5 rg5 hb ltg5
          try have dis : g4 ≠ g5 := by omega
          try replace rg4 := Rf.below rg4 hb
          try replace ltg4 : g4 < _ := Nat.lt_of_lt_of_le ltg4 hb.size
          have neg5 : w.heap.size < g5 := by have := hS.b.h0.lt; omega
          replace hS := hS.after hb
          clear hb
          refine ⟨hS.b, ?_⟩
          try simp only [Act.put, List.setIfInBounds_toArray, List.set_cons_zero, List.set_cons_succ]
          refine wpAnyH_all (rs := [8]) (by kernel_rfl) (by simp) (fun i hi => ?_)
          simp only [List.mem_cons, List.not_mem_nil, or_false] at hi
          subst hi
          refine .inl ?_
          refine o_alloc (ty := 49) (d := some 4) rfl (pla ⟨0, 0⟩) (pla_ok _) (by go_simp; try rfl) ?_
          intro g4 WA eg4 rg4 hb ltg4
          try have dis : g4 ≠ g5 := by omega
          try replace rg5 := Rf.below rg5 hb
          try replace ltg5 : g5 < _ := Nat.lt_of_lt_of_le ltg5 hb.size
          have neg4 : w.heap.size < g4 := by have := hS.b.h0.lt; omega
          replace hS := hS.after hb
          clear hb
          refine ⟨hS.b, ?_⟩
          try simp only [Act.put, List.setIfInBounds_toArray, List.set_cons_zero, List.set_cons_succ]
          refine wpAnyH_all (rs := [10]) (by kernel_rfl) (by simp) (fun i hi => ?_)
          simp only [List.mem_cons, List.not_mem_nil, or_false] at hi
          subst hi
          refine .inl ?_
          refine o_store_R (d := none) rfl (pla (rg A)) rowP rg4 (pla_ok _) rfl rfl rfl ?_
          replace hS := hS.setO (g := g4) (c := pla (rg A)) neg4
          replace rg5 := rg5.setOther (g := g4) (by omega) (pla (rg A))
          replace rg4 := rg4.set (pla_ok (rg A))
          refine ⟨hS.b, ?_⟩
          try simp only [Act.put, List.setIfInBounds_toArray, List.set_cons_zero, List.set_cons_succ]
          refine wpAnyH_all (rs := [11]) (by kernel_rfl) (by simp) (fun i hi => ?_)
          simp only [List.mem_cons, List.not_mem_nil, or_false] at hi
          subst hi
          refine .inl ?_
          refine o_store_R (d := none) rfl (pla (rg B)) rowP rg5 (pla_ok _) rfl rfl rfl ?_
          replace hS := hS.setO (g := g5) (c := pla (rg B)) neg5
          replace rg4 := rg4.setOther (g := g5) (by omega) (pla (rg B))
          replace rg5 := rg5.set (pla_ok (rg B))
          refine ⟨hS.b, ?_⟩
          try simp only [Act.put, List.setIfInBounds_toArray, List.set_cons_zero, List.set_cons_succ]
          refine wpAnyH_done (by kernel_rfl) ?_ _
          exact hQ _ _ _ ⟨hS, rg4, rg5, neg4, neg5, dis⟩
      · refine .inl ?_
        refine o_alloc (ty := 49) (d := some 4) rfl (pla ⟨0, 0⟩) (pla_ok _) (by go_simp; try rfl) ?_
        intro g4 WA eg4 rg4 hb ltg4
        try have dis : g4 ≠ g5 := by omega
        try replace rg5 := Rf.below rg5 hb
        try replace ltg5 : g5 < _ := Nat.lt_of_lt_of_le ltg5 hb.size
        have neg4 : w.heap.size < g4 := by have := hS.b.h0.lt; omega
        replace hS := hS.after hb
        clear hb
        refine ⟨hS.b, ?_⟩
        try simp only [Act.put, List.setIfInBounds_toArray, List.set_cons_zero, List.set_cons_succ]
        refine wpAnyH_all (rs := [7,9]) (by kernel_rfl) (by simp) (fun i hi => ?_)
        simp only [List.mem_cons, List.not_mem_nil, or_false] at hi
        rcases hi with rfl | rfl
        · refine .inl ?_
          go_simp
          refine (register_any B _).mono ?_
          rintro e wc ⟨rfl, hb⟩
          try replace rg4 := Rf.below rg4 hb
          try replace rg5 := Rf.below rg5 hb
          try replace ltg4 : g4 < _ := Nat.lt_of_lt_of_le ltg4 hb.size
          try replace ltg5 : g5 < _ := Nat.lt_of_lt_of_le ltg5 hb.size
          replace hS := hS.after hb
          clear hb
          refine ⟨hS.b, ?_⟩
          try simp only [Act.put, List.setIfInBounds_toArray, List.set_cons_zero, List.set_cons_succ]
          refine wpAnyH_all (rs := [9]) (by kernel_rfl) (by simp) (fun i hi => ?_)
          simp only [List.mem_cons, List.not_mem_nil, or_false] at hi
          subst hi
          refine .inl ?_
          refine o_alloc (ty := 49) (d := some 5) rfl (pla ⟨0, 0⟩) (pla_ok _) (by go_simp; try rfl) ?_
          intro g5 WA eg5 rg5 hb ltg5
          try have dis : g4 ≠ g5 := by omega
          try replace rg4 := Rf.below rg4 hb
          try replace ltg4 : g4 < _ := Nat.lt_of_lt_of_le ltg4 hb.size
          have neg5 : w.heap.size < g5 := by have := hS.b.h0.lt; omega
          replace hS := hS.after hb
          clear hb
          refine ⟨hS.b, ?_⟩
          try simp only [Act.put, List.setIfInBounds_toArray, List.set_cons_zero, List.set_cons_succ]
          refine wpAnyH_all (rs := [10]) (by kernel_rfl) (by simp) (fun i hi => ?_)
          simp only [List.mem_cons, List.not_mem_nil, or_false] at hi
          subst hi
          refine .inl ?_
          refine o_store_R (d := none) rfl (pla (rg A)) rowP rg4 (pla_ok _) rfl rfl rfl ?_
          replace hS := hS.setO (g := g4) (c := pla (rg A)) neg4
          replace rg5 := rg5.setOther (g := g4) (by omega) (pla (rg A))
          replace rg4 := rg4.set (pla_ok (rg A))
          refine ⟨hS.b, ?_⟩
          try simp only [Act.put, List.setIfInBounds_toArray, List.set_cons_zero, List.set_cons_succ]
          refine wpAnyH_all (rs := [11]) (by kernel_rfl) (by simp) (fun i hi => ?_)
          simp only [List.mem_cons, List.not_mem_nil, or_false] at hi
          subst hi
          refine .inl ?_
          refine o_store_R (d := none) rfl (pla (rg B)) rowP rg5 (pla_ok _) rfl rfl rfl ?_
          replace hS := hS.setO (g := g5) (c := pla (rg B)) neg5
          replace rg4 := rg4.setOther (g := g5) (by omega) (pla (rg B))
          replace rg5 := rg5.set (pla_ok (rg B))
          refine ⟨hS.b, ?_⟩
          try simp only [Act.put, List.setIfInBounds_toArray, List.set_cons_zero, List.set_cons_succ]
          refine wpAnyH_done (by kernel_rfl) ?_ _
          exact hQ _ _ _ ⟨hS, rg4, rg5, neg4, neg5, dis⟩
        · refine .inl ?_
          refine o_alloc (ty := 49) (d := some 5) rfl (pla ⟨0, 0⟩) (pla_ok _) (by go_simp; try rfl) ?_
          intro g5 WA eg5 rg5 hb ltg5
          try have dis : g4 ≠ g5 := by omega
          try replace rg4 := Rf.below rg4 hb
          try replace ltg4 : g4 < _ := Nat.lt_of_lt_of_le ltg4 hb.size
          have neg5 : w.heap.size < g5 := by have := hS.b.h0.lt; omega
          replace hS := hS.after hb
          clear hb
          refine ⟨hS.b, ?_⟩
          try simp only [Act.put, List.setIfInBounds_toArray, List.set_cons_zero, List.set_cons_succ]
          refine wpAnyH_all (rs := [7]) (by kernel_rfl) (by simp) (fun i hi => ?_)
          simp only [List.mem_cons, List.not_mem_nil, or_false] at hi
          subst hi
          refine .inl ?_
          go_simp
          refine (register_any B _).mono ?_
          rintro e wc ⟨rfl, hb⟩
          try replace rg4 := Rf.below rg4 hb
          try replace rg5 := Rf.below rg5 hb
          try replace ltg4 : g4 < _ := Nat.lt_of_lt_of_le ltg4 hb.size
          try replace ltg5 : g5 < _ := Nat.lt_of_lt_of_le ltg5 hb.size
          replace hS := hS.after hb
          clear hb
          refine ⟨hS.b, ?_⟩
          try simp only [Act.put, List.setIfInBounds_toArray, List.set_cons_zero, List.set_cons_succ]
          refine wpAnyH_all (rs := [10]) (by kernel_rfl) (by simp) (fun i hi => ?_)
          simp only [List.mem_cons, List.not_mem_nil, or_false] at hi
          subst hi
          refine .inl ?_
          refine o_store_R (d := none) rfl (pla (rg A)) rowP rg4 (pla_ok _) rfl rfl rfl ?_
          replace hS := hS.setO (g := g4) (c := pla (rg A)) neg4
          replace rg5 := rg5.setOther (g := g4) (by omega) (pla (rg A))
          replace rg4 := rg4.set (pla_ok (rg A))
          refine ⟨hS.b, ?_⟩
          try simp only [Act.put, List.setIfInBounds_toArray, List.set_cons_zero, List.set_cons_succ]
          refine wpAnyH_all (rs := [11]) (by kernel_rfl) (by simp) (fun i hi => ?_)
          simp only [List.mem_cons, List.not_mem_nil, or_false] at hi
          subst hi
          refine .inl ?_
          refine o_store_R (d := none) rfl (pla (rg B)) rowP rg5 (pla_ok _) rfl rfl rfl ?_
          replace hS := hS.setO (g := g5) (c := pla (rg B)) neg5
          replace rg4 := rg4.setOther (g := g5) (by omega) (pla (rg B))
          replace rg5 := rg5.set (pla_ok (rg B))
          refine ⟨hS.b, ?_⟩
          try simp only [Act.put, List.setIfInBounds_toArray, List.set_cons_zero, List.set_cons_succ]
          refine wpAnyH_done (by kernel_rfl) ?_ _
          exact hQ _ _ _ ⟨hS, rg4, rg5, neg4, neg5, dis⟩
      · refine .inl ?_
        refine o_alloc (ty := 49) (d := some 5) rfl (pla ⟨0, 0⟩) (pla_ok _) (by go_simp; try rfl) ?_
        intro g5 WA eg5 rg5 hb ltg5
        try have dis : g4 ≠ g5 := by omega
        try replace rg4 := Rf.below rg4 hb
        try replace ltg4 : g4 < _ := Nat.lt_of_lt_of_le ltg4 hb.size
        have neg5 : w.heap.size < g5 := by have := hS.b.h0.lt; omega
        replace hS := hS.after hb
        clear hb
        refine ⟨hS.b, ?_⟩
        try simp only [Act.put, List.setIfInBounds_toArray, List.set_cons_zero, List.set_cons_succ]
        refine wpAnyH_all (rs := [7,8]) (by kernel_rfl) (by simp) (fun i hi => ?_)
        simp only [List.mem_cons, List.not_mem_nil, or_false] at hi
        rcases hi with rfl | rfl
        · refine .inl ?_
          go_simp
          refine (register_any B _).mono ?_
          rintro e wc ⟨rfl, hb⟩
          try replace rg4 := Rf.below rg4 hb
          try replace rg5 := Rf.below rg5 hb
          try replace ltg4 : g4 < _ := Nat.lt_of_lt_of_le ltg4 hb.size
          try replace ltg5 : g5 < _ := Nat.lt_of_lt_of_le ltg5 hb.size
          replace hS := hS.after hb
          clear hb
          refine ⟨hS.b, ?_⟩
          try simp only [Act.put, List.setIfInBounds_toArray, List.set_cons_zero, List.set_cons_succ]
          refine wpAnyH_all (rs := [8]) (by kernel_rfl) (by simp) (fun i hi => ?_)
          simp only [List.mem_cons, List.not_mem_nil, or_false] at hi
          subst hi
          refine .inl ?_
          refine o_alloc (ty := 49) (d := some 4) rfl (pla ⟨0, 0⟩) (pla_ok _) (by go_simp; try rfl) ?_
          intro g4 WA eg4 rg4 hb ltg4
          try have dis : g4 ≠ g5 := by omega
          try replace rg5 := Rf.below rg5 hb
          try replace ltg5 : g5 < _ := Nat.lt_of_lt_of_le ltg5 hb.size
          have neg4 : w.heap.size < g4 := by have := hS.b.h0.lt; omega
          replace hS := hS.after hb
          clear hb
          refine ⟨hS.b, ?_⟩
          try simp only [Act.put, List.setIfInBounds_toArray, List.set_cons_zero, List.set_cons_succ]
          refine wpAnyH_all (rs := [10]) (by kernel_rfl) (by simp) (fun i hi => ?_)
          simp only [List.mem_cons, List.not_mem_nil, or_false] at hi
          subst hi
          refine .inl ?_
          refine o_store_R (d := none) rfl (pla (rg A)) rowP rg4 (pla_ok _) rfl rfl rfl ?_
          replace hS := hS.setO (g := g4) (c := pla (rg A)) neg4
          replace rg5 := rg5.setOther (g := g4) (by omega) (pla (rg A))
          replace rg4 := rg4.set (pla_ok (rg A))
          refine ⟨hS.b, ?_⟩
          try simp only [Act.put, List.setIfInBounds_toArray, List.set_cons_zero, List.set_cons_succ]
          refine wpAnyH_all (rs := [11]) (by kernel_rfl) (by simp) (fun i hi => ?_)
          simp only [List.mem_cons, List.not_mem_nil, or_false] at hi
          subst hi
          refine .inl ?_
          refine o_store_R (d := none) rfl (pla (rg B)) rowP rg5 (pla_ok _) rfl rfl rfl ?_
          replace hS := hS.setO (g := g5) (c := pla (rg B)) neg5
          replace rg4 := rg4.setOther (g := g5) (by omega) (pla (rg B))
          replace rg5 := rg5.set (pla_ok (rg B))
          refine ⟨hS.b, ?_⟩
          try simp only [Act.put, List.setIfInBounds_toArray, List.set_cons_zero, List.set_cons_succ]
          refine wpAnyH_done (by kernel_rfl) ?_ _
          exact hQ _ _ _ ⟨hS, rg4, rg5, neg4, neg5, dis⟩
        · refine .inl ?_
          refine o_alloc (ty := 49) (d := some 4) rfl (pla ⟨0, 0⟩) (pla_ok _) (by go_simp; try rfl) ?_
          intro g4 WA eg4 rg4 hb ltg4
          try have dis : g4 ≠ g5 := by omega
          try replace rg5 := Rf.below rg5 hb
          try replace ltg5 : g5 < _ := Nat.lt_of_lt_of_le ltg5 hb.size
          have neg4 : w.heap.size < g4 := by have := hS.b.h0.lt; omega
          replace hS := hS.after hb
          clear hb
          refine ⟨hS.b, ?_⟩
          try simp only [Act.put, List.setIfInBounds_toArray, List.set_cons_zero, List.set_cons_succ]
          refine wpAnyH_all (rs := [7]) (by kernel_rfl) (by simp) (fun i hi => ?_)
          simp only [List.mem_cons, List.not_mem_nil, or_false] at hi
          subst hi
          refine .inl ?_
          go_simp
          refine (register_any B _).mono ?_
          rintro e wc ⟨rfl, hb⟩
          try replace rg4 := Rf.below rg4 hb
          try replace rg5 := Rf.below rg5 hb
          try replace ltg4 : g4 < _ := Nat.lt_of_lt_of_le ltg4 hb.size
          try replace ltg5 : g5 < _ := Nat.lt_of_lt_of_le ltg5 hb.size
          replace hS := hS.after hb
          clear hb
          refine ⟨hS.b, ?_⟩
          try simp only [Act.put, List.setIfInBounds_toArray, List.set_cons_zero, List.set_cons_succ]
          refine wpAnyH_all (rs := [10]) (by kernel_rfl) (by simp) (fun i hi => ?_)
          simp only [List.mem_cons, List.not_mem_nil, or_false] at hi
          subst hi
          refine .inl ?_
          refine o_store_R (d := none) rfl (pla (rg A)) rowP rg4 (pla_ok _) rfl rfl rfl ?_
          replace hS := hS.setO (g := g4) (c := pla (rg A)) neg4
          replace rg5 := rg5.setOther (g := g4) (by omega) (pla (rg A))
          replace rg4 := rg4.set (pla_ok (rg A))
          refine ⟨hS.b, ?_⟩
          try simp only [Act.put, List.setIfInBounds_toArray, List.set_cons_zero, List.set_cons_succ]
          refine wpAnyH_all (rs := [11]) (by kernel_rfl) (by simp) (fun i hi => ?_)
          simp only [List.mem_cons, List.not_mem_nil, or_false] at hi
          subst hi
          refine .inl ?_
          refine o_store_R (d := none) rfl (pla (rg B)) rowP rg5 (pla_ok _) rfl rfl rfl ?_
          replace hS := hS.setO (g := g5) (c := pla (rg B)) neg5
          replace rg4 := rg4.setOther (g := g5) (by omega) (pla (rg B))
          replace rg5 := rg5.set (pla_ok (rg B))
          refine ⟨hS.b, ?_⟩
          try simp only [Act.put, List.setIfInBounds_toArray, List.set_cons_zero, List.set_cons_succ]
          refine wpAnyH_done (by kernel_rfl) ?_ _
          exact hQ _ _ _ ⟨hS, rg4, rg5, neg4, neg5, dis⟩
    · refine .inl ?_
      refine o_alloc (ty := 49) (d := some 4) rfl (pla ⟨0, 0⟩) (pla_ok _) (by go_simp; try rfl) ?_
      intro g4 WA eg4 rg4 hb ltg4
      try have dis : g4 ≠ g5 := by omega
      try replace rg5 := Rf.below rg5 hb
      try replace ltg5 : g5 < _ := Nat.lt_of_lt_of_le ltg5 hb.size
      have neg4 : w.heap.size < g4 := by have := hS.b.h0.lt; omega
      replace hS := hS.after hb
      clear hb
      refine ⟨hS.b, ?_⟩
      try simp only [Act.put, List.setIfInBounds_toArray, List.set_cons_zero, List.set_cons_succ]
      refine wpAnyH_all (rs := [3,9]) (by kernel_rfl) (by simp) (fun i hi => ?_)
      simp only [List.mem_cons, List.not_mem_nil, or_false] at hi
      rcases hi with rfl | rfl
      · refine .inl ?_
        go_simp
        refine (register_any A _).mono ?_
        rintro e wc ⟨rfl, hb⟩
        try replace rg4 := Rf.below rg4 hb
        try replace rg5 := Rf.below rg5 hb
        try replace ltg4 : g4 < _ := Nat.lt_of_lt_of_le ltg4 hb.size
        try replace ltg5 : g5 < _ := Nat.lt_of_lt_of_le ltg5 hb.size
        replace hS := hS.after hb
        clear hb
        refine ⟨hS.b, ?_⟩
        try simp only [Act.put, List.setIfInBounds_toArray, List.set_cons_zero, List.set_cons_succ]
        refine wpAnyH_all (rs := [7,9]) (by kernel_rfl) (by simp) (fun i hi => ?_)
        simp only [List.mem_cons, List.not_mem_nil, or_false] at hi
        rcases hi with rfl | rfl
        · refine .inl ?_
          go_simp
          refine (register_any B _).mono ?_
          rintro e wc ⟨rfl, hb⟩
          try replace rg4 := Rf.below rg4 hb
          try replace rg5 := Rf.below rg5 hb
          try replace ltg4 : g4 < _ := Nat.lt_of_lt_of_le ltg4 hb.size
          try replace ltg5 : g5 < _ := Nat.lt_of_lt_of_le ltg5 hb.size
          replace hS := hS.after hb
          clear hb
          refine ⟨hS.b, ?_⟩
          try simp only [Act.put, List.setIfInBounds_toArray, List.set_cons_zero, List.set_cons_succ]
          refine wpAnyH_all (rs := [9]) (by kernel_rfl) (by simp) (fun i hi => ?_)
          simp only [List.mem_cons, List.not_mem_nil, or_false] at hi
          subst hi
          refine .inl ?_
          refine o_alloc (ty := 49) (d := some 5) rfl (pla ⟨0, 0⟩) (pla_ok _) (by go_simp; try rfl) ?_
          intro g5 WA eg5 rg5 hb ltg5
          try have dis : g4 ≠ g5 := by omega
          try replace rg4 := Rf.below rg4 hb
          try replace ltg4 : g4 < _ := Nat.lt_of_lt_of_le ltg4 hb.size
          have neg5 : w.heap.size < g5 := by have := hS.b.h0.lt; omega
          replace hS := hS.after hb
          clear hb
          refine ⟨hS.b, ?_⟩
          try simp only [Act.put, List.setIfInBounds_toArray, List.set_cons_zero, List.set_cons_succ]
          refine wpAnyH_all (rs := [10]) (by kernel_rfl) (by simp) (fun i hi => ?_)
          simp only [List.mem_cons, List.not_mem_nil, or_false] at hi
          subst hi
          refine .inl ?_
          refine o_store_R (d := none) rfl (pla (rg A)) rowP rg4 (pla_ok _) rfl rfl rfl ?_
          replace hS := hS.setO (g := g4) (c := pla (rg A)) neg4
          replace rg5 := rg5.setOther (g := g4) (by omega) (pla (rg A))
          replace rg4 := rg4.set (pla_ok (rg A))
          refine ⟨hS.b, ?_⟩
          try simp only [Act.put, List.setIfInBounds_toArray, List.set_cons_zero, List.set_cons_succ]
          refine wpAnyH_all (rs := [11]) (by kernel_rfl) (by simp) (fun i hi => ?_)
          simp only [List.mem_cons, List.not_mem_nil, or_false] at hi
          subst hi
          refine .inl ?_
          refine o_store_R (d := none) rfl (pla (rg B)) rowP rg5 (pla_ok _) rfl rfl rfl ?_
          replace hS := hS.setO (g := g5) (c := pla (rg B)) neg5
          replace rg4 := rg4.setOther (g := g5) (by omega) (pla (rg B))
          replace rg5 := rg5.set (pla_ok (rg B))
          refine ⟨hS.b, ?_⟩
          try simp only [Act.put, List.setIfInBounds_toArray, List.set_cons_zero, List.set_cons_succ]
          refine wpAnyH_done (by kernel_rfl) ?_ _
          exact hQ _ _ _ ⟨hS, rg4, rg5, neg4, neg5, dis⟩
        · refine .inl ?_
          refine o_alloc (ty := 49) (d := some 5) rfl (pla ⟨0, 0⟩) (pla_ok _) (by go_simp; try rfl) ?_
          intro g5 WA eg5 rg5 hb ltg5
          try have dis : g4 ≠ g5 := by omega
          try replace rg4 := Rf.below rg4 hb
          try replace ltg4 : g4 < _ := Nat.lt_of_lt_of_le ltg4 hb.size
          have neg5 : w.heap.size < g5 := by have := hS.b.h0.lt; omega
          replace hS := hS.after hb
          clear hb
          refine ⟨hS.b, ?_⟩
          try simp only [Act.put, List.setIfInBounds_toArray, List.set_cons_zero, List.set_cons_succ]
          refine wpAnyH_all (rs := [7]) (by kernel_rfl) (by simp) (fun i hi => ?_)
          simp only [List.mem_cons, List.not_mem_nil, or_false] at hi
          subst hi
          refine .inl ?_
          go_simp
          refine (register_any B _).mono ?_
          rintro e wc ⟨rfl, hb⟩
          try replace rg4 := Rf.below rg4 hb
          try replace rg5 := Rf.below rg5 hb
          try replace ltg4 : g4 < _ := Nat.lt_of_lt_of_le ltg4 hb.size
          try replace ltg5 : g5 < _ := Nat.lt_of_lt_of_le ltg5 hb.size
          replace hS := hS.after hb
          clear hb
          refine ⟨hS.b, ?_⟩
          try simp only [Act.put, List.setIfInBounds_toArray, List.set_cons_zero, List.set_cons_succ]
          refine wpAnyH_all (rs := [10]) (by kernel_rfl) (by simp) (fun i hi => ?_)
          simp only [List.mem_cons, List.not_mem_nil, or_false] at hi
          subst hi
          refine .inl ?_
          refine o_store_R (d := none) rfl (pla (rg A)) rowP rg4 (pla_ok _) rfl rfl rfl ?_
          replace hS := hS.setO (g := g4) (c := pla (rg A)) neg4
          replace rg5 := rg5.setOther (g := g4) (by omega) (pla (rg A))
          replace rg4 := rg4.set (pla_ok (rg A))
          refine ⟨hS.b, ?_⟩
          try simp only [Act.put, List.setIfInBounds_toArray, List.set_cons_zero, List.set_cons_succ]
          refine wpAnyH_all (rs := [11]) (by kernel_rfl) (by simp) (fun i hi => ?_)
          simp only [List.mem_cons, List.not_mem_nil, or_false] at hi
          subst hi
          refine .inl ?_
          refine o_store_R (d := none) rfl (pla (rg B)) rowP rg5 (pla_ok _) rfl rfl rfl ?_
          replace hS := hS.setO (g := g5) (c := pla (rg B)) neg5
          replace rg4 := rg4.setOther (g := g5) (by omega) (pla (rg B))
          replace rg5 := rg5.set (pla_ok (rg B))
          refine ⟨hS.b, ?_⟩
          try simp only [Act.put, List.setIfInBounds_toArray, List.set_cons_zero, List.set_cons_succ]
          refine wpAnyH_done (by kernel_rfl) ?_ _
          exact hQ _ _ _ ⟨hS, rg4, rg5, neg4, neg5, dis⟩
      · refine .inl ?_
        refine o_alloc (ty := 49) (d := some 5) rfl (pla ⟨0, 0⟩) (pla_ok _) (by go_simp; try rfl) ?_
        intro g5 WA eg5 rg5 hb ltg5
        try have dis : g4 ≠ g5 := by omega
        try replace rg4 := Rf.below rg4 hb
        try replace ltg4 : g4 < _ := Nat.lt_of_lt_of_le ltg4 hb.size
        have neg5 : w.heap.size < g5 := by have := hS.b.h0.lt; omega
        replace hS := hS.after hb
        clear hb
        refine ⟨hS.b, ?_⟩
        try simp only [Act.put, List.setIfInBounds_toArray, List.set_cons_zero, List.set_cons_succ]
        refine wpAnyH_all (rs := [3]) (by kernel_rfl) (by simp) (fun i hi => ?_)
        simp only [List.mem_cons, List.not_mem_nil, or_false] at hi
        subst hi
        refine .inl ?_
        go_simp
        refine (register_any A _).mono ?_
        rintro e wc ⟨rfl, hb⟩
        try replace rg4 := Rf.below rg4 hb
        try replace rg5 := Rf.below rg5 hb
        try replace ltg4 : g4 < _ := Nat.lt_of_lt_of_le ltg4 hb.size
        try replace ltg5 : g5 < _ := Nat.lt_of_lt_of_le ltg5 hb.size
        replace hS := hS.after hb
        clear hb
        refine ⟨hS.b, ?_⟩
        try simp only [Act.put, List.setIfInBounds_toArray, List.set_cons_zero, List.set_cons_succ]
        refine wpAnyH_all (rs := [7]) (by kernel_rfl) (by simp) (fun i hi => ?_)
        simp only [List.mem_cons, List.not_mem_nil, or_false] at hi
        subst hi
        refine .inl ?_
        go_simp
        refine (register_any B _).mono ?_
        rintro e wc ⟨rfl, hb⟩
        try replace rg4 := Rf.below rg4 hb
        try replace rg5 := Rf.below rg5 hb
        try replace ltg4 : g4 < _ := Nat.lt_of_lt_of_le ltg4 hb.size
        try replace ltg5 : g5 < _ := Nat.lt_of_lt_of_le ltg5 hb.size
        replace hS := hS.after hb
        clear hb
        refine ⟨hS.b, ?_⟩
        try simp only [Act.put, List.setIfInBounds_toArray, List.set_cons_zero, List.set_cons_succ]
        refine wpAnyH_all (rs := [10]) (by kernel_rfl) (by simp) (fun i hi => ?_)
        simp only [List.mem_cons, List.not_mem_nil, or_false] at hi
        subst hi
        refine .inl ?_
        refine o_store_R (d := none) rfl (pla (rg A)) rowP rg4 (pla_ok _) rfl rfl rfl ?_
        replace hS := hS.setO (g := g4) (c := pla (rg A)) neg4
        replace rg5 := rg5.setOther (g := g4) (by omega) (pla (rg A))
        replace rg4 := rg4.set (pla_ok (rg A))
        refine ⟨hS.b, ?_⟩
        try simp only [Act.put, List.setIfInBounds_toArray, List.set_cons_zero, List.set_cons_succ]
        refine wpAnyH_all (rs := [11]) (by kernel_rfl) (by simp) (fun i hi => ?_)
        simp only [List.mem_cons, List.not_mem_nil, or_false] at hi
        subst hi
        refine .inl ?_
        refine o_store_R (d := none) rfl (pla (rg B)) rowP rg5 (pla_ok _) rfl rfl rfl ?_
        replace hS := hS.setO (g := g5) (c := pla (rg B)) neg5
        replace rg4 := rg4.setOther (g := g5) (by omega) (pla (rg B))
        replace rg5 := rg5.set (pla_ok (rg B))
        refine ⟨hS.b, ?_⟩
        try simp only [Act.put, List.setIfInBounds_toArray, List.set_cons_zero, List.set_cons_succ]
        refine wpAnyH_done (by kernel_rfl) ?_ _
        exact hQ _ _ _ ⟨hS, rg4, rg5, neg4, neg5, dis⟩
    · refine .inl ?_
      refine o_alloc (ty := 49) (d := some 5) rfl (pla ⟨0, 0⟩) (pla_ok _) (by go_simp; try rfl) ?_
      intro g5 WA eg5 rg5 hb ltg5
      try have dis : g4 ≠ g5 := by omega
      try replace rg4 := Rf.below rg4 hb
      try replace ltg4 : g4 < _ := Nat.lt_of_lt_of_le ltg4 hb.size
      have neg5 : w.heap.size < g5 := by have := hS.b.h0.lt; omega
      replace hS := hS.after hb
      clear hb
      refine ⟨hS.b, ?_⟩
      try simp only [Act.put, List.setIfInBounds_toArray, List.set_cons_zero, List.set_cons_succ]
      refine wpAnyH_all (rs := [3,8]) (by kernel_rfl) (by simp) (fun i hi => ?_)
      simp only [List.mem_cons, List.not_mem_nil, or_false] at hi
      rcases hi with rfl | rfl
      · refine .inl ?_
        go_simp
        refine (register_any A _).mono ?_
        rintro e wc ⟨rfl, hb⟩
        try replace rg4 := Rf.below rg4 hb
        try replace rg5 := Rf.below rg5 hb
        try replace ltg4 : g4 < _ := Nat.lt_of_lt_of_le ltg4 hb.size
        try replace ltg5 : g5 < _ := Nat.lt_of_lt_of_le ltg5 hb.size
        replace hS := hS.after hb
        clear hb
        refine ⟨hS.b, ?_⟩
        try simp only [Act.put, List.setIfInBounds_toArray, List.set_cons_zero, List.set_cons_succ]
        refine wpAnyH_all (rs := [7,8]) (by kernel_rfl) (by simp) (fun i hi => ?_)
        simp only [List.mem_cons, List.not_mem_nil, or_false] at hi
        rcases hi with rfl | rfl
        · refine .inl ?_
          go_simp
          refine (register_any B _).mono ?_
          rintro e wc ⟨rfl, hb⟩
          try replace rg4 := Rf.below rg4 hb
          try replace rg5 := Rf.below rg5 hb
          try replace ltg4 : g4 < _ := Nat.lt_of_lt_of_le ltg4 hb.size
          try replace ltg5 : g5 < _ := Nat.lt_of_lt_of_le ltg5 hb.size
          replace hS := hS.after hb
          clear hb
          refine ⟨hS.b, ?_⟩
          try simp only [Act.put, List.setIfInBounds_toArray, List.set_cons_zero, List.set_cons_succ]
          refine wpAnyH_all (rs := [8]) (by kernel_rfl) (by simp) (fun i hi => ?_)
          simp only [List.mem_cons, List.not_mem_nil, or_false] at hi
          subst hi
          refine .inl ?_
          refine o_alloc (ty := 49) (d := some 4) rfl (pla ⟨0, 0⟩) (pla_ok _) (by go_simp; try rfl) ?_
          intro g4 WA eg4 rg4 hb ltg4
          try have dis : g4 ≠ g5 := by omega
          try replace rg5 := Rf.below rg5 hb
          try replace ltg5 : g5 < _ := Nat.lt_of_lt_of_le ltg5 hb.size
          have neg4 : w.heap.size < g4 := by have := hS.b.h0.lt; omega
          replace hS := hS.after hb
          clear hb
          refine ⟨hS.b, ?_⟩
          try simp only [Act.put, List.setIfInBounds_toArray, List.set_cons_zero, List.set_cons_succ]
          refine wpAnyH_all (rs := [10]) (by kernel_rfl) (by simp) (fun i hi => ?_)
          simp only [List.mem_cons, List.not_mem_nil, or_false] at hi
          subst hi
          refine .inl ?_
          refine o_store_R (d := none) rfl (pla (rg A)) rowP rg4 (pla_ok _) rfl rfl rfl ?_
          replace hS := hS.setO (g := g4) (c := pla (rg A)) neg4
          replace rg5 := rg5.setOther (g := g4) (by omega) (pla (rg A))
          replace rg4 := rg4.set (pla_ok (rg A))
          refine ⟨hS.b, ?_⟩
          try simp only [Act.put, List.setIfInBounds_toArray, List.set_cons_zero, List.set_cons_succ]
          refine wpAnyH_all (rs := [11]) (by kernel_rfl) (by simp) (fun i hi => ?_)
          simp only [List.mem_cons, List.not_mem_nil, or_false] at hi
          subst hi
          refine .inl ?_
          refine o_store_R (d := none) rfl (pla (rg B)) rowP rg5 (pla_ok _) rfl rfl rfl ?_
          replace hS := hS.setO (g := g5) (c := pla (rg B)) neg5
          replace rg4 := rg4.setOther (g := g5) (by omega) (pla (rg B))
          replace rg5 := rg5.set (pla_ok (rg B))
          refine ⟨hS.b, ?_⟩
          try simp only [Act.put, List.setIfInBounds_toArray, List.set_cons_zero, List.set_cons_succ]
          refine wpAnyH_done (by kernel_rfl) ?_ _
          exact hQ _ _ _ ⟨hS, rg4, rg5, neg4, neg5, dis⟩
        · refine .inl ?_
          refine o_alloc (ty := 49) (d := some 4) rfl (pla ⟨0, 0⟩) (pla_ok _) (by go_simp; try rfl) ?_
          intro g4 WA eg4 rg4 hb ltg4
          try have dis : g4 ≠ g5 := by omega
          try replace rg5 := Rf.below rg5 hb
          try replace ltg5 : g5 < _ := Nat.lt_of_lt_of_le ltg5 hb.size
          have neg4 : w.heap.size < g4 := by have := hS.b.h0.lt; omega
          replace hS := hS.after hb
          clear hb
          refine ⟨hS.b, ?_⟩
          try simp only [Act.put, List.setIfInBounds_toArray, List.set_cons_zero, List.set_cons_succ]
          refine wpAnyH_all (rs := [7]) (by kernel_rfl) (by simp) (fun i hi => ?_)
          simp only [List.mem_cons, List.not_mem_nil, or_false] at hi
          subst hi
          refine .inl ?_
          go_simp
          refine (register_any B _).mono ?_
          rintro e wc ⟨rfl, hb⟩
          try replace rg4 := Rf.below rg4 hb
          try replace rg5 := Rf.below rg5 hb
          try replace ltg4 : g4 < _ := Nat.lt_of_lt_of_le ltg4 hb.size
          try replace ltg5 : g5 < _ := Nat.lt_of_lt_of_le ltg5 hb.size
          replace hS := hS.after hb
          clear hb
          refine ⟨hS.b, ?_⟩
          try simp only [Act.put, List.setIfInBounds_toArray, List.set_cons_zero, List.set_cons_succ]
          refine wpAnyH_all (rs := [10]) (by kernel_rfl) (by simp) (fun i hi => ?_)
          simp only [List.mem_cons, List.not_mem_nil, or_false] at hi
          subst hi
          refine .inl ?_
          refine o_store_R (d := none) rfl (pla (rg A)) rowP rg4 (pla_ok _) rfl rfl rfl ?_
          replace hS := hS.setO (g := g4) (c := pla (rg A)) neg4
          replace rg5 := rg5.setOther (g := g4) (by omega) (pla (rg A))
          replace rg4 := rg4.set (pla_ok (rg A))
          refine ⟨hS.b, ?_⟩
          try simp only [Act.put, List.setIfInBounds_toArray, List.set_cons_zero, List.set_cons_succ]
          refine wpAnyH_all (rs := [11]) (by kernel_rfl) (by simp) (fun i hi => ?_)
          simp only [List.mem_cons, List.not_mem_nil, or_false] at hi
          subst hi
          refine .inl ?_
          refine o_store_R (d := none) rfl (pla (rg B)) rowP rg5 (pla_ok _) rfl rfl rfl ?_
          replace hS := hS.setO (g := g5) (c := pla (rg B)) neg5
          replace rg4 := rg4.setOther (g := g5) (by omega) (pla (rg B))
          replace rg5 := rg5.set (pla_ok (rg B))
          refine ⟨hS.b, ?_⟩
          try simp only [Act.put, List.setIfInBounds_toArray, List.set_cons_zero, List.set_cons_succ]
          refine wpAnyH_done (by kernel_rfl) ?_ _
          exact hQ _ _ _ ⟨hS, rg4, rg5, neg4, neg5, dis⟩
      · refine .inl ?_
        refine o_alloc (ty := 49) (d := some 4) rfl (pla ⟨0, 0⟩) (pla_ok _) (by go_simp; try rfl) ?_
        intro g4 WA eg4 rg4 hb ltg4
        try have dis : g4 ≠ g5 := by omega
        try replace rg5 := Rf.below rg5 hb
        try replace ltg5 : g5 < _ := Nat.lt_of_lt_of_le ltg5 hb.size
        have neg4 : w.heap.size < g4 := by have := hS.b.h0.lt; omega
        replace hS := hS.after hb
        clear hb
        refine ⟨hS.b, ?_⟩
        try simp only [Act.put, List.setIfInBounds_toArray, List.set_cons_zero, List.set_cons_succ]
        refine wpAnyH_all (rs := [3]) (by kernel_rfl) (by simp) (fun i hi => ?_)
        simp only [List.mem_cons, List.not_mem_nil, or_false] at hi
        subst hi
        refine .inl ?_
        go_simp
        refine (register_any A _).mono ?_
        rintro e wc ⟨rfl, hb⟩
        try replace rg4 := Rf.below rg4 hb
        try replace rg5 := Rf.below rg5 hb
        try replace ltg4 : g4 < _ := Nat.lt_of_lt_of_le ltg4 hb.size
        try replace ltg5 : g5 < _ := Nat.lt_of_lt_of_le ltg5 hb.size
        replace hS := hS.after hb
        clear hb
        refine ⟨hS.b, ?_⟩
        try simp only [Act.put, List.setIfInBounds_toArray, List.set_cons_zero, List.set_cons_succ]
        refine wpAnyH_all (rs := [7]) (by kernel_rfl) (by simp) (fun i hi => ?_)
        simp only [List.mem_cons, List.not_mem_nil, or_false] at hi
        subst hi
        refine .inl ?_
        go_simp
        refine (register_any B _).mono ?_
        rintro e wc ⟨rfl, hb⟩
        try replace rg4 := Rf.below rg4 hb
        try replace rg5 := Rf.below rg5 hb
        try replace ltg4 : g4 < _ := Nat.lt_of_lt_of_le ltg4 hb.size
        try replace ltg5 : g5 < _ := Nat.lt_of_lt_of_le ltg5 hb.size
        replace hS := hS.after hb
        clear hb
        refine ⟨hS.b, ?_⟩
        try simp only [Act.put, List.setIfInBounds_toArray, List.set_cons_zero, List.set_cons_succ]
        refine wpAnyH_all (rs := [10]) (by kernel_rfl) (by simp) (fun i hi => ?_)
        simp only [List.mem_cons, List.not_mem_nil, or_false] at hi
        subst hi
        refine .inl ?_
        refine o_store_R (d := none) rfl (pla (rg A)) rowP rg4 (pla_ok _) rfl rfl rfl ?_
        replace hS := hS.setO (g := g4) (c := pla (rg A)) neg4
        replace rg5 := rg5.setOther (g := g4) (by omega) (pla (rg A))
        replace rg4 := rg4.set (pla_ok (rg A))
        refine ⟨hS.b, ?_⟩
        try simp only [Act.put, List.setIfInBounds_toArray, List.set_cons_zero, List.set_cons_succ]
        refine wpAnyH_all (rs := [11]) (by kernel_rfl) (by simp) (fun i hi => ?_)
        simp only [List.mem_cons, List.not_mem_nil, or_false] at hi
        subst hi
        refine .inl ?_
        refine o_store_R (d := none) rfl (pla (rg B)) rowP rg5 (pla_ok _) rfl rfl rfl ?_
        replace hS := hS.setO (g := g5) (c := pla (rg B)) neg5
        replace rg4 := rg4.setOther (g := g5) (by omega) (pla (rg B))
        replace rg5 := rg5.set (pla_ok (rg B))
        refine ⟨hS.b, ?_⟩
        try simp only [Act.put, List.setIfInBounds_toArray, List.set_cons_zero, List.set_cons_succ]
        refine wpAnyH_done (by kernel_rfl) ?_ _
        exact hQ _ _ _ ⟨hS, rg4, rg5, neg4, neg5, dis⟩
  intro g4 g5 W5 hB
  have HT := Lib.hid (hB.tq HAt.out)
  have HN := Lib.hid (hN.below hB.p.k)
  clear hB hK0 hN
  have qx := HT.out.b.h2.x
  have HE4 : Hid (Rf 49 2 W5 g4 #[.int .i64 1, .int .i64 A]) := Lib.hid HT.out.b.h0
  have HE5 : Hid (Rf 49 2 W5 g5 #[.int .i64 1, .int .i64 B]) := Lib.hid HT.out.b.h1
  go_wp2
  go_end0
  refine ⟨rfl, ?_, HT.out.k⟩
  have := HT.out.a
  simpa using this
set_option maxRecDepth 20000 in
theorem behind_some {N : Nat} {w : World} {T : Nat} {l : List Tch} (h : At N w T l) (hl : l.length ≤ 3) (s : Sta) (op : Int) (hop : op = 2 ∨ op = 3 ∨ op = 4 ∨ op = 5 ∨ op = 6 ∨ op = 7 ∨ op = 8 ∨ op = 9 ∨ op = 10 ∨ op = 11 ∨ op = 12 ∨ op = 20 ∨ op = 21 ∨ op = 26 ∨ op = 27) (A B : Nat) (m : Int) (hA : A < 8) (hB : B < 8) (hN : Nam w) (hg : 0 < N) (hm : op = 26 ∨ op = 27 → 0 ≤ m ∧ m < 6) (LR : List Tch) (hR : Hid (LR = behindT ⟨op, A, B, m⟩)) :
    Calls Tryd.prog 30 #[.pointer (some ⟨T, 0, none⟩), .agg (xc s ⟨op, A, B, m⟩)] w fun e w' => e = .returned (.tuple #[]) ∧ At N w' T (l ++ LR) ∧ Kp N w w' := by
  have HAt := Lib.hid h
  have HM := Lib.hid hm
  clear hm
  have hK0 := (Pb.new w (x_ok s ⟨op, A, B, m⟩) (ty := 58) (by decide) (by decide)).drew
  clear h
  go_enter Tryd.func30, Tryd.ntmps30
  go_wp2
  refine cut_at (fun g4 g5 => ⟨#[Value.pointer (some ⟨T, 0, none⟩), Value.agg (xc s ⟨op, A, B, m⟩), undef, Value.pointer (some ⟨w.heap.size, 0, none⟩), Value.pointer (some ⟨g4, 0, none⟩), Value.pointer (some ⟨g5, 0, none⟩), Value.pointer (some ⟨w.heap.size, 16, none⟩), Value.pointer (some ⟨w.heap.size, 17, none⟩), Value.int .i64 A, Value.agg #[Value.int .i64 1, Value.int .i64 A], Value.pointer (some ⟨w.heap.size, 16, none⟩), Value.pointer (some ⟨w.heap.size, 18, none⟩), Value.int .i64 B, Value.agg #[Value.int .i64 1, Value.int .i64 B], undef, undef, undef, undef, undef, undef, undef, undef, undef, undef, undef, undef, undef, undef, undef, undef, undef, undef, undef, undef, undef, undef, undef, undef, undef, undef, undef, undef, undef, undef, undef, undef, undef, undef, undef, undef, undef, undef, undef, undef, undef, undef, undef, undef, undef, undef, undef, undef, undef, undef, undef, undef, undef, undef, undef, undef, undef, undef, undef, undef, undef, undef], []⟩) (fun g4 g5 W' => Bh w s ⟨op, A, B, m⟩ A B g4 g5 W') (fun hQ => ?_) ?_
  · refine wp_region_held_drew (S := fun W => Bks W [(w.heap.size, 58, 20, xc s ⟨op, A, B, m⟩)]) (by kernel_rfl) hK0.b (fun _ => ?_)
    have hS := hK0
    refine take_d (i := 0) (d := some 6) (v := ?_) rfl rfl (by kernel_rfl) (by kernel_rfl) (by kernel_rfl) (fun _ _ _ h => h) (.inl ⟨by rfl, ?_⟩) hS.b ?_
    rotate_left
    · intro W hW
      go_simp
      try with_reducible rfl
    try simp only [Act.put, List.setIfInBounds_toArray, List.set_cons_zero, List.set_cons_succ]
    refine take_d (i := 1) (d := some 7) (v := ?_) rfl rfl (by kernel_rfl) (by kernel_rfl) (by kernel_rfl) (fun _ _ _ h => h) (.inl ⟨by rfl, ?_⟩) hS.b ?_
    rotate_left
    · intro W hW
      go_simp
      try with_reducible rfl
    try simp only [Act.put, List.setIfInBounds_toArray, List.set_cons_zero, List.set_cons_succ]
    refine take_d (i := 2) (d := some 8) (v := ?_) rfl rfl (by kernel_rfl) (by kernel_rfl) (by kernel_rfl) (fun _ _ _ h => h) (.inl ⟨by rfl, ?_⟩) hS.b ?_
    rotate_left
    · intro W hW
      have q := hW.h0.x
      go_simp
      try with_reducible rfl
    try simp only [Act.put, List.setIfInBounds_toArray, List.set_cons_zero, List.set_cons_succ]
    refine take_d (i := 4) (d := some 10) (v := ?_) rfl rfl (by kernel_rfl) (by kernel_rfl) (by kernel_rfl) (fun _ _ _ h => h) (.inl ⟨by rfl, ?_⟩) hS.b ?_
    rotate_left
    · intro W hW
      go_simp
      try with_reducible rfl
    try simp only [Act.put, List.setIfInBounds_toArray, List.set_cons_zero, List.set_cons_succ]
    refine take_d (i := 5) (d := some 11) (v := ?_) rfl rfl (by kernel_rfl) (by kernel_rfl) (by kernel_rfl) (fun _ _ _ h => h) (.inl ⟨by rfl, ?_⟩) hS.b ?_
    rotate_left
    · intro W hW
      go_simp
      try with_reducible rfl
    try simp only [Act.put, List.setIfInBounds_toArray, List.set_cons_zero, List.set_cons_succ]
    refine take_d (i := 6) (d := some 12) (v := ?_) rfl rfl (by kernel_rfl) (by kernel_rfl) (by kernel_rfl) (fun _ _ _ h => h) (.inl ⟨by rfl, ?_⟩) hS.b ?_
    rotate_left
    · intro W hW
      have q := hW.h0.x
      go_simp
      try with_reducible rfl
    try simp only [Act.put, List.setIfInBounds_toArray, List.set_cons_zero, List.set_cons_succ]
    refine wpAnyH_all (rs := [3,8,9]) (by kernel_rfl) (by simp) (fun i hi => ?_)
    simp only [List.mem_cons, List.not_mem_nil, or_false] at hi
    rcases hi with rfl | rfl | rfl
    · refine .inl ?_
      go_simp
      refine (register_any A _).mono ?_
      rintro e wc ⟨rfl, hb⟩
      try replace rg4 := Rf.below rg4 hb
      try replace rg5 := Rf.below rg5 hb
      try replace ltg4 : g4 < _ := Nat.lt_of_lt_of_le ltg4 hb.size
      try replace ltg5 : g5 < _ := Nat.lt_of_lt_of_le ltg5 hb.size
      replace hS := hS.after hb
      clear hb
      refine ⟨hS.b, ?_⟩
      try simp only [Act.put, List.setIfInBounds_toArray, List.set_cons_zero, List.set_cons_succ]
      refine wpAnyH_all (rs := [7,8,9]) (by kernel_rfl) (by simp) (fun i hi => ?_)
      simp only [List.mem_cons, List.not_mem_nil, or_false] at hi
      rcases hi with rfl | rfl | rfl
      · refine .inl ?_
        go_simp
        refine (register_any B _).mono ?_
        rintro e wc ⟨rfl, hb⟩
        try replace rg4 := Rf.below rg4 hb
        try replace rg5 := Rf.below rg5 hb
        try replace ltg4 : g4 < _ := Nat.lt_of_lt_of_le ltg4 hb.size
        try replace ltg5 : g5 < _ := Nat.lt_of_lt_of_le ltg5 hb.size
        replace hS := hS.after hb
        clear hb
        refine ⟨hS.b, ?_⟩
        try simp only [Act.put, List.setIfInBounds_toArray, List.set_cons_zero, List.set_cons_succ]
        refine wpAnyH_all (rs := [8,9]) (by kernel_rfl) (by simp) (fun i hi => ?_)
        simp only [List.mem_cons, List.not_mem_nil, or_false] at hi
        rcases hi with rfl | rfl
        · refine .inl ?_
          refine o_alloc (ty := 49) (d := some 4) rfl (pla ⟨0, 0⟩) (pla_ok _) (by go_simp; try rfl) ?_
          intro g4 WA eg4 rg4 hb ltg4
          try have dis : g4 ≠ g5 := by omega
          try replace rg5 := Rf.below rg5 hb
          try replace ltg5 : g5 < _ := Nat.lt_of_lt_of_le ltg5 hb.size
          have neg4 : w.heap.size < g4 := by have := hS.b.h0.lt; omega
          replace hS := hS.after hb
          clear hb
          refine ⟨hS.b, ?_⟩
          try simp only [Act.put, List.setIfInBounds_toArray, List.set_cons_zero, List.set_cons_succ]
          refine wpAnyH_all (rs := [9]) (by kernel_rfl) (by simp) (fun i hi => ?_)
          simp only [List.mem_cons, List.not_mem_nil, or_false] at hi
          subst hi
          refine .inl ?_
          refine o_alloc (ty := 49) (d := some 5) rfl (pla ⟨0, 0⟩) (pla_ok _) (by go_simp; try rfl) ?_
          intro g5 WA eg5 rg5 hb ltg5
          try have dis : g4 ≠ g5 := by omega
          try replace rg4 := Rf.below rg4 hb
          try replace ltg4 : g4 < _ := Nat.lt_of_lt_of_le ltg4 hb.size
          have neg5 : w.heap.size < g5 := by have := hS.b.h0.lt; omega
          replace hS := hS.after hb
          clear hb
          refine ⟨hS.b, ?_⟩
          try simp only [Act.put, List.setIfInBounds_toArray, List.set_cons_zero, List.set_cons_succ]
          refine wpAnyH_all (rs := [10]) (by kernel_rfl) (by simp) (fun i hi => ?_)
          simp only [List.mem_cons, List.not_mem_nil, or_false] at hi
          subst hi
          refine .inl ?_
          refine o_store_R (d := none) rfl (pla (rg A)) rowP rg4 (pla_ok _) rfl rfl rfl ?_
          replace hS := hS.setO (g := g4) (c := pla (rg A)) neg4
          replace rg5 := rg5.setOther (g := g4) (by omega) (pla (rg A))
          replace rg4 := rg4.set (pla_ok (rg A))
          refine ⟨hS.b, ?_⟩
          try simp only [Act.put, List.setIfInBounds_toArray, List.set_cons_zero, List.set_cons_succ]
          refine wpAnyH_all (rs := [11]) (by kernel_rfl) (by simp) (fun i hi => ?_)
          simp only [List.mem_cons, List.not_mem_nil, or_false] at hi
          subst hi
          refine .inl ?_
          refine o_store_R (d := none) rfl (pla (rg B)) rowP rg5 (pla_ok _) rfl rfl rfl ?_
          replace hS := hS.setO (g := g5) (c := pla (rg B)) neg5
          replace rg4 := rg4.setOther (g := g5) (by omega) (pla (rg B))
          replace rg5 := rg5.set (pla_ok (rg B))
          refine ⟨hS.b, ?_⟩
          try simp only [Act.put, List.setIfInBounds_toArray, List.set_cons_zero, List.set_cons_succ]
          refine wpAnyH_done (by kernel_rfl) ?_ _
          exact hQ _ _ _ ⟨hS, rg4, rg5, neg4, neg5, dis⟩
        · refine .inl ?_
          refine o_alloc (ty := 49) (d := some 5) rfl (pla ⟨0, 0⟩) (pla_ok _) (by go_simp; try rfl) ?_
          intro g5 WA eg5 rg5 hb ltg5
          try have dis : g4 ≠ g5 := by omega
          try replace rg4 := Rf.below rg4 hb
          try replace ltg4 : g4 < _ := Nat.lt_of_lt_of_le ltg4 hb.size
          have neg5 : w.heap.size < g5 := by have := hS.b.h0.lt; omega
          replace hS := hS.after hb
          clear hb
          refine ⟨hS.b, ?_⟩
          try simp only [Act.put, List.setIfInBounds_toArray, List.set_cons_zero, List.set_cons_succ]
          refine wpAnyH_all (rs := [8]) (by kernel_rfl) (by simp) (fun i hi => ?_)
          simp only [List.mem_cons, List.not_mem_nil, or_false] at hi
          subst hi
          refine .inl ?_
          refine o_alloc (ty := 49) (d := some 4) rfl (pla ⟨0, 0⟩) (pla_ok _) (by go_simp; try rfl) ?_
          intro g4 WA eg4 rg4 hb ltg4
          try have dis : g4 ≠ g5 := by omega
          try replace rg5 := Rf.below rg5 hb
          try replace ltg5 : g5 < _ := Nat.lt_of_lt_of_le ltg5 hb.size
          have neg4 : w.heap.size < g4 := by have := hS.b.h0.lt; omega
          replace hS := hS.after hb
          clear hb
          refine ⟨hS.b, ?_⟩
          try simp only [Act.put, List.setIfInBounds_toArray, List.set_cons_zero, List.set_cons_succ]
          refine wpAnyH_all (rs := [10]) (by kernel_rfl) (by simp) (fun i hi => ?_)
          simp only [List.mem_cons, List.not_mem_nil, or_false] at hi
          subst hi
          refine .inl ?_
          refine o_store_R (d := none) rfl (pla (rg A)) rowP rg4 (pla_ok _) rfl rfl rfl ?_
          replace hS := hS.setO (g := g4) (c := pla (rg A)) neg4
          replace rg5 := rg5.setOther (g := g4) (by omega) (pla (rg A))
          replace rg4 := rg4.set (pla_ok (rg A))
          refine ⟨hS.b, ?_⟩
          try simp only [Act.put, List.setIfInBounds_toArray, List.set_cons_zero, List.set_cons_succ]
          refine wpAnyH_all (rs := [11]) (by kernel_rfl) (by simp) (fun i hi => ?_)
          simp only [List.mem_cons, List.not_mem_nil, or_false] at hi
          subst hi
          refine .inl ?_
          refine o_store_R (d := none) rfl (pla (rg B)) rowP rg5 (pla_ok _) rfl rfl rfl ?_
          replace hS := hS.setO (g := g5) (c := pla (rg B)) neg5
          replace rg4 := rg4.setOther (g := g5) (by omega) (pla (rg B))
          replace rg5 := rg5.set (pla_ok (rg B))
          refine ⟨hS.b, ?_⟩
          try simp only [Act.put, List.setIfInBounds_toArray, List.set_cons_zero, List.set_cons_succ]
          refine wpAnyH_done (by kernel_rfl) ?_ _
          exact hQ _ _ _ ⟨hS, rg4, rg5, neg4, neg5, dis⟩
      · refine .inl ?_
        refine o_alloc (ty := 49) (d := some 4) rfl (pla ⟨0, 0⟩) (pla_ok _) (by go_simp; try rfl) ?_
        intro g4 WA eg4 rg4 hb ltg4
        try have dis : g4 ≠ g5 := by omega
        try replace rg5 := Rf.below rg5 hb
        try replace ltg5 : g5 < _ := Nat.lt_of_lt_of_le ltg5 hb.size
        have neg4 : w.heap.size < g4 := by have := hS.b.h0.lt; omega
        replace hS := hS.after hb
        clear hb
        refine ⟨hS.b, ?_⟩
        try simp only [Act.put, List.setIfInBounds_toArray, List.set_cons_zero, List.set_cons_succ]
        refine wpAnyH_all (rs := [7,9]) (by kernel_rfl) (by simp) (fun i hi => ?_)
        simp only [List.mem_cons, List.not_mem_nil, or_false] at hi
        rcases hi with rfl | rfl
        · refine .inl ?_
          go_simp
          refine (register_any B _).mono ?_
          rintro e wc ⟨rfl, hb⟩
          try replace rg4 := Rf.below rg4 hb
          try replace rg5 := Rf.below rg5 hb
          try replace ltg4 : g4 < _ := Nat.lt_of_lt_of_le ltg4 hb.size
          try replace ltg5 : g5 < _ := Nat.lt_of_lt_of_le ltg5 hb.size
          replace hS := hS.after hb
          clear hb
          refine ⟨hS.b, ?_⟩
          try simp only [Act.put, List.setIfInBounds_toArray, List.set_cons_zero, List.set_cons_succ]
          refine wpAnyH_all (rs := [9]) (by kernel_rfl) (by simp) (fun i hi => ?_)
          simp only [List.mem_cons, List.not_mem_nil, or_false] at hi
          subst hi
          refine .inl ?_
          refine o_alloc (ty := 49) (d := some 5) rfl (pla ⟨0, 0⟩) (pla_ok _) (by go_simp; try rfl) ?_
          intro g5 WA eg5 rg5 hb ltg5
          try have dis : g4 ≠ g5 := by omega
          try replace rg4 := Rf.below rg4 hb
          try replace ltg4 : g4 < _ := Nat.lt_of_lt_of_le ltg4 hb.size
          have neg5 : w.heap.size < g5 := by have := hS.b.h0.lt; omega
          replace hS := hS.after hb
          clear hb
          refine ⟨hS.b, ?_⟩
          try simp only [Act.put, List.setIfInBounds_toArray, List.set_cons_zero, List.set_cons_succ]
          refine wpAnyH_all (rs := [10]) (by kernel_rfl) (by simp) (fun i hi => ?_)
          simp only [List.mem_cons, List.not_mem_nil, or_false] at hi
          subst hi
          refine .inl ?_
          refine o_store_R (d := none) rfl (pla (rg A)) rowP rg4 (pla_ok _) rfl rfl rfl ?_
          replace hS := hS.setO (g := g4) (c := pla (rg A)) neg4
          replace rg5 := rg5.setOther (g := g4) (by omega) (pla (rg A))
          replace rg4 := rg4.set (pla_ok (rg A))
          refine ⟨hS.b, ?_⟩
          try simp only [Act.put, List.setIfInBounds_toArray, List.set_cons_zero, List.set_cons_succ]
          refine wpAnyH_all (rs := [11]) (by kernel_rfl) (by simp) (fun i hi => ?_)
          simp only [List.mem_cons, List.not_mem_nil, or_false] at hi
          subst hi
          refine .inl ?_
          refine o_store_R (d := none) rfl (pla (rg B)) rowP rg5 (pla_ok _) rfl rfl rfl ?_
          replace hS := hS.setO (g := g5) (c := pla (rg B)) neg5
          replace rg4 := rg4.setOther (g := g5) (by omega) (pla (rg B))
          replace rg5 := rg5.set (pla_ok (rg B))
          refine ⟨hS.b, ?_⟩
          try simp only [Act.put, List.setIfInBounds_toArray, List.set_cons_zero, List.set_cons_succ]
          refine wpAnyH_done (by kernel_rfl) ?_ _
          exact hQ _ _ _ ⟨hS, rg4, rg5, neg4, neg5, dis⟩
        · refine .inl ?_
          refine o_alloc (ty := 49) (d := some 5) rfl (pla ⟨0, 0⟩) (pla_ok _) (by go_simp; try rfl) ?_
          intro g5 WA eg5 rg5 hb ltg5
          try have dis : g4 ≠ g5 := by omega
          try replace rg4 := Rf.below rg4 hb
          try replace ltg4 : g4 < _ := Nat.lt_of_lt_of_le ltg4 hb.size
          have neg5 : w.heap.size < g5 := by have := hS.b.h0.lt; omega
          replace hS := hS.after hb
          clear hb
          refine ⟨hS.b, ?_⟩
          try simp only [Act.put, List.setIfInBounds_toArray, List.set_cons_zero, List.set_cons_succ]
          refine wpAnyH_all (rs := [7]) (by kernel_rfl) (by simp) (fun i hi => ?_)
          simp only [List.mem_cons, List.not_mem_nil, or_false] at hi
          subst hi
          refine .inl ?_
          go_simp
          refine (register_any B _).mono ?_
          rintro e wc ⟨rfl, hb⟩
          try replace rg4 := Rf.below rg4 hb
          try replace rg5 := Rf.below rg5 hb
          try replace ltg4 : g4 < _ := Nat.lt_of_lt_of_le ltg4 hb.size
          try replace ltg5 : g5 < _ := Nat.lt_of_lt_of_le ltg5 hb.size
          replace hS := hS.after hb
          clear hb
          refine ⟨hS.b, ?_⟩
          try simp only [Act.put, List.setIfInBounds_toArray, List.set_cons_zero, List.set_cons_succ]
          refine wpAnyH_all (rs := [10]) (by kernel_rfl) (by simp) (fun i hi => ?_)
          simp only [List.mem_cons, List.not_mem_nil, or_false] at hi
          subst hi
          refine .inl ?_
          refine o_store_R (d := none) rfl (pla (rg A)) rowP rg4 (pla_ok _) rfl rfl rfl ?_
          replace hS := hS.setO (g := g4) (c := pla (rg A)) neg4
          replace rg5 := rg5.setOther (g := g4) (by omega) (pla (rg A))
          replace rg4 := rg4.set (pla_ok (rg A))
          refine ⟨hS.b, ?_⟩
          try simp only [Act.put, List.setIfInBounds_toArray, List.set_cons_zero, List.set_cons_succ]
          refine wpAnyH_all (rs := [11]) (by kernel_rfl) (by simp) (fun i hi => ?_)
          simp only [List.mem_cons, List.not_mem_nil, or_false] at hi
          subst hi
          refine .inl ?_
          refine o_store_R (d := none) rfl (pla (rg B)) rowP rg5 (pla_ok _) rfl rfl rfl ?_
          replace hS := hS.setO (g := g5) (c := pla (rg B)) neg5
          replace rg4 := rg4.setOther (g := g5) (by omega) (pla (rg B))
          replace rg5 := rg5.set (pla_ok (rg B))
          refine ⟨hS.b, ?_⟩
          try simp only [Act.put, List.setIfInBounds_toArray, List.set_cons_zero, List.set_cons_succ]
          refine wpAnyH_done (by kernel_rfl) ?_ _
          exact hQ _ _ _ ⟨hS, rg4, rg5, neg4, neg5, dis⟩
      · refine .inl ?_
        refine o_alloc (ty := 49) (d := some 5) rfl (pla ⟨0, 0⟩) (pla_ok _) (by go_simp; try rfl) ?_
        intro g5 WA eg5 rg5 hb ltg5
        try have dis : g4 ≠ g5 := by omega
        try replace rg4 := Rf.below rg4 hb
        try replace ltg4 : g4 < _ := Nat.lt_of_lt_of_le ltg4 hb.size
        have neg5 : w.heap.size < g5 := by have := hS.b.h0.lt; omega
        replace hS := hS.after hb
        clear hb
        refine ⟨hS.b, ?_⟩
        try simp only [Act.put, List.setIfInBounds_toArray, List.set_cons_zero, List.set_cons_succ]
        refine wpAnyH_all (rs := [7,8]) (by kernel_rfl) (by simp) (fun i hi => ?_)
        simp only [List.mem_cons, List.not_mem_nil, or_false] at hi
        rcases hi with rfl | rfl
        · refine .inl ?_
          go_simp
          refine (register_any B _).mono ?_
          rintro e wc ⟨rfl, hb⟩
          try replace rg4 := Rf.below rg4 hb
          try replace rg5 := Rf.below rg5 hb
          try replace ltg4 : g4 < _ := Nat.lt_of_lt_of_le ltg4 hb.size
          try replace ltg5 : g5 < _ := Nat.lt_of_lt_of_le ltg5 hb.size
          replace hS := hS.after hb
          clear hb
          refine ⟨hS.b, ?_⟩
          try simp only [Act.put, List.setIfInBounds_toArray, List.set_cons_zero, List.set_cons_succ]
          refine wpAnyH_all (rs := [8]) (by kernel_rfl) (by simp) (fun i hi => ?_)
          simp only [List.mem_cons, List.not_mem_nil, or_false] at hi
          subst hi
          refine .inl ?_
          refine o_alloc (ty := 49) (d := some 4) rfl (pla ⟨0, 0⟩) (pla_ok _) (by go_simp; try rfl) ?_
          intro g4 WA eg4 rg4 hb ltg4
          try have dis : g4 ≠ g5 := by omega
          try replace rg5 := Rf.below rg5 hb
          try replace ltg5 : g5 < _ := Nat.lt_of_lt_of_le ltg5 hb.size
          have neg4 : w.heap.size < g4 := by have := hS.b.h0.lt; omega
          replace hS := hS.after hb
          clear hb
          refine ⟨hS.b, ?_⟩
          try simp only [Act.put, List.setIfInBounds_toArray, List.set_cons_zero, List.set_cons_succ]
          refine wpAnyH_all (rs := [10]) (by kernel_rfl) (by simp) (fun i hi => ?_)
          simp only [List.mem_cons, List.not_mem_nil, or_false] at hi
          subst hi
          refine .inl ?_
          refine o_store_R (d := none) rfl (pla (rg A)) rowP rg4 (pla_ok _) rfl rfl rfl ?_
          replace hS := hS.setO (g := g4) (c := pla (rg A)) neg4
          replace rg5 := rg5.setOther (g := g4) (by omega) (pla (rg A))
          replace rg4 := rg4.set (pla_ok (rg A))
          refine ⟨hS.b, ?_⟩
          try simp only [Act.put, List.setIfInBounds_toArray, List.set_cons_zero, List.set_cons_succ]
          refine wpAnyH_all (rs := [11]) (by kernel_rfl) (by simp) (fun i hi => ?_)
          simp only [List.mem_cons, List.not_mem_nil, or_false] at hi
          subst hi
          refine .inl ?_
          refine o_store_R (d := none) rfl (pla (rg B)) rowP rg5 (pla_ok _) rfl rfl rfl ?_
          replace hS := hS.setO (g := g5) (c := pla (rg B)) neg5
          replace rg4 := rg4.setOther (g := g5) (by omega) (pla (rg B))
          replace rg5 := rg5.set (pla_ok (rg B))
          refine ⟨hS.b, ?_⟩
          try simp only [Act.put, List.setIfInBounds_toArray, List.set_cons_zero, List.set_cons_succ]
          refine wpAnyH_done (by kernel_rfl) ?_ _
          exact hQ _ _ _ ⟨hS, rg4, rg5, neg4, neg5, dis⟩
        · refine .inl ?_
          refine o_alloc (ty := 49) (d := some 4) rfl (pla ⟨0, 0⟩) (pla_ok _) (by go_simp; try rfl) ?_
          intro g4 WA eg4 rg4 hb ltg4
          try have dis : g4 ≠ g5 := by omega
          try replace rg5 := Rf.below rg5 hb
          try replace ltg5 : g5 < _ := Nat.lt_of_lt_of_le ltg5 hb.size
          have neg4 : w.heap.size < g4 := by have := hS.b.h0.lt; omega
          replace hS := hS.after hb
          clear hb
          refine ⟨hS.b, ?_⟩
          try simp only [Act.put, List.setIfInBounds_toArray, List.set_cons_zero, List.set_cons_succ]
          refine wpAnyH_all (rs := [7]) (by kernel_rfl) (by simp) (fun i hi => ?_)
          simp only [List.mem_cons, List.not_mem_nil, or_false] at hi
          subst hi
          refine .inl ?_
          go_simp
          refine (register_any B _).mono ?_
          rintro e wc ⟨rfl, hb⟩
          try replace rg4 := Rf.below rg4 hb
          try replace rg5 := Rf.below rg5 hb
          try replace ltg4 : g4 < _ := Nat.lt_of_lt_of_le ltg4 hb.size
          try replace ltg5 : g5 < _ := Nat.lt_of_lt_of_le ltg5 hb.size
          replace hS := hS.after hb
          clear hb
          refine ⟨hS.b, ?_⟩
          try simp only [Act.put, List.setIfInBounds_toArray, List.set_cons_zero, List.set_cons_succ]
          refine wpAnyH_all (rs := [10]) (by kernel_rfl) (by simp) (fun i hi => ?_)
          simp only [List.mem_cons, List.not_mem_nil, or_false] at hi
          subst hi
          refine .inl ?_
          refine o_store_R (d := none) rfl (pla (rg A)) rowP rg4 (pla_ok _) rfl rfl rfl ?_
          replace hS := hS.setO (g := g4) (c := pla (rg A)) neg4
          replace rg5 := rg5.setOther (g := g4) (by omega) (pla (rg A))
          replace rg4 := rg4.set (pla_ok (rg A))
          refine ⟨hS.b, ?_⟩
          try simp only [Act.put, List.setIfInBounds_toArray, List.set_cons_zero, List.set_cons_succ]
          refine wpAnyH_all (rs := [11]) (by kernel_rfl) (by simp) (fun i hi => ?_)
          simp only [List.mem_cons, List.not_mem_nil, or_false] at hi
          subst hi
          refine .inl ?_
          refine o_store_R (d := none) rfl (pla (rg B)) rowP rg5 (pla_ok _) rfl rfl rfl ?_
          replace hS := hS.setO (g := g5) (c := pla (rg B)) neg5
          replace rg4 := rg4.setOther (g := g5) (by omega) (pla (rg B))
          replace rg5 := rg5.set (pla_ok (rg B))
          refine ⟨hS.b, ?_⟩
          try simp only [Act.put, List.setIfInBounds_toArray, List.set_cons_zero, List.set_cons_succ]
          refine wpAnyH_done (by kernel_rfl) ?_ _
          exact hQ _ _ _ ⟨hS, rg4, rg5, neg4, neg5, dis⟩
    · refine .inl ?_
      refine o_alloc (ty := 49) (d := some 4) rfl (pla ⟨0, 0⟩) (pla_ok _) (by go_simp; try rfl) ?_
      intro g4 WA eg4 rg4 hb ltg4
      try have dis : g4 ≠ g5 := by omega
      try replace rg5 := Rf.below rg5 hb
      try replace ltg5 : g5 < _ := Nat.lt_of_lt_of_le ltg5 hb.size
      have neg4 : w.heap.size < g4 := by have := hS.b.h0.lt; omega
      replace hS := hS.after hb
      clear hb
      refine ⟨hS.b, ?_⟩
      try simp only [Act.put, List.setIfInBounds_toArray, List.set_cons_zero, List.set_cons_succ]
      refine wpAnyH_all (rs := [3,9]) (by kernel_rfl) (by simp) (fun i hi => ?_)
      simp only [List.mem_cons, List.not_mem_nil, or_false] at hi
      rcases hi with rfl | rfl
      · refine .inl ?_
        go_simp
        refine (register_any A _).mono ?_
        rintro e wc ⟨rfl, hb⟩
        try replace rg4 := Rf.below rg4 hb
        try replace rg5 := Rf.below rg5 hb
        try replace ltg4 : g4 < _ := Nat.lt_of_lt_of_le ltg4 hb.size
        try replace ltg5 : g5 < _ := Nat.lt_of_lt_of_le ltg5 hb.size
        replace hS := hS.after hb
        clear hb
        refine ⟨hS.b, ?_⟩
        try simp only [Act.put, List.setIfInBounds_toArray, List.set_cons_zero, List.set_cons_succ]
        refine wpAnyH_all (rs := [7,9]) (by kernel_rfl) (by simp) (fun i hi => ?_)
        simp only [List.mem_cons, List.not_mem_nil, or_false] at hi
        rcases hi with rfl | rfl
        · refine .inl ?_
          go_simp
          refine (register_any B _).mono ?_
          rintro e wc ⟨rfl, hb⟩
          try replace rg4 := Rf.below rg4 hb
          try replace rg5 := Rf.below rg5 hb
          try replace ltg4 : g4 < _ := Nat.lt_of_lt_of_le ltg4 hb.size
          try replace ltg5 : g5 < _ := Nat.lt_of_lt_of_le ltg5 hb.size
          replace hS := hS.after hb
          clear hb
          refine ⟨hS.b, ?_⟩
          try simp only [Act.put, List.setIfInBounds_toArray, List.set_cons_zero, List.set_cons_succ]
          refine wpAnyH_all (rs := [9]) (by kernel_rfl) (by simp) (fun i hi => ?_)
          simp only [List.mem_cons, List.not_mem_nil, or_false] at hi
          subst hi
          refine .inl ?_
          refine o_alloc (ty := 49) (d := some 5) rfl (pla ⟨0, 0⟩) (pla_ok _) (by go_simp; try rfl) ?_
          intro g5 WA eg5 rg5 hb ltg5
          try have dis : g4 ≠ g5 := by omega
          try replace rg4 := Rf.below rg4 hb
          try replace ltg4 : g4 < _ := Nat.lt_of_lt_of_le ltg4 hb.size
          have neg5 : w.heap.size < g5 := by have := hS.b.h0.lt; omega
          replace hS := hS.after hb
          clear hb
          refine ⟨hS.b, ?_⟩
          try simp only [Act.put, List.setIfInBounds_toArray, List.set_cons_zero, List.set_cons_succ]
          refine wpAnyH_all (rs := [10]) (by kernel_rfl) (by simp) (fun i hi => ?_)
          simp only [List.mem_cons, List.not_mem_nil, or_false] at hi
          subst hi
          refine .inl ?_
          refine o_store_R (d := none) rfl (pla (rg A)) rowP rg4 (pla_ok _) rfl rfl rfl ?_
          replace hS := hS.setO (g := g4) (c := pla (rg A)) neg4
          replace rg5 := rg5.setOther (g := g4) (by omega) (pla (rg A))
          replace rg4 := rg4.set (pla_ok (rg A))
          refine ⟨hS.b, ?_⟩
          try simp only [Act.put, List.setIfInBounds_toArray, List.set_cons_zero, List.set_cons_succ]
          refine wpAnyH_all (rs := [11]) (by kernel_rfl) (by simp) (fun i hi => ?_)
          simp only [List.mem_cons, List.not_mem_nil, or_false] at hi
          subst hi
          refine .inl ?_
          refine o_store_R (d := none) rfl (pla (rg B)) rowP rg5 (pla_ok _) rfl rfl rfl ?_
          replace hS := hS.setO (g := g5) (c := pla (rg B)) neg5
          replace rg4 := rg4.setOther (g := g5) (by omega) (pla (rg B))
          replace rg5 := rg5.set (pla_ok (rg B))
          refine ⟨hS.b, ?_⟩
          try simp only [Act.put, List.setIfInBounds_toArray, List.set_cons_zero, List.set_cons_succ]
          refine wpAnyH_done (by kernel_rfl) ?_ _
          exact hQ _ _ _ ⟨hS, rg4, rg5, neg4, neg5, dis⟩
        · refine .inl ?_
          refine o_alloc (ty := 49) (d := some 5) rfl (pla ⟨0, 0⟩) (pla_ok _) (by go_simp; try rfl) ?_
          intro g5 WA eg5 rg5 hb ltg5
          try have dis : g4 ≠ g5 := by omega
          try replace rg4 := Rf.below rg4 hb
          try replace ltg4 : g4 < _ := Nat.lt_of_lt_of_le ltg4 hb.size
          have neg5 : w.heap.size < g5 := by have := hS.b.h0.lt; omega
          replace hS := hS.after hb
          clear hb
          refine ⟨hS.b, ?_⟩
          try simp only [Act.put, List.setIfInBounds_toArray, List.set_cons_zero, List.set_cons_succ]
          refine wpAnyH_all (rs := [7]) (by kernel_rfl) (by simp) (fun i hi => ?_)
          simp only [List.mem_cons, List.not_mem_nil, or_false] at hi
          subst hi
          refine .inl ?_
          go_simp
          refine (register_any B _).mono ?_
          rintro e wc ⟨rfl, hb⟩
          try replace rg4 := Rf.below rg4 hb
          try replace rg5 := Rf.below rg5 hb
          try replace ltg4 : g4 < _ := Nat.lt_of_lt_of_le ltg4 hb.size
          try replace ltg5 : g5 < _ := Nat.lt_of_lt_of_le ltg5 hb.size
          replace hS := hS.after hb
          clear hb
          refine ⟨hS.b, ?_⟩
          try simp only [Act.put, List.setIfInBounds_toArray, List.set_cons_zero, List.set_cons_succ]
          refine wpAnyH_all (rs := [10]) (by kernel_rfl) (by simp) (fun i hi => ?_)
          simp only [List.mem_cons, List.not_mem_nil, or_false] at hi
          subst hi
          refine .inl ?_
          refine o_store_R (d := none) rfl (pla (rg A)) rowP rg4 (pla_ok _) rfl rfl rfl ?_
          replace hS := hS.setO (g := g4) (c := pla (rg A)) neg4
          replace rg5 := rg5.setOther (g := g4) (by omega) (pla (rg A))
          replace rg4 := rg4.set (pla_ok (rg A))
          refine ⟨hS.b, ?_⟩
          try simp only [Act.put, List.setIfInBounds_toArray, List.set_cons_zero, List.set_cons_succ]
          refine wpAnyH_all (rs := [11]) (by kernel_rfl) (by simp) (fun i hi => ?_)
          simp only [List.mem_cons, List.not_mem_nil, or_false] at hi
          subst hi
          refine .inl ?_
          refine o_store_R (d := none) rfl (pla (rg B)) rowP rg5 (pla_ok _) rfl rfl rfl ?_
          replace hS := hS.setO (g := g5) (c := pla (rg B)) neg5
          replace rg4 := rg4.setOther (g := g5) (by omega) (pla (rg B))
          replace rg5 := rg5.set (pla_ok (rg B))
          refine ⟨hS.b, ?_⟩
          try simp only [Act.put, List.setIfInBounds_toArray, List.set_cons_zero, List.set_cons_succ]
          refine wpAnyH_done (by kernel_rfl) ?_ _
          exact hQ _ _ _ ⟨hS, rg4, rg5, neg4, neg5, dis⟩
      · refine .inl ?_
        refine o_alloc (ty := 49) (d := some 5) rfl (pla ⟨0, 0⟩) (pla_ok _) (by go_simp; try rfl) ?_
        intro g5 WA eg5 rg5 hb ltg5
        try have dis : g4 ≠ g5 := by omega
        try replace rg4 := Rf.below rg4 hb
        try replace ltg4 : g4 < _ := Nat.lt_of_lt_of_le ltg4 hb.size
        have neg5 : w.heap.size < g5 := by have := hS.b.h0.lt; omega
        replace hS := hS.after hb
        clear hb
        refine ⟨hS.b, ?_⟩
        try simp only [Act.put, List.setIfInBounds_toArray, List.set_cons_zero, List.set_cons_succ]
        refine wpAnyH_all (rs := [3]) (by kernel_rfl) (by simp) (fun i hi => ?_)
        simp only [List.mem_cons, List.not_mem_nil, or_false] at hi
        subst hi
        refine .inl ?_
        go_simp
        refine (register_any A _).mono ?_
        rintro e wc ⟨rfl, hb⟩
        try replace rg4 := Rf.below rg4 hb
        try replace rg5 := Rf.below rg5 hb
        try replace ltg4 : g4 < _ := Nat.lt_of_lt_of_le ltg4 hb.size
        try replace ltg5 : g5 < _ := Nat.lt_of_lt_of_le ltg5 hb.size
        replace hS := hS.after hb
        clear hb
        refine ⟨hS.b, ?_⟩
        try simp only [Act.put, List.setIfInBounds_toArray, List.set_cons_zero, List.set_cons_succ]
        refine wpAnyH_all (rs := [7]) (by kernel_rfl) (by simp) (fun i hi => ?_)
        simp only [List.mem_cons, List.not_mem_nil, or_false] at hi
        subst hi
        refine .inl ?_
        go_simp
        refine (register_any B _).mono ?_
        rintro e wc ⟨rfl, hb⟩
        try replace rg4 := Rf.below rg4 hb
        try replace rg5 := Rf.below rg5 hb
        try replace ltg4 : g4 < _ := Nat.lt_of_lt_of_le ltg4 hb.size
        try replace ltg5 : g5 < _ := Nat.lt_of_lt_of_le ltg5 hb.size
        replace hS := hS.after hb
        clear hb
        refine ⟨hS.b, ?_⟩
        try simp only [Act.put, List.setIfInBounds_toArray, List.set_cons_zero, List.set_cons_succ]
        refine wpAnyH_all (rs := [10]) (by kernel_rfl) (by simp) (fun i hi => ?_)
        simp only [List.mem_cons, List.not_mem_nil, or_false] at hi
        subst hi
        refine .inl ?_
        refine o_store_R (d := none) rfl (pla (rg A)) rowP rg4 (pla_ok _) rfl rfl rfl ?_
        replace hS := hS.setO (g := g4) (c := pla (rg A)) neg4
        replace rg5 := rg5.setOther (g := g4) (by omega) (pla (rg A))
        replace rg4 := rg4.set (pla_ok (rg A))
        refine ⟨hS.b, ?_⟩
        try simp only [Act.put, List.setIfInBounds_toArray, List.set_cons_zero, List.set_cons_succ]
        refine wpAnyH_all (rs := [11]) (by kernel_rfl) (by simp) (fun i hi => ?_)
        simp only [List.mem_cons, List.not_mem_nil, or_false] at hi
        subst hi
        refine .inl ?_
        refine o_store_R (d := none) rfl (pla (rg B)) rowP rg5 (pla_ok _) rfl rfl rfl ?_
        replace hS := hS.setO (g := g5) (c := pla (rg B)) neg5
        replace rg4 := rg4.setOther (g := g5) (by omega) (pla (rg B))
        replace rg5 := rg5.set (pla_ok (rg B))
        refine ⟨hS.b, ?_⟩
        try simp only [Act.put, List.setIfInBounds_toArray, List.set_cons_zero, List.set_cons_succ]
        refine wpAnyH_done (by kernel_rfl) ?_ _
        exact hQ _ _ _ ⟨hS, rg4, rg5, neg4, neg5, dis⟩
    · refine .inl ?_
      refine o_alloc (ty := 49) (d := some 5) rfl (pla ⟨0, 0⟩) (pla_ok _) (by go_simp; try rfl) ?_
      intro g5 WA eg5 rg5 hb ltg5
      try have dis : g4 ≠ g5 := by omega
      try replace rg4 := Rf.below rg4 hb
      try replace ltg4 : g4 < _ := Nat.lt_of_lt_of_le ltg4 hb.size
      have neg5 : w.heap.size < g5 := by have := hS.b.h0.lt; omega
      replace hS := hS.after hb
      clear hb
      refine ⟨hS.b, ?_⟩
      try simp only [Act.put, List.setIfInBounds_toArray, List.set_cons_zero, List.set_cons_succ]
      refine wpAnyH_all (rs := [3,8]) (by kernel_rfl) (by simp) (fun i hi => ?_)
      simp only [List.mem_cons, List.not_mem_nil, or_false] at hi
      rcases hi with rfl | rfl
      · refine .inl ?_
        go_simp
        refine (register_any A _).mono ?_
        rintro e wc ⟨rfl, hb⟩
        try replace rg4 := Rf.below rg4 hb
        try replace rg5 := Rf.below rg5 hb
        try replace ltg4 : g4 < _ := Nat.lt_of_lt_of_le ltg4 hb.size
        try replace ltg5 : g5 < _ := Nat.lt_of_lt_of_le ltg5 hb.size
        replace hS := hS.after hb
        clear hb
        refine ⟨hS.b, ?_⟩
        try simp only [Act.put, List.setIfInBounds_toArray, List.set_cons_zero, List.set_cons_succ]
        refine wpAnyH_all (rs := [7,8]) (by kernel_rfl) (by simp) (fun i hi => ?_)
        simp only [List.mem_cons, List.not_mem_nil, or_false] at hi
        rcases hi with rfl | rfl
        · refine .inl ?_
          go_simp
          refine (register_any B _).mono ?_
          rintro e wc ⟨rfl, hb⟩
          try replace rg4 := Rf.below rg4 hb
          try replace rg5 := Rf.below rg5 hb
          try replace ltg4 : g4 < _ := Nat.lt_of_lt_of_le ltg4 hb.size
          try replace ltg5 : g5 < _ := Nat.lt_of_lt_of_le ltg5 hb.size
          replace hS := hS.after hb
          clear hb
          refine ⟨hS.b, ?_⟩
          try simp only [Act.put, List.setIfInBounds_toArray, List.set_cons_zero, List.set_cons_succ]
          refine wpAnyH_all (rs := [8]) (by kernel_rfl) (by simp) (fun i hi => ?_)
          simp only [List.mem_cons, List.not_mem_nil, or_false] at hi
          subst hi
          refine .inl ?_
          refine o_alloc (ty := 49) (d := some 4) rfl (pla ⟨0, 0⟩) (pla_ok _) (by go_simp; try rfl) ?_
          intro g4 WA eg4 rg4 hb ltg4
          try have dis : g4 ≠ g5 := by omega
          try replace rg5 := Rf.below rg5 hb
          try replace ltg5 : g5 < _ := Nat.lt_of_lt_of_le ltg5 hb.size
          have neg4 : w.heap.size < g4 := by have := hS.b.h0.lt; omega
          replace hS := hS.after hb
          clear hb
          refine ⟨hS.b, ?_⟩
          try simp only [Act.put, List.setIfInBounds_toArray, List.set_cons_zero, List.set_cons_succ]
          refine wpAnyH_all (rs := [10]) (by kernel_rfl) (by simp) (fun i hi => ?_)
          simp only [List.mem_cons, List.not_mem_nil, or_false] at hi
          subst hi
          refine .inl ?_
          refine o_store_R (d := none) rfl (pla (rg A)) rowP rg4 (pla_ok _) rfl rfl rfl ?_
          replace hS := hS.setO (g := g4) (c := pla (rg A)) neg4
          replace rg5 := rg5.setOther (g := g4) (by omega) (pla (rg A))
          replace rg4 := rg4.set (pla_ok (rg A))
          refine ⟨hS.b, ?_⟩
          try simp only [Act.put, List.setIfInBounds_toArray, List.set_cons_zero, List.set_cons_succ]
          refine wpAnyH_all (rs := [11]) (by kernel_rfl) (by simp) (fun i hi => ?_)
          simp only [List.mem_cons, List.not_mem_nil, or_false] at hi
          subst hi
          refine .inl ?_
          refine o_store_R (d := none) rfl (pla (rg B)) rowP rg5 (pla_ok _) rfl rfl rfl ?_
          replace hS := hS.setO (g := g5) (c := pla (rg B)) neg5
          replace rg4 := rg4.setOther (g := g5) (by omega) (pla (rg B))
          replace rg5 := rg5.set (pla_ok (rg B))
          refine ⟨hS.b, ?_⟩
          try simp only [Act.put, List.setIfInBounds_toArray, List.set_cons_zero, List.set_cons_succ]
          refine wpAnyH_done (by kernel_rfl) ?_ _
          exact hQ _ _ _ ⟨hS, rg4, rg5, neg4, neg5, dis⟩
        · refine .inl ?_
          refine o_alloc (ty := 49) (d := some 4) rfl (pla ⟨0, 0⟩) (pla_ok _) (by go_simp; try rfl) ?_
          intro g4 WA eg4 rg4 hb ltg4
          try have dis : g4 ≠ g5 := by omega
          try replace rg5 := Rf.below rg5 hb
          try replace ltg5 : g5 < _ := Nat.lt_of_lt_of_le ltg5 hb.size
          have neg4 : w.heap.size < g4 := by have := hS.b.h0.lt; omega
          replace hS := hS.after hb
          clear hb
          refine ⟨hS.b, ?_⟩
          try simp only [Act.put, List.setIfInBounds_toArray, List.set_cons_zero, List.set_cons_succ]
          refine wpAnyH_all (rs := [7]) (by kernel_rfl) (by simp) (fun i hi => ?_)
          simp only [List.mem_cons, List.not_mem_nil, or_false] at hi
          subst hi
          refine .inl ?_
          go_simp
          refine (register_any B _).mono ?_
          rintro e wc ⟨rfl, hb⟩
          try replace rg4 := Rf.below rg4 hb
          try replace rg5 := Rf.below rg5 hb
          try replace ltg4 : g4 < _ := Nat.lt_of_lt_of_le ltg4 hb.size
          try replace ltg5 : g5 < _ := Nat.lt_of_lt_of_le ltg5 hb.size
          replace hS := hS.after hb
          clear hb
          refine ⟨hS.b, ?_⟩
          try simp only [Act.put, List.setIfInBounds_toArray, List.set_cons_zero, List.set_cons_succ]
          refine wpAnyH_all (rs := [10]) (by kernel_rfl) (by simp) (fun i hi => ?_)
          simp only [List.mem_cons, List.not_mem_nil, or_false] at hi
          subst hi
          refine .inl ?_
          refine o_store_R (d := none) rfl (pla (rg A)) rowP rg4 (pla_ok _) rfl rfl rfl ?_
          replace hS := hS.setO (g := g4) (c := pla (rg A)) neg4
          replace rg5 := rg5.setOther (g := g4) (by omega) (pla (rg A))
          replace rg4 := rg4.set (pla_ok (rg A))
          refine ⟨hS.b, ?_⟩
          try simp only [Act.put, List.setIfInBounds_toArray, List.set_cons_zero, List.set_cons_succ]
          refine wpAnyH_all (rs := [11]) (by kernel_rfl) (by simp) (fun i hi => ?_)
          simp only [List.mem_cons, List.not_mem_nil, or_false] at hi
          subst hi
          refine .inl ?_
          refine o_store_R (d := none) rfl (pla (rg B)) rowP rg5 (pla_ok _) rfl rfl rfl ?_
          replace hS := hS.setO (g := g5) (c := pla (rg B)) neg5
          replace rg4 := rg4.setOther (g := g5) (by omega) (pla (rg B))
          replace rg5 := rg5.set (pla_ok (rg B))
          refine ⟨hS.b, ?_⟩
          try simp only [Act.put, List.setIfInBounds_toArray, List.set_cons_zero, List.set_cons_succ]
          refine wpAnyH_done (by kernel_rfl) ?_ _
          exact hQ _ _ _ ⟨hS, rg4, rg5, neg4, neg5, dis⟩
      · refine .inl ?_
        refine o_alloc (ty := 49) (d := some 4) rfl (pla ⟨0, 0⟩) (pla_ok _) (by go_simp; try rfl) ?_
        intro g4 WA eg4 rg4 hb ltg4
        try have dis : g4 ≠ g5 := by omega
        try replace rg5 := Rf.below rg5 hb
        try replace ltg5 : g5 < _ := Nat.lt_of_lt_of_le ltg5 hb.size
        have neg4 : w.heap.size < g4 := by have := hS.b.h0.lt; omega
        replace hS := hS.after hb
        clear hb
        refine ⟨hS.b, ?_⟩
        try simp only [Act.put, List.setIfInBounds_toArray, List.set_cons_zero, List.set_cons_succ]
        refine wpAnyH_all (rs := [3]) (by kernel_rfl) (by simp) (fun i hi => ?_)
        simp only [List.mem_cons, List.not_mem_nil, or_false] at hi
        subst hi
        refine .inl ?_
        go_simp
        refine (register_any A _).mono ?_
        rintro e wc ⟨rfl, hb⟩
        try replace rg4 := Rf.below rg4 hb
        try replace rg5 := Rf.below rg5 hb
        try replace ltg4 : g4 < _ := Nat.lt_of_lt_of_le ltg4 hb.size
        try replace ltg5 : g5 < _ := Nat.lt_of_lt_of_le ltg5 hb.size
        replace hS := hS.after hb
        clear hb
        refine ⟨hS.b, ?_⟩
        try simp only [Act.put, List.setIfInBounds_toArray, List.set_cons_zero, List.set_cons_succ]
        refine wpAnyH_all (rs := [7]) (by kernel_rfl) (by simp) (fun i hi => ?_)
        simp only [List.mem_cons, List.not_mem_nil, or_false] at hi
        subst hi
        refine .inl ?_
        go_simp
        refine (register_any B _).mono ?_
        rintro e wc ⟨rfl, hb⟩
        try replace rg4 := Rf.below rg4 hb
        try replace rg5 := Rf.below rg5 hb
        try replace ltg4 : g4 < _ := Nat.lt_of_lt_of_le ltg4 hb.size
        try replace ltg5 : g5 < _ := Nat.lt_of_lt_of_le ltg5 hb.size
        replace hS := hS.after hb
        clear hb
        refine ⟨hS.b, ?_⟩
        try simp only [Act.put, List.setIfInBounds_toArray, List.set_cons_zero, List.set_cons_succ]
        refine wpAnyH_all (rs := [10]) (by kernel_rfl) (by simp) (fun i hi => ?_)
        simp only [List.mem_cons, List.not_mem_nil, or_false] at hi
        subst hi
        refine .inl ?_
        refine o_store_R (d := none) rfl (pla (rg A)) rowP rg4 (pla_ok _) rfl rfl rfl ?_
        replace hS := hS.setO (g := g4) (c := pla (rg A)) neg4
        replace rg5 := rg5.setOther (g := g4) (by omega) (pla (rg A))
        replace rg4 := rg4.set (pla_ok (rg A))
        refine ⟨hS.b, ?_⟩
        try simp only [Act.put, List.setIfInBounds_toArray, List.set_cons_zero, List.set_cons_succ]
        refine wpAnyH_all (rs := [11]) (by kernel_rfl) (by simp) (fun i hi => ?_)
        simp only [List.mem_cons, List.not_mem_nil, or_false] at hi
        subst hi
        refine .inl ?_
        refine o_store_R (d := none) rfl (pla (rg B)) rowP rg5 (pla_ok _) rfl rfl rfl ?_
        replace hS := hS.setO (g := g5) (c := pla (rg B)) neg5
        replace rg4 := rg4.setOther (g := g5) (by omega) (pla (rg B))
        replace rg5 := rg5.set (pla_ok (rg B))
        refine ⟨hS.b, ?_⟩
        try simp only [Act.put, List.setIfInBounds_toArray, List.set_cons_zero, List.set_cons_succ]
        refine wpAnyH_done (by kernel_rfl) ?_ _
        exact hQ _ _ _ ⟨hS, rg4, rg5, neg4, neg5, dis⟩
  intro g4 g5 W5 hB
  have HT := Lib.hid (hB.tq HAt.out)
  have HN := Lib.hid (hN.below hB.p.k)
  clear hB hK0 hN
  have qx := HT.out.b.h2.x
  have HE4 : Hid (Rf 49 2 W5 g4 #[.int .i64 1, .int .i64 A]) := Lib.hid HT.out.b.h0
  have HE5 : Hid (Rf 49 2 W5 g5 #[.int .i64 1, .int .i64 B]) := Lib.hid HT.out.b.h1
  rcases hop with rfl | rfl | rfl | rfl | rfl | rfl | rfl | rfl | rfl | rfl | rfl | rfl | rfl | rfl | rfl
  · go_wp2_with (first | ((with_reducible refine wp_load_R rowP HE4.out ?_ ?_); (rfl)) | ((with_reducible refine wp_load_R rowP HE5.out ?_ ?_); (rfl)))
    clear qx HE4 HE5 HN
    refine (give_any (HT.out.after (Below.refl _ _)).a (by first | omega | (simp only [List.length_append, List.length_cons, List.length_nil]; omega)) ⟨1, A⟩ _ [] (PlIs.nil _)).mono ?_
    rintro e W6 ⟨rfl, hA, hK⟩
    replace HT := Lib.hid ((HT.out.after (Below.refl _ _)).give hA hK)
    clear hA hK
    go_wp2
    go_end0
    refine ⟨rfl, ?_, HT.out.k⟩
    have := HT.out.a
    rw [hR.out]
    simpa [behindT, keptK, on, rg] using this
  · go_wp2_with (first | ((with_reducible refine wp_load_R rowP HE4.out ?_ ?_); (rfl)) | ((with_reducible refine wp_load_R rowP HE5.out ?_ ?_); (rfl)))
    clear qx HE4 HE5 HN
    refine (give_any (HT.out.after (bel1 _ _)).a (by first | omega | (simp only [List.length_append, List.length_cons, List.length_nil]; omega)) ⟨1, A⟩ _ [⟨1, B⟩] (pl1 _ _ _)).mono ?_
    rintro e W6 ⟨rfl, hA, hK⟩
    replace HT := Lib.hid ((HT.out.after (bel1 _ _)).give hA hK)
    clear hA hK
    go_wp2
    go_end0
    refine ⟨rfl, ?_, HT.out.k⟩
    have := HT.out.a
    rw [hR.out]
    simpa [behindT, keptK, on, rg] using this
  · go_wp2_with (first | ((with_reducible refine wp_load_R rowP HE4.out ?_ ?_); (rfl)) | ((with_reducible refine wp_load_R rowP HE5.out ?_ ?_); (rfl)))
    clear qx HE4 HE5 HN
    refine (give_any (HT.out.after (bel1 _ _)).a (by first | omega | (simp only [List.length_append, List.length_cons, List.length_nil]; omega)) ⟨1, A⟩ _ [⟨1, A⟩, ⟨1, B⟩] (pl2 _ _ _ _ _)).mono ?_
    rintro e W6 ⟨rfl, hA, hK⟩
    replace HT := Lib.hid ((HT.out.after (bel1 _ _)).give hA hK)
    clear hA hK
    go_wp2
    go_end0
    refine ⟨rfl, ?_, HT.out.k⟩
    have := HT.out.a
    rw [hR.out]
    simpa [behindT, keptK, on, rg] using this
  · go_wp2_with (first | ((with_reducible refine wp_load_R rowP HE4.out ?_ ?_); (rfl)) | ((with_reducible refine wp_load_R rowP HE5.out ?_ ?_); (rfl)))
    clear qx HE4 HE5 HN
    refine (give_any (HT.out.after (bel1 _ _)).a (by first | omega | (simp only [List.length_append, List.length_cons, List.length_nil]; omega)) ⟨1, A⟩ _ [⟨1, A⟩, ⟨1, B⟩] (pl2 _ _ _ _ _)).mono ?_
    rintro e W6 ⟨rfl, hA, hK⟩
    replace HT := Lib.hid ((HT.out.after (bel1 _ _)).give hA hK)
    clear hA hK
    go_wp2
    go_end0
    refine ⟨rfl, ?_, HT.out.k⟩
    have := HT.out.a
    rw [hR.out]
    simpa [behindT, keptK, on, rg] using this
  · go_wp2_with (first | ((with_reducible refine wp_load_R rowP HE4.out ?_ ?_); (rfl)) | ((with_reducible refine wp_load_R rowP HE5.out ?_ ?_); (rfl)))
    clear qx HE4 HE5 HN
    refine (give_any (HT.out.after (bel1 _ _)).a (by first | omega | (simp only [List.length_append, List.length_cons, List.length_nil]; omega)) ⟨1, A⟩ _ [⟨1, A⟩, ⟨1, B⟩] (pl2 _ _ _ _ _)).mono ?_
    rintro e W6 ⟨rfl, hA, hK⟩
    replace HT := Lib.hid ((HT.out.after (bel1 _ _)).give hA hK)
    clear hA hK
    go_wp2
    go_end0
    refine ⟨rfl, ?_, HT.out.k⟩
    have := HT.out.a
    rw [hR.out]
    simpa [behindT, keptK, on, rg] using this
  · go_wp2_with (first | ((with_reducible refine wp_load_R rowP HE4.out ?_ ?_); (rfl)) | ((with_reducible refine wp_load_R rowP HE5.out ?_ ?_); (rfl)))
    clear qx HE4 HE5 HN
    refine (give_any (HT.out.after (bel1 _ _)).a (by first | omega | (simp only [List.length_append, List.length_cons, List.length_nil]; omega)) ⟨1, A⟩ _ [⟨1, A⟩, ⟨1, B⟩] (pl2 _ _ _ _ _)).mono ?_
    rintro e W6 ⟨rfl, hA, hK⟩
    replace HT := Lib.hid ((HT.out.after (bel1 _ _)).give hA hK)
    clear hA hK
    go_wp2
    go_end0
    refine ⟨rfl, ?_, HT.out.k⟩
    have := HT.out.a
    rw [hR.out]
    simpa [behindT, keptK, on, rg] using this
  · go_wp2_with (first | ((with_reducible refine wp_load_R rowP HE4.out ?_ ?_); (rfl)) | ((with_reducible refine wp_load_R rowP HE5.out ?_ ?_); (rfl)))
    clear qx HE4 HE5 HN
    refine (give_any (HT.out.after (bel1 _ _)).a (by first | omega | (simp only [List.length_append, List.length_cons, List.length_nil]; omega)) ⟨1, A⟩ _ [⟨1, A⟩, ⟨1, B⟩] (pl2 _ _ _ _ _)).mono ?_
    rintro e W6 ⟨rfl, hA, hK⟩
    replace HT := Lib.hid ((HT.out.after (bel1 _ _)).give hA hK)
    clear hA hK
    go_wp2
    go_end0
    refine ⟨rfl, ?_, HT.out.k⟩
    have := HT.out.a
    rw [hR.out]
    simpa [behindT, keptK, on, rg] using this
  · go_wp2_with (first | ((with_reducible refine wp_load_R rowP HE4.out ?_ ?_); (rfl)) | ((with_reducible refine wp_load_R rowP HE5.out ?_ ?_); (rfl)))
    clear qx HE4 HE5 HN
    refine (give_any (HT.out.after (bel1 _ _)).a (by first | omega | (simp only [List.length_append, List.length_cons, List.length_nil]; omega)) ⟨1, A⟩ _ [⟨1, A⟩, ⟨1, B⟩] (pl2 _ _ _ _ _)).mono ?_
    rintro e W6 ⟨rfl, hA, hK⟩
    replace HT := Lib.hid ((HT.out.after (bel1 _ _)).give hA hK)
    clear hA hK
    go_wp2
    go_end0
    refine ⟨rfl, ?_, HT.out.k⟩
    have := HT.out.a
    rw [hR.out]
    simpa [behindT, keptK, on, rg] using this
  · go_wp2_with (first | ((with_reducible refine wp_load_R rowP HE4.out ?_ ?_); (rfl)) | ((with_reducible refine wp_load_R rowP HE5.out ?_ ?_); (rfl)))
    clear qx HE4 HE5 HN
    refine (give_any (HT.out.after (bel1 _ _)).a (by first | omega | (simp only [List.length_append, List.length_cons, List.length_nil]; omega)) ⟨1, A⟩ _ [⟨1, A⟩, ⟨1, B⟩] (pl2 _ _ _ _ _)).mono ?_
    rintro e W6 ⟨rfl, hA, hK⟩
    replace HT := Lib.hid ((HT.out.after (bel1 _ _)).give hA hK)
    clear hA hK
    go_wp2
    go_end0
    refine ⟨rfl, ?_, HT.out.k⟩
    have := HT.out.a
    rw [hR.out]
    simpa [behindT, keptK, on, rg] using this
  · go_wp2_with (first | ((with_reducible refine wp_load_R rowP HE4.out ?_ ?_); (rfl)) | ((with_reducible refine wp_load_R rowP HE5.out ?_ ?_); (rfl)))
    clear qx HE4 HE5 HN
    refine (give_any (HT.out.after (bel1 _ _)).a (by first | omega | (simp only [List.length_append, List.length_cons, List.length_nil]; omega)) ⟨1, A⟩ _ [⟨1, A⟩, ⟨1, B⟩] (pl2 _ _ _ _ _)).mono ?_
    rintro e W6 ⟨rfl, hA, hK⟩
    replace HT := Lib.hid ((HT.out.after (bel1 _ _)).give hA hK)
    clear hA hK
    go_wp2
    go_end0
    refine ⟨rfl, ?_, HT.out.k⟩
    have := HT.out.a
    rw [hR.out]
    simpa [behindT, keptK, on, rg] using this
  · go_wp2_with (first | ((with_reducible refine wp_load_R rowP HE4.out ?_ ?_); (rfl)) | ((with_reducible refine wp_load_R rowP HE5.out ?_ ?_); (rfl)))
    clear qx HE4 HE5 HN
    refine (give_any (HT.out.after (bel1 _ _)).a (by first | omega | (simp only [List.length_append, List.length_cons, List.length_nil]; omega)) ⟨1, A⟩ _ [⟨1, A⟩, ⟨1, B⟩] (pl2 _ _ _ _ _)).mono ?_
    rintro e W6 ⟨rfl, hA, hK⟩
    replace HT := Lib.hid ((HT.out.after (bel1 _ _)).give hA hK)
    clear hA hK
    go_wp2
    go_end0
    refine ⟨rfl, ?_, HT.out.k⟩
    have := HT.out.a
    rw [hR.out]
    simpa [behindT, keptK, on, rg] using this
  · go_wp2
    clear qx HE4 HE5 HN
    have hK0 := HT.out.drew
    refine wp_region_held_drew (S := fun W => Bks W [(g4, 49, 2, pla (rg A)), (g5, 49, 2, pla (rg B)), (w.heap.size, 58, 20, xc s ⟨20, A, B, m⟩)]) (by kernel_rfl) hK0.b (fun _ => ?_)
    have hS := hK0
    refine take_d (i := 0) (d := some 48) (v := ?_) rfl rfl (by kernel_rfl) (by kernel_rfl) (by kernel_rfl) (fun _ _ _ h => h) (.inl ⟨by rfl, ?_⟩) hS.b ?_
    rotate_left
    · intro W hW
      go_simp
      try with_reducible rfl
    try simp only [Act.put, List.setIfInBounds_toArray, List.set_cons_zero, List.set_cons_succ]
    refine take_d (i := 1) (d := some 49) (v := .agg #[.int .i64 1, .int .i64 A]) rfl rfl (by kernel_rfl) (by kernel_rfl) (by kernel_rfl) (fun _ _ _ h => h) (y_R rowP (by kernel_rfl) rfl rfl (fun W hW => hW.h0)) hS.b ?_
    try simp only [Act.put, List.setIfInBounds_toArray, List.set_cons_zero, List.set_cons_succ]
    refine wpAnyH_all (rs := [2]) (by kernel_rfl) (by simp) (fun i hi => ?_)
    simp only [List.mem_cons, List.not_mem_nil, or_false] at hi
    subst hi
    refine .inl ?_
    go_simp
    refine (alone_any 2 _).mono ?_
    rintro e wc ⟨rfl, hb⟩
    try replace hp := hp.below hb
    replace hS := hS.after hb
    clear hb
    refine ⟨hS.b, ?_⟩
    try simp only [Act.put, List.setIfInBounds_toArray, List.set_cons_zero, List.set_cons_succ]
    refine wpAnyH_all (rs := [3]) (by kernel_rfl) (by simp) (fun i hi => ?_)
    simp only [List.mem_cons, List.not_mem_nil, or_false] at hi
    subst hi
    refine .inl ?_
    refine o_places (d := some 51) rfl [⟨2, 0⟩] (by simp [maxLen]) (by go_simp; try rfl) ?_
    intro v WP hp hb
    replace hS := hS.after hb
    clear hb
    refine ⟨hS.b, ?_⟩
    try simp only [Act.put, List.setIfInBounds_toArray, List.set_cons_zero, List.set_cons_succ]
    refine wpAnyH_all (rs := [4]) (by kernel_rfl) (by simp) (fun i hi => ?_)
    simp only [List.mem_cons, List.not_mem_nil, or_false] at hi
    subst hi
    refine .inl ?_
    go_simp
    refine (give_any hS.a (by first | omega | (simp only [List.length_append, List.length_cons, List.length_nil]; omega)) ⟨1, A⟩ _ [⟨2, 0⟩] hp).mono ?_
    rintro e wg ⟨rfl, hA, hK⟩
    replace hS := hS.give hA hK
    clear hA hK hp
    refine ⟨hS.b, ?_⟩
    try simp only [Act.put, List.setIfInBounds_toArray, List.set_cons_zero, List.set_cons_succ]
    refine wpAnyH_done (by kernel_rfl) ?_ _
    replace HT := Lib.hid hS
    clear hS hK0
    go_wp2
    go_end0
    refine ⟨rfl, ?_, HT.out.k⟩
    have := HT.out.a
    rw [hR.out]
    simpa [behindT, keptK, on, rg] using this
  · go_wp2
    clear qx HE4 HE5 HN
    have hK0 := HT.out.drew
    refine wp_region_held_drew (S := fun W => Bks W [(g4, 49, 2, pla (rg A)), (g5, 49, 2, pla (rg B)), (w.heap.size, 58, 20, xc s ⟨21, A, B, m⟩)]) (by kernel_rfl) hK0.b (fun _ => ?_)
    have hS := hK0
    refine take_d (i := 0) (d := some 48) (v := ?_) rfl rfl (by kernel_rfl) (by kernel_rfl) (by kernel_rfl) (fun _ _ _ h => h) (.inl ⟨by rfl, ?_⟩) hS.b ?_
    rotate_left
    · intro W hW
      go_simp
      try with_reducible rfl
    try simp only [Act.put, List.setIfInBounds_toArray, List.set_cons_zero, List.set_cons_succ]
    refine take_d (i := 1) (d := some 49) (v := .agg #[.int .i64 1, .int .i64 A]) rfl rfl (by kernel_rfl) (by kernel_rfl) (by kernel_rfl) (fun _ _ _ h => h) (y_R rowP (by kernel_rfl) rfl rfl (fun W hW => hW.h0)) hS.b ?_
    try simp only [Act.put, List.setIfInBounds_toArray, List.set_cons_zero, List.set_cons_succ]
    refine wpAnyH_all (rs := [2]) (by kernel_rfl) (by simp) (fun i hi => ?_)
    simp only [List.mem_cons, List.not_mem_nil, or_false] at hi
    subst hi
    refine .inl ?_
    go_simp
    refine (alone_any 2 _).mono ?_
    rintro e wc ⟨rfl, hb⟩
    try replace hp := hp.below hb
    replace hS := hS.after hb
    clear hb
    refine ⟨hS.b, ?_⟩
    try simp only [Act.put, List.setIfInBounds_toArray, List.set_cons_zero, List.set_cons_succ]
    refine wpAnyH_all (rs := [3]) (by kernel_rfl) (by simp) (fun i hi => ?_)
    simp only [List.mem_cons, List.not_mem_nil, or_false] at hi
    subst hi
    refine .inl ?_
    refine o_places (d := some 51) rfl [⟨2, 0⟩] (by simp [maxLen]) (by go_simp; try rfl) ?_
    intro v WP hp hb
    replace hS := hS.after hb
    clear hb
    refine ⟨hS.b, ?_⟩
    try simp only [Act.put, List.setIfInBounds_toArray, List.set_cons_zero, List.set_cons_succ]
    refine wpAnyH_all (rs := [4]) (by kernel_rfl) (by simp) (fun i hi => ?_)
    simp only [List.mem_cons, List.not_mem_nil, or_false] at hi
    subst hi
    refine .inl ?_
    go_simp
    refine (give_any hS.a (by first | omega | (simp only [List.length_append, List.length_cons, List.length_nil]; omega)) ⟨1, A⟩ _ [⟨2, 0⟩] hp).mono ?_
    rintro e wg ⟨rfl, hA, hK⟩
    replace hS := hS.give hA hK
    clear hA hK hp
    refine ⟨hS.b, ?_⟩
    try simp only [Act.put, List.setIfInBounds_toArray, List.set_cons_zero, List.set_cons_succ]
    refine wpAnyH_done (by kernel_rfl) ?_ _
    replace HT := Lib.hid hS
    clear hS hK0
    go_wp2
    go_end0
    refine ⟨rfl, ?_, HT.out.k⟩
    have := HT.out.a
    rw [hR.out]
    simpa [behindT, keptK, on, rg] using this
  · have hm := HM.out (by decide)
    obtain rfl | rfl | rfl | rfl | rfl | rfl : m = 0 ∨ m = 1 ∨ m = 2 ∨ m = 3 ∨ m = 4 ∨ m = 5 := by omega
    · go_wp2
      have hN : Nam _ := HN.out.below (Below.refl _ _).drew
      clear HE4 HE5 qx HN
      have hK0 := HT.out.drew
      refine wp_region_held_drew (S := fun W => Bks W [(g4, 49, 2, pla (rg A)), (g5, 49, 2, pla (rg B)), (w.heap.size, 58, 20, xc s ⟨26, A, B, 0⟩)] ∧ Nam W) (by kernel_rfl) (And.intro hK0.b hN) (fun _ => ?_)
      have hS := hK0
      refine take_d (i := 0) (d := some 55) (v := ?_) rfl rfl (by kernel_rfl) (by kernel_rfl) (by kernel_rfl) (fun _ _ _ h => h) (.inl ⟨by rfl, ?_⟩) (And.intro hS.b hN) ?_
      rotate_left
      · intro W hW
        go_simp
        try with_reducible rfl
      try simp only [Act.put, List.setIfInBounds_toArray, List.set_cons_zero, List.set_cons_succ]
      refine take_d (i := 1) (d := some 56) (v := .agg #[.int .i64 1, .int .i64 A]) rfl rfl (by kernel_rfl) (by kernel_rfl) (by kernel_rfl) (fun _ _ _ h => h) (y_R rowP (by kernel_rfl) rfl rfl (fun W hW => hW.1.h0)) (And.intro hS.b hN) ?_
      try simp only [Act.put, List.setIfInBounds_toArray, List.set_cons_zero, List.set_cons_succ]
      refine take_d (i := 2) (d := some 57) (v := ?_) rfl rfl (by kernel_rfl) (by kernel_rfl) (by kernel_rfl) (fun _ _ _ h => h) (.inl ⟨by rfl, ?_⟩) (And.intro hS.b hN) ?_
      rotate_left
      · intro W hW
        go_simp
        try with_reducible rfl
      try simp only [Act.put, List.setIfInBounds_toArray, List.set_cons_zero, List.set_cons_succ]
      refine take_d (i := 3) (d := some 58) (v := ?_) rfl rfl (by kernel_rfl) (by kernel_rfl) (by kernel_rfl) (fun _ _ _ h => h) (.inl ⟨by rfl, ?_⟩) (And.intro hS.b hN) ?_
      rotate_left
      · intro W hW
        go_simp
        try with_reducible rfl
      try simp only [Act.put, List.setIfInBounds_toArray, List.set_cons_zero, List.set_cons_succ]
      refine take_d (i := 4) (d := some 59) (v := ?_) rfl rfl (by kernel_rfl) (by kernel_rfl) (by kernel_rfl) (fun _ _ _ h => h) (.inl ⟨by rfl, ?_⟩) (And.intro hS.b hN) ?_
      rotate_left
      · intro W hW
        have q := hW.1.h2.x
        go_simp
        try with_reducible rfl
      try simp only [Act.put, List.setIfInBounds_toArray, List.set_cons_zero, List.set_cons_succ]
      refine take_d (i := 5) (d := some 60) (v := ?_) rfl rfl (by kernel_rfl) (by kernel_rfl) (by kernel_rfl) (fun _ _ _ h => h) (.inl ⟨by rfl, ?_⟩) (And.intro hS.b hN) ?_
      rotate_left
      · intro W hW
        go_simp
        try with_reducible rfl
      try simp only [Act.put, List.setIfInBounds_toArray, List.set_cons_zero, List.set_cons_succ]
      refine take_d (i := 6) (d := some 61) (v := ?_) rfl rfl (by kernel_rfl) (by kernel_rfl) (by kernel_rfl) (fun _ _ _ h => h) (.inl ⟨by rfl, ?_⟩) (And.intro hS.b hN) ?_
      rotate_left
      · intro W hW
        have qn : W.cell? ⟨0, 0, none⟩ = some (.int .i64 3) := (hW.2.at_ 0).trans rfl
        go_simp
        try with_reducible rfl
      try simp only [Act.put, List.setIfInBounds_toArray, List.set_cons_zero, List.set_cons_succ]
      refine wpAnyH_all (rs := [7]) (by kernel_rfl) (by simp) (fun i hi => ?_)
      simp only [List.mem_cons, List.not_mem_nil, or_false] at hi
      subst hi
      refine .inl ?_
      go_simp
      refine (alone_any 3 _).mono ?_
      rintro e wc ⟨rfl, hb⟩
      try replace hp := hp.below hb
      replace hN := hN.below hb
      replace hS := hS.after hb
      clear hb
      refine ⟨⟨hS.b, hN⟩, ?_⟩
      try simp only [Act.put, List.setIfInBounds_toArray, List.set_cons_zero, List.set_cons_succ]
      refine wpAnyH_all (rs := [8]) (by kernel_rfl) (by simp) (fun i hi => ?_)
      simp only [List.mem_cons, List.not_mem_nil, or_false] at hi
      subst hi
      refine .inl ?_
      refine o_places (d := some 63) rfl [⟨3, 0⟩] (by simp [maxLen]) (by go_simp; try rfl) ?_
      intro v WP hp hb
      replace hN := hN.below hb
      replace hS := hS.after hb
      clear hb
      refine ⟨⟨hS.b, hN⟩, ?_⟩
      try simp only [Act.put, List.setIfInBounds_toArray, List.set_cons_zero, List.set_cons_succ]
      refine wpAnyH_all (rs := [9]) (by kernel_rfl) (by simp) (fun i hi => ?_)
      simp only [List.mem_cons, List.not_mem_nil, or_false] at hi
      subst hi
      refine .inl ?_
      go_simp
      refine (give_any hS.a (by first | omega | (simp only [List.length_append, List.length_cons, List.length_nil]; omega)) ⟨1, A⟩ _ [⟨3, 0⟩] hp).mono ?_
      rintro e wg ⟨rfl, hA, hK⟩
      replace hN := hN.kp hK hg
      replace hS := hS.give hA hK
      clear hA hK hp
      refine ⟨⟨hS.b, hN⟩, ?_⟩
      try simp only [Act.put, List.setIfInBounds_toArray, List.set_cons_zero, List.set_cons_succ]
      refine wpAnyH_done (by kernel_rfl) ?_ _
      replace HT := Lib.hid hS
      clear hS hK0
      go_wp2
      go_end0
      refine ⟨rfl, ?_, HT.out.k⟩
      have := HT.out.a
      rw [hR.out]
      simpa [behindT, keptK, on, rg] using this
    · go_wp2
      have hN : Nam _ := HN.out.below (Below.refl _ _).drew
      clear HE4 HE5 qx HN
      have hK0 := HT.out.drew
      refine wp_region_held_drew (S := fun W => Bks W [(g4, 49, 2, pla (rg A)), (g5, 49, 2, pla (rg B)), (w.heap.size, 58, 20, xc s ⟨26, A, B, 1⟩)] ∧ Nam W) (by kernel_rfl) (And.intro hK0.b hN) (fun _ => ?_)
      have hS := hK0
      refine take_d (i := 0) (d := some 55) (v := ?_) rfl rfl (by kernel_rfl) (by kernel_rfl) (by kernel_rfl) (fun _ _ _ h => h) (.inl ⟨by rfl, ?_⟩) (And.intro hS.b hN) ?_
      rotate_left
      · intro W hW
        go_simp
        try with_reducible rfl
      try simp only [Act.put, List.setIfInBounds_toArray, List.set_cons_zero, List.set_cons_succ]
      refine take_d (i := 1) (d := some 56) (v := .agg #[.int .i64 1, .int .i64 A]) rfl rfl (by kernel_rfl) (by kernel_rfl) (by kernel_rfl) (fun _ _ _ h => h) (y_R rowP (by kernel_rfl) rfl rfl (fun W hW => hW.1.h0)) (And.intro hS.b hN) ?_
      try simp only [Act.put, List.setIfInBounds_toArray, List.set_cons_zero, List.set_cons_succ]
      refine take_d (i := 2) (d := some 57) (v := ?_) rfl rfl (by kernel_rfl) (by kernel_rfl) (by kernel_rfl) (fun _ _ _ h => h) (.inl ⟨by rfl, ?_⟩) (And.intro hS.b hN) ?_
      rotate_left
      · intro W hW
        go_simp
        try with_reducible rfl
      try simp only [Act.put, List.setIfInBounds_toArray, List.set_cons_zero, List.set_cons_succ]
      refine take_d (i := 3) (d := some 58) (v := ?_) rfl rfl (by kernel_rfl) (by kernel_rfl) (by kernel_rfl) (fun _ _ _ h => h) (.inl ⟨by rfl, ?_⟩) (And.intro hS.b hN) ?_
      rotate_left
      · intro W hW
        go_simp
        try with_reducible rfl
      try simp only [Act.put, List.setIfInBounds_toArray, List.set_cons_zero, List.set_cons_succ]
      refine take_d (i := 4) (d := some 59) (v := ?_) rfl rfl (by kernel_rfl) (by kernel_rfl) (by kernel_rfl) (fun _ _ _ h => h) (.inl ⟨by rfl, ?_⟩) (And.intro hS.b hN) ?_
      rotate_left
      · intro W hW
        have q := hW.1.h2.x
        go_simp
        try with_reducible rfl
      try simp only [Act.put, List.setIfInBounds_toArray, List.set_cons_zero, List.set_cons_succ]
      refine take_d (i := 5) (d := some 60) (v := ?_) rfl rfl (by kernel_rfl) (by kernel_rfl) (by kernel_rfl) (fun _ _ _ h => h) (.inl ⟨by rfl, ?_⟩) (And.intro hS.b hN) ?_
      rotate_left
      · intro W hW
        go_simp
        try with_reducible rfl
      try simp only [Act.put, List.setIfInBounds_toArray, List.set_cons_zero, List.set_cons_succ]
      refine take_d (i := 6) (d := some 61) (v := ?_) rfl rfl (by kernel_rfl) (by kernel_rfl) (by kernel_rfl) (fun _ _ _ h => h) (.inl ⟨by rfl, ?_⟩) (And.intro hS.b hN) ?_
      rotate_left
      · intro W hW
        have qn : W.cell? ⟨0, 1, none⟩ = some (.int .i64 4) := (hW.2.at_ 1).trans rfl
        go_simp
        try with_reducible rfl
      try simp only [Act.put, List.setIfInBounds_toArray, List.set_cons_zero, List.set_cons_succ]
      refine wpAnyH_all (rs := [7]) (by kernel_rfl) (by simp) (fun i hi => ?_)
      simp only [List.mem_cons, List.not_mem_nil, or_false] at hi
      subst hi
      refine .inl ?_
      go_simp
      refine (alone_any 4 _).mono ?_
      rintro e wc ⟨rfl, hb⟩
      try replace hp := hp.below hb
      replace hN := hN.below hb
      replace hS := hS.after hb
      clear hb
      refine ⟨⟨hS.b, hN⟩, ?_⟩
      try simp only [Act.put, List.setIfInBounds_toArray, List.set_cons_zero, List.set_cons_succ]
      refine wpAnyH_all (rs := [8]) (by kernel_rfl) (by simp) (fun i hi => ?_)
      simp only [List.mem_cons, List.not_mem_nil, or_false] at hi
      subst hi
      refine .inl ?_
      refine o_places (d := some 63) rfl [⟨4, 0⟩] (by simp [maxLen]) (by go_simp; try rfl) ?_
      intro v WP hp hb
      replace hN := hN.below hb
      replace hS := hS.after hb
      clear hb
      refine ⟨⟨hS.b, hN⟩, ?_⟩
      try simp only [Act.put, List.setIfInBounds_toArray, List.set_cons_zero, List.set_cons_succ]
      refine wpAnyH_all (rs := [9]) (by kernel_rfl) (by simp) (fun i hi => ?_)
      simp only [List.mem_cons, List.not_mem_nil, or_false] at hi
      subst hi
      refine .inl ?_
      go_simp
      refine (give_any hS.a (by first | omega | (simp only [List.length_append, List.length_cons, List.length_nil]; omega)) ⟨1, A⟩ _ [⟨4, 0⟩] hp).mono ?_
      rintro e wg ⟨rfl, hA, hK⟩
      replace hN := hN.kp hK hg
      replace hS := hS.give hA hK
      clear hA hK hp
      refine ⟨⟨hS.b, hN⟩, ?_⟩
      try simp only [Act.put, List.setIfInBounds_toArray, List.set_cons_zero, List.set_cons_succ]
      refine wpAnyH_done (by kernel_rfl) ?_ _
      replace HT := Lib.hid hS
      clear hS hK0
      go_wp2
      go_end0
      refine ⟨rfl, ?_, HT.out.k⟩
      have := HT.out.a
      rw [hR.out]
      simpa [behindT, keptK, on, rg] using this
    · go_wp2
      have hN : Nam _ := HN.out.below (Below.refl _ _).drew
      clear HE4 HE5 qx HN
      have hK0 := HT.out.drew
      refine wp_region_held_drew (S := fun W => Bks W [(g4, 49, 2, pla (rg A)), (g5, 49, 2, pla (rg B)), (w.heap.size, 58, 20, xc s ⟨26, A, B, 2⟩)] ∧ Nam W) (by kernel_rfl) (And.intro hK0.b hN) (fun _ => ?_)
      have hS := hK0
      refine take_d (i := 0) (d := some 55) (v := ?_) rfl rfl (by kernel_rfl) (by kernel_rfl) (by kernel_rfl) (fun _ _ _ h => h) (.inl ⟨by rfl, ?_⟩) (And.intro hS.b hN) ?_
      rotate_left
      · intro W hW
        go_simp
        try with_reducible rfl
      try simp only [Act.put, List.setIfInBounds_toArray, List.set_cons_zero, List.set_cons_succ]
      refine take_d (i := 1) (d := some 56) (v := .agg #[.int .i64 1, .int .i64 A]) rfl rfl (by kernel_rfl) (by kernel_rfl) (by kernel_rfl) (fun _ _ _ h => h) (y_R rowP (by kernel_rfl) rfl rfl (fun W hW => hW.1.h0)) (And.intro hS.b hN) ?_
      try simp only [Act.put, List.setIfInBounds_toArray, List.set_cons_zero, List.set_cons_succ]
      refine take_d (i := 2) (d := some 57) (v := ?_) rfl rfl (by kernel_rfl) (by kernel_rfl) (by kernel_rfl) (fun _ _ _ h => h) (.inl ⟨by rfl, ?_⟩) (And.intro hS.b hN) ?_
      rotate_left
      · intro W hW
        go_simp
        try with_reducible rfl
      try simp only [Act.put, List.setIfInBounds_toArray, List.set_cons_zero, List.set_cons_succ]
      refine take_d (i := 3) (d := some 58) (v := ?_) rfl rfl (by kernel_rfl) (by kernel_rfl) (by kernel_rfl) (fun _ _ _ h => h) (.inl ⟨by rfl, ?_⟩) (And.intro hS.b hN) ?_
      rotate_left
      · intro W hW
        go_simp
        try with_reducible rfl
      try simp only [Act.put, List.setIfInBounds_toArray, List.set_cons_zero, List.set_cons_succ]
      refine take_d (i := 4) (d := some 59) (v := ?_) rfl rfl (by kernel_rfl) (by kernel_rfl) (by kernel_rfl) (fun _ _ _ h => h) (.inl ⟨by rfl, ?_⟩) (And.intro hS.b hN) ?_
      rotate_left
      · intro W hW
        have q := hW.1.h2.x
        go_simp
        try with_reducible rfl
      try simp only [Act.put, List.setIfInBounds_toArray, List.set_cons_zero, List.set_cons_succ]
      refine take_d (i := 5) (d := some 60) (v := ?_) rfl rfl (by kernel_rfl) (by kernel_rfl) (by kernel_rfl) (fun _ _ _ h => h) (.inl ⟨by rfl, ?_⟩) (And.intro hS.b hN) ?_
      rotate_left
      · intro W hW
        go_simp
        try with_reducible rfl
      try simp only [Act.put, List.setIfInBounds_toArray, List.set_cons_zero, List.set_cons_succ]
      refine take_d (i := 6) (d := some 61) (v := ?_) rfl rfl (by kernel_rfl) (by kernel_rfl) (by kernel_rfl) (fun _ _ _ h => h) (.inl ⟨by rfl, ?_⟩) (And.intro hS.b hN) ?_
      rotate_left
      · intro W hW
        have qn : W.cell? ⟨0, 2, none⟩ = some (.int .i64 5) := (hW.2.at_ 2).trans rfl
        go_simp
        try with_reducible rfl
      try simp only [Act.put, List.setIfInBounds_toArray, List.set_cons_zero, List.set_cons_succ]
      refine wpAnyH_all (rs := [7]) (by kernel_rfl) (by simp) (fun i hi => ?_)
      simp only [List.mem_cons, List.not_mem_nil, or_false] at hi
      subst hi
      refine .inl ?_
      go_simp
      refine (alone_any 5 _).mono ?_
      rintro e wc ⟨rfl, hb⟩
      try replace hp := hp.below hb
      replace hN := hN.below hb
      replace hS := hS.after hb
      clear hb
      refine ⟨⟨hS.b, hN⟩, ?_⟩
      try simp only [Act.put, List.setIfInBounds_toArray, List.set_cons_zero, List.set_cons_succ]
      refine wpAnyH_all (rs := [8]) (by kernel_rfl) (by simp) (fun i hi => ?_)
      simp only [List.mem_cons, List.not_mem_nil, or_false] at hi
      subst hi
      refine .inl ?_
      refine o_places (d := some 63) rfl [⟨5, 0⟩] (by simp [maxLen]) (by go_simp; try rfl) ?_
      intro v WP hp hb
      replace hN := hN.below hb
      replace hS := hS.after hb
      clear hb
      refine ⟨⟨hS.b, hN⟩, ?_⟩
      try simp only [Act.put, List.setIfInBounds_toArray, List.set_cons_zero, List.set_cons_succ]
      refine wpAnyH_all (rs := [9]) (by kernel_rfl) (by simp) (fun i hi => ?_)
      simp only [List.mem_cons, List.not_mem_nil, or_false] at hi
      subst hi
      refine .inl ?_
      go_simp
      refine (give_any hS.a (by first | omega | (simp only [List.length_append, List.length_cons, List.length_nil]; omega)) ⟨1, A⟩ _ [⟨5, 0⟩] hp).mono ?_
      rintro e wg ⟨rfl, hA, hK⟩
      replace hN := hN.kp hK hg
      replace hS := hS.give hA hK
      clear hA hK hp
      refine ⟨⟨hS.b, hN⟩, ?_⟩
      try simp only [Act.put, List.setIfInBounds_toArray, List.set_cons_zero, List.set_cons_succ]
      refine wpAnyH_done (by kernel_rfl) ?_ _
      replace HT := Lib.hid hS
      clear hS hK0
      go_wp2
      go_end0
      refine ⟨rfl, ?_, HT.out.k⟩
      have := HT.out.a
      rw [hR.out]
      simpa [behindT, keptK, on, rg] using this
    · go_wp2
      have hN : Nam _ := HN.out.below (Below.refl _ _).drew
      clear HE4 HE5 qx HN
      have hK0 := HT.out.drew
      refine wp_region_held_drew (S := fun W => Bks W [(g4, 49, 2, pla (rg A)), (g5, 49, 2, pla (rg B)), (w.heap.size, 58, 20, xc s ⟨26, A, B, 3⟩)] ∧ Nam W) (by kernel_rfl) (And.intro hK0.b hN) (fun _ => ?_)
      have hS := hK0
      refine take_d (i := 0) (d := some 55) (v := ?_) rfl rfl (by kernel_rfl) (by kernel_rfl) (by kernel_rfl) (fun _ _ _ h => h) (.inl ⟨by rfl, ?_⟩) (And.intro hS.b hN) ?_
      rotate_left
      · intro W hW
        go_simp
        try with_reducible rfl
      try simp only [Act.put, List.setIfInBounds_toArray, List.set_cons_zero, List.set_cons_succ]
      refine take_d (i := 1) (d := some 56) (v := .agg #[.int .i64 1, .int .i64 A]) rfl rfl (by kernel_rfl) (by kernel_rfl) (by kernel_rfl) (fun _ _ _ h => h) (y_R rowP (by kernel_rfl) rfl rfl (fun W hW => hW.1.h0)) (And.intro hS.b hN) ?_
      try simp only [Act.put, List.setIfInBounds_toArray, List.set_cons_zero, List.set_cons_succ]
      refine take_d (i := 2) (d := some 57) (v := ?_) rfl rfl (by kernel_rfl) (by kernel_rfl) (by kernel_rfl) (fun _ _ _ h => h) (.inl ⟨by rfl, ?_⟩) (And.intro hS.b hN) ?_
      rotate_left
      · intro W hW
        go_simp
        try with_reducible rfl
      try simp only [Act.put, List.setIfInBounds_toArray, List.set_cons_zero, List.set_cons_succ]
      refine take_d (i := 3) (d := some 58) (v := ?_) rfl rfl (by kernel_rfl) (by kernel_rfl) (by kernel_rfl) (fun _ _ _ h => h) (.inl ⟨by rfl, ?_⟩) (And.intro hS.b hN) ?_
      rotate_left
      · intro W hW
        go_simp
        try with_reducible rfl
      try simp only [Act.put, List.setIfInBounds_toArray, List.set_cons_zero, List.set_cons_succ]
      refine take_d (i := 4) (d := some 59) (v := ?_) rfl rfl (by kernel_rfl) (by kernel_rfl) (by kernel_rfl) (fun _ _ _ h => h) (.inl ⟨by rfl, ?_⟩) (And.intro hS.b hN) ?_
      rotate_left
      · intro W hW
        have q := hW.1.h2.x
        go_simp
        try with_reducible rfl
      try simp only [Act.put, List.setIfInBounds_toArray, List.set_cons_zero, List.set_cons_succ]
      refine take_d (i := 5) (d := some 60) (v := ?_) rfl rfl (by kernel_rfl) (by kernel_rfl) (by kernel_rfl) (fun _ _ _ h => h) (.inl ⟨by rfl, ?_⟩) (And.intro hS.b hN) ?_
      rotate_left
      · intro W hW
        go_simp
        try with_reducible rfl
      try simp only [Act.put, List.setIfInBounds_toArray, List.set_cons_zero, List.set_cons_succ]
      refine take_d (i := 6) (d := some 61) (v := ?_) rfl rfl (by kernel_rfl) (by kernel_rfl) (by kernel_rfl) (fun _ _ _ h => h) (.inl ⟨by rfl, ?_⟩) (And.intro hS.b hN) ?_
      rotate_left
      · intro W hW
        have qn : W.cell? ⟨0, 3, none⟩ = some (.int .i64 6) := (hW.2.at_ 3).trans rfl
        go_simp
        try with_reducible rfl
      try simp only [Act.put, List.setIfInBounds_toArray, List.set_cons_zero, List.set_cons_succ]
      refine wpAnyH_all (rs := [7]) (by kernel_rfl) (by simp) (fun i hi => ?_)
      simp only [List.mem_cons, List.not_mem_nil, or_false] at hi
      subst hi
      refine .inl ?_
      go_simp
      refine (alone_any 6 _).mono ?_
      rintro e wc ⟨rfl, hb⟩
      try replace hp := hp.below hb
      replace hN := hN.below hb
      replace hS := hS.after hb
      clear hb
      refine ⟨⟨hS.b, hN⟩, ?_⟩
      try simp only [Act.put, List.setIfInBounds_toArray, List.set_cons_zero, List.set_cons_succ]
      refine wpAnyH_all (rs := [8]) (by kernel_rfl) (by simp) (fun i hi => ?_)
      simp only [List.mem_cons, List.not_mem_nil, or_false] at hi
      subst hi
      refine .inl ?_
      refine o_places (d := some 63) rfl [⟨6, 0⟩] (by simp [maxLen]) (by go_simp; try rfl) ?_
      intro v WP hp hb
      replace hN := hN.below hb
      replace hS := hS.after hb
      clear hb
      refine ⟨⟨hS.b, hN⟩, ?_⟩
      try simp only [Act.put, List.setIfInBounds_toArray, List.set_cons_zero, List.set_cons_succ]
      refine wpAnyH_all (rs := [9]) (by kernel_rfl) (by simp) (fun i hi => ?_)
      simp only [List.mem_cons, List.not_mem_nil, or_false] at hi
      subst hi
      refine .inl ?_
      go_simp
      refine (give_any hS.a (by first | omega | (simp only [List.length_append, List.length_cons, List.length_nil]; omega)) ⟨1, A⟩ _ [⟨6, 0⟩] hp).mono ?_
      rintro e wg ⟨rfl, hA, hK⟩
      replace hN := hN.kp hK hg
      replace hS := hS.give hA hK
      clear hA hK hp
      refine ⟨⟨hS.b, hN⟩, ?_⟩
      try simp only [Act.put, List.setIfInBounds_toArray, List.set_cons_zero, List.set_cons_succ]
      refine wpAnyH_done (by kernel_rfl) ?_ _
      replace HT := Lib.hid hS
      clear hS hK0
      go_wp2
      go_end0
      refine ⟨rfl, ?_, HT.out.k⟩
      have := HT.out.a
      rw [hR.out]
      simpa [behindT, keptK, on, rg] using this
    · go_wp2
      have hN : Nam _ := HN.out.below (Below.refl _ _).drew
      clear HE4 HE5 qx HN
      have hK0 := HT.out.drew
      refine wp_region_held_drew (S := fun W => Bks W [(g4, 49, 2, pla (rg A)), (g5, 49, 2, pla (rg B)), (w.heap.size, 58, 20, xc s ⟨26, A, B, 4⟩)] ∧ Nam W) (by kernel_rfl) (And.intro hK0.b hN) (fun _ => ?_)
      have hS := hK0
      refine take_d (i := 0) (d := some 55) (v := ?_) rfl rfl (by kernel_rfl) (by kernel_rfl) (by kernel_rfl) (fun _ _ _ h => h) (.inl ⟨by rfl, ?_⟩) (And.intro hS.b hN) ?_
      rotate_left
      · intro W hW
        go_simp
        try with_reducible rfl
      try simp only [Act.put, List.setIfInBounds_toArray, List.set_cons_zero, List.set_cons_succ]
      refine take_d (i := 1) (d := some 56) (v := .agg #[.int .i64 1, .int .i64 A]) rfl rfl (by kernel_rfl) (by kernel_rfl) (by kernel_rfl) (fun _ _ _ h => h) (y_R rowP (by kernel_rfl) rfl rfl (fun W hW => hW.1.h0)) (And.intro hS.b hN) ?_
      try simp only [Act.put, List.setIfInBounds_toArray, List.set_cons_zero, List.set_cons_succ]
      refine take_d (i := 2) (d := some 57) (v := ?_) rfl rfl (by kernel_rfl) (by kernel_rfl) (by kernel_rfl) (fun _ _ _ h => h) (.inl ⟨by rfl, ?_⟩) (And.intro hS.b hN) ?_
      rotate_left
      · intro W hW
        go_simp
        try with_reducible rfl
      try simp only [Act.put, List.setIfInBounds_toArray, List.set_cons_zero, List.set_cons_succ]
      refine take_d (i := 3) (d := some 58) (v := ?_) rfl rfl (by kernel_rfl) (by kernel_rfl) (by kernel_rfl) (fun _ _ _ h => h) (.inl ⟨by rfl, ?_⟩) (And.intro hS.b hN) ?_
      rotate_left
      · intro W hW
        go_simp
        try with_reducible rfl
      try simp only [Act.put, List.setIfInBounds_toArray, List.set_cons_zero, List.set_cons_succ]
      refine take_d (i := 4) (d := some 59) (v := ?_) rfl rfl (by kernel_rfl) (by kernel_rfl) (by kernel_rfl) (fun _ _ _ h => h) (.inl ⟨by rfl, ?_⟩) (And.intro hS.b hN) ?_
      rotate_left
      · intro W hW
        have q := hW.1.h2.x
        go_simp
        try with_reducible rfl
      try simp only [Act.put, List.setIfInBounds_toArray, List.set_cons_zero, List.set_cons_succ]
      refine take_d (i := 5) (d := some 60) (v := ?_) rfl rfl (by kernel_rfl) (by kernel_rfl) (by kernel_rfl) (fun _ _ _ h => h) (.inl ⟨by rfl, ?_⟩) (And.intro hS.b hN) ?_
      rotate_left
      · intro W hW
        go_simp
        try with_reducible rfl
      try simp only [Act.put, List.setIfInBounds_toArray, List.set_cons_zero, List.set_cons_succ]
      refine take_d (i := 6) (d := some 61) (v := ?_) rfl rfl (by kernel_rfl) (by kernel_rfl) (by kernel_rfl) (fun _ _ _ h => h) (.inl ⟨by rfl, ?_⟩) (And.intro hS.b hN) ?_
      rotate_left
      · intro W hW
        have qn : W.cell? ⟨0, 4, none⟩ = some (.int .i64 7) := (hW.2.at_ 4).trans rfl
        go_simp
        try with_reducible rfl
      try simp only [Act.put, List.setIfInBounds_toArray, List.set_cons_zero, List.set_cons_succ]
      refine wpAnyH_all (rs := [7]) (by kernel_rfl) (by simp) (fun i hi => ?_)
      simp only [List.mem_cons, List.not_mem_nil, or_false] at hi
      subst hi
      refine .inl ?_
      go_simp
      refine (alone_any 7 _).mono ?_
      rintro e wc ⟨rfl, hb⟩
      try replace hp := hp.below hb
      replace hN := hN.below hb
      replace hS := hS.after hb
      clear hb
      refine ⟨⟨hS.b, hN⟩, ?_⟩
      try simp only [Act.put, List.setIfInBounds_toArray, List.set_cons_zero, List.set_cons_succ]
      refine wpAnyH_all (rs := [8]) (by kernel_rfl) (by simp) (fun i hi => ?_)
      simp only [List.mem_cons, List.not_mem_nil, or_false] at hi
      subst hi
      refine .inl ?_
      refine o_places (d := some 63) rfl [⟨7, 0⟩] (by simp [maxLen]) (by go_simp; try rfl) ?_
      intro v WP hp hb
      replace hN := hN.below hb
      replace hS := hS.after hb
      clear hb
      refine ⟨⟨hS.b, hN⟩, ?_⟩
      try simp only [Act.put, List.setIfInBounds_toArray, List.set_cons_zero, List.set_cons_succ]
      refine wpAnyH_all (rs := [9]) (by kernel_rfl) (by simp) (fun i hi => ?_)
      simp only [List.mem_cons, List.not_mem_nil, or_false] at hi
      subst hi
      refine .inl ?_
      go_simp
      refine (give_any hS.a (by first | omega | (simp only [List.length_append, List.length_cons, List.length_nil]; omega)) ⟨1, A⟩ _ [⟨7, 0⟩] hp).mono ?_
      rintro e wg ⟨rfl, hA, hK⟩
      replace hN := hN.kp hK hg
      replace hS := hS.give hA hK
      clear hA hK hp
      refine ⟨⟨hS.b, hN⟩, ?_⟩
      try simp only [Act.put, List.setIfInBounds_toArray, List.set_cons_zero, List.set_cons_succ]
      refine wpAnyH_done (by kernel_rfl) ?_ _
      replace HT := Lib.hid hS
      clear hS hK0
      go_wp2
      go_end0
      refine ⟨rfl, ?_, HT.out.k⟩
      have := HT.out.a
      rw [hR.out]
      simpa [behindT, keptK, on, rg] using this
    · go_wp2
      have hN : Nam _ := HN.out.below (Below.refl _ _).drew
      clear HE4 HE5 qx HN
      have hK0 := HT.out.drew
      refine wp_region_held_drew (S := fun W => Bks W [(g4, 49, 2, pla (rg A)), (g5, 49, 2, pla (rg B)), (w.heap.size, 58, 20, xc s ⟨26, A, B, 5⟩)] ∧ Nam W) (by kernel_rfl) (And.intro hK0.b hN) (fun _ => ?_)
      have hS := hK0
      refine take_d (i := 0) (d := some 55) (v := ?_) rfl rfl (by kernel_rfl) (by kernel_rfl) (by kernel_rfl) (fun _ _ _ h => h) (.inl ⟨by rfl, ?_⟩) (And.intro hS.b hN) ?_
      rotate_left
      · intro W hW
        go_simp
        try with_reducible rfl
      try simp only [Act.put, List.setIfInBounds_toArray, List.set_cons_zero, List.set_cons_succ]
      refine take_d (i := 1) (d := some 56) (v := .agg #[.int .i64 1, .int .i64 A]) rfl rfl (by kernel_rfl) (by kernel_rfl) (by kernel_rfl) (fun _ _ _ h => h) (y_R rowP (by kernel_rfl) rfl rfl (fun W hW => hW.1.h0)) (And.intro hS.b hN) ?_
      try simp only [Act.put, List.setIfInBounds_toArray, List.set_cons_zero, List.set_cons_succ]
      refine take_d (i := 2) (d := some 57) (v := ?_) rfl rfl (by kernel_rfl) (by kernel_rfl) (by kernel_rfl) (fun _ _ _ h => h) (.inl ⟨by rfl, ?_⟩) (And.intro hS.b hN) ?_
      rotate_left
      · intro W hW
        go_simp
        try with_reducible rfl
      try simp only [Act.put, List.setIfInBounds_toArray, List.set_cons_zero, List.set_cons_succ]
      refine take_d (i := 3) (d := some 58) (v := ?_) rfl rfl (by kernel_rfl) (by kernel_rfl) (by kernel_rfl) (fun _ _ _ h => h) (.inl ⟨by rfl, ?_⟩) (And.intro hS.b hN) ?_
      rotate_left
      · intro W hW
        go_simp
        try with_reducible rfl
      try simp only [Act.put, List.setIfInBounds_toArray, List.set_cons_zero, List.set_cons_succ]
      refine take_d (i := 4) (d := some 59) (v := ?_) rfl rfl (by kernel_rfl) (by kernel_rfl) (by kernel_rfl) (fun _ _ _ h => h) (.inl ⟨by rfl, ?_⟩) (And.intro hS.b hN) ?_
      rotate_left
      · intro W hW
        have q := hW.1.h2.x
        go_simp
        try with_reducible rfl
      try simp only [Act.put, List.setIfInBounds_toArray, List.set_cons_zero, List.set_cons_succ]
      refine take_d (i := 5) (d := some 60) (v := ?_) rfl rfl (by kernel_rfl) (by kernel_rfl) (by kernel_rfl) (fun _ _ _ h => h) (.inl ⟨by rfl, ?_⟩) (And.intro hS.b hN) ?_
      rotate_left
      · intro W hW
        go_simp
        try with_reducible rfl
      try simp only [Act.put, List.setIfInBounds_toArray, List.set_cons_zero, List.set_cons_succ]
      refine take_d (i := 6) (d := some 61) (v := ?_) rfl rfl (by kernel_rfl) (by kernel_rfl) (by kernel_rfl) (fun _ _ _ h => h) (.inl ⟨by rfl, ?_⟩) (And.intro hS.b hN) ?_
      rotate_left
      · intro W hW
        have qn : W.cell? ⟨0, 5, none⟩ = some (.int .i64 2) := (hW.2.at_ 5).trans rfl
        go_simp
        try with_reducible rfl
      try simp only [Act.put, List.setIfInBounds_toArray, List.set_cons_zero, List.set_cons_succ]
      refine wpAnyH_all (rs := [7]) (by kernel_rfl) (by simp) (fun i hi => ?_)
      simp only [List.mem_cons, List.not_mem_nil, or_false] at hi
      subst hi
      refine .inl ?_
      go_simp
      refine (alone_any 2 _).mono ?_
      rintro e wc ⟨rfl, hb⟩
      try replace hp := hp.below hb
      replace hN := hN.below hb
      replace hS := hS.after hb
      clear hb
      refine ⟨⟨hS.b, hN⟩, ?_⟩
      try simp only [Act.put, List.setIfInBounds_toArray, List.set_cons_zero, List.set_cons_succ]
      refine wpAnyH_all (rs := [8]) (by kernel_rfl) (by simp) (fun i hi => ?_)
      simp only [List.mem_cons, List.not_mem_nil, or_false] at hi
      subst hi
      refine .inl ?_
      refine o_places (d := some 63) rfl [⟨2, 0⟩] (by simp [maxLen]) (by go_simp; try rfl) ?_
      intro v WP hp hb
      replace hN := hN.below hb
      replace hS := hS.after hb
      clear hb
      refine ⟨⟨hS.b, hN⟩, ?_⟩
      try simp only [Act.put, List.setIfInBounds_toArray, List.set_cons_zero, List.set_cons_succ]
      refine wpAnyH_all (rs := [9]) (by kernel_rfl) (by simp) (fun i hi => ?_)
      simp only [List.mem_cons, List.not_mem_nil, or_false] at hi
      subst hi
      refine .inl ?_
      go_simp
      refine (give_any hS.a (by first | omega | (simp only [List.length_append, List.length_cons, List.length_nil]; omega)) ⟨1, A⟩ _ [⟨2, 0⟩] hp).mono ?_
      rintro e wg ⟨rfl, hA, hK⟩
      replace hN := hN.kp hK hg
      replace hS := hS.give hA hK
      clear hA hK hp
      refine ⟨⟨hS.b, hN⟩, ?_⟩
      try simp only [Act.put, List.setIfInBounds_toArray, List.set_cons_zero, List.set_cons_succ]
      refine wpAnyH_done (by kernel_rfl) ?_ _
      replace HT := Lib.hid hS
      clear hS hK0
      go_wp2
      go_end0
      refine ⟨rfl, ?_, HT.out.k⟩
      have := HT.out.a
      rw [hR.out]
      simpa [behindT, keptK, on, rg] using this
  · have hm := HM.out (by decide)
    obtain rfl | rfl | rfl | rfl | rfl | rfl : m = 0 ∨ m = 1 ∨ m = 2 ∨ m = 3 ∨ m = 4 ∨ m = 5 := by omega
    · go_wp2
      have hN : Nam _ := HN.out.below (Below.refl _ _).drew
      clear HE4 HE5 qx HN
      have hK0 := HT.out.drew
      refine wp_region_held_drew (S := fun W => Bks W [(g4, 49, 2, pla (rg A)), (g5, 49, 2, pla (rg B)), (w.heap.size, 58, 20, xc s ⟨27, A, B, 0⟩)] ∧ Nam W) (by kernel_rfl) (And.intro hK0.b hN) (fun _ => ?_)
      have hS := hK0
      refine take_d (i := 0) (d := some 67) (v := ?_) rfl rfl (by kernel_rfl) (by kernel_rfl) (by kernel_rfl) (fun _ _ _ h => h) (.inl ⟨by rfl, ?_⟩) (And.intro hS.b hN) ?_
      rotate_left
      · intro W hW
        go_simp
        try with_reducible rfl
      try simp only [Act.put, List.setIfInBounds_toArray, List.set_cons_zero, List.set_cons_succ]
      refine take_d (i := 1) (d := some 68) (v := ?_) rfl rfl (by kernel_rfl) (by kernel_rfl) (by kernel_rfl) (fun _ _ _ h => h) (.inl ⟨by rfl, ?_⟩) (And.intro hS.b hN) ?_
      rotate_left
      · intro W hW
        go_simp
        try with_reducible rfl
      try simp only [Act.put, List.setIfInBounds_toArray, List.set_cons_zero, List.set_cons_succ]
      refine take_d (i := 2) (d := some 69) (v := ?_) rfl rfl (by kernel_rfl) (by kernel_rfl) (by kernel_rfl) (fun _ _ _ h => h) (.inl ⟨by rfl, ?_⟩) (And.intro hS.b hN) ?_
      rotate_left
      · intro W hW
        go_simp
        try with_reducible rfl
      try simp only [Act.put, List.setIfInBounds_toArray, List.set_cons_zero, List.set_cons_succ]
      refine take_d (i := 3) (d := some 70) (v := ?_) rfl rfl (by kernel_rfl) (by kernel_rfl) (by kernel_rfl) (fun _ _ _ h => h) (.inl ⟨by rfl, ?_⟩) (And.intro hS.b hN) ?_
      rotate_left
      · intro W hW
        have q := hW.1.h2.x
        go_simp
        try with_reducible rfl
      try simp only [Act.put, List.setIfInBounds_toArray, List.set_cons_zero, List.set_cons_succ]
      refine take_d (i := 4) (d := some 71) (v := ?_) rfl rfl (by kernel_rfl) (by kernel_rfl) (by kernel_rfl) (fun _ _ _ h => h) (.inl ⟨by rfl, ?_⟩) (And.intro hS.b hN) ?_
      rotate_left
      · intro W hW
        go_simp
        try with_reducible rfl
      try simp only [Act.put, List.setIfInBounds_toArray, List.set_cons_zero, List.set_cons_succ]
      refine take_d (i := 5) (d := some 72) (v := ?_) rfl rfl (by kernel_rfl) (by kernel_rfl) (by kernel_rfl) (fun _ _ _ h => h) (.inl ⟨by rfl, ?_⟩) (And.intro hS.b hN) ?_
      rotate_left
      · intro W hW
        have qn : W.cell? ⟨0, 0, none⟩ = some (.int .i64 3) := (hW.2.at_ 0).trans rfl
        go_simp
        try with_reducible rfl
      try simp only [Act.put, List.setIfInBounds_toArray, List.set_cons_zero, List.set_cons_succ]
      refine take_d (i := 7) (d := some 74) (v := .agg #[.int .i64 1, .int .i64 A]) rfl rfl (by kernel_rfl) (by kernel_rfl) (by kernel_rfl) (fun _ _ _ h => h) (y_R rowP (by kernel_rfl) rfl rfl (fun W hW => hW.1.h0)) (And.intro hS.b hN) ?_
      try simp only [Act.put, List.setIfInBounds_toArray, List.set_cons_zero, List.set_cons_succ]
      refine wpAnyH_all (rs := [6]) (by kernel_rfl) (by simp) (fun i hi => ?_)
      simp only [List.mem_cons, List.not_mem_nil, or_false] at hi
      subst hi
      refine .inl ?_
      go_simp
      refine (alone_any 3 _).mono ?_
      rintro e wc ⟨rfl, hb⟩
      try replace hp := hp.below hb
      replace hN := hN.below hb
      replace hS := hS.after hb
      clear hb
      refine ⟨⟨hS.b, hN⟩, ?_⟩
      try simp only [Act.put, List.setIfInBounds_toArray, List.set_cons_zero, List.set_cons_succ]
      refine wpAnyH_all (rs := [8]) (by kernel_rfl) (by simp) (fun i hi => ?_)
      simp only [List.mem_cons, List.not_mem_nil, or_false] at hi
      subst hi
      refine .inl ?_
      go_simp
      refine (tset_o hS.a (by first | omega | (simp only [List.length_append, List.length_cons, List.length_nil]; omega)) 3 0 1 A (by decide) (by decide)).mono ?_
      rintro e wg ⟨rfl, hA, hK⟩
      replace hN := hN.kp hK hg
      replace hS := hS.give hA hK
      clear hA hK
      refine ⟨⟨hS.b, hN⟩, ?_⟩
      try simp only [Act.put, List.setIfInBounds_toArray, List.set_cons_zero, List.set_cons_succ]
      refine wpAnyH_done (by kernel_rfl) ?_ _
      replace HT := Lib.hid hS
      clear hS hK0
      go_wp2
      go_end0
      refine ⟨rfl, ?_, HT.out.k⟩
      have := HT.out.a
      rw [hR.out]
      simpa [behindT, keptK, on, rg] using this
    · go_wp2
      have hN : Nam _ := HN.out.below (Below.refl _ _).drew
      clear HE4 HE5 qx HN
      have hK0 := HT.out.drew
      refine wp_region_held_drew (S := fun W => Bks W [(g4, 49, 2, pla (rg A)), (g5, 49, 2, pla (rg B)), (w.heap.size, 58, 20, xc s ⟨27, A, B, 1⟩)] ∧ Nam W) (by kernel_rfl) (And.intro hK0.b hN) (fun _ => ?_)
      have hS := hK0
      refine take_d (i := 0) (d := some 67) (v := ?_) rfl rfl (by kernel_rfl) (by kernel_rfl) (by kernel_rfl) (fun _ _ _ h => h) (.inl ⟨by rfl, ?_⟩) (And.intro hS.b hN) ?_
      rotate_left
      · intro W hW
        go_simp
        try with_reducible rfl
      try simp only [Act.put, List.setIfInBounds_toArray, List.set_cons_zero, List.set_cons_succ]
      refine take_d (i := 1) (d := some 68) (v := ?_) rfl rfl (by kernel_rfl) (by kernel_rfl) (by kernel_rfl) (fun _ _ _ h => h) (.inl ⟨by rfl, ?_⟩) (And.intro hS.b hN) ?_
      rotate_left
      · intro W hW
        go_simp
        try with_reducible rfl
      try simp only [Act.put, List.setIfInBounds_toArray, List.set_cons_zero, List.set_cons_succ]
      refine take_d (i := 2) (d := some 69) (v := ?_) rfl rfl (by kernel_rfl) (by kernel_rfl) (by kernel_rfl) (fun _ _ _ h => h) (.inl ⟨by rfl, ?_⟩) (And.intro hS.b hN) ?_
      rotate_left
      · intro W hW
        go_simp
        try with_reducible rfl
      try simp only [Act.put, List.setIfInBounds_toArray, List.set_cons_zero, List.set_cons_succ]
      refine take_d (i := 3) (d := some 70) (v := ?_) rfl rfl (by kernel_rfl) (by kernel_rfl) (by kernel_rfl) (fun _ _ _ h => h) (.inl ⟨by rfl, ?_⟩) (And.intro hS.b hN) ?_
      rotate_left
      · intro W hW
        have q := hW.1.h2.x
        go_simp
        try with_reducible rfl
      try simp only [Act.put, List.setIfInBounds_toArray, List.set_cons_zero, List.set_cons_succ]
      refine take_d (i := 4) (d := some 71) (v := ?_) rfl rfl (by kernel_rfl) (by kernel_rfl) (by kernel_rfl) (fun _ _ _ h => h) (.inl ⟨by rfl, ?_⟩) (And.intro hS.b hN) ?_
      rotate_left
      · intro W hW
        go_simp
        try with_reducible rfl
      try simp only [Act.put, List.setIfInBounds_toArray, List.set_cons_zero, List.set_cons_succ]
      refine take_d (i := 5) (d := some 72) (v := ?_) rfl rfl (by kernel_rfl) (by kernel_rfl) (by kernel_rfl) (fun _ _ _ h => h) (.inl ⟨by rfl, ?_⟩) (And.intro hS.b hN) ?_
      rotate_left
      · intro W hW
        have qn : W.cell? ⟨0, 1, none⟩ = some (.int .i64 4) := (hW.2.at_ 1).trans rfl
        go_simp
        try with_reducible rfl
      try simp only [Act.put, List.setIfInBounds_toArray, List.set_cons_zero, List.set_cons_succ]
      refine take_d (i := 7) (d := some 74) (v := .agg #[.int .i64 1, .int .i64 A]) rfl rfl (by kernel_rfl) (by kernel_rfl) (by kernel_rfl) (fun _ _ _ h => h) (y_R rowP (by kernel_rfl) rfl rfl (fun W hW => hW.1.h0)) (And.intro hS.b hN) ?_
      try simp only [Act.put, List.setIfInBounds_toArray, List.set_cons_zero, List.set_cons_succ]
      refine wpAnyH_all (rs := [6]) (by kernel_rfl) (by simp) (fun i hi => ?_)
      simp only [List.mem_cons, List.not_mem_nil, or_false] at hi
      subst hi
      refine .inl ?_
      go_simp
      refine (alone_any 4 _).mono ?_
      rintro e wc ⟨rfl, hb⟩
      try replace hp := hp.below hb
      replace hN := hN.below hb
      replace hS := hS.after hb
      clear hb
      refine ⟨⟨hS.b, hN⟩, ?_⟩
      try simp only [Act.put, List.setIfInBounds_toArray, List.set_cons_zero, List.set_cons_succ]
      refine wpAnyH_all (rs := [8]) (by kernel_rfl) (by simp) (fun i hi => ?_)
      simp only [List.mem_cons, List.not_mem_nil, or_false] at hi
      subst hi
      refine .inl ?_
      go_simp
      refine (tset_o hS.a (by first | omega | (simp only [List.length_append, List.length_cons, List.length_nil]; omega)) 4 0 1 A (by decide) (by decide)).mono ?_
      rintro e wg ⟨rfl, hA, hK⟩
      replace hN := hN.kp hK hg
      replace hS := hS.give hA hK
      clear hA hK
      refine ⟨⟨hS.b, hN⟩, ?_⟩
      try simp only [Act.put, List.setIfInBounds_toArray, List.set_cons_zero, List.set_cons_succ]
      refine wpAnyH_done (by kernel_rfl) ?_ _
      replace HT := Lib.hid hS
      clear hS hK0
      go_wp2
      go_end0
      refine ⟨rfl, ?_, HT.out.k⟩
      have := HT.out.a
      rw [hR.out]
      simpa [behindT, keptK, on, rg] using this
    · go_wp2
      have hN : Nam _ := HN.out.below (Below.refl _ _).drew
      clear HE4 HE5 qx HN
      have hK0 := HT.out.drew
      refine wp_region_held_drew (S := fun W => Bks W [(g4, 49, 2, pla (rg A)), (g5, 49, 2, pla (rg B)), (w.heap.size, 58, 20, xc s ⟨27, A, B, 2⟩)] ∧ Nam W) (by kernel_rfl) (And.intro hK0.b hN) (fun _ => ?_)
      have hS := hK0
      refine take_d (i := 0) (d := some 67) (v := ?_) rfl rfl (by kernel_rfl) (by kernel_rfl) (by kernel_rfl) (fun _ _ _ h => h) (.inl ⟨by rfl, ?_⟩) (And.intro hS.b hN) ?_
      rotate_left
      · intro W hW
        go_simp
        try with_reducible rfl
      try simp only [Act.put, List.setIfInBounds_toArray, List.set_cons_zero, List.set_cons_succ]
      refine take_d (i := 1) (d := some 68) (v := ?_) rfl rfl (by kernel_rfl) (by kernel_rfl) (by kernel_rfl) (fun _ _ _ h => h) (.inl ⟨by rfl, ?_⟩) (And.intro hS.b hN) ?_
      rotate_left
      · intro W hW
        go_simp
        try with_reducible rfl
      try simp only [Act.put, List.setIfInBounds_toArray, List.set_cons_zero, List.set_cons_succ]
      refine take_d (i := 2) (d := some 69) (v := ?_) rfl rfl (by kernel_rfl) (by kernel_rfl) (by kernel_rfl) (fun _ _ _ h => h) (.inl ⟨by rfl, ?_⟩) (And.intro hS.b hN) ?_
      rotate_left
      · intro W hW
        go_simp
        try with_reducible rfl
      try simp only [Act.put, List.setIfInBounds_toArray, List.set_cons_zero, List.set_cons_succ]
      refine take_d (i := 3) (d := some 70) (v := ?_) rfl rfl (by kernel_rfl) (by kernel_rfl) (by kernel_rfl) (fun _ _ _ h => h) (.inl ⟨by rfl, ?_⟩) (And.intro hS.b hN) ?_
      rotate_left
      · intro W hW
        have q := hW.1.h2.x
        go_simp
        try with_reducible rfl
      try simp only [Act.put, List.setIfInBounds_toArray, List.set_cons_zero, List.set_cons_succ]
      refine take_d (i := 4) (d := some 71) (v := ?_) rfl rfl (by kernel_rfl) (by kernel_rfl) (by kernel_rfl) (fun _ _ _ h => h) (.inl ⟨by rfl, ?_⟩) (And.intro hS.b hN) ?_
      rotate_left
      · intro W hW
        go_simp
        try with_reducible rfl
      try simp only [Act.put, List.setIfInBounds_toArray, List.set_cons_zero, List.set_cons_succ]
      refine take_d (i := 5) (d := some 72) (v := ?_) rfl rfl (by kernel_rfl) (by kernel_rfl) (by kernel_rfl) (fun _ _ _ h => h) (.inl ⟨by rfl, ?_⟩) (And.intro hS.b hN) ?_
      rotate_left
      · intro W hW
        have qn : W.cell? ⟨0, 2, none⟩ = some (.int .i64 5) := (hW.2.at_ 2).trans rfl
        go_simp
        try with_reducible rfl
      try simp only [Act.put, List.setIfInBounds_toArray, List.set_cons_zero, List.set_cons_succ]
      refine take_d (i := 7) (d := some 74) (v := .agg #[.int .i64 1, .int .i64 A]) rfl rfl (by kernel_rfl) (by kernel_rfl) (by kernel_rfl) (fun _ _ _ h => h) (y_R rowP (by kernel_rfl) rfl rfl (fun W hW => hW.1.h0)) (And.intro hS.b hN) ?_
      try simp only [Act.put, List.setIfInBounds_toArray, List.set_cons_zero, List.set_cons_succ]
      refine wpAnyH_all (rs := [6]) (by kernel_rfl) (by simp) (fun i hi => ?_)
      simp only [List.mem_cons, List.not_mem_nil, or_false] at hi
      subst hi
      refine .inl ?_
      go_simp
      refine (alone_any 5 _).mono ?_
      rintro e wc ⟨rfl, hb⟩
      try replace hp := hp.below hb
      replace hN := hN.below hb
      replace hS := hS.after hb
      clear hb
      refine ⟨⟨hS.b, hN⟩, ?_⟩
      try simp only [Act.put, List.setIfInBounds_toArray, List.set_cons_zero, List.set_cons_succ]
      refine wpAnyH_all (rs := [8]) (by kernel_rfl) (by simp) (fun i hi => ?_)
      simp only [List.mem_cons, List.not_mem_nil, or_false] at hi
      subst hi
      refine .inl ?_
      go_simp
      refine (tset_o hS.a (by first | omega | (simp only [List.length_append, List.length_cons, List.length_nil]; omega)) 5 0 1 A (by decide) (by decide)).mono ?_
      rintro e wg ⟨rfl, hA, hK⟩
      replace hN := hN.kp hK hg
      replace hS := hS.give hA hK
      clear hA hK
      refine ⟨⟨hS.b, hN⟩, ?_⟩
      try simp only [Act.put, List.setIfInBounds_toArray, List.set_cons_zero, List.set_cons_succ]
      refine wpAnyH_done (by kernel_rfl) ?_ _
      replace HT := Lib.hid hS
      clear hS hK0
      go_wp2
      go_end0
      refine ⟨rfl, ?_, HT.out.k⟩
      have := HT.out.a
      rw [hR.out]
      simpa [behindT, keptK, on, rg] using this
    · go_wp2
      have hN : Nam _ := HN.out.below (Below.refl _ _).drew
      clear HE4 HE5 qx HN
      have hK0 := HT.out.drew
      refine wp_region_held_drew (S := fun W => Bks W [(g4, 49, 2, pla (rg A)), (g5, 49, 2, pla (rg B)), (w.heap.size, 58, 20, xc s ⟨27, A, B, 3⟩)] ∧ Nam W) (by kernel_rfl) (And.intro hK0.b hN) (fun _ => ?_)
      have hS := hK0
      refine take_d (i := 0) (d := some 67) (v := ?_) rfl rfl (by kernel_rfl) (by kernel_rfl) (by kernel_rfl) (fun _ _ _ h => h) (.inl ⟨by rfl, ?_⟩) (And.intro hS.b hN) ?_
      rotate_left
      · intro W hW
        go_simp
        try with_reducible rfl
      try simp only [Act.put, List.setIfInBounds_toArray, List.set_cons_zero, List.set_cons_succ]
      refine take_d (i := 1) (d := some 68) (v := ?_) rfl rfl (by kernel_rfl) (by kernel_rfl) (by kernel_rfl) (fun _ _ _ h => h) (.inl ⟨by rfl, ?_⟩) (And.intro hS.b hN) ?_
      rotate_left
      · intro W hW
        go_simp
        try with_reducible rfl
      try simp only [Act.put, List.setIfInBounds_toArray, List.set_cons_zero, List.set_cons_succ]
      refine take_d (i := 2) (d := some 69) (v := ?_) rfl rfl (by kernel_rfl) (by kernel_rfl) (by kernel_rfl) (fun _ _ _ h => h) (.inl ⟨by rfl, ?_⟩) (And.intro hS.b hN) ?_
      rotate_left
      · intro W hW
        go_simp
        try with_reducible rfl
      try simp only [Act.put, List.setIfInBounds_toArray, List.set_cons_zero, List.set_cons_succ]
      refine take_d (i := 3) (d := some 70) (v := ?_) rfl rfl (by kernel_rfl) (by kernel_rfl) (by kernel_rfl) (fun _ _ _ h => h) (.inl ⟨by rfl, ?_⟩) (And.intro hS.b hN) ?_
      rotate_left
      · intro W hW
        have q := hW.1.h2.x
        go_simp
        try with_reducible rfl
      try simp only [Act.put, List.setIfInBounds_toArray, List.set_cons_zero, List.set_cons_succ]
      refine take_d (i := 4) (d := some 71) (v := ?_) rfl rfl (by kernel_rfl) (by kernel_rfl) (by kernel_rfl) (fun _ _ _ h => h) (.inl ⟨by rfl, ?_⟩) (And.intro hS.b hN) ?_
      rotate_left
      · intro W hW
        go_simp
        try with_reducible rfl
      try simp only [Act.put, List.setIfInBounds_toArray, List.set_cons_zero, List.set_cons_succ]
      refine take_d (i := 5) (d := some 72) (v := ?_) rfl rfl (by kernel_rfl) (by kernel_rfl) (by kernel_rfl) (fun _ _ _ h => h) (.inl ⟨by rfl, ?_⟩) (And.intro hS.b hN) ?_
      rotate_left
      · intro W hW
        have qn : W.cell? ⟨0, 3, none⟩ = some (.int .i64 6) := (hW.2.at_ 3).trans rfl
        go_simp
        try with_reducible rfl
      try simp only [Act.put, List.setIfInBounds_toArray, List.set_cons_zero, List.set_cons_succ]
      refine take_d (i := 7) (d := some 74) (v := .agg #[.int .i64 1, .int .i64 A]) rfl rfl (by kernel_rfl) (by kernel_rfl) (by kernel_rfl) (fun _ _ _ h => h) (y_R rowP (by kernel_rfl) rfl rfl (fun W hW => hW.1.h0)) (And.intro hS.b hN) ?_
      try simp only [Act.put, List.setIfInBounds_toArray, List.set_cons_zero, List.set_cons_succ]
      refine wpAnyH_all (rs := [6]) (by kernel_rfl) (by simp) (fun i hi => ?_)
      simp only [List.mem_cons, List.not_mem_nil, or_false] at hi
      subst hi
      refine .inl ?_
      go_simp
      refine (alone_any 6 _).mono ?_
      rintro e wc ⟨rfl, hb⟩
      try replace hp := hp.below hb
      replace hN := hN.below hb
      replace hS := hS.after hb
      clear hb
      refine ⟨⟨hS.b, hN⟩, ?_⟩
      try simp only [Act.put, List.setIfInBounds_toArray, List.set_cons_zero, List.set_cons_succ]
      refine wpAnyH_all (rs := [8]) (by kernel_rfl) (by simp) (fun i hi => ?_)
      simp only [List.mem_cons, List.not_mem_nil, or_false] at hi
      subst hi
      refine .inl ?_
      go_simp
      refine (tset_o hS.a (by first | omega | (simp only [List.length_append, List.length_cons, List.length_nil]; omega)) 6 0 1 A (by decide) (by decide)).mono ?_
      rintro e wg ⟨rfl, hA, hK⟩
      replace hN := hN.kp hK hg
      replace hS := hS.give hA hK
      clear hA hK
      refine ⟨⟨hS.b, hN⟩, ?_⟩
      try simp only [Act.put, List.setIfInBounds_toArray, List.set_cons_zero, List.set_cons_succ]
      refine wpAnyH_done (by kernel_rfl) ?_ _
      replace HT := Lib.hid hS
      clear hS hK0
      go_wp2
      go_end0
      refine ⟨rfl, ?_, HT.out.k⟩
      have := HT.out.a
      rw [hR.out]
      simpa [behindT, keptK, on, rg] using this
    · go_wp2
      have hN : Nam _ := HN.out.below (Below.refl _ _).drew
      clear HE4 HE5 qx HN
      have hK0 := HT.out.drew
      refine wp_region_held_drew (S := fun W => Bks W [(g4, 49, 2, pla (rg A)), (g5, 49, 2, pla (rg B)), (w.heap.size, 58, 20, xc s ⟨27, A, B, 4⟩)] ∧ Nam W) (by kernel_rfl) (And.intro hK0.b hN) (fun _ => ?_)
      have hS := hK0
      refine take_d (i := 0) (d := some 67) (v := ?_) rfl rfl (by kernel_rfl) (by kernel_rfl) (by kernel_rfl) (fun _ _ _ h => h) (.inl ⟨by rfl, ?_⟩) (And.intro hS.b hN) ?_
      rotate_left
      · intro W hW
        go_simp
        try with_reducible rfl
      try simp only [Act.put, List.setIfInBounds_toArray, List.set_cons_zero, List.set_cons_succ]
      refine take_d (i := 1) (d := some 68) (v := ?_) rfl rfl (by kernel_rfl) (by kernel_rfl) (by kernel_rfl) (fun _ _ _ h => h) (.inl ⟨by rfl, ?_⟩) (And.intro hS.b hN) ?_
      rotate_left
      · intro W hW
        go_simp
        try with_reducible rfl
      try simp only [Act.put, List.setIfInBounds_toArray, List.set_cons_zero, List.set_cons_succ]
      refine take_d (i := 2) (d := some 69) (v := ?_) rfl rfl (by kernel_rfl) (by kernel_rfl) (by kernel_rfl) (fun _ _ _ h => h) (.inl ⟨by rfl, ?_⟩) (And.intro hS.b hN) ?_
      rotate_left
      · intro W hW
        go_simp
        try with_reducible rfl
      try simp only [Act.put, List.setIfInBounds_toArray, List.set_cons_zero, List.set_cons_succ]
      refine take_d (i := 3) (d := some 70) (v := ?_) rfl rfl (by kernel_rfl) (by kernel_rfl) (by kernel_rfl) (fun _ _ _ h => h) (.inl ⟨by rfl, ?_⟩) (And.intro hS.b hN) ?_
      rotate_left
      · intro W hW
        have q := hW.1.h2.x
        go_simp
        try with_reducible rfl
      try simp only [Act.put, List.setIfInBounds_toArray, List.set_cons_zero, List.set_cons_succ]
      refine take_d (i := 4) (d := some 71) (v := ?_) rfl rfl (by kernel_rfl) (by kernel_rfl) (by kernel_rfl) (fun _ _ _ h => h) (.inl ⟨by rfl, ?_⟩) (And.intro hS.b hN) ?_
      rotate_left
      · intro W hW
        go_simp
        try with_reducible rfl
      try simp only [Act.put, List.setIfInBounds_toArray, List.set_cons_zero, List.set_cons_succ]
      refine take_d (i := 5) (d := some 72) (v := ?_) rfl rfl (by kernel_rfl) (by kernel_rfl) (by kernel_rfl) (fun _ _ _ h => h) (.inl ⟨by rfl, ?_⟩) (And.intro hS.b hN) ?_
      rotate_left
      · intro W hW
        have qn : W.cell? ⟨0, 4, none⟩ = some (.int .i64 7) := (hW.2.at_ 4).trans rfl
        go_simp
        try with_reducible rfl
      try simp only [Act.put, List.setIfInBounds_toArray, List.set_cons_zero, List.set_cons_succ]
      refine take_d (i := 7) (d := some 74) (v := .agg #[.int .i64 1, .int .i64 A]) rfl rfl (by kernel_rfl) (by kernel_rfl) (by kernel_rfl) (fun _ _ _ h => h) (y_R rowP (by kernel_rfl) rfl rfl (fun W hW => hW.1.h0)) (And.intro hS.b hN) ?_
      try simp only [Act.put, List.setIfInBounds_toArray, List.set_cons_zero, List.set_cons_succ]
      refine wpAnyH_all (rs := [6]) (by kernel_rfl) (by simp) (fun i hi => ?_)
      simp only [List.mem_cons, List.not_mem_nil, or_false] at hi
      subst hi
      refine .inl ?_
      go_simp
      refine (alone_any 7 _).mono ?_
      rintro e wc ⟨rfl, hb⟩
      try replace hp := hp.below hb
      replace hN := hN.below hb
      replace hS := hS.after hb
      clear hb
      refine ⟨⟨hS.b, hN⟩, ?_⟩
      try simp only [Act.put, List.setIfInBounds_toArray, List.set_cons_zero, List.set_cons_succ]
      refine wpAnyH_all (rs := [8]) (by kernel_rfl) (by simp) (fun i hi => ?_)
      simp only [List.mem_cons, List.not_mem_nil, or_false] at hi
      subst hi
      refine .inl ?_
      go_simp
      refine (tset_7 hS.a (by first | omega | (simp only [List.length_append, List.length_cons, List.length_nil]; omega)) 0 1 A).mono ?_
      rintro e wg ⟨rfl, hA, hK⟩
      replace hN := hN.kp hK hg
      replace hS := hS.give hA hK
      clear hA hK
      refine ⟨⟨hS.b, hN⟩, ?_⟩
      try simp only [Act.put, List.setIfInBounds_toArray, List.set_cons_zero, List.set_cons_succ]
      refine wpAnyH_done (by kernel_rfl) ?_ _
      replace HT := Lib.hid hS
      clear hS hK0
      go_wp2
      go_end0
      refine ⟨rfl, ?_, HT.out.k⟩
      have := HT.out.a
      rw [hR.out]
      simpa [behindT, keptK, on, rg] using this
    · go_wp2
      have hN : Nam _ := HN.out.below (Below.refl _ _).drew
      clear HE4 HE5 qx HN
      have hK0 := HT.out.drew
      refine wp_region_held_drew (S := fun W => Bks W [(g4, 49, 2, pla (rg A)), (g5, 49, 2, pla (rg B)), (w.heap.size, 58, 20, xc s ⟨27, A, B, 5⟩)] ∧ Nam W) (by kernel_rfl) (And.intro hK0.b hN) (fun _ => ?_)
      have hS := hK0
      refine take_d (i := 0) (d := some 67) (v := ?_) rfl rfl (by kernel_rfl) (by kernel_rfl) (by kernel_rfl) (fun _ _ _ h => h) (.inl ⟨by rfl, ?_⟩) (And.intro hS.b hN) ?_
      rotate_left
      · intro W hW
        go_simp
        try with_reducible rfl
      try simp only [Act.put, List.setIfInBounds_toArray, List.set_cons_zero, List.set_cons_succ]
      refine take_d (i := 1) (d := some 68) (v := ?_) rfl rfl (by kernel_rfl) (by kernel_rfl) (by kernel_rfl) (fun _ _ _ h => h) (.inl ⟨by rfl, ?_⟩) (And.intro hS.b hN) ?_
      rotate_left
      · intro W hW
        go_simp
        try with_reducible rfl
      try simp only [Act.put, List.setIfInBounds_toArray, List.set_cons_zero, List.set_cons_succ]
      refine take_d (i := 2) (d := some 69) (v := ?_) rfl rfl (by kernel_rfl) (by kernel_rfl) (by kernel_rfl) (fun _ _ _ h => h) (.inl ⟨by rfl, ?_⟩) (And.intro hS.b hN) ?_
      rotate_left
      · intro W hW
        go_simp
        try with_reducible rfl
      try simp only [Act.put, List.setIfInBounds_toArray, List.set_cons_zero, List.set_cons_succ]
      refine take_d (i := 3) (d := some 70) (v := ?_) rfl rfl (by kernel_rfl) (by kernel_rfl) (by kernel_rfl) (fun _ _ _ h => h) (.inl ⟨by rfl, ?_⟩) (And.intro hS.b hN) ?_
      rotate_left
      · intro W hW
        have q := hW.1.h2.x
        go_simp
        try with_reducible rfl
      try simp only [Act.put, List.setIfInBounds_toArray, List.set_cons_zero, List.set_cons_succ]
      refine take_d (i := 4) (d := some 71) (v := ?_) rfl rfl (by kernel_rfl) (by kernel_rfl) (by kernel_rfl) (fun _ _ _ h => h) (.inl ⟨by rfl, ?_⟩) (And.intro hS.b hN) ?_
      rotate_left
      · intro W hW
        go_simp
        try with_reducible rfl
      try simp only [Act.put, List.setIfInBounds_toArray, List.set_cons_zero, List.set_cons_succ]
      refine take_d (i := 5) (d := some 72) (v := ?_) rfl rfl (by kernel_rfl) (by kernel_rfl) (by kernel_rfl) (fun _ _ _ h => h) (.inl ⟨by rfl, ?_⟩) (And.intro hS.b hN) ?_
      rotate_left
      · intro W hW
        have qn : W.cell? ⟨0, 5, none⟩ = some (.int .i64 2) := (hW.2.at_ 5).trans rfl
        go_simp
        try with_reducible rfl
      try simp only [Act.put, List.setIfInBounds_toArray, List.set_cons_zero, List.set_cons_succ]
      refine take_d (i := 7) (d := some 74) (v := .agg #[.int .i64 1, .int .i64 A]) rfl rfl (by kernel_rfl) (by kernel_rfl) (by kernel_rfl) (fun _ _ _ h => h) (y_R rowP (by kernel_rfl) rfl rfl (fun W hW => hW.1.h0)) (And.intro hS.b hN) ?_
      try simp only [Act.put, List.setIfInBounds_toArray, List.set_cons_zero, List.set_cons_succ]
      refine wpAnyH_all (rs := [6]) (by kernel_rfl) (by simp) (fun i hi => ?_)
      simp only [List.mem_cons, List.not_mem_nil, or_false] at hi
      subst hi
      refine .inl ?_
      go_simp
      refine (alone_any 2 _).mono ?_
      rintro e wc ⟨rfl, hb⟩
      try replace hp := hp.below hb
      replace hN := hN.below hb
      replace hS := hS.after hb
      clear hb
      refine ⟨⟨hS.b, hN⟩, ?_⟩
      try simp only [Act.put, List.setIfInBounds_toArray, List.set_cons_zero, List.set_cons_succ]
      refine wpAnyH_all (rs := [8]) (by kernel_rfl) (by simp) (fun i hi => ?_)
      simp only [List.mem_cons, List.not_mem_nil, or_false] at hi
      subst hi
      refine .inl ?_
      go_simp
      refine (tset_2 hS.a (by first | omega | (simp only [List.length_append, List.length_cons, List.length_nil]; omega)) 0 1 A).mono ?_
      rintro e wg ⟨rfl, hA, hK⟩
      replace hN := hN.kp hK hg
      replace hS := hS.give hA hK
      clear hA hK
      refine ⟨⟨hS.b, hN⟩, ?_⟩
      try simp only [Act.put, List.setIfInBounds_toArray, List.set_cons_zero, List.set_cons_succ]
      refine wpAnyH_done (by kernel_rfl) ?_ _
      replace HT := Lib.hid hS
      clear hS hK0
      go_wp2
      go_end0
      refine ⟨rfl, ?_, HT.out.k⟩
      have := HT.out.a
      rw [hR.out]
      simpa [behindT, keptK, on, rg] using this
theorem behind_any {N : Nat} {w : World} {T : Nat} {l : List Tch} (h : At N w T l) (hl : l.length ≤ 3) (s : Sta) (op : Int) (A B : Nat) (m : Int) (hA : A < 8) (hB : B < 8) (hN : Nam w) (hg : 0 < N) (hm : op = 26 ∨ op = 27 → 0 ≤ m ∧ m < 6) :
    Calls Tryd.prog 30 #[.pointer (some ⟨T, 0, none⟩), .agg (xc s ⟨op, A, B, m⟩)] w fun e w' => e = .returned (.tuple #[]) ∧ At N w' T (l ++ behindT ⟨op, A, B, m⟩) ∧ Kp N w w' := by
  by_cases hop : op = 2 ∨ op = 3 ∨ op = 4 ∨ op = 5 ∨ op = 6 ∨ op = 7 ∨ op = 8 ∨ op = 9 ∨ op = 10 ∨ op = 11 ∨ op = 12 ∨ op = 20 ∨ op = 21 ∨ op = 26 ∨ op = 27
  · exact behind_some h hl s op hop A B m hA hB hN hg hm _ rfl
  · have e : behindT ⟨op, A, B, m⟩ = [] := by
      unfold behindT
      dsimp only
      rw [if_neg (by omega), if_neg (by omega), if_neg (by omega), if_neg (by omega), if_neg (by omega), if_neg (by omega), if_neg (by omega)]
    rw [e]
    exact behind_other h hl s op (by omega) (by omega) (by omega) (by omega) (by omega) (by omega) (by omega) (by omega) (by omega) (by omega) (by omega) (by omega) (by omega) (by omega) (by omega) A B m hA hB hN hg
end Go.Proofs.YthjdfneibogcgaaDoor
