/-
  Layer 10: SamePlaces, Same of the document, goes: walks. Written by gen_tq.py.
-/
import Derived.Test.YthjdfneibogcgaaDoorTouch
import Derived.Test.YthjdfneibogcgaaDoorEq
import Derived.Test.YthjdfneibogcgaaDoorGive
namespace Go.Proofs.YthjdfneibogcgaaDoor
open Go.RowKit
set_option maxHeartbeats 16000000
set_option linter.unusedVariables false
set_option linter.unusedSimpArgs false

theorem PlIs.at2 {w : World} {v : Value} {l : List Plc} (h : PlIs w v l) {j : Nat} (hj : j < l.length) : ∃ (g o c : Nat) (p : Plc), v = .slice (some ⟨g, o, none⟩) l.length c ∧ l[j]? = some p ∧ w.cell? ⟨g, o + j * 2, none⟩ = some (.int .i64 p.kind) ∧ w.cell? ⟨g, o + j * 2 + 1, none⟩ = some (.int .i64 p.n) := by
  have hlj : l[j]? = some l[j] := List.getElem?_eq_getElem hj
  obtain ⟨h1, h2⟩ := plc_at l j _ hlj
  obtain ⟨g, o, c, e, r1, _⟩ := Gs.cell h h1
  obtain ⟨g', o', c', e', r2, _⟩ := Gs.cell h h2
  rw [e] at e'
  simp at e'
  obtain ⟨⟨rfl, rfl⟩, rfl⟩ := e'
  exact ⟨g, o, c, _, e, hlj, r1, by rw [Nat.add_assoc]; exact r2⟩
theorem TsIs.at3 {w : World} {v : Value} {l : List Tch} (h : TsIs w v l) {j : Nat} (hj : j < l.length) : ∃ (g o c : Nat) (t : Tch) (fv : Value), v = .slice (some ⟨g, o, none⟩) l.length c ∧ l[j]? = some t ∧ w.cell? ⟨g, o + j * 3, none⟩ = some (.int .i64 t.to.kind) ∧ w.cell? ⟨g, o + j * 3 + 1, none⟩ = some (.int .i64 t.to.n) ∧ w.cell? ⟨g, o + j * 3 + 2, none⟩ = some fv ∧ PlIs w fv t.fr := by
  obtain ⟨cs, hg, hc⟩ := h
  have hlj : l[j]? = some l[j] := List.getElem?_eq_getElem hj
  obtain ⟨fv, h1, h2, h3, h4⟩ := TcC.at_ l cs j _ hc hlj
  obtain ⟨g, o, c, e, r1, _⟩ := hg.cell h1
  obtain ⟨g', o', c', e', r2, _⟩ := hg.cell h2
  obtain ⟨g'', o'', c'', e'', r3, _⟩ := hg.cell h3
  rw [e] at e' e''
  simp at e' e''
  obtain ⟨⟨rfl, rfl⟩, rfl⟩ := e'
  obtain ⟨⟨rfl, rfl⟩, rfl⟩ := e''
  exact ⟨g, o, c, _, fv, e, hlj, r1, by rw [Nat.add_assoc]; exact r2, by rw [Nat.add_assoc]; exact r3, h4⟩
set_option maxRecDepth 100000 in
theorem SameP_any {w : World} {va vb : Value} {l : List Plc} (ha : PlIs w va l) (hb : PlIs w vb l) : Calls Tryd.prog 42 #[va, vb] w fun e w' => e = .returned (.bool true) ∧ Below w.heap.size w w' := by
  have HA := Lib.hid (fun W (h : Below w.heap.size w W) => (show PlIs W va l from ha.below h))
  have HB := Lib.hid (fun W (h : Below w.heap.size w W) => (show PlIs W vb l from hb.below h))
  obtain ⟨oa, ca, rfl, _, hla⟩ := ha.shape
  obtain ⟨ob, cb, rfl, _, hlb⟩ := hb.shape
  unfold maxLen at hla hlb
  clear ha hb hlb
  go_enter Tryd.func42, Tryd.ntmps42
  go_wp2
  go_loopw [5] (fun q wr => ∃ k : Nat, k ≤ l.length ∧ q = .int .i64 (k : Int) ∧ Hid (Below w.heap.size w wr)) (fun q _ => l.length + 1 - (intOf q).toNat)
  case atStart => exact ⟨0, by omega, rfl, Below.refl _ _⟩
  case round =>
    obtain ⟨k, hk, rfl, HBl⟩ := hrel
    by_cases hlt : k < l.length
    · have hi : (k : Int) < (l.length : Int) := by omega
      obtain ⟨g1, o1, c1, p1, e1, l1, q1, r1⟩ := (HA.out _ HBl.out).at2 hlt
      obtain ⟨g2, o2, c2, p2, e2, l2, q2, r2⟩ := (HB.out _ HBl.out).at2 hlt
      simp at e1 e2
      obtain ⟨rfl, rfl⟩ := e1
      obtain ⟨rfl, rfl⟩ := e2
      rw [l1] at l2
      cases l2
      have hne := neq_place p1 p1
      rw [decide_eq_true rfl] at hne
      simp only [Bool.not_true] at hne
      clear l1
      go_wp2
      go_region
      clear q1 r1 q2 r2 hne
      go_wp2
      refine ⟨⟨k + 1, by omega, by go_num, Lib.hid HBl.out.drew⟩, ?_⟩
      simp [intOf]; omega
    · obtain rfl : k = l.length := by omega
      go_wp2
      go_ret
      exact ⟨rfl, HBl.out⟩
/-- The cells of a touch in a row. -/
structure Ce (g n : Nat) (p : Plc) (fv : Value) (W : World) : Prop where
  c0 : W.cell? ⟨g, n, none⟩ = some (.int .i64 p.kind)
  c1 : W.cell? ⟨g, n + 1, none⟩ = some (.int .i64 p.n)
  c2 : W.cell? ⟨g, n + 2, none⟩ = some fv
theorem cell_belowT {w w' : World} {q : Addr} {u : Value} (h : w.cell? q = some u) (hb : Below w.heap.size w w') : w'.cell? q = some u := by
  have hl := World.block_lt_of_cell? _ _ h
  unfold World.cell? at h ⊢
  rw [hb.block _ hl]; exact h
theorem Ce.below {g n : Nat} {p : Plc} {fv : Value} {W W' : World} (h : Ce g n p fv W) (hb : Below W.heap.size W W') : Ce g n p fv W' := ⟨cell_belowT h.c0 hb, cell_belowT h.c1 hb, cell_belowT h.c2 hb⟩
structure Cb (g n : Nat) (p : Plc) (f : Value) (g' n' : Nat) (f' : Value) (W : World) : Prop where
  b : Ce g n p f W ∧ Ce g' n' p f' W
theorem Cb.after {g n g' n' : Nat} {p : Plc} {f f' : Value} {W W' : World} (h : Cb g n p f g' n' f' W) (hb : Below W.heap.size W W') : Cb g n p f g' n' f' W' := ⟨h.b.1.below hb, h.b.2.below hb⟩
set_option maxRecDepth 100000 in
theorem RSame_any {w : World} {va vb : Value} {l : List Tch} (ha : TsIs w va l) (hb : TsIs w vb l) : Calls Tryd.prog 23 #[va, vb] w fun e w' => e = .returned (.bool true) ∧ Below w.heap.size w w' := by
  have HA := Lib.hid (fun W (h : Below w.heap.size w W) => (show TsIs W va l from ha.below h))
  have HB := Lib.hid (fun W (h : Below w.heap.size w W) => (show TsIs W vb l from hb.below h))
  obtain ⟨oa, ca, rfl, _, hla⟩ := ha.shape
  obtain ⟨ob, cb, rfl, _, hlb⟩ := hb.shape
  unfold maxLen at hla hlb
  clear ha hb hlb
  go_enter Tryd.func23, Tryd.ntmps23
  go_wp2
  go_loopw [5] (fun q wr => ∃ k : Nat, k ≤ l.length ∧ q = .int .i64 (k : Int) ∧ Hid (Below w.heap.size w wr)) (fun q _ => l.length + 1 - (intOf q).toNat)
  case atStart => exact ⟨0, by omega, rfl, Below.refl _ _⟩
  case round =>
    obtain ⟨k, hk, rfl, HBl⟩ := hrel
    by_cases hlt : k < l.length
    · have hi : (k : Int) < (l.length : Int) := by omega
      obtain ⟨g1, o1, c1, p1, f1, e1, l1, q1, r1, s1, P1⟩ := (HA.out _ HBl.out).at3 hlt
      obtain ⟨g2, o2, c2, p2, f2, e2, l2, q2, r2, s2, P2⟩ := (HB.out _ HBl.out).at3 hlt
      simp at e1 e2
      obtain ⟨rfl, rfl⟩ := e1
      obtain ⟨rfl, rfl⟩ := e2
      rw [l1] at l2
      cases l2
      obtain ⟨fo1, fc1, rfl, _, _⟩ := P1.shape
      obtain ⟨fo2, fc2, rfl, _, _⟩ := P2.shape
      have hne := neq_place p1.to p1.to
      rw [decide_eq_true rfl] at hne
      simp only [Bool.not_true] at hne
      have hC : Cb g1 (o1 + k * 3) p1.to (.slice fo1 p1.fr.length fc1) g2 (o2 + k * 3) (.slice fo2 p1.fr.length fc2) wr := ⟨⟨q1, r1, s1⟩, ⟨q2, r2, s2⟩⟩
      have HP1 := Lib.hid P1
      have HP2 := Lib.hid P2
      have hK0 := hC.after (Below.refl _ _).drew
      clear l1 P1 P2 q1 r1 s1 q2 r2 s2 hC
      go_wp2
      refine wp_region_held_drew (S := fun W => Ce g1 (o1 + k * 3) p1.to (.slice fo1 p1.fr.length fc1) W ∧ Ce g2 (o2 + k * 3) p1.to (.slice fo2 p1.fr.length fc2) W) (by kernel_rfl) hK0.b (fun _ => ?_)
      have hS := hK0
      refine take_d (i := 0) (d := some 17) (v := ?_) rfl rfl (by kernel_rfl) (by kernel_rfl) (by kernel_rfl) (fun _ _ _ h => h) (.inl ⟨by rfl, ?_⟩) hS.b ?_
      rotate_left
      · intro W hW
        have q1 := hW.1.c0; have q2 := hW.1.c1; have q3 := hW.1.c2; have s1 := hW.2.c0; have s2 := hW.2.c1; have s3 := hW.2.c2
        go_simp
        try with_reducible rfl
      try simp only [Act.put, List.setIfInBounds_toArray, List.set_cons_zero, List.set_cons_succ]
      refine take_d (i := 1) (d := some 18) (v := ?_) rfl rfl (by kernel_rfl) (by kernel_rfl) (by kernel_rfl) (fun _ _ _ h => h) (.inl ⟨by rfl, ?_⟩) hS.b ?_
      rotate_left
      · intro W hW
        have q1 := hW.1.c0; have q2 := hW.1.c1; have q3 := hW.1.c2; have s1 := hW.2.c0; have s2 := hW.2.c1; have s3 := hW.2.c2
        go_simp
        try with_reducible rfl
      try simp only [Act.put, List.setIfInBounds_toArray, List.set_cons_zero, List.set_cons_succ]
      refine take_d (i := 2) (d := some 19) (v := ?_) rfl rfl (by kernel_rfl) (by kernel_rfl) (by kernel_rfl) (fun _ _ _ h => h) (.inl ⟨by rfl, ?_⟩) hS.b ?_
      rotate_left
      · intro W hW
        have q1 := hW.1.c0; have q2 := hW.1.c1; have q3 := hW.1.c2; have s1 := hW.2.c0; have s2 := hW.2.c1; have s3 := hW.2.c2
        go_simp
        try with_reducible rfl
      try simp only [Act.put, List.setIfInBounds_toArray, List.set_cons_zero, List.set_cons_succ]
      refine take_d (i := 3) (d := some 20) (v := ?_) rfl rfl (by kernel_rfl) (by kernel_rfl) (by kernel_rfl) (fun _ _ _ h => h) (.inl ⟨by rfl, ?_⟩) hS.b ?_
      rotate_left
      · intro W hW
        have q1 := hW.1.c0; have q2 := hW.1.c1; have q3 := hW.1.c2; have s1 := hW.2.c0; have s2 := hW.2.c1; have s3 := hW.2.c2
        go_simp
        try with_reducible rfl
      try simp only [Act.put, List.setIfInBounds_toArray, List.set_cons_zero, List.set_cons_succ]
      refine take_d (i := 4) (d := some 21) (v := ?_) rfl rfl (by kernel_rfl) (by kernel_rfl) (by kernel_rfl) (fun _ _ _ h => h) (.inl ⟨by rfl, ?_⟩) hS.b ?_
      rotate_left
      · intro W hW
        have q1 := hW.1.c0; have q2 := hW.1.c1; have q3 := hW.1.c2; have s1 := hW.2.c0; have s2 := hW.2.c1; have s3 := hW.2.c2
        go_simp
        try with_reducible rfl
      try simp only [Act.put, List.setIfInBounds_toArray, List.set_cons_zero, List.set_cons_succ]
      refine take_d (i := 5) (d := some 22) (v := ?_) rfl rfl (by kernel_rfl) (by kernel_rfl) (by kernel_rfl) (fun _ _ _ h => h) (.inl ⟨by rfl, ?_⟩) hS.b ?_
      rotate_left
      · intro W hW
        have q1 := hW.1.c0; have q2 := hW.1.c1; have q3 := hW.1.c2; have s1 := hW.2.c0; have s2 := hW.2.c1; have s3 := hW.2.c2
        go_simp
        try with_reducible rfl
      try simp only [Act.put, List.setIfInBounds_toArray, List.set_cons_zero, List.set_cons_succ]
      refine take_d (i := 6) (d := some 23) (v := ?_) rfl rfl (by kernel_rfl) (by kernel_rfl) (by kernel_rfl) (fun _ _ _ h => h) (.inl ⟨by rfl, ?_⟩) hS.b ?_
      rotate_left
      · intro W hW
        have q1 := hW.1.c0; have q2 := hW.1.c1; have q3 := hW.1.c2; have s1 := hW.2.c0; have s2 := hW.2.c1; have s3 := hW.2.c2
        go_simp
        try with_reducible rfl
      try simp only [Act.put, List.setIfInBounds_toArray, List.set_cons_zero, List.set_cons_succ]
      refine take_d (i := 7) (d := some 24) (v := ?_) rfl rfl (by kernel_rfl) (by kernel_rfl) (by kernel_rfl) (fun _ _ _ h => h) (.inl ⟨by rfl, ?_⟩) hS.b ?_
      rotate_left
      · intro W hW
        have q1 := hW.1.c0; have q2 := hW.1.c1; have q3 := hW.1.c2; have s1 := hW.2.c0; have s2 := hW.2.c1; have s3 := hW.2.c2
        go_simp
        try with_reducible rfl
      try simp only [Act.put, List.setIfInBounds_toArray, List.set_cons_zero, List.set_cons_succ]
      refine take_d (i := 8) (d := some 25) (v := ?_) rfl rfl (by kernel_rfl) (by kernel_rfl) (by kernel_rfl) (fun _ _ _ h => h) (.inl ⟨by rfl, ?_⟩) hS.b ?_
      rotate_left
      · intro W hW
        have q1 := hW.1.c0; have q2 := hW.1.c1; have q3 := hW.1.c2; have s1 := hW.2.c0; have s2 := hW.2.c1; have s3 := hW.2.c2
        go_simp
        try with_reducible rfl
      try simp only [Act.put, List.setIfInBounds_toArray, List.set_cons_zero, List.set_cons_succ]
      refine take_d (i := 9) (d := some 26) (v := ?_) rfl rfl (by kernel_rfl) (by kernel_rfl) (by kernel_rfl) (fun _ _ _ h => h) (.inl ⟨by rfl, ?_⟩) hS.b ?_
      rotate_left
      · intro W hW
        have q1 := hW.1.c0; have q2 := hW.1.c1; have q3 := hW.1.c2; have s1 := hW.2.c0; have s2 := hW.2.c1; have s3 := hW.2.c2
        go_simp
        try with_reducible rfl
      try simp only [Act.put, List.setIfInBounds_toArray, List.set_cons_zero, List.set_cons_succ]
      refine take_d (i := 10) (d := some 27) (v := ?_) rfl rfl (by kernel_rfl) (by kernel_rfl) (by kernel_rfl) (fun _ _ _ h => h) (.inl ⟨by rfl, ?_⟩) hS.b ?_
      rotate_left
      · intro W hW
        have q1 := hW.1.c0; have q2 := hW.1.c1; have q3 := hW.1.c2; have s1 := hW.2.c0; have s2 := hW.2.c1; have s3 := hW.2.c2
        go_simp
        try with_reducible rfl
      try simp only [Act.put, List.setIfInBounds_toArray, List.set_cons_zero, List.set_cons_succ]
      refine take_d (i := 11) (d := some 28) (v := ?_) rfl rfl (by kernel_rfl) (by kernel_rfl) (by kernel_rfl) (fun _ _ _ h => h) (.inl ⟨by rfl, ?_⟩) hS.b ?_
      rotate_left
      · intro W hW
        have q1 := hW.1.c0; have q2 := hW.1.c1; have q3 := hW.1.c2; have s1 := hW.2.c0; have s2 := hW.2.c1; have s3 := hW.2.c2
        go_simp
        try with_reducible rfl
      try simp only [Act.put, List.setIfInBounds_toArray, List.set_cons_zero, List.set_cons_succ]
      refine take_d (i := 12) (d := some 29) (v := ?_) rfl rfl (by kernel_rfl) (by kernel_rfl) (by kernel_rfl) (fun _ _ _ h => h) (.inl ⟨by rfl, ?_⟩) hS.b ?_
      rotate_left
      · intro W hW
        have q1 := hW.1.c0; have q2 := hW.1.c1; have q3 := hW.1.c2; have s1 := hW.2.c0; have s2 := hW.2.c1; have s3 := hW.2.c2
        go_simp
        try with_reducible rfl
      try simp only [Act.put, List.setIfInBounds_toArray, List.set_cons_zero, List.set_cons_succ]
      refine take_d (i := 13) (d := some 30) (v := ?_) rfl rfl (by kernel_rfl) (by kernel_rfl) (by kernel_rfl) (fun _ _ _ h => h) (.inl ⟨by rfl, ?_⟩) hS.b ?_
      rotate_left
      · intro W hW
        have q1 := hW.1.c0; have q2 := hW.1.c1; have q3 := hW.1.c2; have s1 := hW.2.c0; have s2 := hW.2.c1; have s3 := hW.2.c2
        go_simp
        try with_reducible rfl
      try simp only [Act.put, List.setIfInBounds_toArray, List.set_cons_zero, List.set_cons_succ]
      refine take_d (i := 14) (d := some 31) (v := ?_) rfl rfl (by kernel_rfl) (by kernel_rfl) (by kernel_rfl) (fun _ _ _ h => h) (.inl ⟨by rfl, ?_⟩) hS.b ?_
      rotate_left
      · intro W hW
        have q1 := hW.1.c0; have q2 := hW.1.c1; have q3 := hW.1.c2; have s1 := hW.2.c0; have s2 := hW.2.c1; have s3 := hW.2.c2
        go_simp
        try with_reducible rfl
      try simp only [Act.put, List.setIfInBounds_toArray, List.set_cons_zero, List.set_cons_succ]
      refine take_d (i := 15) (d := some 32) (v := ?_) rfl rfl (by kernel_rfl) (by kernel_rfl) (by kernel_rfl) (fun _ _ _ h => h) (.inl ⟨by rfl, ?_⟩) hS.b ?_
      rotate_left
      · intro W hW
        have q1 := hW.1.c0; have q2 := hW.1.c1; have q3 := hW.1.c2; have s1 := hW.2.c0; have s2 := hW.2.c1; have s3 := hW.2.c2
        go_simp
        try with_reducible rfl
      try simp only [Act.put, List.setIfInBounds_toArray, List.set_cons_zero, List.set_cons_succ]
      refine take_d (i := 16) (d := some 33) (v := ?_) rfl rfl (by kernel_rfl) (by kernel_rfl) (by kernel_rfl) (fun _ _ _ h => h) (.inl ⟨by rfl, ?_⟩) hS.b ?_
      rotate_left
      · intro W hW
        have q1 := hW.1.c0; have q2 := hW.1.c1; have q3 := hW.1.c2; have s1 := hW.2.c0; have s2 := hW.2.c1; have s3 := hW.2.c2
        go_simp
        try with_reducible rfl
      try simp only [Act.put, List.setIfInBounds_toArray, List.set_cons_zero, List.set_cons_succ]
      refine take_d (i := 17) (d := some 34) (v := ?_) rfl rfl (by kernel_rfl) (by kernel_rfl) (by kernel_rfl) (fun _ _ _ h => h) (.inl ⟨by rfl, ?_⟩) hS.b ?_
      rotate_left
      · intro W hW
        have q1 := hW.1.c0; have q2 := hW.1.c1; have q3 := hW.1.c2; have s1 := hW.2.c0; have s2 := hW.2.c1; have s3 := hW.2.c2
        go_simp
        try with_reducible rfl
      try simp only [Act.put, List.setIfInBounds_toArray, List.set_cons_zero, List.set_cons_succ]
      refine take_d (i := 18) (d := some 35) (v := ?_) rfl rfl (by kernel_rfl) (by kernel_rfl) (by kernel_rfl) (fun _ _ _ h => h) (.inl ⟨by rfl, ?_⟩) hS.b ?_
      rotate_left
      · intro W hW
        have q1 := hW.1.c0; have q2 := hW.1.c1; have q3 := hW.1.c2; have s1 := hW.2.c0; have s2 := hW.2.c1; have s3 := hW.2.c2
        go_simp
        try with_reducible rfl
      try simp only [Act.put, List.setIfInBounds_toArray, List.set_cons_zero, List.set_cons_succ]
      refine take_d (i := 19) (d := some 36) (v := ?_) rfl rfl (by kernel_rfl) (by kernel_rfl) (by kernel_rfl) (fun _ _ _ h => h) (.inl ⟨by rfl, ?_⟩) hS.b ?_
      rotate_left
      · intro W hW
        have q1 := hW.1.c0; have q2 := hW.1.c1; have q3 := hW.1.c2; have s1 := hW.2.c0; have s2 := hW.2.c1; have s3 := hW.2.c2
        go_simp
        try with_reducible rfl
      try simp only [Act.put, List.setIfInBounds_toArray, List.set_cons_zero, List.set_cons_succ]
      refine take_d (i := 20) (d := some 37) (v := ?_) rfl rfl (by kernel_rfl) (by kernel_rfl) (by kernel_rfl) (fun _ _ _ h => h) (.inl ⟨by rfl, ?_⟩) hS.b ?_
      rotate_left
      · intro W hW
        have q1 := hW.1.c0; have q2 := hW.1.c1; have q3 := hW.1.c2; have s1 := hW.2.c0; have s2 := hW.2.c1; have s3 := hW.2.c2
        go_simp
        try with_reducible rfl
      try simp only [Act.put, List.setIfInBounds_toArray, List.set_cons_zero, List.set_cons_succ]
      refine take_d (i := 21) (d := some 38) (v := ?_) rfl rfl (by kernel_rfl) (by kernel_rfl) (by kernel_rfl) (fun _ _ _ h => h) (.inl ⟨by rfl, ?_⟩) hS.b ?_
      rotate_left
      · intro W hW
        have q1 := hW.1.c0; have q2 := hW.1.c1; have q3 := hW.1.c2; have s1 := hW.2.c0; have s2 := hW.2.c1; have s3 := hW.2.c2
        go_simp
        try with_reducible rfl
      try simp only [Act.put, List.setIfInBounds_toArray, List.set_cons_zero, List.set_cons_succ]
      refine wpAnyH_all (rs := [22]) (by kernel_rfl) (by simp) (fun i hi => ?_)
      simp only [List.mem_cons, List.not_mem_nil, or_false] at hi
      subst hi
      refine .inl ?_
      go_simp
      refine (SameP_any (HP1.out.below (Below.refl _ _).drew) (HP2.out.below (Below.refl _ _).drew)).mono ?_
      rintro e wc ⟨rfl, hb⟩
      have hbF : Below wr.heap.size wr wc := (Below.refl _ _).drew.trans hb
      replace hS := hS.after hb
      clear hb
      refine ⟨hS.b, ?_⟩
      try simp only [Act.put, List.setIfInBounds_toArray, List.set_cons_zero, List.set_cons_succ]
      refine take_d (i := 23) (d := some 40) (v := ?_) rfl rfl (by kernel_rfl) (by kernel_rfl) (by kernel_rfl) (fun _ _ _ h => h) (.inl ⟨by rfl, ?_⟩) hS.b ?_
      rotate_left
      · intro W hW
        have q1 := hW.1.c0; have q2 := hW.1.c1; have q3 := hW.1.c2; have s1 := hW.2.c0; have s2 := hW.2.c1; have s3 := hW.2.c2
        go_simp
        try with_reducible rfl
      try simp only [Act.put, List.setIfInBounds_toArray, List.set_cons_zero, List.set_cons_succ]
      refine take_d (i := 24) (d := some 41) (v := ?_) rfl rfl (by kernel_rfl) (by kernel_rfl) (by kernel_rfl) (fun _ _ _ h => h) (.inl ⟨by rfl, ?_⟩) hS.b ?_
      rotate_left
      · intro W hW
        have q1 := hW.1.c0; have q2 := hW.1.c1; have q3 := hW.1.c2; have s1 := hW.2.c0; have s2 := hW.2.c1; have s3 := hW.2.c2
        go_simp
        try with_reducible rfl
      try simp only [Act.put, List.setIfInBounds_toArray, List.set_cons_zero, List.set_cons_succ]
      refine wpAnyH_done (by kernel_rfl) ?_ _
      have HF := Lib.hid (HBl.out.trans (hbF.mono HBl.out.size))
      clear hS hK0 hbF
      go_wp2
      refine ⟨⟨k + 1, by omega, by go_num, HF⟩, ?_⟩
      simp [intOf]; omega
    · obtain rfl : k = l.length := by omega
      go_wp2
      go_ret
      exact ⟨rfl, HBl.out⟩
end Go.Proofs.YthjdfneibogcgaaDoor
