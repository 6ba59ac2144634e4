/-
  Layer 9: EqualFunc over packets, like of streams, Same of package net: walks. Written by gen_same.py.
-/
import Derived.Test.YtepimbebodmajaaPut
import Derived.Test.YtepimbebodmajaaCut
namespace Go.Proofs.Ytepimbebodmajaa
open Go.RowKit
set_option maxHeartbeats 4000000
set_option linter.unusedVariables false
set_option linter.unusedSimpArgs false

theorem map_x_ext {l m : List Pk} (hl : l.length = m.length) (h : ∀ (j : Nat) (p q : Pk), l[j]? = some p → m[j]? = some q → p.x = q.x) : l.map Pk.x = m.map Pk.x := by
  apply List.ext_getElem (by simpa using hl)
  intro i h1 h2
  simp only [List.getElem_map]
  simp only [List.length_map] at h1 h2
  exact h i _ _ (List.getElem?_eq_getElem h1) (List.getElem?_eq_getElem h2)
theorem PsIs.at2 {w : World} {v : Value} {l : List Pk} (h : PsIs w v l) {j : Nat} (hj : j < l.length) : ∃ (a : Addr) (c : Nat) (o : Option Addr) (n m : Nat) (f : Nat) (x : List Int), v = .slice (some a) l.length c ∧ l[j]? = some ⟨.slice o n m, f, x⟩ ∧ NumsIn .u8 w (.slice o n m) x ∧
    w.cell? (a.add (j * 2)) = some (.slice o n m) ∧ w.cell? ⟨(a.add (j * 2)).block, (a.add (j * 2)).off + 1, none⟩ = some (.int .i64 (f : Int)) := by
  have hlj : l[j]? = some l[j] := List.getElem?_eq_getElem hj
  obtain ⟨g, o, c, e, r1, r2⟩ := h.cells hlj
  have hq := h.q _ (List.getElem_mem hj)
  obtain ⟨va, vc, hv, _⟩ := hq.shape
  generalize l[j] = p at hlj r1 r2 hq hv
  obtain ⟨pv, pf, px⟩ := p
  simp only at hv r1 r2 hq
  subst hv
  refine ⟨_, c, va, _, vc, pf, px, e, hlj, hq.nums, ?_, ?_⟩
  · rw [add_lit, show o + j * 2 = o + 2 * j by omega]; exact r1
  · rw [add_lit]; simp only; rw [show o + j * 2 + 1 = o + (2 * j + 1) by omega]; exact r2
set_option maxRecDepth 100000 in
theorem EqualF_any {w : World} {va vb : Value} {l m : List Pk} (ha : PsIs w va l) (hb : PsIs w vb m) : Calls Try.prog 45 #[va, vb, .func (.func 46) #[] #[]] w fun e w' => e = .returned (.bool (decide (l.map Pk.x = m.map Pk.x))) ∧ Below w.heap.size w w' := by
  have HA := Lib.hid (fun W (h : Below w.heap.size w W) => (show PsIs W va l from ha.below h))
  have HB := Lib.hid (fun W (h : Below w.heap.size w W) => (show PsIs W vb m from hb.below h))
  obtain ⟨oa, ca, rfl, _, hla⟩ := ha.g.shape
  obtain ⟨ob, cb, rfl, _, hlb⟩ := hb.g.shape
  unfold maxLen at hla hlb
  clear ha hb
  by_cases hl : l.length = m.length
  · have hl' : (l.length : Int) = (m.length : Int) := by omega
    have HL := Lib.hid hl
    rw [← hl] at HB ⊢
    clear hl hl' hlb
    go_enter Try.func45, Try.ntmps45
    go_wp2
    go_loopw [17] (fun q wr => ∃ k : Nat, k ≤ l.length ∧ q = .int .i64 (k : Int) ∧ Hid (Below w.heap.size w wr) ∧ Hid (∀ (j : Nat) (p q : Pk), j < k → l[j]? = some p → m[j]? = some q → p.x = q.x)) (fun q _ => l.length + 1 - (intOf q).toNat)
    case atStart => exact ⟨0, by omega, rfl, Below.refl _ _, fun j p q hj => by omega⟩
    case round =>
      obtain ⟨k, hk, rfl, HBl, HE⟩ := hrel
      by_cases hlt : k < l.length
      · have hi : (k : Int) < (l.length : Int) := by omega
        obtain ⟨a1, c1, o1, n1, m1, f1, x1, e1, g1, q1, r1, r2⟩ := (HA.out _ HBl.out).at2 hlt
        obtain ⟨a2, c2, o2, n2, m2, f2, x2, e2, g2, q2, s1, s2⟩ := (HB.out _ HBl.out).at2 (show k < m.length by rw [← HL.out]; exact hlt)
        simp at e1 e2
        obtain ⟨rfl, rfl⟩ := e1
        obtain ⟨rfl, hcl, rfl⟩ := e2
        clear hcl
        have hz : Below wr.heap.size wr ((wr.alloc (.cells #[.slice o1 n1 m1, .int .i64 (f1 : Int)] 71)).alloc (.cells #[.slice o2 n2 m2, .int .i64 (f2 : Int)] 71)) := ((Below.refl _ _).alloc (Nat.le_refl _) _).alloc (by simp) _
        have HC := Lib.hid (plike_any _ _ (f1 : Int) (f2 : Int) x1 x2 _ (q1.below hz) (q2.below hz))
        have HZ := Lib.hid (HBl.out.trans (hz.mono HBl.out.size))
        have s1' : (wr.alloc (.cells #[.slice o1 n1 m1, .int .i64 (f1 : Int)] 71)).cell? (a2.add (k * 2)) = some (.slice o2 n2 m2) := cell_below s1 ((Below.refl _ _).alloc (Nat.le_refl _) _)
        have s2' : (wr.alloc (.cells #[.slice o1 n1 m1, .int .i64 (f1 : Int)] 71)).cell? ⟨(a2.add (k * 2)).block, (a2.add (k * 2)).off + 1, none⟩ = some (.int .i64 (f2 : Int)) := cell_below s2 ((Below.refl _ _).alloc (Nat.le_refl _) _)
        have HG1 := Lib.hid g1
        have HG2 := Lib.hid g2
        clear q1 q2 hz g1 g2 HBl s1 s2
        go_wp2_with fail
        refine HC.out.mono ?_
        rintro e w1 ⟨rfl, hb1⟩
        have HZ1 := Lib.hid (HZ.out.trans (hb1.mono HZ.out.size))
        clear hb1 HC HZ r1 r2 s1' s2'
        by_cases he : x1 = x2
        · have HE2 : Hid (∀ j p q, j < k + 1 → l[j]? = some p → m[j]? = some q → p.x = q.x) := fun j p q hj h1 h2 => by
            by_cases e : j = k
            · subst e
              rw [HG1.out] at h1; rw [HG2.out] at h2
              cases h1; cases h2; exact he
            · exact HE.out j p q (by omega) h1 h2
          have hd : decide (x1 = x2) = true := decide_eq_true he
          clear he HE
          go_wp2
          go_roundw
          case rel => exact ⟨k + 1, by omega, by go_num, HZ1.out, HE2.out⟩
          case measure => simp [intOf]; omega
        · have HD : Hid (decide (l.map Pk.x = m.map Pk.x) = false) := decide_eq_false (by
            intro e
            apply he
            have h1 : (l.map Pk.x)[k]? = some x1 := by rw [List.getElem?_map, HG1.out]; rfl
            have h2 : (m.map Pk.x)[k]? = some x2 := by rw [List.getElem?_map, HG2.out]; rfl
            rw [e, h2] at h1
            exact (Option.some.inj h1).symm)
          have hd : decide (x1 = x2) = false := decide_eq_false he
          clear he HE
          go_wp2
          go_ret
          exact ⟨by rw [HD.out]; rfl, HZ1.out⟩
      · obtain rfl : k = l.length := by omega
        have HD : Hid (decide (l.map Pk.x = m.map Pk.x) = true) := decide_eq_true (map_x_ext HL.out (fun j p q h1 h2 => HE.out j p q (List.getElem?_eq_some_iff.1 h1).1 h1 h2))
        go_wp2
        go_ret
        exact ⟨by rw [HD.out]; rfl, HBl.out⟩
  · have hne : ¬ (l.length : Int) = (m.length : Int) := by omega
    have HD : Hid (decide (l.map Pk.x = m.map Pk.x) = false) := decide_eq_false (by intro e; apply hl; have := congrArg List.length e; simpa using this)
    clear hl
    go_enter Try.func45, Try.ntmps45
    go_wp2
    go_ret
    exact ⟨by rw [HD.out]; rfl, Below.refl _ _⟩
theorem slike_any {w : World} {va vb : Value} {na nb : Nat} {l m : List Pk} (ha : PsIs w va l) (hb : PsIs w vb m) : Calls Try.prog 39 #[.agg #[va, .int .i64 (na : Int)], .agg #[vb, .int .i64 (nb : Int)]] w fun e w' => e = .returned (.bool (decide (na = nb) && decide (l.map Pk.x = m.map Pk.x))) ∧ Below w.heap.size w w' := by
  have hz : Below w.heap.size w ((w.alloc (.cells #[va, .int .i64 (na : Int)] 59)).alloc (.cells #[vb, .int .i64 (nb : Int)] 59)) := ((Below.refl _ _).alloc (Nat.le_refl _) _).alloc (by simp) _
  have HC := Lib.hid (EqualF_any (ha.below hz) (hb.below hz))
  have HZ := Lib.hid hz
  obtain ⟨oa, ca, rfl, _, hla⟩ := ha.g.shape
  obtain ⟨ob, cb, rfl, _, hlb⟩ := hb.g.shape
  clear ha hb hz
  by_cases he : na = nb
  · subst he
    generalize decide (l.map Pk.x = m.map Pk.x) = r at HC ⊢
    go_enter Try.func39, Try.ntmps39
    go_wp2_with fail
    refine HC.out.mono ?_
    rintro e w1 ⟨rfl, hb1⟩
    have HZ1 := Lib.hid (HZ.out.trans (hb1.mono HZ.out.size))
    clear hb1 HC HZ
    go_wp2
    go_ret
    exact ⟨by simp, HZ1.out⟩
  · have hne : ¬ (na : Int) = (nb : Int) := by omega
    have HD := Lib.hid (decide_eq_false he)
    clear he
    go_enter Try.func39, Try.ntmps39
    go_wp2
    go_ret
    exact ⟨by rw [HD.out]; rfl, HZ.out⟩

/-! ### Same -/
theorem Same_nils (w : World) : Calls Try.prog 20 #[.pointer none, .pointer none] w fun e w' => e = .returned (.bool true) ∧ w = w' := by
  go_enter Try.func20, Try.ntmps20
  go_wp2_with (go_at_call 37; refine (none_nil _).mono ?_; rintro e w' ⟨rfl, rfl⟩)
  go_ret
  exact ⟨rfl, rfl⟩
theorem Same_left {w : World} {S : Nat} {n : Nt} {F : Nat → Prop} (h : At w S n F) : Calls Try.prog 20 #[.pointer none, .pointer (some ⟨S, 0, none⟩)] w fun e w' => e = .returned (.bool false) ∧ w = w' := by
  obtain ⟨cv, sv, cl, sl, rfl, h⟩ := h
  have HN := Lib.hid (none_at h.cells.1)
  clear h
  go_enter Try.func20, Try.ntmps20
  go_wp2_with fail
  refine (none_nil _).mono ?_
  rintro e w' ⟨rfl, rfl⟩
  go_wp2_with fail
  refine (none_nil _).mono ?_
  rintro e w' ⟨rfl, rfl⟩
  go_wp2_with fail
  refine HN.out.mono ?_
  rintro e w' ⟨rfl, rfl⟩
  go_wp2
  go_ret
  exact ⟨rfl, rfl⟩
theorem Same_right {w : World} {S : Nat} {n : Nt} {F : Nat → Prop} (h : At w S n F) : Calls Try.prog 20 #[.pointer (some ⟨S, 0, none⟩), .pointer none] w fun e w' => e = .returned (.bool false) ∧ w = w' := by
  obtain ⟨cv, sv, cl, sl, rfl, h⟩ := h
  have HN := Lib.hid (none_at h.cells.1)
  clear h
  go_enter Try.func20, Try.ntmps20
  go_wp2_with fail
  refine HN.out.mono ?_
  rintro e w' ⟨rfl, rfl⟩
  go_wp2_with fail
  refine (none_nil _).mono ?_
  rintro e w' ⟨rfl, rfl⟩
  go_wp2_with fail
  refine HN.out.mono ?_
  rintro e w' ⟨rfl, rfl⟩
  go_wp2
  go_ret
  exact ⟨rfl, rfl⟩
structure SmI (w : World) (S T : Nat) (a b : Nt) (cv sv cv2 sv2 : Value) (cl sl cl2 sl2 : List Pk) (W : World) : Prop where
  i : AtIs W S a cv sv cl sl
  j : AtIs W T b cv2 sv2 cl2 sl2
  below : Below w.heap.size w W
theorem SmI.after {w W W' : World} {S T : Nat} {a b : Nt} {cv sv cv2 sv2 : Value} {cl sl cl2 sl2 : List Pk} (h : SmI w S T a b cv sv cv2 sv2 cl sl cl2 sl2 W) (hb : Below W.heap.size W W') : SmI w S T a b cv sv cv2 sv2 cl sl cl2 sl2 W' := ⟨h.i.below hb, h.j.below hb, h.below.trans (hb.mono h.below.size)⟩
theorem same_eq (a b : Nt) (r1 r2 : Bool) (h1 : (decide (tot a.cm = tot b.cm) && decide (a.wt = b.wt)) = r1) (h2 : (decide (tot a.sn = tot b.sn) && decide (a.sn = b.sn)) = r2) : a.same b = (r1 && r2) := by
  rw [← h1, ← h2]
  unfold Nt.same
  by_cases e : a.sn = b.sn
  · simp [e, Bool.and_comm]
  · simp [e]
set_option maxRecDepth 100000 in
theorem Same_case0 {w : World} {S T : Nat} {a b : Nt} {cv sv cv2 sv2 : Value} {cl sl cl2 sl2 : List Pk} (h : AtIs w S a cv sv cl sl) (k : AtIs w T b cv2 sv2 cl2 sl2) (h1 : (decide (tot a.cm = tot b.cm) && decide (a.wt = b.wt)) = false) :
    Calls Try.prog 20 #[.pointer (some ⟨S, 0, none⟩), .pointer (some ⟨T, 0, none⟩)] w fun e w' => e = .returned (.bool (false && (decide (tot a.sn = tot b.sn) && decide (a.sn = b.sn)))) ∧ Below w.heap.size w w' := by
  have HK := Lib.hid (show SmI w S T a b cv sv cv2 sv2 cl sl cl2 sl2 w.drew from ⟨h.below (Below.refl _ _).drew, k.below (Below.refl _ _).drew, (Below.refl _ _).drew⟩)
  have h1 : (decide (tot a.cm = tot b.cm) && decide (cl.map Pk.x = cl2.map Pk.x)) = false := by rw [h.cx, k.cx]; exact h1
  have HL1 := Lib.hid (fun W (hW : SmI w S T a b cv sv cv2 sv2 cl sl cl2 sl2 W) => slike_any (na := tot a.cm) (nb := tot b.cm) hW.i.c hW.j.c)
  rw [h1] at HL1
  have HN1 := Lib.hid (none_at h.cells.1)
  have HN2 := Lib.hid (none_at k.cells.1)
  obtain ⟨o1, c1, rfl, _⟩ := h.c.g.shape
  obtain ⟨o2, c2, rfl, _⟩ := h.s.g.shape
  obtain ⟨o3, c3, rfl, _⟩ := k.c.g.shape
  obtain ⟨o4, c4, rfl, _⟩ := k.s.g.shape
  clear h k h1
  go_enter Try.func20, Try.ntmps20
  go_wp2_with fail
  refine HN1.out.mono ?_
  rintro e w' ⟨rfl, rfl⟩
  go_wp2_with fail
  refine HN2.out.mono ?_
  rintro e w' ⟨rfl, rfl⟩
  go_wp2
  have hK0 := HK.out
  refine wp_region_held_drew (S := SmI w S T a b (.slice o1 cl.length c1) (.slice o2 sl.length c2) (.slice o3 cl2.length c3) (.slice o4 sl2.length c4) cl sl cl2 sl2) (by kernel_rfl) hK0 (fun _ => ?_)
  have hS := hK0
  refine take_d (i := 0) (d := some 17) (v := ?_) rfl rfl (by kernel_rfl) (by kernel_rfl) (by kernel_rfl) (fun _ _ _ h => h) (.inl ⟨by rfl, ?_⟩) hS ?_
  rotate_left
  · intro W hW
    go_simp
    try with_reducible rfl
  try simp only [Act.put, List.setIfInBounds_toArray, List.set_cons_zero, List.set_cons_succ]
  refine take_d (i := 1) (d := some 18) (v := ?_) rfl rfl (by kernel_rfl) (by kernel_rfl) (by kernel_rfl) (fun _ _ _ h => h) (.inl ⟨by rfl, ?_⟩) hS ?_
  rotate_left
  · intro W hW
    go_simp
    try with_reducible rfl
  try simp only [Act.put, List.setIfInBounds_toArray, List.set_cons_zero, List.set_cons_succ]
  refine take_d (i := 2) (d := some 19) (v := ?_) rfl rfl (by kernel_rfl) (by kernel_rfl) (by kernel_rfl) (fun _ _ _ h => h) (.inl ⟨by rfl, ?_⟩) hS ?_
  rotate_left
  · intro W hW
    go_simp
    try with_reducible rfl
  try simp only [Act.put, List.setIfInBounds_toArray, List.set_cons_zero, List.set_cons_succ]
  refine take_d (i := 3) (d := some 20) (v := ?_) rfl rfl (by kernel_rfl) (by kernel_rfl) (by kernel_rfl) (fun _ _ _ h => h) (.inl ⟨by rfl, ?_⟩) hS ?_
  rotate_left
  · intro W hW
    obtain ⟨_, q1, q2, q3, q4⟩ := hW.i.cells; obtain ⟨_, r1, r2, r3, r4⟩ := hW.j.cells
    go_simp
    try with_reducible rfl
  try simp only [Act.put, List.setIfInBounds_toArray, List.set_cons_zero, List.set_cons_succ]
  refine take_d (i := 4) (d := some 21) (v := ?_) rfl rfl (by kernel_rfl) (by kernel_rfl) (by kernel_rfl) (fun _ _ _ h => h) (.inl ⟨by rfl, ?_⟩) hS ?_
  rotate_left
  · intro W hW
    go_simp
    try with_reducible rfl
  try simp only [Act.put, List.setIfInBounds_toArray, List.set_cons_zero, List.set_cons_succ]
  refine take_d (i := 5) (d := some 22) (v := ?_) rfl rfl (by kernel_rfl) (by kernel_rfl) (by kernel_rfl) (fun _ _ _ h => h) (.inl ⟨by rfl, ?_⟩) hS ?_
  rotate_left
  · intro W hW
    go_simp
    try with_reducible rfl
  try simp only [Act.put, List.setIfInBounds_toArray, List.set_cons_zero, List.set_cons_succ]
  refine take_d (i := 6) (d := some 23) (v := ?_) rfl rfl (by kernel_rfl) (by kernel_rfl) (by kernel_rfl) (fun _ _ _ h => h) (.inl ⟨by rfl, ?_⟩) hS ?_
  rotate_left
  · intro W hW
    go_simp
    try with_reducible rfl
  try simp only [Act.put, List.setIfInBounds_toArray, List.set_cons_zero, List.set_cons_succ]
  refine take_d (i := 7) (d := some 24) (v := ?_) rfl rfl (by kernel_rfl) (by kernel_rfl) (by kernel_rfl) (fun _ _ _ h => h) (.inl ⟨by rfl, ?_⟩) hS ?_
  rotate_left
  · intro W hW
    obtain ⟨_, q1, q2, q3, q4⟩ := hW.i.cells; obtain ⟨_, r1, r2, r3, r4⟩ := hW.j.cells
    go_simp
    try with_reducible rfl
  try simp only [Act.put, List.setIfInBounds_toArray, List.set_cons_zero, List.set_cons_succ]
  refine wpAnyH_all (rs := [8]) (by kernel_rfl) (by simp) (fun i hi => ?_)
  simp only [List.mem_cons, List.not_mem_nil, or_false] at hi
  subst hi
  refine .inl ?_
  go_simp
  refine (HL1.out _ hS).mono ?_
  rintro e wc ⟨rfl, hb⟩
  have hS := hS.after hb
  clear hb
  refine ⟨hS, ?_⟩
  try simp only [Act.put, List.setIfInBounds_toArray, List.set_cons_zero, List.set_cons_succ]
  refine take_d (i := 9) (d := some 26) (v := ?_) rfl rfl (by kernel_rfl) (by kernel_rfl) (by kernel_rfl) (fun _ _ _ h => h) (.inl ⟨by rfl, ?_⟩) hS ?_
  rotate_left
  · intro W hW
    go_simp
    try with_reducible rfl
  try simp only [Act.put, List.setIfInBounds_toArray, List.set_cons_zero, List.set_cons_succ]
  refine take_d (i := 10) (d := some 27) (v := undef) rfl rfl (by kernel_rfl) (by kernel_rfl) (by kernel_rfl) (fun _ _ _ h => h) (.inr ⟨by kernel_rfl, rfl⟩) hS ?_
  try simp only [Act.put, List.setIfInBounds_toArray, List.set_cons_zero, List.set_cons_succ]
  refine take_d (i := 11) (d := some 28) (v := undef) rfl rfl (by kernel_rfl) (by kernel_rfl) (by kernel_rfl) (fun _ _ _ h => h) (.inr ⟨by kernel_rfl, rfl⟩) hS ?_
  try simp only [Act.put, List.setIfInBounds_toArray, List.set_cons_zero, List.set_cons_succ]
  refine take_d (i := 12) (d := some 29) (v := undef) rfl rfl (by kernel_rfl) (by kernel_rfl) (by kernel_rfl) (fun _ _ _ h => h) (.inr ⟨by kernel_rfl, rfl⟩) hS ?_
  try simp only [Act.put, List.setIfInBounds_toArray, List.set_cons_zero, List.set_cons_succ]
  refine take_d (i := 13) (d := some 30) (v := undef) rfl rfl (by kernel_rfl) (by kernel_rfl) (by kernel_rfl) (fun _ _ _ h => h) (.inr ⟨by kernel_rfl, rfl⟩) hS ?_
  try simp only [Act.put, List.setIfInBounds_toArray, List.set_cons_zero, List.set_cons_succ]
  refine take_d (i := 14) (d := some 31) (v := undef) rfl rfl (by kernel_rfl) (by kernel_rfl) (by kernel_rfl) (fun _ _ _ h => h) (.inr ⟨by kernel_rfl, rfl⟩) hS ?_
  try simp only [Act.put, List.setIfInBounds_toArray, List.set_cons_zero, List.set_cons_succ]
  refine take_d (i := 15) (d := some 32) (v := undef) rfl rfl (by kernel_rfl) (by kernel_rfl) (by kernel_rfl) (fun _ _ _ h => h) (.inr ⟨by kernel_rfl, rfl⟩) hS ?_
  try simp only [Act.put, List.setIfInBounds_toArray, List.set_cons_zero, List.set_cons_succ]
  refine take_d (i := 16) (d := some 33) (v := undef) rfl rfl (by kernel_rfl) (by kernel_rfl) (by kernel_rfl) (fun _ _ _ h => h) (.inr ⟨by kernel_rfl, rfl⟩) hS ?_
  try simp only [Act.put, List.setIfInBounds_toArray, List.set_cons_zero, List.set_cons_succ]
  refine take_d (i := 17) (d := some 34) (v := undef) rfl rfl (by kernel_rfl) (by kernel_rfl) (by kernel_rfl) (fun _ _ _ h => h) (.inr ⟨by kernel_rfl, rfl⟩) hS ?_
  try simp only [Act.put, List.setIfInBounds_toArray, List.set_cons_zero, List.set_cons_succ]
  refine take_d (i := 18) (d := some 35) (v := undef) rfl rfl (by kernel_rfl) (by kernel_rfl) (by kernel_rfl) (fun _ _ _ h => h) (.inr ⟨by kernel_rfl, rfl⟩) hS ?_
  try simp only [Act.put, List.setIfInBounds_toArray, List.set_cons_zero, List.set_cons_succ]
  refine take_d (i := 19) (d := some 36) (v := ?_) rfl rfl (by kernel_rfl) (by kernel_rfl) (by kernel_rfl) (fun _ _ _ h => h) (.inl ⟨by rfl, ?_⟩) hS ?_
  rotate_left
  · intro W hW
    go_simp
    try with_reducible rfl
  try simp only [Act.put, List.setIfInBounds_toArray, List.set_cons_zero, List.set_cons_succ]
  refine take_d (i := 20) (d := some 4) (v := ?_) rfl rfl (by kernel_rfl) (by kernel_rfl) (by kernel_rfl) (fun _ _ _ h => h) (.inl ⟨by rfl, ?_⟩) hS ?_
  rotate_left
  · intro W hW
    go_simp
    try with_reducible rfl
  try simp only [Act.put, List.setIfInBounds_toArray, List.set_cons_zero, List.set_cons_succ]
  refine wpAnyH_done (by kernel_rfl) ?_ _
  have HE := Lib.hid hS.below
  clear hS hK0
  go_wp2
  go_ret
  exact ⟨rfl, HE.out⟩
set_option maxRecDepth 100000 in
theorem Same_case1 {w : World} {S T : Nat} {a b : Nt} {cv sv cv2 sv2 : Value} {cl sl cl2 sl2 : List Pk} (h : AtIs w S a cv sv cl sl) (k : AtIs w T b cv2 sv2 cl2 sl2) (h1 : (decide (tot a.cm = tot b.cm) && decide (a.wt = b.wt)) = true) (h2 : (decide (tot a.sn = tot b.sn) && decide (a.sn = b.sn)) = false) :
    Calls Try.prog 20 #[.pointer (some ⟨S, 0, none⟩), .pointer (some ⟨T, 0, none⟩)] w fun e w' => e = .returned (.bool (true && false)) ∧ Below w.heap.size w w' := by
  have HK := Lib.hid (show SmI w S T a b cv sv cv2 sv2 cl sl cl2 sl2 w.drew from ⟨h.below (Below.refl _ _).drew, k.below (Below.refl _ _).drew, (Below.refl _ _).drew⟩)
  have h1 : (decide (tot a.cm = tot b.cm) && decide (cl.map Pk.x = cl2.map Pk.x)) = true := by rw [h.cx, k.cx]; exact h1
  have h2 : (decide (tot a.sn = tot b.sn) && decide (sl.map Pk.x = sl2.map Pk.x)) = false := by rw [h.sx, k.sx]; exact h2
  have HL1 := Lib.hid (fun W (hW : SmI w S T a b cv sv cv2 sv2 cl sl cl2 sl2 W) => slike_any (na := tot a.cm) (nb := tot b.cm) hW.i.c hW.j.c)
  rw [h1] at HL1
  have HL2 := Lib.hid (fun W (hW : SmI w S T a b cv sv cv2 sv2 cl sl cl2 sl2 W) => slike_any (na := tot a.sn) (nb := tot b.sn) hW.i.s hW.j.s)
  rw [h2] at HL2
  have HN1 := Lib.hid (none_at h.cells.1)
  have HN2 := Lib.hid (none_at k.cells.1)
  obtain ⟨o1, c1, rfl, _⟩ := h.c.g.shape
  obtain ⟨o2, c2, rfl, _⟩ := h.s.g.shape
  obtain ⟨o3, c3, rfl, _⟩ := k.c.g.shape
  obtain ⟨o4, c4, rfl, _⟩ := k.s.g.shape
  clear h k h1 h2
  go_enter Try.func20, Try.ntmps20
  go_wp2_with fail
  refine HN1.out.mono ?_
  rintro e w' ⟨rfl, rfl⟩
  go_wp2_with fail
  refine HN2.out.mono ?_
  rintro e w' ⟨rfl, rfl⟩
  go_wp2
  have hK0 := HK.out
  refine wp_region_held_drew (S := SmI w S T a b (.slice o1 cl.length c1) (.slice o2 sl.length c2) (.slice o3 cl2.length c3) (.slice o4 sl2.length c4) cl sl cl2 sl2) (by kernel_rfl) hK0 (fun _ => ?_)
  have hS := hK0
  refine take_d (i := 0) (d := some 17) (v := ?_) rfl rfl (by kernel_rfl) (by kernel_rfl) (by kernel_rfl) (fun _ _ _ h => h) (.inl ⟨by rfl, ?_⟩) hS ?_
  rotate_left
  · intro W hW
    go_simp
    try with_reducible rfl
  try simp only [Act.put, List.setIfInBounds_toArray, List.set_cons_zero, List.set_cons_succ]
  refine take_d (i := 1) (d := some 18) (v := ?_) rfl rfl (by kernel_rfl) (by kernel_rfl) (by kernel_rfl) (fun _ _ _ h => h) (.inl ⟨by rfl, ?_⟩) hS ?_
  rotate_left
  · intro W hW
    go_simp
    try with_reducible rfl
  try simp only [Act.put, List.setIfInBounds_toArray, List.set_cons_zero, List.set_cons_succ]
  refine take_d (i := 2) (d := some 19) (v := ?_) rfl rfl (by kernel_rfl) (by kernel_rfl) (by kernel_rfl) (fun _ _ _ h => h) (.inl ⟨by rfl, ?_⟩) hS ?_
  rotate_left
  · intro W hW
    go_simp
    try with_reducible rfl
  try simp only [Act.put, List.setIfInBounds_toArray, List.set_cons_zero, List.set_cons_succ]
  refine take_d (i := 3) (d := some 20) (v := ?_) rfl rfl (by kernel_rfl) (by kernel_rfl) (by kernel_rfl) (fun _ _ _ h => h) (.inl ⟨by rfl, ?_⟩) hS ?_
  rotate_left
  · intro W hW
    obtain ⟨_, q1, q2, q3, q4⟩ := hW.i.cells; obtain ⟨_, r1, r2, r3, r4⟩ := hW.j.cells
    go_simp
    try with_reducible rfl
  try simp only [Act.put, List.setIfInBounds_toArray, List.set_cons_zero, List.set_cons_succ]
  refine take_d (i := 4) (d := some 21) (v := ?_) rfl rfl (by kernel_rfl) (by kernel_rfl) (by kernel_rfl) (fun _ _ _ h => h) (.inl ⟨by rfl, ?_⟩) hS ?_
  rotate_left
  · intro W hW
    go_simp
    try with_reducible rfl
  try simp only [Act.put, List.setIfInBounds_toArray, List.set_cons_zero, List.set_cons_succ]
  refine take_d (i := 5) (d := some 22) (v := ?_) rfl rfl (by kernel_rfl) (by kernel_rfl) (by kernel_rfl) (fun _ _ _ h => h) (.inl ⟨by rfl, ?_⟩) hS ?_
  rotate_left
  · intro W hW
    go_simp
    try with_reducible rfl
  try simp only [Act.put, List.setIfInBounds_toArray, List.set_cons_zero, List.set_cons_succ]
  refine take_d (i := 6) (d := some 23) (v := ?_) rfl rfl (by kernel_rfl) (by kernel_rfl) (by kernel_rfl) (fun _ _ _ h => h) (.inl ⟨by rfl, ?_⟩) hS ?_
  rotate_left
  · intro W hW
    go_simp
    try with_reducible rfl
  try simp only [Act.put, List.setIfInBounds_toArray, List.set_cons_zero, List.set_cons_succ]
  refine take_d (i := 7) (d := some 24) (v := ?_) rfl rfl (by kernel_rfl) (by kernel_rfl) (by kernel_rfl) (fun _ _ _ h => h) (.inl ⟨by rfl, ?_⟩) hS ?_
  rotate_left
  · intro W hW
    obtain ⟨_, q1, q2, q3, q4⟩ := hW.i.cells; obtain ⟨_, r1, r2, r3, r4⟩ := hW.j.cells
    go_simp
    try with_reducible rfl
  try simp only [Act.put, List.setIfInBounds_toArray, List.set_cons_zero, List.set_cons_succ]
  refine wpAnyH_all (rs := [8]) (by kernel_rfl) (by simp) (fun i hi => ?_)
  simp only [List.mem_cons, List.not_mem_nil, or_false] at hi
  subst hi
  refine .inl ?_
  go_simp
  refine (HL1.out _ hS).mono ?_
  rintro e wc ⟨rfl, hb⟩
  have hS := hS.after hb
  clear hb
  refine ⟨hS, ?_⟩
  try simp only [Act.put, List.setIfInBounds_toArray, List.set_cons_zero, List.set_cons_succ]
  refine take_d (i := 9) (d := some 26) (v := ?_) rfl rfl (by kernel_rfl) (by kernel_rfl) (by kernel_rfl) (fun _ _ _ h => h) (.inl ⟨by rfl, ?_⟩) hS ?_
  rotate_left
  · intro W hW
    go_simp
    try with_reducible rfl
  try simp only [Act.put, List.setIfInBounds_toArray, List.set_cons_zero, List.set_cons_succ]
  refine take_d (i := 10) (d := some 27) (v := ?_) rfl rfl (by kernel_rfl) (by kernel_rfl) (by kernel_rfl) (fun _ _ _ h => h) (.inl ⟨by rfl, ?_⟩) hS ?_
  rotate_left
  · intro W hW
    go_simp
    try with_reducible rfl
  try simp only [Act.put, List.setIfInBounds_toArray, List.set_cons_zero, List.set_cons_succ]
  refine take_d (i := 11) (d := some 28) (v := ?_) rfl rfl (by kernel_rfl) (by kernel_rfl) (by kernel_rfl) (fun _ _ _ h => h) (.inl ⟨by rfl, ?_⟩) hS ?_
  rotate_left
  · intro W hW
    go_simp
    try with_reducible rfl
  try simp only [Act.put, List.setIfInBounds_toArray, List.set_cons_zero, List.set_cons_succ]
  refine take_d (i := 12) (d := some 29) (v := ?_) rfl rfl (by kernel_rfl) (by kernel_rfl) (by kernel_rfl) (fun _ _ _ h => h) (.inl ⟨by rfl, ?_⟩) hS ?_
  rotate_left
  · intro W hW
    go_simp
    try with_reducible rfl
  try simp only [Act.put, List.setIfInBounds_toArray, List.set_cons_zero, List.set_cons_succ]
  refine take_d (i := 13) (d := some 30) (v := ?_) rfl rfl (by kernel_rfl) (by kernel_rfl) (by kernel_rfl) (fun _ _ _ h => h) (.inl ⟨by rfl, ?_⟩) hS ?_
  rotate_left
  · intro W hW
    obtain ⟨_, q1, q2, q3, q4⟩ := hW.i.cells; obtain ⟨_, r1, r2, r3, r4⟩ := hW.j.cells
    go_simp
    try with_reducible rfl
  try simp only [Act.put, List.setIfInBounds_toArray, List.set_cons_zero, List.set_cons_succ]
  refine take_d (i := 14) (d := some 31) (v := ?_) rfl rfl (by kernel_rfl) (by kernel_rfl) (by kernel_rfl) (fun _ _ _ h => h) (.inl ⟨by rfl, ?_⟩) hS ?_
  rotate_left
  · intro W hW
    go_simp
    try with_reducible rfl
  try simp only [Act.put, List.setIfInBounds_toArray, List.set_cons_zero, List.set_cons_succ]
  refine take_d (i := 15) (d := some 32) (v := ?_) rfl rfl (by kernel_rfl) (by kernel_rfl) (by kernel_rfl) (fun _ _ _ h => h) (.inl ⟨by rfl, ?_⟩) hS ?_
  rotate_left
  · intro W hW
    go_simp
    try with_reducible rfl
  try simp only [Act.put, List.setIfInBounds_toArray, List.set_cons_zero, List.set_cons_succ]
  refine take_d (i := 16) (d := some 33) (v := ?_) rfl rfl (by kernel_rfl) (by kernel_rfl) (by kernel_rfl) (fun _ _ _ h => h) (.inl ⟨by rfl, ?_⟩) hS ?_
  rotate_left
  · intro W hW
    go_simp
    try with_reducible rfl
  try simp only [Act.put, List.setIfInBounds_toArray, List.set_cons_zero, List.set_cons_succ]
  refine take_d (i := 17) (d := some 34) (v := ?_) rfl rfl (by kernel_rfl) (by kernel_rfl) (by kernel_rfl) (fun _ _ _ h => h) (.inl ⟨by rfl, ?_⟩) hS ?_
  rotate_left
  · intro W hW
    obtain ⟨_, q1, q2, q3, q4⟩ := hW.i.cells; obtain ⟨_, r1, r2, r3, r4⟩ := hW.j.cells
    go_simp
    try with_reducible rfl
  try simp only [Act.put, List.setIfInBounds_toArray, List.set_cons_zero, List.set_cons_succ]
  refine wpAnyH_all (rs := [18]) (by kernel_rfl) (by simp) (fun i hi => ?_)
  simp only [List.mem_cons, List.not_mem_nil, or_false] at hi
  subst hi
  refine .inl ?_
  go_simp
  refine (HL2.out _ hS).mono ?_
  rintro e wc ⟨rfl, hb⟩
  have hS := hS.after hb
  clear hb
  refine ⟨hS, ?_⟩
  try simp only [Act.put, List.setIfInBounds_toArray, List.set_cons_zero, List.set_cons_succ]
  refine take_d (i := 19) (d := some 36) (v := ?_) rfl rfl (by kernel_rfl) (by kernel_rfl) (by kernel_rfl) (fun _ _ _ h => h) (.inl ⟨by rfl, ?_⟩) hS ?_
  rotate_left
  · intro W hW
    go_simp
    try with_reducible rfl
  try simp only [Act.put, List.setIfInBounds_toArray, List.set_cons_zero, List.set_cons_succ]
  refine take_d (i := 20) (d := some 4) (v := ?_) rfl rfl (by kernel_rfl) (by kernel_rfl) (by kernel_rfl) (fun _ _ _ h => h) (.inl ⟨by rfl, ?_⟩) hS ?_
  rotate_left
  · intro W hW
    go_simp
    try with_reducible rfl
  try simp only [Act.put, List.setIfInBounds_toArray, List.set_cons_zero, List.set_cons_succ]
  refine wpAnyH_done (by kernel_rfl) ?_ _
  have HE := Lib.hid hS.below
  clear hS hK0
  go_wp2
  go_ret
  exact ⟨rfl, HE.out⟩
set_option maxRecDepth 100000 in
theorem Same_case2 {w : World} {S T : Nat} {a b : Nt} {cv sv cv2 sv2 : Value} {cl sl cl2 sl2 : List Pk} (h : AtIs w S a cv sv cl sl) (k : AtIs w T b cv2 sv2 cl2 sl2) (h1 : (decide (tot a.cm = tot b.cm) && decide (a.wt = b.wt)) = true) (h2 : (decide (tot a.sn = tot b.sn) && decide (a.sn = b.sn)) = true) :
    Calls Try.prog 20 #[.pointer (some ⟨S, 0, none⟩), .pointer (some ⟨T, 0, none⟩)] w fun e w' => e = .returned (.bool (true && true)) ∧ Below w.heap.size w w' := by
  have HK := Lib.hid (show SmI w S T a b cv sv cv2 sv2 cl sl cl2 sl2 w.drew from ⟨h.below (Below.refl _ _).drew, k.below (Below.refl _ _).drew, (Below.refl _ _).drew⟩)
  have h1 : (decide (tot a.cm = tot b.cm) && decide (cl.map Pk.x = cl2.map Pk.x)) = true := by rw [h.cx, k.cx]; exact h1
  have h2 : (decide (tot a.sn = tot b.sn) && decide (sl.map Pk.x = sl2.map Pk.x)) = true := by rw [h.sx, k.sx]; exact h2
  have HL1 := Lib.hid (fun W (hW : SmI w S T a b cv sv cv2 sv2 cl sl cl2 sl2 W) => slike_any (na := tot a.cm) (nb := tot b.cm) hW.i.c hW.j.c)
  rw [h1] at HL1
  have HL2 := Lib.hid (fun W (hW : SmI w S T a b cv sv cv2 sv2 cl sl cl2 sl2 W) => slike_any (na := tot a.sn) (nb := tot b.sn) hW.i.s hW.j.s)
  rw [h2] at HL2
  have HN1 := Lib.hid (none_at h.cells.1)
  have HN2 := Lib.hid (none_at k.cells.1)
  obtain ⟨o1, c1, rfl, _⟩ := h.c.g.shape
  obtain ⟨o2, c2, rfl, _⟩ := h.s.g.shape
  obtain ⟨o3, c3, rfl, _⟩ := k.c.g.shape
  obtain ⟨o4, c4, rfl, _⟩ := k.s.g.shape
  clear h k h1 h2
  go_enter Try.func20, Try.ntmps20
  go_wp2_with fail
  refine HN1.out.mono ?_
  rintro e w' ⟨rfl, rfl⟩
  go_wp2_with fail
  refine HN2.out.mono ?_
  rintro e w' ⟨rfl, rfl⟩
  go_wp2
  have hK0 := HK.out
  refine wp_region_held_drew (S := SmI w S T a b (.slice o1 cl.length c1) (.slice o2 sl.length c2) (.slice o3 cl2.length c3) (.slice o4 sl2.length c4) cl sl cl2 sl2) (by kernel_rfl) hK0 (fun _ => ?_)
  have hS := hK0
  refine take_d (i := 0) (d := some 17) (v := ?_) rfl rfl (by kernel_rfl) (by kernel_rfl) (by kernel_rfl) (fun _ _ _ h => h) (.inl ⟨by rfl, ?_⟩) hS ?_
  rotate_left
  · intro W hW
    go_simp
    try with_reducible rfl
  try simp only [Act.put, List.setIfInBounds_toArray, List.set_cons_zero, List.set_cons_succ]
  refine take_d (i := 1) (d := some 18) (v := ?_) rfl rfl (by kernel_rfl) (by kernel_rfl) (by kernel_rfl) (fun _ _ _ h => h) (.inl ⟨by rfl, ?_⟩) hS ?_
  rotate_left
  · intro W hW
    go_simp
    try with_reducible rfl
  try simp only [Act.put, List.setIfInBounds_toArray, List.set_cons_zero, List.set_cons_succ]
  refine take_d (i := 2) (d := some 19) (v := ?_) rfl rfl (by kernel_rfl) (by kernel_rfl) (by kernel_rfl) (fun _ _ _ h => h) (.inl ⟨by rfl, ?_⟩) hS ?_
  rotate_left
  · intro W hW
    go_simp
    try with_reducible rfl
  try simp only [Act.put, List.setIfInBounds_toArray, List.set_cons_zero, List.set_cons_succ]
  refine take_d (i := 3) (d := some 20) (v := ?_) rfl rfl (by kernel_rfl) (by kernel_rfl) (by kernel_rfl) (fun _ _ _ h => h) (.inl ⟨by rfl, ?_⟩) hS ?_
  rotate_left
  · intro W hW
    obtain ⟨_, q1, q2, q3, q4⟩ := hW.i.cells; obtain ⟨_, r1, r2, r3, r4⟩ := hW.j.cells
    go_simp
    try with_reducible rfl
  try simp only [Act.put, List.setIfInBounds_toArray, List.set_cons_zero, List.set_cons_succ]
  refine take_d (i := 4) (d := some 21) (v := ?_) rfl rfl (by kernel_rfl) (by kernel_rfl) (by kernel_rfl) (fun _ _ _ h => h) (.inl ⟨by rfl, ?_⟩) hS ?_
  rotate_left
  · intro W hW
    go_simp
    try with_reducible rfl
  try simp only [Act.put, List.setIfInBounds_toArray, List.set_cons_zero, List.set_cons_succ]
  refine take_d (i := 5) (d := some 22) (v := ?_) rfl rfl (by kernel_rfl) (by kernel_rfl) (by kernel_rfl) (fun _ _ _ h => h) (.inl ⟨by rfl, ?_⟩) hS ?_
  rotate_left
  · intro W hW
    go_simp
    try with_reducible rfl
  try simp only [Act.put, List.setIfInBounds_toArray, List.set_cons_zero, List.set_cons_succ]
  refine take_d (i := 6) (d := some 23) (v := ?_) rfl rfl (by kernel_rfl) (by kernel_rfl) (by kernel_rfl) (fun _ _ _ h => h) (.inl ⟨by rfl, ?_⟩) hS ?_
  rotate_left
  · intro W hW
    go_simp
    try with_reducible rfl
  try simp only [Act.put, List.setIfInBounds_toArray, List.set_cons_zero, List.set_cons_succ]
  refine take_d (i := 7) (d := some 24) (v := ?_) rfl rfl (by kernel_rfl) (by kernel_rfl) (by kernel_rfl) (fun _ _ _ h => h) (.inl ⟨by rfl, ?_⟩) hS ?_
  rotate_left
  · intro W hW
    obtain ⟨_, q1, q2, q3, q4⟩ := hW.i.cells; obtain ⟨_, r1, r2, r3, r4⟩ := hW.j.cells
    go_simp
    try with_reducible rfl
  try simp only [Act.put, List.setIfInBounds_toArray, List.set_cons_zero, List.set_cons_succ]
  refine wpAnyH_all (rs := [8]) (by kernel_rfl) (by simp) (fun i hi => ?_)
  simp only [List.mem_cons, List.not_mem_nil, or_false] at hi
  subst hi
  refine .inl ?_
  go_simp
  refine (HL1.out _ hS).mono ?_
  rintro e wc ⟨rfl, hb⟩
  have hS := hS.after hb
  clear hb
  refine ⟨hS, ?_⟩
  try simp only [Act.put, List.setIfInBounds_toArray, List.set_cons_zero, List.set_cons_succ]
  refine take_d (i := 9) (d := some 26) (v := ?_) rfl rfl (by kernel_rfl) (by kernel_rfl) (by kernel_rfl) (fun _ _ _ h => h) (.inl ⟨by rfl, ?_⟩) hS ?_
  rotate_left
  · intro W hW
    go_simp
    try with_reducible rfl
  try simp only [Act.put, List.setIfInBounds_toArray, List.set_cons_zero, List.set_cons_succ]
  refine take_d (i := 10) (d := some 27) (v := ?_) rfl rfl (by kernel_rfl) (by kernel_rfl) (by kernel_rfl) (fun _ _ _ h => h) (.inl ⟨by rfl, ?_⟩) hS ?_
  rotate_left
  · intro W hW
    go_simp
    try with_reducible rfl
  try simp only [Act.put, List.setIfInBounds_toArray, List.set_cons_zero, List.set_cons_succ]
  refine take_d (i := 11) (d := some 28) (v := ?_) rfl rfl (by kernel_rfl) (by kernel_rfl) (by kernel_rfl) (fun _ _ _ h => h) (.inl ⟨by rfl, ?_⟩) hS ?_
  rotate_left
  · intro W hW
    go_simp
    try with_reducible rfl
  try simp only [Act.put, List.setIfInBounds_toArray, List.set_cons_zero, List.set_cons_succ]
  refine take_d (i := 12) (d := some 29) (v := ?_) rfl rfl (by kernel_rfl) (by kernel_rfl) (by kernel_rfl) (fun _ _ _ h => h) (.inl ⟨by rfl, ?_⟩) hS ?_
  rotate_left
  · intro W hW
    go_simp
    try with_reducible rfl
  try simp only [Act.put, List.setIfInBounds_toArray, List.set_cons_zero, List.set_cons_succ]
  refine take_d (i := 13) (d := some 30) (v := ?_) rfl rfl (by kernel_rfl) (by kernel_rfl) (by kernel_rfl) (fun _ _ _ h => h) (.inl ⟨by rfl, ?_⟩) hS ?_
  rotate_left
  · intro W hW
    obtain ⟨_, q1, q2, q3, q4⟩ := hW.i.cells; obtain ⟨_, r1, r2, r3, r4⟩ := hW.j.cells
    go_simp
    try with_reducible rfl
  try simp only [Act.put, List.setIfInBounds_toArray, List.set_cons_zero, List.set_cons_succ]
  refine take_d (i := 14) (d := some 31) (v := ?_) rfl rfl (by kernel_rfl) (by kernel_rfl) (by kernel_rfl) (fun _ _ _ h => h) (.inl ⟨by rfl, ?_⟩) hS ?_
  rotate_left
  · intro W hW
    go_simp
    try with_reducible rfl
  try simp only [Act.put, List.setIfInBounds_toArray, List.set_cons_zero, List.set_cons_succ]
  refine take_d (i := 15) (d := some 32) (v := ?_) rfl rfl (by kernel_rfl) (by kernel_rfl) (by kernel_rfl) (fun _ _ _ h => h) (.inl ⟨by rfl, ?_⟩) hS ?_
  rotate_left
  · intro W hW
    go_simp
    try with_reducible rfl
  try simp only [Act.put, List.setIfInBounds_toArray, List.set_cons_zero, List.set_cons_succ]
  refine take_d (i := 16) (d := some 33) (v := ?_) rfl rfl (by kernel_rfl) (by kernel_rfl) (by kernel_rfl) (fun _ _ _ h => h) (.inl ⟨by rfl, ?_⟩) hS ?_
  rotate_left
  · intro W hW
    go_simp
    try with_reducible rfl
  try simp only [Act.put, List.setIfInBounds_toArray, List.set_cons_zero, List.set_cons_succ]
  refine take_d (i := 17) (d := some 34) (v := ?_) rfl rfl (by kernel_rfl) (by kernel_rfl) (by kernel_rfl) (fun _ _ _ h => h) (.inl ⟨by rfl, ?_⟩) hS ?_
  rotate_left
  · intro W hW
    obtain ⟨_, q1, q2, q3, q4⟩ := hW.i.cells; obtain ⟨_, r1, r2, r3, r4⟩ := hW.j.cells
    go_simp
    try with_reducible rfl
  try simp only [Act.put, List.setIfInBounds_toArray, List.set_cons_zero, List.set_cons_succ]
  refine wpAnyH_all (rs := [18]) (by kernel_rfl) (by simp) (fun i hi => ?_)
  simp only [List.mem_cons, List.not_mem_nil, or_false] at hi
  subst hi
  refine .inl ?_
  go_simp
  refine (HL2.out _ hS).mono ?_
  rintro e wc ⟨rfl, hb⟩
  have hS := hS.after hb
  clear hb
  refine ⟨hS, ?_⟩
  try simp only [Act.put, List.setIfInBounds_toArray, List.set_cons_zero, List.set_cons_succ]
  refine take_d (i := 19) (d := some 36) (v := ?_) rfl rfl (by kernel_rfl) (by kernel_rfl) (by kernel_rfl) (fun _ _ _ h => h) (.inl ⟨by rfl, ?_⟩) hS ?_
  rotate_left
  · intro W hW
    go_simp
    try with_reducible rfl
  try simp only [Act.put, List.setIfInBounds_toArray, List.set_cons_zero, List.set_cons_succ]
  refine take_d (i := 20) (d := some 4) (v := ?_) rfl rfl (by kernel_rfl) (by kernel_rfl) (by kernel_rfl) (fun _ _ _ h => h) (.inl ⟨by rfl, ?_⟩) hS ?_
  rotate_left
  · intro W hW
    go_simp
    try with_reducible rfl
  try simp only [Act.put, List.setIfInBounds_toArray, List.set_cons_zero, List.set_cons_succ]
  refine wpAnyH_done (by kernel_rfl) ?_ _
  have HE := Lib.hid hS.below
  clear hS hK0
  go_wp2
  go_ret
  exact ⟨rfl, HE.out⟩
theorem Same_any {w : World} {S T : Nat} {a b : Nt} {F G : Nat → Prop} (h : At w S a F) (k : At w T b G) : Calls Try.prog 20 #[.pointer (some ⟨S, 0, none⟩), .pointer (some ⟨T, 0, none⟩)] w fun e w' => e = .returned (.bool (a.same b)) ∧ Below w.heap.size w w' := by
  obtain ⟨cv, sv, cl, sl, rfl, h⟩ := h
  obtain ⟨cv2, sv2, cl2, sl2, rfl, k⟩ := k
  cases h1 : (decide (tot a.cm = tot b.cm) && decide (a.wt = b.wt)) with
  | false =>
    rw [same_eq a b false _ h1 rfl]
    exact Same_case0 h k h1
  | true =>
    cases h2 : (decide (tot a.sn = tot b.sn) && decide (a.sn = b.sn)) with
    | false => rw [same_eq a b true false h1 h2]; exact Same_case1 h k h1 h2
    | true => rw [same_eq a b true true h1 h2]; exact Same_case2 h k h1 h2
end Go.Proofs.Ytepimbebodmajaa
