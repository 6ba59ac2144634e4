/-
  Layer 9: SameLists, Same of the document's answers: walks. Written by gen_ref2.py.
-/
import Derived.Test.YtepimbebodmajaaRef
namespace Go.Proofs.Ytepimbebodmajaa
open Go.RowKit
set_option maxHeartbeats 4000000
set_option linter.unusedVariables false
set_option linter.unusedSimpArgs false

theorem strq {xs ys : List Int} (hx : Byt xs) (hy : Byt ys) {b : Bool} (h : decide (xs = ys) = b) : ((strOfNums xs).toList == (strOfNums ys).toList) = b := by rw [str_eq hx hy, h]
theorem map_x_ext2 {l m : List Pk} (hl : l.length = m.length) (h : ∀ (j : Nat) (p q : Pk), l[j]? = some p → m[j]? = some q → p.x = q.x) : l.map Pk.x = m.map Pk.x := by
  apply List.ext_getElem (by simpa using hl)
  intro i h1 h2
  simp only [List.getElem_map]
  simp only [List.length_map] at h1 h2
  exact h i _ _ (List.getElem?_eq_getElem h1) (List.getElem?_eq_getElem h2)
theorem RsIs.at1 {w : World} {v : Value} {l : List Pk} (h : RsIs w v l) {k : Nat} (hk : k < l.length) : ∃ (a : Addr) (c : Nat) (o : Option Addr) (n m f : Nat) (x : List Int), v = .slice (some a) l.length c ∧ l[k]? = some ⟨.slice o n m, f, x⟩ ∧ NumsIn .u8 w (.slice o n m) x ∧ w.cell? (a.add k) = some (.slice o n m) := by
  obtain ⟨o, c, rfl, _, _, hat⟩ := h.form
  have hlk : l[k]? = some l[k] := List.getElem?_eq_getElem hk
  obtain ⟨a, rfl, h1, h2⟩ := hat k _ hlk
  obtain ⟨o2, c2, e, _⟩ := h2.form
  generalize l[k] = p at *
  obtain ⟨pv, pf, px⟩ := p
  simp only at e h1 h2
  subst e
  exact ⟨a, c, o2, _, c2, pf, px, rfl, hlk, h2, h1⟩
structure Rl4 (a1 a2 : Addr) (k : Nat) (v1 v2 : Value) (x1 x2 : List Int) (w W : World) : Prop where
  c1 : W.cell? (a1.add k) = some v1
  c2 : W.cell? (a2.add k) = some v2
  n1 : NumsIn .u8 W v1 x1
  n2 : NumsIn .u8 W v2 x2
  below : Below w.heap.size w W
set_option maxRecDepth 100000 in
theorem RLists_any {w : World} {va vb : Value} {l m : List Pk} (ha : RsIs w va l) (hb : RsIs w vb m) : Calls Try.prog 32 #[va, vb] w fun e w' => e = .returned (.bool (decide (l.map Pk.x = m.map Pk.x))) ∧ Below w.heap.size w w' := by
  have HA := Lib.hid (fun W (h : Below w.heap.size w W) => (show RsIs W va l from ha.below h))
  have HB := Lib.hid (fun W (h : Below w.heap.size w W) => (show RsIs W vb m from hb.below h))
  obtain ⟨oa, ca, rfl, -, hla, -⟩ := ha.form
  obtain ⟨ob, cb, rfl, -, hlb, -⟩ := hb.form
  unfold maxLen at hla hlb
  clear ha hb
  by_cases hl : l.length = m.length
  · have hl' : (l.length : Int) = (m.length : Int) := by omega
    have HL := Lib.hid hl
    rw [← hl] at HB ⊢
    clear hl hl' hlb
    go_enter Try.func32, Try.ntmps32
    go_wp2
    go_loopw [5] (fun q wr => ∃ k : Nat, k ≤ l.length ∧ q = .int .i64 (k : Int) ∧ Hid (Below w.heap.size w wr) ∧ Hid (∀ (j : Nat) (p q : Pk), j < k → l[j]? = some p → m[j]? = some q → p.x = q.x)) (fun q _ => l.length + 1 - (intOf q).toNat)
    case atStart => exact ⟨0, by omega, rfl, Below.refl _ _, fun j p q hj => by omega⟩
    case round =>
      obtain ⟨k, hk, rfl, HBl, HE⟩ := hrel
      by_cases hlt : k < l.length
      · have hi : (k : Int) < (l.length : Int) := by omega
        obtain ⟨a1, c1, o1, n1, m1, f1, x1, e1, g1, q1, r1⟩ := (HA.out _ HBl.out).at1 hlt
        obtain ⟨a2, c2, o2, n2, m2, f2, x2, e2, g2, q2, s1⟩ := (HB.out _ HBl.out).at1 (show k < m.length by rw [← HL.out]; exact hlt)
        simp at e1 e2
        obtain ⟨rfl, rfl⟩ := e1
        obtain ⟨rfl, hcl, rfl⟩ := e2
        clear hcl
        have hz : Below wr.heap.size wr wr.drew := (Below.refl _ _).drew
        have HK := Lib.hid (show Rl4 a1 a2 k (.slice o1 n1 m1) (.slice o2 n2 m2) x1 x2 w wr.drew from ⟨r1, s1, q1.below hz, q2.below hz, HBl.out.drew⟩)
        have HG1 := Lib.hid g1
        have HG2 := Lib.hid g2
        have hby := q1.byt
        have hby2 := q2.byt
        by_cases he : x1 = x2
        · have hq := strq hby hby2 (decide_eq_true he)
          have HE2 : Hid (∀ (j : Nat) (p q : Pk), j < k + 1 → l[j]? = some p → m[j]? = some q → p.x = q.x) := fun j p q hj h1 h2 => by
            by_cases e : j = k
            · subst e
              rw [HG1.out] at h1; rw [HG2.out] at h2
              cases h1; cases h2; exact he
            · exact HE.out j p q (by omega) h1 h2
          have HQ := Lib.hid hq
          clear q1 q2 hz g1 g2 HBl r1 s1 hby hby2 he hq HE
          go_wp2
          have hK0 := HK.out
          refine wp_region_held_drew (S := Rl4 a1 a2 k (.slice o1 n1 m1) (.slice o2 n2 m2) x1 x2 w) (by kernel_rfl) hK0 (fun _ => ?_)
          have hS := hK0
          refine take_d (i := 0) (d := some 17) (v := ?_) rfl rfl (by kernel_rfl) (by kernel_rfl) (by kernel_rfl) (fun _ _ _ h => h) (.inl ⟨by rfl, ?_⟩) hS ?_
          rotate_left
          · intro W hW
            go_simp
            try with_reducible rfl
          try simp only [Act.put, List.setIfInBounds_toArray, List.set_cons_zero, List.set_cons_succ]
          refine take_d (i := 1) (d := some 18) (v := ?_) rfl rfl (by kernel_rfl) (by kernel_rfl) (by kernel_rfl) (fun _ _ _ h => h) (.inl ⟨by rfl, ?_⟩) hS ?_
          rotate_left
          · intro W hW
            go_simp
            try with_reducible rfl
          try simp only [Act.put, List.setIfInBounds_toArray, List.set_cons_zero, List.set_cons_succ]
          refine take_d (i := 2) (d := some 19) (v := .pointer (some (a1.add k))) rfl rfl (by kernel_rfl) (by kernel_rfl) (by kernel_rfl) (fun _ _ _ h => h) (.inl ⟨by rfl, fun W hW => by have q := hi; go_simp⟩) hS ?_
          try simp only [Act.put, List.setIfInBounds_toArray, List.set_cons_zero, List.set_cons_succ]
          refine take_d (i := 3) (d := some 20) (v := .slice o1 n1 m1) rfl rfl (by kernel_rfl) (by kernel_rfl) (by kernel_rfl) (fun _ _ _ h => h) (.inl ⟨by rfl, fun W hW => by have q := hW.c1; go_simp⟩) hS ?_
          try simp only [Act.put, List.setIfInBounds_toArray, List.set_cons_zero, List.set_cons_succ]
          refine take_d (i := 4) (d := some 21) (v := .string (strOfNums x1)) rfl rfl (by kernel_rfl) (by kernel_rfl) (by kernel_rfl) (fun _ _ _ h => h) (y_conv (by kernel_rfl) rfl rfl (fun W hW => hW.n1)) hS ?_
          try simp only [Act.put, List.setIfInBounds_toArray, List.set_cons_zero, List.set_cons_succ]
          refine take_d (i := 5) (d := some 22) (v := ?_) rfl rfl (by kernel_rfl) (by kernel_rfl) (by kernel_rfl) (fun _ _ _ h => h) (.inl ⟨by rfl, ?_⟩) hS ?_
          rotate_left
          · intro W hW
            go_simp
            try with_reducible rfl
          try simp only [Act.put, List.setIfInBounds_toArray, List.set_cons_zero, List.set_cons_succ]
          refine take_d (i := 6) (d := some 23) (v := ?_) rfl rfl (by kernel_rfl) (by kernel_rfl) (by kernel_rfl) (fun _ _ _ h => h) (.inl ⟨by rfl, ?_⟩) hS ?_
          rotate_left
          · intro W hW
            go_simp
            try with_reducible rfl
          try simp only [Act.put, List.setIfInBounds_toArray, List.set_cons_zero, List.set_cons_succ]
          refine take_d (i := 7) (d := some 24) (v := .pointer (some (a2.add k))) rfl rfl (by kernel_rfl) (by kernel_rfl) (by kernel_rfl) (fun _ _ _ h => h) (.inl ⟨by rfl, fun W hW => by have q := hi; go_simp⟩) hS ?_
          try simp only [Act.put, List.setIfInBounds_toArray, List.set_cons_zero, List.set_cons_succ]
          refine take_d (i := 8) (d := some 25) (v := .slice o2 n2 m2) rfl rfl (by kernel_rfl) (by kernel_rfl) (by kernel_rfl) (fun _ _ _ h => h) (.inl ⟨by rfl, fun W hW => by have q := hW.c2; go_simp⟩) hS ?_
          try simp only [Act.put, List.setIfInBounds_toArray, List.set_cons_zero, List.set_cons_succ]
          refine take_d (i := 9) (d := some 26) (v := .string (strOfNums x2)) rfl rfl (by kernel_rfl) (by kernel_rfl) (by kernel_rfl) (fun _ _ _ h => h) (y_conv (by kernel_rfl) rfl rfl (fun W hW => hW.n2)) hS ?_
          try simp only [Act.put, List.setIfInBounds_toArray, List.set_cons_zero, List.set_cons_succ]
          refine take_d (i := 10) (d := some 27) (v := ?_) rfl rfl (by kernel_rfl) (by kernel_rfl) (by kernel_rfl) (fun _ _ _ h => h) (.inl ⟨by rfl, ?_⟩) hS ?_
          rotate_left
          · intro W hW
            have q := HQ.out
            go_simp
            try with_reducible rfl
          try simp only [Act.put, List.setIfInBounds_toArray, List.set_cons_zero, List.set_cons_succ]
          refine wpAnyH_done (by kernel_rfl) ?_ _
          have HZ := Lib.hid hS.below
          clear hS hK0
          go_wp2
          go_roundw
          case rel => exact ⟨k + 1, by omega, by go_num, HZ.out, HE2.out⟩
          case measure => simp [intOf]; omega
        · have hq := strq hby hby2 (decide_eq_false he)
          have HD : Hid (decide (l.map Pk.x = m.map Pk.x) = false) := decide_eq_false (by
            intro e
            apply he
            have h1 : (l.map Pk.x)[k]? = some x1 := by rw [List.getElem?_map, HG1.out]; rfl
            have h2 : (m.map Pk.x)[k]? = some x2 := by rw [List.getElem?_map, HG2.out]; rfl
            rw [e, h2] at h1
            exact (Option.some.inj h1).symm)
          have HQ := Lib.hid hq
          clear q1 q2 hz g1 g2 HBl r1 s1 hby hby2 he hq HE
          go_wp2
          have hK0 := HK.out
          refine wp_region_held_drew (S := Rl4 a1 a2 k (.slice o1 n1 m1) (.slice o2 n2 m2) x1 x2 w) (by kernel_rfl) hK0 (fun _ => ?_)
          have hS := hK0
          refine take_d (i := 0) (d := some 17) (v := ?_) rfl rfl (by kernel_rfl) (by kernel_rfl) (by kernel_rfl) (fun _ _ _ h => h) (.inl ⟨by rfl, ?_⟩) hS ?_
          rotate_left
          · intro W hW
            go_simp
            try with_reducible rfl
          try simp only [Act.put, List.setIfInBounds_toArray, List.set_cons_zero, List.set_cons_succ]
          refine take_d (i := 1) (d := some 18) (v := ?_) rfl rfl (by kernel_rfl) (by kernel_rfl) (by kernel_rfl) (fun _ _ _ h => h) (.inl ⟨by rfl, ?_⟩) hS ?_
          rotate_left
          · intro W hW
            go_simp
            try with_reducible rfl
          try simp only [Act.put, List.setIfInBounds_toArray, List.set_cons_zero, List.set_cons_succ]
          refine take_d (i := 2) (d := some 19) (v := .pointer (some (a1.add k))) rfl rfl (by kernel_rfl) (by kernel_rfl) (by kernel_rfl) (fun _ _ _ h => h) (.inl ⟨by rfl, fun W hW => by have q := hi; go_simp⟩) hS ?_
          try simp only [Act.put, List.setIfInBounds_toArray, List.set_cons_zero, List.set_cons_succ]
          refine take_d (i := 3) (d := some 20) (v := .slice o1 n1 m1) rfl rfl (by kernel_rfl) (by kernel_rfl) (by kernel_rfl) (fun _ _ _ h => h) (.inl ⟨by rfl, fun W hW => by have q := hW.c1; go_simp⟩) hS ?_
          try simp only [Act.put, List.setIfInBounds_toArray, List.set_cons_zero, List.set_cons_succ]
          refine take_d (i := 4) (d := some 21) (v := .string (strOfNums x1)) rfl rfl (by kernel_rfl) (by kernel_rfl) (by kernel_rfl) (fun _ _ _ h => h) (y_conv (by kernel_rfl) rfl rfl (fun W hW => hW.n1)) hS ?_
          try simp only [Act.put, List.setIfInBounds_toArray, List.set_cons_zero, List.set_cons_succ]
          refine take_d (i := 5) (d := some 22) (v := ?_) rfl rfl (by kernel_rfl) (by kernel_rfl) (by kernel_rfl) (fun _ _ _ h => h) (.inl ⟨by rfl, ?_⟩) hS ?_
          rotate_left
          · intro W hW
            go_simp
            try with_reducible rfl
          try simp only [Act.put, List.setIfInBounds_toArray, List.set_cons_zero, List.set_cons_succ]
          refine take_d (i := 6) (d := some 23) (v := ?_) rfl rfl (by kernel_rfl) (by kernel_rfl) (by kernel_rfl) (fun _ _ _ h => h) (.inl ⟨by rfl, ?_⟩) hS ?_
          rotate_left
          · intro W hW
            go_simp
            try with_reducible rfl
          try simp only [Act.put, List.setIfInBounds_toArray, List.set_cons_zero, List.set_cons_succ]
          refine take_d (i := 7) (d := some 24) (v := .pointer (some (a2.add k))) rfl rfl (by kernel_rfl) (by kernel_rfl) (by kernel_rfl) (fun _ _ _ h => h) (.inl ⟨by rfl, fun W hW => by have q := hi; go_simp⟩) hS ?_
          try simp only [Act.put, List.setIfInBounds_toArray, List.set_cons_zero, List.set_cons_succ]
          refine take_d (i := 8) (d := some 25) (v := .slice o2 n2 m2) rfl rfl (by kernel_rfl) (by kernel_rfl) (by kernel_rfl) (fun _ _ _ h => h) (.inl ⟨by rfl, fun W hW => by have q := hW.c2; go_simp⟩) hS ?_
          try simp only [Act.put, List.setIfInBounds_toArray, List.set_cons_zero, List.set_cons_succ]
          refine take_d (i := 9) (d := some 26) (v := .string (strOfNums x2)) rfl rfl (by kernel_rfl) (by kernel_rfl) (by kernel_rfl) (fun _ _ _ h => h) (y_conv (by kernel_rfl) rfl rfl (fun W hW => hW.n2)) hS ?_
          try simp only [Act.put, List.setIfInBounds_toArray, List.set_cons_zero, List.set_cons_succ]
          refine take_d (i := 10) (d := some 27) (v := ?_) rfl rfl (by kernel_rfl) (by kernel_rfl) (by kernel_rfl) (fun _ _ _ h => h) (.inl ⟨by rfl, ?_⟩) hS ?_
          rotate_left
          · intro W hW
            have q := HQ.out
            go_simp
            try with_reducible rfl
          try simp only [Act.put, List.setIfInBounds_toArray, List.set_cons_zero, List.set_cons_succ]
          refine wpAnyH_done (by kernel_rfl) ?_ _
          have HZ := Lib.hid hS.below
          clear hS hK0
          go_wp2
          go_ret
          exact ⟨by rw [HD.out]; rfl, HZ.out⟩
      · obtain rfl : k = l.length := by omega
        have HD : Hid (decide (l.map Pk.x = m.map Pk.x) = true) := decide_eq_true (map_x_ext2 HL.out (fun j p q h1 h2 => HE.out j p q (List.getElem?_eq_some_iff.1 h1).1 h1 h2))
        go_wp2
        go_ret
        exact ⟨by rw [HD.out]; rfl, HBl.out⟩
  · have hne : ¬ (l.length : Int) = (m.length : Int) := by omega
    have HD : Hid (decide (l.map Pk.x = m.map Pk.x) = false) := decide_eq_false (by intro e; apply hl; have := congrArg List.length e; simpa using this)
    clear hl
    go_enter Try.func32, Try.ntmps32
    go_wp2
    go_ret
    exact ⟨by rw [HD.out]; rfl, Below.refl _ _⟩

/-! ### Same -/
structure RmI (w : World) (a b : Nt) (c1 s1 c2 s2 : Value) (l1 m1 l2 m2 : List Pk) (W : World) : Prop where
  ba : Rf 28 3 W w.heap.size (rcL a c1 s1)
  bb : Rf 28 3 W (w.heap.size + 1) (rcL b c2 s2)
  r1 : RvIs W a c1 s1 l1 m1
  r2 : RvIs W b c2 s2 l2 m2
  below : Below w.heap.size w W
theorem RmI.after {w W W' : World} {a b : Nt} {c1 s1 c2 s2 : Value} {l1 m1 l2 m2 : List Pk} (h : RmI w a b c1 s1 c2 s2 l1 m1 l2 m2 W) (hb : Below W.heap.size W W') : RmI w a b c1 s1 c2 s2 l1 m1 l2 m2 W' := ⟨h.ba.below hb, h.bb.below hb, h.r1.below hb, h.r2.below hb, h.below.trans (hb.mono h.below.size)⟩
theorem rm_start {w : World} {a b : Nt} {c1 s1 c2 s2 : Value} {l1 m1 l2 m2 : List Pk} (h1 : RvIs w a c1 s1 l1 m1) (h2 : RvIs w b c2 s2 l2 m2) : RmI w a b c1 s1 c2 s2 l1 m1 l2 m2 ((w.alloc (.cells (rcL a c1 s1) 28)).alloc (.cells (rcL b c2 s2) 28)).drew := by
  have hb : Below w.heap.size w ((w.alloc (.cells (rcL a c1 s1) 28)).alloc (.cells (rcL b c2 s2) 28)).drew := (((Below.refl _ _).alloc (Nat.le_refl _) _).alloc (by simp) _).drew
  have h3 := Ok1.new (show Ok1 3 _ from h2.ok b) 28 (w.alloc (.cells (rcL a c1 s1) 28))
  rw [World.size_alloc] at h3
  exact ⟨((Ok1.new (show Ok1 3 _ from h1.ok a) _ _).alloc _).drew, h3.drew, h1.below hb, h2.below hb, hb⟩
theorem lists_q {w : World} {a b : Nt} {c1 s1 c2 s2 : Value} {l1 m1 l2 m2 : List Pk} (h1 : RvIs w a c1 s1 l1 m1) (h2 : RvIs w b c2 s2 l2 m2) (k1 : a.tk ≤ a.cm.length) (k2 : b.tk ≤ b.cm.length) {r : Bool} (hr : decide (a.wt = b.wt) = r) :
    Calls Try.prog 32 #[qv c1 a.tk, qv c2 b.tk] w fun e w' => e = .returned (.bool r) ∧ Below w.heap.size w w' := by
  have := RLists_any (h1.c.cut (k := a.tk) (by rw [h1.clen]; exact k1)) (h2.c.cut (k := b.tk) (by rw [h2.clen]; exact k2))
  rw [List.map_drop, List.map_drop, h1.cx, h2.cx] at this
  have e : decide (List.drop a.tk a.cm = List.drop b.tk b.cm) = r := hr
  rw [e] at this
  exact this
theorem lists_s {w : World} {a b : Nt} {c1 s1 c2 s2 : Value} {l1 m1 l2 m2 : List Pk} (h1 : RvIs w a c1 s1 l1 m1) (h2 : RvIs w b c2 s2 l2 m2) {r : Bool} (hr : decide (a.sn = b.sn) = r) :
    Calls Try.prog 32 #[s1, s2] w fun e w' => e = .returned (.bool r) ∧ Below w.heap.size w w' := by
  have := RLists_any h1.s h2.s
  rw [h1.sx, h2.sx, hr] at this
  exact this
theorem bytes_c {w : World} {a : Nt} {c1 s1 : Value} {l1 m1 : List Pk} (h1 : RvIs w a c1 s1 l1 m1) (hb : tot a.cm ≤ 1000000000) : Calls Try.prog 33 #[c1] w fun e w' => e = .returned (.int .i64 (tot a.cm : Int)) ∧ w = w' := by
  have := RBytes_any h1.c (by rw [h1.cx]; exact hb)
  rw [h1.cx] at this
  exact this
theorem bytes_s {w : World} {a : Nt} {c1 s1 : Value} {l1 m1 : List Pk} (h1 : RvIs w a c1 s1 l1 m1) (hb : tot a.sn ≤ 1000000000) : Calls Try.prog 33 #[s1] w fun e w' => e = .returned (.int .i64 (tot a.sn : Int)) ∧ w = w' := by
  have := RBytes_any h1.s (by rw [h1.sx]; exact hb)
  rw [h1.sx] at this
  exact this
set_option maxRecDepth 100000 in
theorem RSame_case1 {w : World} {a b : Nt} {c1 s1 c2 s2 : Value} {l1 m1 l2 m2 : List Pk} (h1 : RvIs w a c1 s1 l1 m1) (h2 : RvIs w b c2 s2 l2 m2) (k1 : a.tk ≤ a.cm.length) (k2 : b.tk ≤ b.cm.length) (t1 : tot a.cm ≤ 1000000000) (t2 : tot b.cm ≤ 1000000000) (e1 : decide (a.wt = b.wt) = false) :
    Calls Try.prog 24 #[.agg (rcL a c1 s1), .agg (rcL b c2 s2)] w fun e w' => e = .returned (.bool false) ∧ Below w.heap.size w w' := by
  have HI := Lib.hid (rm_start h1 h2)
  have HE1 := Lib.hid e1
  have HK1 := Lib.hid k1
  have HK2 := Lib.hid k2
  have HT1 := Lib.hid t1
  have HT2 := Lib.hid t2
  obtain ⟨o1, n1, rfl, -, -, -⟩ := h1.s.form
  obtain ⟨o2, n2, rfl, -, -, -⟩ := h2.s.form
  obtain ⟨o3, n3, rfl, -, -, -⟩ := h1.c.form
  obtain ⟨o4, n4, rfl, -, -, -⟩ := h2.c.form
  clear h1 h2 e1 k1 k2 t1 t2
  go_enter Try.func24, Try.ntmps24
  go_wp2
  have hK0 := HI.out
  refine wp_region_held_drew (S := RmI w a b (.slice o3 l1.length n3) (.slice o1 m1.length n1) (.slice o4 l2.length n4) (.slice o2 m2.length n2) l1 m1 l2 m2) (by kernel_rfl) hK0 (fun _ => ?_)
  have hS := hK0
  refine take_d (i := 0) (d := some 5) (v := .agg (rcL a (.slice o3 l1.length n3) (.slice o1 m1.length n1))) rfl rfl (by kernel_rfl) (by kernel_rfl) (by kernel_rfl) (fun _ _ _ h => h) (y_R rowR (by kernel_rfl) rfl rfl (fun W hW => hW.ba)) hS ?_
  try simp only [Act.put, List.setIfInBounds_toArray, List.set_cons_zero, List.set_cons_succ]
  refine take_d (i := 2) (d := some 7) (v := .agg (rcL b (.slice o4 l2.length n4) (.slice o2 m2.length n2))) rfl rfl (by kernel_rfl) (by kernel_rfl) (by kernel_rfl) (fun _ _ _ h => h) (y_R rowR (by kernel_rfl) rfl rfl (fun W hW => hW.bb)) hS ?_
  try simp only [Act.put, List.setIfInBounds_toArray, List.set_cons_zero, List.set_cons_succ]
  refine wpAnyH_all (rs := [1]) (by kernel_rfl) (by simp) (fun i hi => ?_)
  simp only [List.mem_cons, List.not_mem_nil, or_false] at hi
  subst hi
  refine .inl ?_
  go_simp
  refine (RQueue_any hS.r1 HK1.out).mono ?_
  rintro e wc ⟨rfl, hb⟩
  have hS := hS.after hb
  clear hb
  refine ⟨hS, ?_⟩
  try simp only [Act.put, List.setIfInBounds_toArray, List.set_cons_zero, List.set_cons_succ]
  refine wpAnyH_all (rs := [3]) (by kernel_rfl) (by simp) (fun i hi => ?_)
  simp only [List.mem_cons, List.not_mem_nil, or_false] at hi
  subst hi
  refine .inl ?_
  go_simp
  refine (RQueue_any hS.r2 HK2.out).mono ?_
  rintro e wc ⟨rfl, hb⟩
  have hS := hS.after hb
  clear hb
  refine ⟨hS, ?_⟩
  try simp only [Act.put, List.setIfInBounds_toArray, List.set_cons_zero, List.set_cons_succ]
  refine wpAnyH_all (rs := [4]) (by kernel_rfl) (by simp) (fun i hi => ?_)
  simp only [List.mem_cons, List.not_mem_nil, or_false] at hi
  subst hi
  refine .inl ?_
  go_simp
  refine (lists_q hS.r1 hS.r2 HK1.out HK2.out HE1.out).mono ?_
  rintro e wc ⟨rfl, hb⟩
  have hS := hS.after hb
  clear hb
  refine ⟨hS, ?_⟩
  try simp only [Act.put, List.setIfInBounds_toArray, List.set_cons_zero, List.set_cons_succ]
  refine take_d (i := 5) (d := some 10) (v := ?_) rfl rfl (by kernel_rfl) (by kernel_rfl) (by kernel_rfl) (fun _ _ _ h => h) (.inl ⟨by rfl, ?_⟩) hS ?_
  rotate_left
  · intro W hW
    go_simp
    try with_reducible rfl
  try simp only [Act.put, List.setIfInBounds_toArray, List.set_cons_zero, List.set_cons_succ]
  refine take_d (i := 6) (d := some 11) (v := undef) rfl rfl (by kernel_rfl) (by kernel_rfl) (by kernel_rfl) (fun _ _ _ h => h) (.inr ⟨by kernel_rfl, rfl⟩) hS ?_
  try simp only [Act.put, List.setIfInBounds_toArray, List.set_cons_zero, List.set_cons_succ]
  refine take_d (i := 7) (d := some 12) (v := undef) rfl rfl (by kernel_rfl) (by kernel_rfl) (by kernel_rfl) (fun _ _ _ h => h) (.inr ⟨by kernel_rfl, rfl⟩) hS ?_
  try simp only [Act.put, List.setIfInBounds_toArray, List.set_cons_zero, List.set_cons_succ]
  refine take_d (i := 8) (d := some 13) (v := undef) rfl rfl (by kernel_rfl) (by kernel_rfl) (by kernel_rfl) (fun _ _ _ h => h) (.inr ⟨by kernel_rfl, rfl⟩) hS ?_
  try simp only [Act.put, List.setIfInBounds_toArray, List.set_cons_zero, List.set_cons_succ]
  refine take_d (i := 9) (d := some 14) (v := undef) rfl rfl (by kernel_rfl) (by kernel_rfl) (by kernel_rfl) (fun _ _ _ h => h) (.inr ⟨by kernel_rfl, rfl⟩) hS ?_
  try simp only [Act.put, List.setIfInBounds_toArray, List.set_cons_zero, List.set_cons_succ]
  refine take_d (i := 10) (d := some 15) (v := undef) rfl rfl (by kernel_rfl) (by kernel_rfl) (by kernel_rfl) (fun _ _ _ h => h) (.inr ⟨by kernel_rfl, rfl⟩) hS ?_
  try simp only [Act.put, List.setIfInBounds_toArray, List.set_cons_zero, List.set_cons_succ]
  refine take_d (i := 11) (d := some 16) (v := ?_) rfl rfl (by kernel_rfl) (by kernel_rfl) (by kernel_rfl) (fun _ _ _ h => h) (.inl ⟨by rfl, ?_⟩) hS ?_
  rotate_left
  · intro W hW
    go_simp
    try with_reducible rfl
  try simp only [Act.put, List.setIfInBounds_toArray, List.set_cons_zero, List.set_cons_succ]
  refine take_d (i := 12) (d := some 17) (v := ?_) rfl rfl (by kernel_rfl) (by kernel_rfl) (by kernel_rfl) (fun _ _ _ h => h) (.inl ⟨by rfl, ?_⟩) hS ?_
  rotate_left
  · intro W hW
    go_simp
    try with_reducible rfl
  try simp only [Act.put, List.setIfInBounds_toArray, List.set_cons_zero, List.set_cons_succ]
  refine take_d (i := 13) (d := some 18) (v := undef) rfl rfl (by kernel_rfl) (by kernel_rfl) (by kernel_rfl) (fun _ _ _ h => h) (.inr ⟨by kernel_rfl, rfl⟩) hS ?_
  try simp only [Act.put, List.setIfInBounds_toArray, List.set_cons_zero, List.set_cons_succ]
  refine take_d (i := 14) (d := some 19) (v := undef) rfl rfl (by kernel_rfl) (by kernel_rfl) (by kernel_rfl) (fun _ _ _ h => h) (.inr ⟨by kernel_rfl, rfl⟩) hS ?_
  try simp only [Act.put, List.setIfInBounds_toArray, List.set_cons_zero, List.set_cons_succ]
  refine take_d (i := 16) (d := some 21) (v := undef) rfl rfl (by kernel_rfl) (by kernel_rfl) (by kernel_rfl) (fun _ _ _ h => h) (.inr ⟨by kernel_rfl, rfl⟩) hS ?_
  try simp only [Act.put, List.setIfInBounds_toArray, List.set_cons_zero, List.set_cons_succ]
  refine take_d (i := 17) (d := some 22) (v := undef) rfl rfl (by kernel_rfl) (by kernel_rfl) (by kernel_rfl) (fun _ _ _ h => h) (.inr ⟨by kernel_rfl, rfl⟩) hS ?_
  try simp only [Act.put, List.setIfInBounds_toArray, List.set_cons_zero, List.set_cons_succ]
  refine take_d (i := 15) (d := some 20) (v := undef) rfl rfl (by kernel_rfl) (by kernel_rfl) (by kernel_rfl) (fun _ _ _ h => h) (.inr ⟨by kernel_rfl, rfl⟩) hS ?_
  try simp only [Act.put, List.setIfInBounds_toArray, List.set_cons_zero, List.set_cons_succ]
  refine take_d (i := 18) (d := some 23) (v := undef) rfl rfl (by kernel_rfl) (by kernel_rfl) (by kernel_rfl) (fun _ _ _ h => h) (.inr ⟨by kernel_rfl, rfl⟩) hS ?_
  try simp only [Act.put, List.setIfInBounds_toArray, List.set_cons_zero, List.set_cons_succ]
  refine take_d (i := 19) (d := some 24) (v := undef) rfl rfl (by kernel_rfl) (by kernel_rfl) (by kernel_rfl) (fun _ _ _ h => h) (.inr ⟨by kernel_rfl, rfl⟩) hS ?_
  try simp only [Act.put, List.setIfInBounds_toArray, List.set_cons_zero, List.set_cons_succ]
  refine take_d (i := 20) (d := some 25) (v := ?_) rfl rfl (by kernel_rfl) (by kernel_rfl) (by kernel_rfl) (fun _ _ _ h => h) (.inl ⟨by rfl, ?_⟩) hS ?_
  rotate_left
  · intro W hW
    go_simp
    try with_reducible rfl
  try simp only [Act.put, List.setIfInBounds_toArray, List.set_cons_zero, List.set_cons_succ]
  refine take_d (i := 21) (d := some 4) (v := ?_) rfl rfl (by kernel_rfl) (by kernel_rfl) (by kernel_rfl) (fun _ _ _ h => h) (.inl ⟨by rfl, ?_⟩) hS ?_
  rotate_left
  · intro W hW
    go_simp
    try with_reducible rfl
  try simp only [Act.put, List.setIfInBounds_toArray, List.set_cons_zero, List.set_cons_succ]
  refine wpAnyH_done (by kernel_rfl) ?_ _
  have HE := Lib.hid hS.below
  clear hS hK0
  go_wp2
  go_ret
  exact ⟨rfl, HE.out⟩
set_option maxRecDepth 100000 in
theorem RSame_case2 {w : World} {a b : Nt} {c1 s1 c2 s2 : Value} {l1 m1 l2 m2 : List Pk} (h1 : RvIs w a c1 s1 l1 m1) (h2 : RvIs w b c2 s2 l2 m2) (k1 : a.tk ≤ a.cm.length) (k2 : b.tk ≤ b.cm.length) (t1 : tot a.cm ≤ 1000000000) (t2 : tot b.cm ≤ 1000000000) (e1 : decide (a.wt = b.wt) = true) (e2 : decide (a.sn = b.sn) = false) :
    Calls Try.prog 24 #[.agg (rcL a c1 s1), .agg (rcL b c2 s2)] w fun e w' => e = .returned (.bool false) ∧ Below w.heap.size w w' := by
  have HI := Lib.hid (rm_start h1 h2)
  have HE1 := Lib.hid e1
  have HE2 := Lib.hid e2
  have HK1 := Lib.hid k1
  have HK2 := Lib.hid k2
  have HT1 := Lib.hid t1
  have HT2 := Lib.hid t2
  obtain ⟨o1, n1, rfl, -, -, -⟩ := h1.s.form
  obtain ⟨o2, n2, rfl, -, -, -⟩ := h2.s.form
  obtain ⟨o3, n3, rfl, -, -, -⟩ := h1.c.form
  obtain ⟨o4, n4, rfl, -, -, -⟩ := h2.c.form
  clear h1 h2 e1 e2 k1 k2 t1 t2
  go_enter Try.func24, Try.ntmps24
  go_wp2
  have hK0 := HI.out
  refine wp_region_held_drew (S := RmI w a b (.slice o3 l1.length n3) (.slice o1 m1.length n1) (.slice o4 l2.length n4) (.slice o2 m2.length n2) l1 m1 l2 m2) (by kernel_rfl) hK0 (fun _ => ?_)
  have hS := hK0
  refine take_d (i := 0) (d := some 5) (v := .agg (rcL a (.slice o3 l1.length n3) (.slice o1 m1.length n1))) rfl rfl (by kernel_rfl) (by kernel_rfl) (by kernel_rfl) (fun _ _ _ h => h) (y_R rowR (by kernel_rfl) rfl rfl (fun W hW => hW.ba)) hS ?_
  try simp only [Act.put, List.setIfInBounds_toArray, List.set_cons_zero, List.set_cons_succ]
  refine take_d (i := 2) (d := some 7) (v := .agg (rcL b (.slice o4 l2.length n4) (.slice o2 m2.length n2))) rfl rfl (by kernel_rfl) (by kernel_rfl) (by kernel_rfl) (fun _ _ _ h => h) (y_R rowR (by kernel_rfl) rfl rfl (fun W hW => hW.bb)) hS ?_
  try simp only [Act.put, List.setIfInBounds_toArray, List.set_cons_zero, List.set_cons_succ]
  refine wpAnyH_all (rs := [1]) (by kernel_rfl) (by simp) (fun i hi => ?_)
  simp only [List.mem_cons, List.not_mem_nil, or_false] at hi
  subst hi
  refine .inl ?_
  go_simp
  refine (RQueue_any hS.r1 HK1.out).mono ?_
  rintro e wc ⟨rfl, hb⟩
  have hS := hS.after hb
  clear hb
  refine ⟨hS, ?_⟩
  try simp only [Act.put, List.setIfInBounds_toArray, List.set_cons_zero, List.set_cons_succ]
  refine wpAnyH_all (rs := [3]) (by kernel_rfl) (by simp) (fun i hi => ?_)
  simp only [List.mem_cons, List.not_mem_nil, or_false] at hi
  subst hi
  refine .inl ?_
  go_simp
  refine (RQueue_any hS.r2 HK2.out).mono ?_
  rintro e wc ⟨rfl, hb⟩
  have hS := hS.after hb
  clear hb
  refine ⟨hS, ?_⟩
  try simp only [Act.put, List.setIfInBounds_toArray, List.set_cons_zero, List.set_cons_succ]
  refine wpAnyH_all (rs := [4]) (by kernel_rfl) (by simp) (fun i hi => ?_)
  simp only [List.mem_cons, List.not_mem_nil, or_false] at hi
  subst hi
  refine .inl ?_
  go_simp
  refine (lists_q hS.r1 hS.r2 HK1.out HK2.out HE1.out).mono ?_
  rintro e wc ⟨rfl, hb⟩
  have hS := hS.after hb
  clear hb
  refine ⟨hS, ?_⟩
  try simp only [Act.put, List.setIfInBounds_toArray, List.set_cons_zero, List.set_cons_succ]
  refine take_d (i := 5) (d := some 10) (v := ?_) rfl rfl (by kernel_rfl) (by kernel_rfl) (by kernel_rfl) (fun _ _ _ h => h) (.inl ⟨by rfl, ?_⟩) hS ?_
  rotate_left
  · intro W hW
    go_simp
    try with_reducible rfl
  try simp only [Act.put, List.setIfInBounds_toArray, List.set_cons_zero, List.set_cons_succ]
  refine take_d (i := 6) (d := some 11) (v := ?_) rfl rfl (by kernel_rfl) (by kernel_rfl) (by kernel_rfl) (fun _ _ _ h => h) (.inl ⟨by rfl, ?_⟩) hS ?_
  rotate_left
  · intro W hW
    go_simp
    try with_reducible rfl
  try simp only [Act.put, List.setIfInBounds_toArray, List.set_cons_zero, List.set_cons_succ]
  refine take_d (i := 7) (d := some 12) (v := ?_) rfl rfl (by kernel_rfl) (by kernel_rfl) (by kernel_rfl) (fun _ _ _ h => h) (.inl ⟨by rfl, ?_⟩) hS ?_
  rotate_left
  · intro W hW
    obtain ⟨q1, q2, q3⟩ := hW.ba.cells; obtain ⟨r1, r2, r3⟩ := hW.bb.cells
    go_simp
    try with_reducible rfl
  try simp only [Act.put, List.setIfInBounds_toArray, List.set_cons_zero, List.set_cons_succ]
  refine take_d (i := 8) (d := some 13) (v := ?_) rfl rfl (by kernel_rfl) (by kernel_rfl) (by kernel_rfl) (fun _ _ _ h => h) (.inl ⟨by rfl, ?_⟩) hS ?_
  rotate_left
  · intro W hW
    go_simp
    try with_reducible rfl
  try simp only [Act.put, List.setIfInBounds_toArray, List.set_cons_zero, List.set_cons_succ]
  refine take_d (i := 9) (d := some 14) (v := ?_) rfl rfl (by kernel_rfl) (by kernel_rfl) (by kernel_rfl) (fun _ _ _ h => h) (.inl ⟨by rfl, ?_⟩) hS ?_
  rotate_left
  · intro W hW
    obtain ⟨q1, q2, q3⟩ := hW.ba.cells; obtain ⟨r1, r2, r3⟩ := hW.bb.cells
    go_simp
    try with_reducible rfl
  try simp only [Act.put, List.setIfInBounds_toArray, List.set_cons_zero, List.set_cons_succ]
  refine wpAnyH_all (rs := [10]) (by kernel_rfl) (by simp) (fun i hi => ?_)
  simp only [List.mem_cons, List.not_mem_nil, or_false] at hi
  subst hi
  refine .inl ?_
  go_simp
  refine (lists_s hS.r1 hS.r2 HE2.out).mono ?_
  rintro e wc ⟨rfl, hb⟩
  have hS := hS.after hb
  clear hb
  refine ⟨hS, ?_⟩
  try simp only [Act.put, List.setIfInBounds_toArray, List.set_cons_zero, List.set_cons_succ]
  refine take_d (i := 11) (d := some 16) (v := ?_) rfl rfl (by kernel_rfl) (by kernel_rfl) (by kernel_rfl) (fun _ _ _ h => h) (.inl ⟨by rfl, ?_⟩) hS ?_
  rotate_left
  · intro W hW
    go_simp
    try with_reducible rfl
  try simp only [Act.put, List.setIfInBounds_toArray, List.set_cons_zero, List.set_cons_succ]
  refine take_d (i := 12) (d := some 17) (v := ?_) rfl rfl (by kernel_rfl) (by kernel_rfl) (by kernel_rfl) (fun _ _ _ h => h) (.inl ⟨by rfl, ?_⟩) hS ?_
  rotate_left
  · intro W hW
    go_simp
    try with_reducible rfl
  try simp only [Act.put, List.setIfInBounds_toArray, List.set_cons_zero, List.set_cons_succ]
  refine take_d (i := 13) (d := some 18) (v := undef) rfl rfl (by kernel_rfl) (by kernel_rfl) (by kernel_rfl) (fun _ _ _ h => h) (.inr ⟨by kernel_rfl, rfl⟩) hS ?_
  try simp only [Act.put, List.setIfInBounds_toArray, List.set_cons_zero, List.set_cons_succ]
  refine take_d (i := 14) (d := some 19) (v := undef) rfl rfl (by kernel_rfl) (by kernel_rfl) (by kernel_rfl) (fun _ _ _ h => h) (.inr ⟨by kernel_rfl, rfl⟩) hS ?_
  try simp only [Act.put, List.setIfInBounds_toArray, List.set_cons_zero, List.set_cons_succ]
  refine take_d (i := 16) (d := some 21) (v := undef) rfl rfl (by kernel_rfl) (by kernel_rfl) (by kernel_rfl) (fun _ _ _ h => h) (.inr ⟨by kernel_rfl, rfl⟩) hS ?_
  try simp only [Act.put, List.setIfInBounds_toArray, List.set_cons_zero, List.set_cons_succ]
  refine take_d (i := 17) (d := some 22) (v := undef) rfl rfl (by kernel_rfl) (by kernel_rfl) (by kernel_rfl) (fun _ _ _ h => h) (.inr ⟨by kernel_rfl, rfl⟩) hS ?_
  try simp only [Act.put, List.setIfInBounds_toArray, List.set_cons_zero, List.set_cons_succ]
  refine take_d (i := 15) (d := some 20) (v := undef) rfl rfl (by kernel_rfl) (by kernel_rfl) (by kernel_rfl) (fun _ _ _ h => h) (.inr ⟨by kernel_rfl, rfl⟩) hS ?_
  try simp only [Act.put, List.setIfInBounds_toArray, List.set_cons_zero, List.set_cons_succ]
  refine take_d (i := 18) (d := some 23) (v := undef) rfl rfl (by kernel_rfl) (by kernel_rfl) (by kernel_rfl) (fun _ _ _ h => h) (.inr ⟨by kernel_rfl, rfl⟩) hS ?_
  try simp only [Act.put, List.setIfInBounds_toArray, List.set_cons_zero, List.set_cons_succ]
  refine take_d (i := 19) (d := some 24) (v := undef) rfl rfl (by kernel_rfl) (by kernel_rfl) (by kernel_rfl) (fun _ _ _ h => h) (.inr ⟨by kernel_rfl, rfl⟩) hS ?_
  try simp only [Act.put, List.setIfInBounds_toArray, List.set_cons_zero, List.set_cons_succ]
  refine take_d (i := 20) (d := some 25) (v := ?_) rfl rfl (by kernel_rfl) (by kernel_rfl) (by kernel_rfl) (fun _ _ _ h => h) (.inl ⟨by rfl, ?_⟩) hS ?_
  rotate_left
  · intro W hW
    go_simp
    try with_reducible rfl
  try simp only [Act.put, List.setIfInBounds_toArray, List.set_cons_zero, List.set_cons_succ]
  refine take_d (i := 21) (d := some 4) (v := ?_) rfl rfl (by kernel_rfl) (by kernel_rfl) (by kernel_rfl) (fun _ _ _ h => h) (.inl ⟨by rfl, ?_⟩) hS ?_
  rotate_left
  · intro W hW
    go_simp
    try with_reducible rfl
  try simp only [Act.put, List.setIfInBounds_toArray, List.set_cons_zero, List.set_cons_succ]
  refine wpAnyH_done (by kernel_rfl) ?_ _
  have HE := Lib.hid hS.below
  clear hS hK0
  go_wp2
  go_ret
  exact ⟨rfl, HE.out⟩
set_option maxRecDepth 100000 in
theorem RSame_case3 {w : World} {a b : Nt} {c1 s1 c2 s2 : Value} {l1 m1 l2 m2 : List Pk} (h1 : RvIs w a c1 s1 l1 m1) (h2 : RvIs w b c2 s2 l2 m2) (k1 : a.tk ≤ a.cm.length) (k2 : b.tk ≤ b.cm.length) (t1 : tot a.cm ≤ 1000000000) (t2 : tot b.cm ≤ 1000000000) (e1 : decide (a.wt = b.wt) = true) (e2 : decide (a.sn = b.sn) = true) (e3 : ((tot a.cm : Int) == (tot b.cm : Int)) = false) :
    Calls Try.prog 24 #[.agg (rcL a c1 s1), .agg (rcL b c2 s2)] w fun e w' => e = .returned (.bool false) ∧ Below w.heap.size w w' := by
  have HI := Lib.hid (rm_start h1 h2)
  have HE1 := Lib.hid e1
  have HE2 := Lib.hid e2
  have HK1 := Lib.hid k1
  have HK2 := Lib.hid k2
  have HT1 := Lib.hid t1
  have HT2 := Lib.hid t2
  obtain ⟨o1, n1, rfl, -, -, -⟩ := h1.s.form
  obtain ⟨o2, n2, rfl, -, -, -⟩ := h2.s.form
  obtain ⟨o3, n3, rfl, -, -, -⟩ := h1.c.form
  obtain ⟨o4, n4, rfl, -, -, -⟩ := h2.c.form
  clear h1 h2 e1 e2 k1 k2 t1 t2
  go_enter Try.func24, Try.ntmps24
  go_wp2
  have hK0 := HI.out
  refine wp_region_held_drew (S := RmI w a b (.slice o3 l1.length n3) (.slice o1 m1.length n1) (.slice o4 l2.length n4) (.slice o2 m2.length n2) l1 m1 l2 m2) (by kernel_rfl) hK0 (fun _ => ?_)
  have hS := hK0
  refine take_d (i := 0) (d := some 5) (v := .agg (rcL a (.slice o3 l1.length n3) (.slice o1 m1.length n1))) rfl rfl (by kernel_rfl) (by kernel_rfl) (by kernel_rfl) (fun _ _ _ h => h) (y_R rowR (by kernel_rfl) rfl rfl (fun W hW => hW.ba)) hS ?_
  try simp only [Act.put, List.setIfInBounds_toArray, List.set_cons_zero, List.set_cons_succ]
  refine take_d (i := 2) (d := some 7) (v := .agg (rcL b (.slice o4 l2.length n4) (.slice o2 m2.length n2))) rfl rfl (by kernel_rfl) (by kernel_rfl) (by kernel_rfl) (fun _ _ _ h => h) (y_R rowR (by kernel_rfl) rfl rfl (fun W hW => hW.bb)) hS ?_
  try simp only [Act.put, List.setIfInBounds_toArray, List.set_cons_zero, List.set_cons_succ]
  refine wpAnyH_all (rs := [1]) (by kernel_rfl) (by simp) (fun i hi => ?_)
  simp only [List.mem_cons, List.not_mem_nil, or_false] at hi
  subst hi
  refine .inl ?_
  go_simp
  refine (RQueue_any hS.r1 HK1.out).mono ?_
  rintro e wc ⟨rfl, hb⟩
  have hS := hS.after hb
  clear hb
  refine ⟨hS, ?_⟩
  try simp only [Act.put, List.setIfInBounds_toArray, List.set_cons_zero, List.set_cons_succ]
  refine wpAnyH_all (rs := [3]) (by kernel_rfl) (by simp) (fun i hi => ?_)
  simp only [List.mem_cons, List.not_mem_nil, or_false] at hi
  subst hi
  refine .inl ?_
  go_simp
  refine (RQueue_any hS.r2 HK2.out).mono ?_
  rintro e wc ⟨rfl, hb⟩
  have hS := hS.after hb
  clear hb
  refine ⟨hS, ?_⟩
  try simp only [Act.put, List.setIfInBounds_toArray, List.set_cons_zero, List.set_cons_succ]
  refine wpAnyH_all (rs := [4]) (by kernel_rfl) (by simp) (fun i hi => ?_)
  simp only [List.mem_cons, List.not_mem_nil, or_false] at hi
  subst hi
  refine .inl ?_
  go_simp
  refine (lists_q hS.r1 hS.r2 HK1.out HK2.out HE1.out).mono ?_
  rintro e wc ⟨rfl, hb⟩
  have hS := hS.after hb
  clear hb
  refine ⟨hS, ?_⟩
  try simp only [Act.put, List.setIfInBounds_toArray, List.set_cons_zero, List.set_cons_succ]
  refine take_d (i := 5) (d := some 10) (v := ?_) rfl rfl (by kernel_rfl) (by kernel_rfl) (by kernel_rfl) (fun _ _ _ h => h) (.inl ⟨by rfl, ?_⟩) hS ?_
  rotate_left
  · intro W hW
    go_simp
    try with_reducible rfl
  try simp only [Act.put, List.setIfInBounds_toArray, List.set_cons_zero, List.set_cons_succ]
  refine take_d (i := 6) (d := some 11) (v := ?_) rfl rfl (by kernel_rfl) (by kernel_rfl) (by kernel_rfl) (fun _ _ _ h => h) (.inl ⟨by rfl, ?_⟩) hS ?_
  rotate_left
  · intro W hW
    go_simp
    try with_reducible rfl
  try simp only [Act.put, List.setIfInBounds_toArray, List.set_cons_zero, List.set_cons_succ]
  refine take_d (i := 7) (d := some 12) (v := ?_) rfl rfl (by kernel_rfl) (by kernel_rfl) (by kernel_rfl) (fun _ _ _ h => h) (.inl ⟨by rfl, ?_⟩) hS ?_
  rotate_left
  · intro W hW
    obtain ⟨q1, q2, q3⟩ := hW.ba.cells; obtain ⟨r1, r2, r3⟩ := hW.bb.cells
    go_simp
    try with_reducible rfl
  try simp only [Act.put, List.setIfInBounds_toArray, List.set_cons_zero, List.set_cons_succ]
  refine take_d (i := 8) (d := some 13) (v := ?_) rfl rfl (by kernel_rfl) (by kernel_rfl) (by kernel_rfl) (fun _ _ _ h => h) (.inl ⟨by rfl, ?_⟩) hS ?_
  rotate_left
  · intro W hW
    go_simp
    try with_reducible rfl
  try simp only [Act.put, List.setIfInBounds_toArray, List.set_cons_zero, List.set_cons_succ]
  refine take_d (i := 9) (d := some 14) (v := ?_) rfl rfl (by kernel_rfl) (by kernel_rfl) (by kernel_rfl) (fun _ _ _ h => h) (.inl ⟨by rfl, ?_⟩) hS ?_
  rotate_left
  · intro W hW
    obtain ⟨q1, q2, q3⟩ := hW.ba.cells; obtain ⟨r1, r2, r3⟩ := hW.bb.cells
    go_simp
    try with_reducible rfl
  try simp only [Act.put, List.setIfInBounds_toArray, List.set_cons_zero, List.set_cons_succ]
  refine wpAnyH_all (rs := [10]) (by kernel_rfl) (by simp) (fun i hi => ?_)
  simp only [List.mem_cons, List.not_mem_nil, or_false] at hi
  subst hi
  refine .inl ?_
  go_simp
  refine (lists_s hS.r1 hS.r2 HE2.out).mono ?_
  rintro e wc ⟨rfl, hb⟩
  have hS := hS.after hb
  clear hb
  refine ⟨hS, ?_⟩
  try simp only [Act.put, List.setIfInBounds_toArray, List.set_cons_zero, List.set_cons_succ]
  refine take_d (i := 11) (d := some 16) (v := ?_) rfl rfl (by kernel_rfl) (by kernel_rfl) (by kernel_rfl) (fun _ _ _ h => h) (.inl ⟨by rfl, ?_⟩) hS ?_
  rotate_left
  · intro W hW
    go_simp
    try with_reducible rfl
  try simp only [Act.put, List.setIfInBounds_toArray, List.set_cons_zero, List.set_cons_succ]
  refine take_d (i := 12) (d := some 17) (v := ?_) rfl rfl (by kernel_rfl) (by kernel_rfl) (by kernel_rfl) (fun _ _ _ h => h) (.inl ⟨by rfl, ?_⟩) hS ?_
  rotate_left
  · intro W hW
    go_simp
    try with_reducible rfl
  try simp only [Act.put, List.setIfInBounds_toArray, List.set_cons_zero, List.set_cons_succ]
  refine take_d (i := 13) (d := some 18) (v := ?_) rfl rfl (by kernel_rfl) (by kernel_rfl) (by kernel_rfl) (fun _ _ _ h => h) (.inl ⟨by rfl, ?_⟩) hS ?_
  rotate_left
  · intro W hW
    go_simp
    try with_reducible rfl
  try simp only [Act.put, List.setIfInBounds_toArray, List.set_cons_zero, List.set_cons_succ]
  refine take_d (i := 14) (d := some 19) (v := ?_) rfl rfl (by kernel_rfl) (by kernel_rfl) (by kernel_rfl) (fun _ _ _ h => h) (.inl ⟨by rfl, ?_⟩) hS ?_
  rotate_left
  · intro W hW
    obtain ⟨q1, q2, q3⟩ := hW.ba.cells; obtain ⟨r1, r2, r3⟩ := hW.bb.cells
    go_simp
    try with_reducible rfl
  try simp only [Act.put, List.setIfInBounds_toArray, List.set_cons_zero, List.set_cons_succ]
  refine take_d (i := 16) (d := some 21) (v := ?_) rfl rfl (by kernel_rfl) (by kernel_rfl) (by kernel_rfl) (fun _ _ _ h => h) (.inl ⟨by rfl, ?_⟩) hS ?_
  rotate_left
  · intro W hW
    go_simp
    try with_reducible rfl
  try simp only [Act.put, List.setIfInBounds_toArray, List.set_cons_zero, List.set_cons_succ]
  refine take_d (i := 17) (d := some 22) (v := ?_) rfl rfl (by kernel_rfl) (by kernel_rfl) (by kernel_rfl) (fun _ _ _ h => h) (.inl ⟨by rfl, ?_⟩) hS ?_
  rotate_left
  · intro W hW
    obtain ⟨q1, q2, q3⟩ := hW.ba.cells; obtain ⟨r1, r2, r3⟩ := hW.bb.cells
    go_simp
    try with_reducible rfl
  try simp only [Act.put, List.setIfInBounds_toArray, List.set_cons_zero, List.set_cons_succ]
  refine wpAnyH_all (rs := [15]) (by kernel_rfl) (by simp) (fun i hi => ?_)
  simp only [List.mem_cons, List.not_mem_nil, or_false] at hi
  subst hi
  refine .inl ?_
  go_simp
  refine (bytes_c hS.r1 HT1.out).mono ?_
  rintro e wc ⟨rfl, rfl⟩
  refine ⟨hS, ?_⟩
  try simp only [Act.put, List.setIfInBounds_toArray, List.set_cons_zero, List.set_cons_succ]
  refine wpAnyH_all (rs := [18]) (by kernel_rfl) (by simp) (fun i hi => ?_)
  simp only [List.mem_cons, List.not_mem_nil, or_false] at hi
  subst hi
  refine .inl ?_
  go_simp
  refine (bytes_c hS.r2 HT2.out).mono ?_
  rintro e wc ⟨rfl, rfl⟩
  refine ⟨hS, ?_⟩
  try simp only [Act.put, List.setIfInBounds_toArray, List.set_cons_zero, List.set_cons_succ]
  refine take_d (i := 19) (d := some 24) (v := ?_) rfl rfl (by kernel_rfl) (by kernel_rfl) (by kernel_rfl) (fun _ _ _ h => h) (.inl ⟨by rfl, ?_⟩) hS ?_
  rotate_left
  · intro W hW
    go_simp
    try with_reducible rfl
  try simp only [Act.put, List.setIfInBounds_toArray, List.set_cons_zero, List.set_cons_succ]
  refine take_d (i := 20) (d := some 25) (v := ?_) rfl rfl (by kernel_rfl) (by kernel_rfl) (by kernel_rfl) (fun _ _ _ h => h) (.inl ⟨by rfl, ?_⟩) hS ?_
  rotate_left
  · intro W hW
    go_simp
    try with_reducible rfl
  try simp only [Act.put, List.setIfInBounds_toArray, List.set_cons_zero, List.set_cons_succ]
  refine take_d (i := 21) (d := some 4) (v := ?_) rfl rfl (by kernel_rfl) (by kernel_rfl) (by kernel_rfl) (fun _ _ _ h => h) (.inl ⟨by rfl, ?_⟩) hS ?_
  rotate_left
  · intro W hW
    go_simp
    try with_reducible rfl
  try simp only [Act.put, List.setIfInBounds_toArray, List.set_cons_zero, List.set_cons_succ]
  refine wpAnyH_done (by kernel_rfl) ?_ _
  have HE := Lib.hid hS.below
  clear hS hK0
  go_wp2
  go_ret
  exact ⟨rfl, HE.out⟩
set_option maxRecDepth 100000 in
theorem RSame_case4 {w : World} {a b : Nt} {c1 s1 c2 s2 : Value} {l1 m1 l2 m2 : List Pk} (h1 : RvIs w a c1 s1 l1 m1) (h2 : RvIs w b c2 s2 l2 m2) (k1 : a.tk ≤ a.cm.length) (k2 : b.tk ≤ b.cm.length) (t1 : tot a.cm ≤ 1000000000) (t2 : tot b.cm ≤ 1000000000) (e1 : decide (a.wt = b.wt) = true) (e2 : decide (a.sn = b.sn) = true) (e3 : ((tot a.cm : Int) == (tot b.cm : Int)) = true) :
    Calls Try.prog 24 #[.agg (rcL a c1 s1), .agg (rcL b c2 s2)] w fun e w' => e = .returned (.bool true) ∧ Below w.heap.size w w' := by
  have HI := Lib.hid (rm_start h1 h2)
  have HE1 := Lib.hid e1
  have HE2 := Lib.hid e2
  have HK1 := Lib.hid k1
  have HK2 := Lib.hid k2
  have HT1 := Lib.hid t1
  have HT2 := Lib.hid t2
  obtain ⟨o1, n1, rfl, -, -, -⟩ := h1.s.form
  obtain ⟨o2, n2, rfl, -, -, -⟩ := h2.s.form
  obtain ⟨o3, n3, rfl, -, -, -⟩ := h1.c.form
  obtain ⟨o4, n4, rfl, -, -, -⟩ := h2.c.form
  clear h1 h2 e1 e2 k1 k2 t1 t2
  go_enter Try.func24, Try.ntmps24
  go_wp2
  have hK0 := HI.out
  refine wp_region_held_drew (S := RmI w a b (.slice o3 l1.length n3) (.slice o1 m1.length n1) (.slice o4 l2.length n4) (.slice o2 m2.length n2) l1 m1 l2 m2) (by kernel_rfl) hK0 (fun _ => ?_)
  have hS := hK0
  refine take_d (i := 0) (d := some 5) (v := .agg (rcL a (.slice o3 l1.length n3) (.slice o1 m1.length n1))) rfl rfl (by kernel_rfl) (by kernel_rfl) (by kernel_rfl) (fun _ _ _ h => h) (y_R rowR (by kernel_rfl) rfl rfl (fun W hW => hW.ba)) hS ?_
  try simp only [Act.put, List.setIfInBounds_toArray, List.set_cons_zero, List.set_cons_succ]
  refine take_d (i := 2) (d := some 7) (v := .agg (rcL b (.slice o4 l2.length n4) (.slice o2 m2.length n2))) rfl rfl (by kernel_rfl) (by kernel_rfl) (by kernel_rfl) (fun _ _ _ h => h) (y_R rowR (by kernel_rfl) rfl rfl (fun W hW => hW.bb)) hS ?_
  try simp only [Act.put, List.setIfInBounds_toArray, List.set_cons_zero, List.set_cons_succ]
  refine wpAnyH_all (rs := [1]) (by kernel_rfl) (by simp) (fun i hi => ?_)
  simp only [List.mem_cons, List.not_mem_nil, or_false] at hi
  subst hi
  refine .inl ?_
  go_simp
  refine (RQueue_any hS.r1 HK1.out).mono ?_
  rintro e wc ⟨rfl, hb⟩
  have hS := hS.after hb
  clear hb
  refine ⟨hS, ?_⟩
  try simp only [Act.put, List.setIfInBounds_toArray, List.set_cons_zero, List.set_cons_succ]
  refine wpAnyH_all (rs := [3]) (by kernel_rfl) (by simp) (fun i hi => ?_)
  simp only [List.mem_cons, List.not_mem_nil, or_false] at hi
  subst hi
  refine .inl ?_
  go_simp
  refine (RQueue_any hS.r2 HK2.out).mono ?_
  rintro e wc ⟨rfl, hb⟩
  have hS := hS.after hb
  clear hb
  refine ⟨hS, ?_⟩
  try simp only [Act.put, List.setIfInBounds_toArray, List.set_cons_zero, List.set_cons_succ]
  refine wpAnyH_all (rs := [4]) (by kernel_rfl) (by simp) (fun i hi => ?_)
  simp only [List.mem_cons, List.not_mem_nil, or_false] at hi
  subst hi
  refine .inl ?_
  go_simp
  refine (lists_q hS.r1 hS.r2 HK1.out HK2.out HE1.out).mono ?_
  rintro e wc ⟨rfl, hb⟩
  have hS := hS.after hb
  clear hb
  refine ⟨hS, ?_⟩
  try simp only [Act.put, List.setIfInBounds_toArray, List.set_cons_zero, List.set_cons_succ]
  refine take_d (i := 5) (d := some 10) (v := ?_) rfl rfl (by kernel_rfl) (by kernel_rfl) (by kernel_rfl) (fun _ _ _ h => h) (.inl ⟨by rfl, ?_⟩) hS ?_
  rotate_left
  · intro W hW
    go_simp
    try with_reducible rfl
  try simp only [Act.put, List.setIfInBounds_toArray, List.set_cons_zero, List.set_cons_succ]
  refine take_d (i := 6) (d := some 11) (v := ?_) rfl rfl (by kernel_rfl) (by kernel_rfl) (by kernel_rfl) (fun _ _ _ h => h) (.inl ⟨by rfl, ?_⟩) hS ?_
  rotate_left
  · intro W hW
    go_simp
    try with_reducible rfl
  try simp only [Act.put, List.setIfInBounds_toArray, List.set_cons_zero, List.set_cons_succ]
  refine take_d (i := 7) (d := some 12) (v := ?_) rfl rfl (by kernel_rfl) (by kernel_rfl) (by kernel_rfl) (fun _ _ _ h => h) (.inl ⟨by rfl, ?_⟩) hS ?_
  rotate_left
  · intro W hW
    obtain ⟨q1, q2, q3⟩ := hW.ba.cells; obtain ⟨r1, r2, r3⟩ := hW.bb.cells
    go_simp
    try with_reducible rfl
  try simp only [Act.put, List.setIfInBounds_toArray, List.set_cons_zero, List.set_cons_succ]
  refine take_d (i := 8) (d := some 13) (v := ?_) rfl rfl (by kernel_rfl) (by kernel_rfl) (by kernel_rfl) (fun _ _ _ h => h) (.inl ⟨by rfl, ?_⟩) hS ?_
  rotate_left
  · intro W hW
    go_simp
    try with_reducible rfl
  try simp only [Act.put, List.setIfInBounds_toArray, List.set_cons_zero, List.set_cons_succ]
  refine take_d (i := 9) (d := some 14) (v := ?_) rfl rfl (by kernel_rfl) (by kernel_rfl) (by kernel_rfl) (fun _ _ _ h => h) (.inl ⟨by rfl, ?_⟩) hS ?_
  rotate_left
  · intro W hW
    obtain ⟨q1, q2, q3⟩ := hW.ba.cells; obtain ⟨r1, r2, r3⟩ := hW.bb.cells
    go_simp
    try with_reducible rfl
  try simp only [Act.put, List.setIfInBounds_toArray, List.set_cons_zero, List.set_cons_succ]
  refine wpAnyH_all (rs := [10]) (by kernel_rfl) (by simp) (fun i hi => ?_)
  simp only [List.mem_cons, List.not_mem_nil, or_false] at hi
  subst hi
  refine .inl ?_
  go_simp
  refine (lists_s hS.r1 hS.r2 HE2.out).mono ?_
  rintro e wc ⟨rfl, hb⟩
  have hS := hS.after hb
  clear hb
  refine ⟨hS, ?_⟩
  try simp only [Act.put, List.setIfInBounds_toArray, List.set_cons_zero, List.set_cons_succ]
  refine take_d (i := 11) (d := some 16) (v := ?_) rfl rfl (by kernel_rfl) (by kernel_rfl) (by kernel_rfl) (fun _ _ _ h => h) (.inl ⟨by rfl, ?_⟩) hS ?_
  rotate_left
  · intro W hW
    go_simp
    try with_reducible rfl
  try simp only [Act.put, List.setIfInBounds_toArray, List.set_cons_zero, List.set_cons_succ]
  refine take_d (i := 12) (d := some 17) (v := ?_) rfl rfl (by kernel_rfl) (by kernel_rfl) (by kernel_rfl) (fun _ _ _ h => h) (.inl ⟨by rfl, ?_⟩) hS ?_
  rotate_left
  · intro W hW
    go_simp
    try with_reducible rfl
  try simp only [Act.put, List.setIfInBounds_toArray, List.set_cons_zero, List.set_cons_succ]
  refine take_d (i := 13) (d := some 18) (v := ?_) rfl rfl (by kernel_rfl) (by kernel_rfl) (by kernel_rfl) (fun _ _ _ h => h) (.inl ⟨by rfl, ?_⟩) hS ?_
  rotate_left
  · intro W hW
    go_simp
    try with_reducible rfl
  try simp only [Act.put, List.setIfInBounds_toArray, List.set_cons_zero, List.set_cons_succ]
  refine take_d (i := 14) (d := some 19) (v := ?_) rfl rfl (by kernel_rfl) (by kernel_rfl) (by kernel_rfl) (fun _ _ _ h => h) (.inl ⟨by rfl, ?_⟩) hS ?_
  rotate_left
  · intro W hW
    obtain ⟨q1, q2, q3⟩ := hW.ba.cells; obtain ⟨r1, r2, r3⟩ := hW.bb.cells
    go_simp
    try with_reducible rfl
  try simp only [Act.put, List.setIfInBounds_toArray, List.set_cons_zero, List.set_cons_succ]
  refine take_d (i := 16) (d := some 21) (v := ?_) rfl rfl (by kernel_rfl) (by kernel_rfl) (by kernel_rfl) (fun _ _ _ h => h) (.inl ⟨by rfl, ?_⟩) hS ?_
  rotate_left
  · intro W hW
    go_simp
    try with_reducible rfl
  try simp only [Act.put, List.setIfInBounds_toArray, List.set_cons_zero, List.set_cons_succ]
  refine take_d (i := 17) (d := some 22) (v := ?_) rfl rfl (by kernel_rfl) (by kernel_rfl) (by kernel_rfl) (fun _ _ _ h => h) (.inl ⟨by rfl, ?_⟩) hS ?_
  rotate_left
  · intro W hW
    obtain ⟨q1, q2, q3⟩ := hW.ba.cells; obtain ⟨r1, r2, r3⟩ := hW.bb.cells
    go_simp
    try with_reducible rfl
  try simp only [Act.put, List.setIfInBounds_toArray, List.set_cons_zero, List.set_cons_succ]
  refine wpAnyH_all (rs := [15]) (by kernel_rfl) (by simp) (fun i hi => ?_)
  simp only [List.mem_cons, List.not_mem_nil, or_false] at hi
  subst hi
  refine .inl ?_
  go_simp
  refine (bytes_c hS.r1 HT1.out).mono ?_
  rintro e wc ⟨rfl, rfl⟩
  refine ⟨hS, ?_⟩
  try simp only [Act.put, List.setIfInBounds_toArray, List.set_cons_zero, List.set_cons_succ]
  refine wpAnyH_all (rs := [18]) (by kernel_rfl) (by simp) (fun i hi => ?_)
  simp only [List.mem_cons, List.not_mem_nil, or_false] at hi
  subst hi
  refine .inl ?_
  go_simp
  refine (bytes_c hS.r2 HT2.out).mono ?_
  rintro e wc ⟨rfl, rfl⟩
  refine ⟨hS, ?_⟩
  try simp only [Act.put, List.setIfInBounds_toArray, List.set_cons_zero, List.set_cons_succ]
  refine take_d (i := 19) (d := some 24) (v := ?_) rfl rfl (by kernel_rfl) (by kernel_rfl) (by kernel_rfl) (fun _ _ _ h => h) (.inl ⟨by rfl, ?_⟩) hS ?_
  rotate_left
  · intro W hW
    go_simp
    try with_reducible rfl
  try simp only [Act.put, List.setIfInBounds_toArray, List.set_cons_zero, List.set_cons_succ]
  refine take_d (i := 20) (d := some 25) (v := ?_) rfl rfl (by kernel_rfl) (by kernel_rfl) (by kernel_rfl) (fun _ _ _ h => h) (.inl ⟨by rfl, ?_⟩) hS ?_
  rotate_left
  · intro W hW
    go_simp
    try with_reducible rfl
  try simp only [Act.put, List.setIfInBounds_toArray, List.set_cons_zero, List.set_cons_succ]
  refine take_d (i := 21) (d := some 4) (v := ?_) rfl rfl (by kernel_rfl) (by kernel_rfl) (by kernel_rfl) (fun _ _ _ h => h) (.inl ⟨by rfl, ?_⟩) hS ?_
  rotate_left
  · intro W hW
    go_simp
    try with_reducible rfl
  try simp only [Act.put, List.setIfInBounds_toArray, List.set_cons_zero, List.set_cons_succ]
  refine wpAnyH_done (by kernel_rfl) ?_ _
  have HE := Lib.hid hS.below
  clear hS hK0
  go_wp2
  go_ret
  exact ⟨rfl, HE.out⟩
theorem RSame_any {w : World} {a b : Nt} {c1 s1 c2 s2 : Value} {l1 m1 l2 m2 : List Pk} (h1 : RvIs w a c1 s1 l1 m1) (h2 : RvIs w b c2 s2 l2 m2) (oa : a.Ok) (ob : b.Ok) (za : a.sz ≤ 90000) (zb : b.sz ≤ 90000) :
    Calls Try.prog 24 #[.agg (rcL a c1 s1), .agg (rcL b c2 s2)] w fun e w' => e = .returned (.bool (a.same b)) ∧ Below w.heap.size w w' := by
  have ta := oa.totc
  have tb := ob.totc
  unfold Nt.sz at za zb
  by_cases e1 : a.wt = b.wt
  · by_cases e2 : a.sn = b.sn
    · by_cases e3 : tot a.cm = tot b.cm
      · have hr : a.same b = true := by unfold Nt.same; simp [e1, e2, e3]
        rw [hr]; exact RSame_case4 h1 h2 oa.tk ob.tk (by omega) (by omega) (decide_eq_true e1) (decide_eq_true e2) (by simp [e3])
      · have hr : a.same b = false := by unfold Nt.same; simp [e3]
        rw [hr]; exact RSame_case3 h1 h2 oa.tk ob.tk (by omega) (by omega) (decide_eq_true e1) (decide_eq_true e2) (by simp; omega)
    · have hr : a.same b = false := by unfold Nt.same; simp [e2]
      rw [hr]; exact RSame_case2 h1 h2 oa.tk ob.tk (by omega) (by omega) (decide_eq_true e1) (decide_eq_false e2)
  · have hr : a.same b = false := by unfold Nt.same; simp [e1]
    rw [hr]; exact RSame_case1 h1 h2 oa.tk ob.tk (by omega) (by omega) (decide_eq_false e1)
end Go.Proofs.Ytepimbebodmajaa
