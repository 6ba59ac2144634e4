/-
  Layer 9: Next, contents, Queue, Sent, copied of a stream, Copy of package net: walks. Written by gen_copy.py.
-/
import Derived.Test.YtepimbebodmajaaList
import Derived.Test.YtepimbebodmajaaCut
namespace Go.Proofs.Ytepimbebodmajaa
open Go.RowKit
set_option maxHeartbeats 4000000
set_option linter.unusedVariables false
set_option linter.unusedSimpArgs false

/-- A list of slices of bytes that the call made. -/
structure Ml (w : World) (v : Value) (xs : List (List Int)) (bl : List Pk) (w' : World) : Prop where
  ls : LsIs w' v bl
  xs : bl.map Pk.x = xs
  lo : ∀ k, psB v bl k → w.heap.size ≤ k
  below : Below w.heap.size w w'
theorem psB_nil (k : Nat) : ¬ psB (.slice none 0 0) [] k := by
  rintro (e | ⟨q, hq, _⟩)
  · simp [blkOf] at e
  · cases hq
theorem Ml.nil (w : World) : Ml w (.slice none 0 0) [] [] w := ⟨LsIs.nil w, rfl, fun k hk => (psB_nil k hk).elim, Below.refl _ _⟩
theorem contents_any {w : World} {v : Value} {nx : Int} {l : List Pk} (h : PsIs w v l) (h64 : ∀ p ∈ l, p.x.length ≤ 64) (hlen : l.length ≤ 100000) :
    Calls Try.prog 41 #[.agg #[v, .int .i64 nx]] w fun e w' => ∃ v' bl, e = .returned v' ∧ Ml w v' (l.map Pk.x) bl w' := by
  have hmf : ∀ (fn : Fn) (first cap : Array Value) (w : World), (Instr.makeFunc fn first cap).run Try.prog w = .ok (.func fn first cap) w := fun _ _ _ _ => rfl
  have hb1 : Below w.heap.size w (w.alloc (.cells #[v, .int .i64 nx] 59)) := (Below.refl _ _).alloc (Nat.le_refl _) _
  have hb2 : Below w.heap.size w ((w.alloc (.cells #[v, .int .i64 nx] 59)).alloc (.cells #[v, .int .i64 nx] 59)) := hb1.alloc (by simp) _
  have hB := blk_new (w.alloc (.cells #[v, .int .i64 nx] 59)) #[v, .int .i64 nx] 59
  rw [World.size_alloc] at hB
  have HL := Lib.hid (listB_any hB (h.below hb2) h64 hlen)
  have HB := Lib.hid hb2
  obtain ⟨ao, c, rfl, _⟩ := h.g.shape
  clear h h64 hb1 hb2 hB
  go_enter Try.func41, Try.ntmps41
  go_wp2_with fail
  refine (each_any _ _ _).mono ?_
  rintro e w1 ⟨rfl, rfl⟩
  go_wp2_with fail
  try simp only [World.size_alloc]
  refine HL.out.mono ?_
  rintro e w2 ⟨v', bl, rfl, h1, h2, h3, h4, h5⟩
  have HE := Lib.hid (show Ml w v' (l.map Pk.x) bl w2 from ⟨h1, h2, fun k hk => by have := h4 k hk; simp at this; omega, HB.out.trans (h5.mono HB.out.size)⟩)
  obtain ⟨ao', c', rfl, _⟩ := h1.g.shape
  clear h1 h2 h3 h4 h5 HL
  go_wp2
  go_ret
  exact ⟨_, bl, rfl, HE.out⟩
theorem Queue_nil (w : World) : Calls Try.prog 22 #[.pointer none] w fun e w' => e = .returned (.slice none 0 0) ∧ w = w' := by
  go_enter Try.func22, Try.ntmps22
  go_wp2_with (go_at_call 37; refine (none_nil _).mono ?_; rintro e w' ⟨rfl, rfl⟩)
  go_ret
  exact ⟨rfl, rfl⟩
theorem Sent_nil (w : World) : Calls Try.prog 23 #[.pointer none] w fun e w' => e = .returned (.slice none 0 0) ∧ w = w' := by
  go_enter Try.func23, Try.ntmps23
  go_wp2_with (go_at_call 37; refine (none_nil _).mono ?_; rintro e w' ⟨rfl, rfl⟩)
  go_ret
  exact ⟨rfl, rfl⟩
theorem mem_x {l : List Pk} {xs : List (List Int)} (e : l.map Pk.x = xs) {p : Pk} (hp : p ∈ l) : p.x ∈ xs := by rw [← e]; exact List.mem_map.2 ⟨p, hp, rfl⟩
theorem Queue_any {w : World} {S : Nat} {n : Nt} {F : Nat → Prop} (h : At w S n F) (hok : n.Ok) :
    Calls Try.prog 22 #[.pointer (some ⟨S, 0, none⟩)] w fun e w' => ∃ v' bl, e = .returned v' ∧ Ml w v' n.wt bl w' := by
  obtain ⟨cv, sv, cl, sl, rfl, h⟩ := h
  obtain ⟨c0, c1, c2, _, _⟩ := h.cells
  have HC := Lib.hid (contents_any (nx := (tot n.cm : Int)) h.c (fun p hp => hok.wt64 _ (mem_x h.cx hp)) (by have := h.clen; have := hok.wt; omega))
  rw [h.cx] at HC
  have HN := Lib.hid (none_at c0)
  obtain ⟨ao, c, rfl, _⟩ := h.c.g.shape
  clear h hok c0
  go_enter Try.func22, Try.ntmps22
  go_wp2_with (first | (go_at_call 37; refine HN.out.mono ?_; rintro e w' ⟨rfl, rfl⟩))
  refine HC.out.mono ?_
  rintro e w1 ⟨v', bl, rfl, hm⟩
  have HM := Lib.hid hm
  obtain ⟨ao', c', rfl, _⟩ := hm.ls.g.shape
  clear hm HC
  go_wp2
  go_ret
  exact ⟨_, bl, rfl, HM.out⟩
theorem Sent_any {w : World} {S : Nat} {n : Nt} {F : Nat → Prop} (h : At w S n F) (hok : n.Ok) (hsz : n.sz ≤ 90000) :
    Calls Try.prog 23 #[.pointer (some ⟨S, 0, none⟩)] w fun e w' => ∃ v' bl, e = .returned v' ∧ Ml w v' n.sn bl w' := by
  obtain ⟨cv, sv, cl, sl, rfl, h⟩ := h
  obtain ⟨c0, _, _, c3, c4⟩ := h.cells
  have HC := Lib.hid (contents_any (nx := (tot n.sn : Int)) h.s (fun p hp => hok.s64 _ (mem_x h.sx hp)) (by have := h.slen; unfold Nt.sz at hsz; omega))
  rw [h.sx] at HC
  have HN := Lib.hid (none_at c0)
  obtain ⟨ao, c, rfl, _⟩ := h.s.g.shape
  clear h hok c0
  go_enter Try.func23, Try.ntmps23
  go_wp2_with (first | (go_at_call 37; refine HN.out.mono ?_; rintro e w' ⟨rfl, rfl⟩))
  refine HC.out.mono ?_
  rintro e w1 ⟨v', bl, rfl, hm⟩
  have HM := Lib.hid hm
  obtain ⟨ao', c', rfl, _⟩ := hm.ls.g.shape
  clear hm HC
  go_wp2
  go_ret
  exact ⟨_, bl, rfl, HM.out⟩

/-! ### Next -/
theorem Next_nil (w : World) : Calls Try.prog 21 #[.pointer none] w fun e w' => e = .returned (.tuple #[.slice none 0 0, .int .i64 0, .bool false]) ∧ w = w' := by
  go_enter Try.func21, Try.ntmps21
  go_wp2_with (go_at_call 18; refine (Waits_nil _).mono ?_; rintro e w' ⟨rfl, rfl⟩)
  go_ret3
  exact ⟨rfl, rfl⟩
structure NxI (w : World) (v : Value) (f : Int) (W : World) : Prop where
  a : Rf 71 2 W w.heap.size #[v, .int .i64 f]
  below : Below w.heap.size w W
set_option maxRecDepth 100000 in
theorem Next_any {w : World} {S : Nat} {n : Nt} {F : Nat → Prop} (h : At w S n F) (hok : n.Ok) :
    Calls Try.prog 21 #[.pointer (some ⟨S, 0, none⟩)] w fun e w' => ∃ v', e = .returned (.tuple #[v', .int .i64 (n.nextN : Int), .bool n.takeY]) ∧ Cl w v' n.nextB w' := by
  have HW := Lib.hid (Waits_any h)
  obtain ⟨cv, sv, cl, sl, rfl, h⟩ := h
  obtain ⟨c0, c1, c2, _, _⟩ := h.cells
  by_cases hlt : n.tk < n.cm.length
  · have E2 : Hid (n.takeY = true) := decide_eq_true hlt
    have E3 : Hid (n.nextN = tot (n.cm.take n.tk)) := if_pos hlt
    have hx := h.cx
    rw [Nt.wt_take hlt] at hx
    cases cl with
    | nil => cases hx
    | cons p r =>
      have hx1 : p.x = n.nextB := (List.cons.inj hx).1
      have hf1 := h.cf.1
      have hpq := (h.c.q p (by simp)).nums
      have hp64 : p.x.length ≤ 64 := by
        rw [hx1]
        exact hok.c64 _ (by rw [Nt.nextB, List.getElem?_eq_getElem hlt]; exact List.getElem_mem hlt)
      obtain ⟨g, o, c, e1, r1, r2⟩ := h.c.cells (i := 0) (p := p) rfl
      obtain ⟨va, vc, hpv, _⟩ := (h.c.q p (by simp)).shape
      have hpos := Nt.wt_pos.2 hlt
      have hp : ¬ (n.wt.length : Int) = 0 := by omega
      have hrl : (0 : Int) < ((r.length + 1 : Nat) : Int) := by omega
      subst e1
      obtain ⟨pv, pf, px⟩ := p
      simp only at hx1 hf1 hpq hp64 r1 r2 hpv
      subst hpv
      subst hf1
      have HP := Lib.hid hpq
      have hK : NxI w (.slice va px.length vc) (tot (n.cm.take n.tk) : Int) (w.alloc (.cells #[.slice va px.length vc, .int .i64 (tot (n.cm.take n.tk) : Int)] 71)).drew :=
        ⟨⟨(blk_new _ _ _).drew, rfl, by simp; exact ⟨rfl, rfl⟩⟩, ((Below.refl _ _).alloc (Nat.le_refl _) _).drew⟩
      have HK := Lib.hid hK
      have HX1 := Lib.hid hx1
      have e0 : o + 2 * 0 = o := rfl
      have e01 : o + (2 * 0 + 1) = o + 1 := rfl
      rw [e0] at r1
      rw [e01] at r2
      clear h hok hlt hx hx1 hpq hpos hK c0 e0 e01
      simp only [List.length_cons] at c1
      generalize tot (n.cm.take n.tk) = T at *
      go_enter Try.func21, Try.ntmps21
      go_wp2_with fail
      refine HW.out.mono ?_
      rintro e w1 ⟨rfl, rfl⟩
      clear HW
      go_wp2
      have hK0 := HK.out
      refine wp_region_held_drew (S := NxI w (.slice va px.length vc) (T : Int)) (by kernel_rfl) hK0 (fun _ => ?_)
      have hS := hK0
      refine take_d (i := 0) (d := some 16) (v := ?_) rfl rfl (by kernel_rfl) (by kernel_rfl) (by kernel_rfl) (fun _ _ _ h => h) (.inl ⟨by rfl, ?_⟩) hS ?_
      rotate_left
      · intro W hW
        go_simp
        try with_reducible rfl
      try simp only [Act.put, List.setIfInBounds_toArray, List.set_cons_zero, List.set_cons_succ]
      refine take_d (i := 1) (d := some 17) (v := ?_) rfl rfl (by kernel_rfl) (by kernel_rfl) (by kernel_rfl) (fun _ _ _ h => h) (.inl ⟨by rfl, ?_⟩) hS ?_
      rotate_left
      · intro W hW
        have q1 := hW.a.cell 0; have q2 := hW.a.cell 1; simp only [List.getElem?_toArray, List.getElem?_cons_zero, List.getElem?_cons_succ] at q1 q2
        go_simp
        try with_reducible rfl
      try simp only [Act.put, List.setIfInBounds_toArray, List.set_cons_zero, List.set_cons_succ]
      refine take_d (i := 3) (d := some 19) (v := ?_) rfl rfl (by kernel_rfl) (by kernel_rfl) (by kernel_rfl) (fun _ _ _ h => h) (.inl ⟨by rfl, ?_⟩) hS ?_
      rotate_left
      · intro W hW
        go_simp
        try with_reducible rfl
      try simp only [Act.put, List.setIfInBounds_toArray, List.set_cons_zero, List.set_cons_succ]
      refine take_d (i := 4) (d := some 20) (v := ?_) rfl rfl (by kernel_rfl) (by kernel_rfl) (by kernel_rfl) (fun _ _ _ h => h) (.inl ⟨by rfl, ?_⟩) hS ?_
      rotate_left
      · intro W hW
        have q1 := hW.a.cell 0; have q2 := hW.a.cell 1; simp only [List.getElem?_toArray, List.getElem?_cons_zero, List.getElem?_cons_succ] at q1 q2
        go_simp
        try with_reducible rfl
      try simp only [Act.put, List.setIfInBounds_toArray, List.set_cons_zero, List.set_cons_succ]
      refine wpAnyH_all (rs := [2]) (by kernel_rfl) (by simp) (fun i hi => ?_)
      simp only [List.mem_cons, List.not_mem_nil, or_false] at hi
      subst hi
      refine .inl ?_
      go_simp
      refine (anew_any _ px _ (HP.out.below hS.below) (by omega)).mono ?_
      rintro e wc ⟨v1, rfl, hc⟩
      have hS : NxI w (.slice va px.length vc) (T : Int) wc := ⟨hS.a.below hc.below, hS.below.trans (hc.below.mono hS.below.size)⟩
      have HE := Lib.hid (show Cl w v1 n.nextB wc from ⟨by rw [← HX1.out]; exact hc.q, fun k hk => by have := hc.lo k hk; have := hK0.below.size; omega, hS.below⟩)
      obtain ⟨ao1, c1', rfl, _⟩ := hc.q.shape
      clear hc
      refine ⟨hS, ?_⟩
      try simp only [Act.put, List.setIfInBounds_toArray, List.set_cons_zero, List.set_cons_succ]
      refine take_d (i := 5) (d := some 2) (v := ?_) rfl rfl (by kernel_rfl) (by kernel_rfl) (by kernel_rfl) (fun _ _ _ h => h) (.inl ⟨by rfl, ?_⟩) hS ?_
      rotate_left
      · intro W hW
        go_simp
        try with_reducible rfl
      try simp only [Act.put, List.setIfInBounds_toArray, List.set_cons_zero, List.set_cons_succ]
      refine take_d (i := 6) (d := some 3) (v := ?_) rfl rfl (by kernel_rfl) (by kernel_rfl) (by kernel_rfl) (fun _ _ _ h => h) (.inl ⟨by rfl, ?_⟩) hS ?_
      rotate_left
      · intro W hW
        go_simp
        try with_reducible rfl
      try simp only [Act.put, List.setIfInBounds_toArray, List.set_cons_zero, List.set_cons_succ]
      refine take_d (i := 7) (d := some 4) (v := ?_) rfl rfl (by kernel_rfl) (by kernel_rfl) (by kernel_rfl) (fun _ _ _ h => h) (.inl ⟨by rfl, ?_⟩) hS ?_
      rotate_left
      · intro W hW
        go_simp
        try with_reducible rfl
      try simp only [Act.put, List.setIfInBounds_toArray, List.set_cons_zero, List.set_cons_succ]
      refine wpAnyH_done (by kernel_rfl) ?_ _
      clear hS hK0
      go_wp2
      go_ret3
      refine ⟨_, ?_, HE.out⟩
      rw [E2.out, E3.out]
      first | (simp; done) | rfl
  · have E2 : Hid (n.takeY = false) := decide_eq_false hlt
    have E3 : Hid (n.nextN = 0) := if_neg hlt
    have E4 : Hid (n.nextB = []) := by show n.nextB = []; unfold Nt.nextB; rw [List.getElem?_eq_none (by omega)]; rfl
    have hp : n.wt.length = 0 := by have := (Nt.wt_pos (n := n)).1; omega
    rw [hp] at HW
    clear h hok hlt hp c0 c1 c2
    go_enter Try.func21, Try.ntmps21
    go_wp2_with (go_at_call 18; refine HW.out.mono ?_; rintro e w' ⟨rfl, rfl⟩)
    go_ret3
    refine ⟨.slice none 0 0, ?_, ?_⟩
    · rw [E2.out, E3.out]; rfl
    · rw [E4.out]; exact ⟨Qs.nil _, fun k hk => by simp [blkOf] at hk, Below.refl _ _⟩

/-! ### copies -/
theorem each_box (v : Value) (nx : Int) (w : World) : Calls Try.prog 43 #[.agg #[v, .int .i64 nx]] w fun e w' => ∃ B, e = .returned (.func (.func 49) #[] #[.pointer (some ⟨B, 0, none⟩)]) ∧ Blk w' B #[v, .int .i64 nx] 59 ∧ w.heap.size ≤ B ∧ Below w.heap.size w w' :=
  (each_any v nx w).mono (by rintro e w' ⟨rfl, rfl⟩; exact ⟨_, rfl, blk_new _ _ _, Nat.le_refl _, (Below.refl _ _).alloc (Nat.le_refl _) _⟩)
structure ScI (w : World) (v : Value) (nx : Int) (W : World) : Prop where
  a : Rf 59 2 W w.heap.size #[v, .int .i64 nx]
  r : ∃ c, Rf 59 2 W (w.heap.size + 1) c
  below : Below w.heap.size w W
theorem ScI.after {w W W' : World} {v : Value} {nx : Int} (h : ScI w v nx W) (hb : Below W.heap.size W W') : ScI w v nx W' := ⟨h.a.below hb, by obtain ⟨c, hr⟩ := h.r; exact ⟨c, hr.below hb⟩, h.below.trans (hb.mono h.below.size)⟩
/-- Packets that the call copied. -/
structure Mp (w : World) (v : Value) (l bl : List Pk) (w' : World) : Prop where
  ps : PsIs w' v bl
  xs : bl.map Pk.x = l.map Pk.x
  fs : bl.map Pk.f = l.map Pk.f
  lo : ∀ k, psB v bl k → w.heap.size ≤ k
  below : Below w.heap.size w w'
set_option maxRecDepth 100000 in
theorem scopied_any {w : World} {v : Value} {nx : Int} {l : List Pk} (h : PsIs w v l) (h64 : ∀ p ∈ l, p.x.length ≤ 64) (hlen : l.length ≤ 100000) :
    Calls Try.prog 38 #[.agg #[v, .int .i64 nx]] w fun e w' => ∃ v' bl, e = .returned (.agg #[v', .int .i64 nx]) ∧ Mp w v' l bl w' := by
  have hK : ScI w v nx ((w.alloc (.cells #[v, .int .i64 nx] 59)).alloc (.cells #[.slice none 0 0, .int .i64 0] 59)).drew := by
    refine ⟨⟨((blk_new _ _ _).alloc _).drew, rfl, by simp [h.g.one]; rfl⟩, ⟨#[.slice none 0 0, .int .i64 0], ?_⟩, (((Below.refl _ _).alloc (Nat.le_refl _) _).alloc (by simp) _).drew⟩
    have := blk_new (w.alloc (.cells #[v, .int .i64 nx] 59)) #[.slice none 0 0, .int .i64 0] 59
    rw [World.size_alloc] at this
    exact ⟨this.drew, rfl, by simp; exact ⟨rfl, rfl⟩⟩
  have HK := Lib.hid hK
  have HH := Lib.hid h
  have H64 := Lib.hid h64
  obtain ⟨ao, c, rfl, _⟩ := h.g.shape
  clear h h64 hK
  go_enter Try.func38, Try.ntmps38
  go_wp2
  have hK0 := HK.out
  refine wp_region_held_drew (S := ScI w (.slice ao l.length c) nx) (by kernel_rfl) hK0 (fun _ => ?_)
  have hS := hK0
  refine take_d (i := 0) (d := some 3) (v := .agg #[.slice ao l.length c, .int .i64 nx]) rfl rfl (by kernel_rfl) (by kernel_rfl) (by kernel_rfl) (fun _ _ _ h => h) (y_R rowS (by kernel_rfl) rfl rfl (fun W hW => hW.a)) hS ?_
  try simp only [Act.put, List.setIfInBounds_toArray, List.set_cons_zero, List.set_cons_succ]
  refine take_d (i := 3) (d := some 6) (v := ?_) rfl rfl (by kernel_rfl) (by kernel_rfl) (by kernel_rfl) (fun _ _ _ h => h) (.inl ⟨by rfl, ?_⟩) hS ?_
  rotate_left
  · intro W hW
    go_simp
    try with_reducible rfl
  try simp only [Act.put, List.setIfInBounds_toArray, List.set_cons_zero, List.set_cons_succ]
  refine take_d (i := 4) (d := some 7) (v := ?_) rfl rfl (by kernel_rfl) (by kernel_rfl) (by kernel_rfl) (fun _ _ _ h => h) (.inl ⟨by rfl, ?_⟩) hS ?_
  rotate_left
  · intro W hW
    have q1 := hW.a.cell 0; have q2 := hW.a.cell 1; simp only [List.getElem?_toArray, List.getElem?_cons_zero, List.getElem?_cons_succ] at q1 q2
    go_simp
    try with_reducible rfl
  try simp only [Act.put, List.setIfInBounds_toArray, List.set_cons_zero, List.set_cons_succ]
  refine wpAnyH_all (rs := [1]) (by kernel_rfl) (by simp) (fun i hi => ?_)
  simp only [List.mem_cons, List.not_mem_nil, or_false] at hi
  subst hi
  refine .inl ?_
  go_simp
  refine (each_box _ _ _).mono ?_
  rintro e wc ⟨B, rfl, hB, hlo, hbl⟩
  have hS1 := hS.after hbl
  have HL := Lib.hid (listP_any hB (HH.out.below hS1.below) H64.out hlen)
  have hS := hS1
  clear hS1 hB hbl
  refine ⟨hS, ?_⟩
  try simp only [Act.put, List.setIfInBounds_toArray, List.set_cons_zero, List.set_cons_succ]
  refine wpAnyH_all (rs := [2]) (by kernel_rfl) (by simp) (fun i hi => ?_)
  simp only [List.mem_cons, List.not_mem_nil, or_false] at hi
  subst hi
  refine .inl ?_
  go_simp
  refine (HL.out).mono ?_
  rintro e wc ⟨v1, bl, rfl, h1, h2, h3, h4, h5⟩
  have hSz := hS
  have hS := hS.after h5
  obtain ⟨ao1, c1, hv1, _⟩ := h1.g.shape
  subst hv1
  have HM := Lib.hid (show Mp w (.slice ao1 bl.length c1) l bl wc from ⟨h1, h2, h3, fun k hk => by have := h4 k hk; have := hSz.below.size; omega, hS.below⟩)
  have HNR := Lib.hid (show ∀ k, psB (.slice ao1 bl.length c1) bl k → k ≠ w.heap.size + 1 from fun k hk => by have := h4 k hk; obtain ⟨_, hr⟩ := hSz.r; have := hr.lt; omega)
  clear h1 h2 h3 h4 h5 HL
  refine ⟨hS, ?_⟩
  try simp only [Act.put, List.setIfInBounds_toArray, List.set_cons_zero, List.set_cons_succ]
  refine take_d (i := 5) (d := some 8) (v := ?_) rfl rfl (by kernel_rfl) (by kernel_rfl) (by kernel_rfl) (fun _ _ _ h => h) (.inl ⟨by rfl, ?_⟩) hS ?_
  rotate_left
  · intro W hW
    go_simp
    try with_reducible rfl
  try simp only [Act.put, List.setIfInBounds_toArray, List.set_cons_zero, List.set_cons_succ]
  refine wpAnyH_all (rs := [6]) (by kernel_rfl) (by simp) (fun i hi => ?_)
  simp only [List.mem_cons, List.not_mem_nil, or_false] at hi
  subst hi
  refine .inl ?_
  obtain ⟨c0, hr⟩ := hS.r
  have ho : Ok1 2 #[.slice ao1 bl.length c1, .int .i64 nx] := ⟨rfl, by simp; exact ⟨rfl, rfl⟩⟩
  refine o_store_R (d := none) rfl #[.slice ao1 bl.length c1, .int .i64 nx] rowS hr ho rfl rfl rfl ?_
  have HR := Lib.hid (hr.set ho)
  have HE := Lib.hid (show Mp w (.slice ao1 bl.length c1) l bl (wc.setRow (w.heap.size + 1) #[.slice ao1 bl.length c1, .int .i64 nx]) from ⟨HM.out.ps.turned (turned_setRow _ _ _) (fun k hk => HNR.out k hk), HM.out.xs, HM.out.fs, HM.out.lo, below_setRow HM.out.below (by omega) _⟩)
  have hS2 : ScI w (.slice ao l.length c) nx (wc.setRow (w.heap.size + 1) #[.slice ao1 bl.length c1, .int .i64 nx]) := ⟨hS.a.setOther (by omega) _, ⟨_, HR.out⟩, below_setRow hS.below (by omega) _⟩
  refine ⟨hS2, ?_⟩
  try simp only [Act.put, List.setIfInBounds_toArray, List.set_cons_zero, List.set_cons_succ]
  refine wpAnyH_done (by kernel_rfl) ?_ _
  go_wp2
  refine bodyPost_ret (res_R rowS (fn := Try.f38) rfl _ HR.out rfl) rfl ⟨_, _, rfl, HE.out⟩
theorem firsts_of {b : Nat} : ∀ {l bl : List Pk}, Firsts b l → bl.map Pk.x = l.map Pk.x → bl.map Pk.f = l.map Pk.f → Firsts b bl
  | [], [], _, _, _ => trivial
  | [], _ :: _, _, h, _ => by simp at h
  | _ :: _, [], _, h, _ => by simp at h
  | p :: r, q :: s, h, hx, hf => by
    simp only [List.map_cons, List.cons.injEq] at hx hf
    refine ⟨hf.1.trans h.1, ?_⟩
    rw [hx.1]
    exact firsts_of h.2 hx.2 hf.2
theorem Copy_nil (w : World) : Calls Try.prog 19 #[.pointer none] w fun e w' => e = .returned (.pointer none) ∧ w = w' := by
  go_enter Try.func19, Try.ntmps19
  go_wp2_with (go_at_call 37; refine (none_nil _).mono ?_; rintro e w' ⟨rfl, rfl⟩)
  go_ret
  exact ⟨rfl, rfl⟩
structure CyI (w : World) (S : Nat) (n : Nt) (cv sv : Value) (cl sl : List Pk) (W : World) : Prop where
  i : AtIs W S n cv sv cl sl
  below : Below w.heap.size w W
theorem CyI.after {w W W' : World} {S : Nat} {n : Nt} {cv sv : Value} {cl sl : List Pk} (h : CyI w S n cv sv cl sl W) (hb : Below W.heap.size W W') : CyI w S n cv sv cl sl W' := ⟨h.i.below hb, h.below.trans (hb.mono h.below.size)⟩
theorem copy_end {w w0 w1 w2 : World} {S : Nat} {n : Nt} {cv sv v1 v2 : Value} {cl sl bl1 bl2 : List Pk} (h0 : CyI w S n cv sv cl sl w0) (h1 : Mp w0 v1 cl bl1 w1) (h2 : Mp w1 v2 sl bl2 w2) :
    At (w2.alloc (.cells (ncL n v1 v2) 61)) w2.heap.size n (atF w2.heap.size v1 v2 bl1 bl2) ∧ (∀ k, atF w2.heap.size v1 v2 bl1 bl2 k → w.heap.size ≤ k) ∧ Below w.heap.size w (w2.alloc (.cells (ncL n v1 v2) 61)) := by
  have hz0 := h0.below.size
  have hz1 := h1.below.size
  have hz2 := h2.below.size
  have hbA : Below w2.heap.size w2 (w2.alloc (.cells (ncL n v1 v2) 61)) := (Below.refl _ _).alloc (Nat.le_refl _) _
  refine ⟨⟨v1, v2, bl1, bl2, rfl, blk_new _ _ _, (h1.ps.below h2.below).below hbA, h2.ps.below hbA, h1.xs.trans h0.i.cx, h2.xs.trans h0.i.sx, firsts_of h0.i.cf h1.xs h1.fs, fun k hk e => ?_⟩, ?_, ?_⟩
  · have := h1.ps.lt (.inl hk); have := h2.lo k (.inl e); omega
  · rintro k (e | e | e)
    · omega
    · have := h1.lo k e; omega
    · have := h2.lo k e; omega
  · exact ((h0.below.trans (h1.below.mono hz0)).trans (h2.below.mono (by omega))).alloc (by omega) _
set_option maxRecDepth 100000 in
theorem Copy_any {w : World} {S : Nat} {n : Nt} {F : Nat → Prop} (h : At w S n F) (hok : n.Ok) (hsz : n.sz ≤ 90000) :
    Calls Try.prog 19 #[.pointer (some ⟨S, 0, none⟩)] w fun e w' => ∃ S' F', e = .returned (.pointer (some ⟨S', 0, none⟩)) ∧ At w' S' n F' ∧ (∀ k, F' k → w.heap.size ≤ k) ∧ Below w.heap.size w w' := by
  obtain ⟨cv, sv, cl, sl, rfl, h⟩ := h
  obtain ⟨c0, _⟩ := h.cells
  have HC1 := Lib.hid (fun W (hW : CyI w S n cv sv cl sl W) => scopied_any (nx := (tot n.cm : Int)) hW.i.c (fun p hp => hok.wt64 _ (mem_x h.cx hp)) (by have := h.clen; have := hok.wt; omega))
  have HC2 := Lib.hid (fun W (hW : CyI w S n cv sv cl sl W) => scopied_any (nx := (tot n.sn : Int)) hW.i.s (fun p hp => hok.s64 _ (mem_x h.sx hp)) (by have := h.slen; unfold Nt.sz at hsz; omega))
  have HN := Lib.hid (none_at c0)
  have HK := Lib.hid (show CyI w S n cv sv cl sl w.drew from ⟨h.below (Below.refl _ _).drew, (Below.refl _ _).drew⟩)
  obtain ⟨ao, c, rfl, _⟩ := h.c.g.shape
  obtain ⟨ao2, c2, rfl, _⟩ := h.s.g.shape
  clear h hok c0
  go_enter Try.func19, Try.ntmps19
  go_wp2_with (first | (go_at_call 37; refine HN.out.mono ?_; rintro e w' ⟨rfl, rfl⟩))
  have hK0 := HK.out
  refine wp_region_held_drew (S := CyI w S n (.slice ao cl.length c) (.slice ao2 sl.length c2) cl sl) (by kernel_rfl) hK0 (fun _ => ?_)
  have hS := hK0
  refine take_d (i := 0) (d := some 5) (v := ?_) rfl rfl (by kernel_rfl) (by kernel_rfl) (by kernel_rfl) (fun _ _ _ h => h) (.inl ⟨by rfl, ?_⟩) hS ?_
  rotate_left
  · intro W hW
    go_simp
    try with_reducible rfl
  try simp only [Act.put, List.setIfInBounds_toArray, List.set_cons_zero, List.set_cons_succ]
  refine take_d (i := 1) (d := some 6) (v := ?_) rfl rfl (by kernel_rfl) (by kernel_rfl) (by kernel_rfl) (fun _ _ _ h => h) (.inl ⟨by rfl, ?_⟩) hS ?_
  rotate_left
  · intro W hW
    go_simp
    try with_reducible rfl
  try simp only [Act.put, List.setIfInBounds_toArray, List.set_cons_zero, List.set_cons_succ]
  refine take_d (i := 2) (d := some 7) (v := ?_) rfl rfl (by kernel_rfl) (by kernel_rfl) (by kernel_rfl) (fun _ _ _ h => h) (.inl ⟨by rfl, ?_⟩) hS ?_
  rotate_left
  · intro W hW
    go_simp
    try with_reducible rfl
  try simp only [Act.put, List.setIfInBounds_toArray, List.set_cons_zero, List.set_cons_succ]
  refine take_d (i := 3) (d := some 8) (v := ?_) rfl rfl (by kernel_rfl) (by kernel_rfl) (by kernel_rfl) (fun _ _ _ h => h) (.inl ⟨by rfl, ?_⟩) hS ?_
  rotate_left
  · intro W hW
    obtain ⟨_, q1, q2, q3, q4⟩ := hW.i.cells
    go_simp
    try with_reducible rfl
  try simp only [Act.put, List.setIfInBounds_toArray, List.set_cons_zero, List.set_cons_succ]
  refine take_d (i := 5) (d := some 10) (v := ?_) rfl rfl (by kernel_rfl) (by kernel_rfl) (by kernel_rfl) (fun _ _ _ h => h) (.inl ⟨by rfl, ?_⟩) hS ?_
  rotate_left
  · intro W hW
    go_simp
    try with_reducible rfl
  try simp only [Act.put, List.setIfInBounds_toArray, List.set_cons_zero, List.set_cons_succ]
  refine take_d (i := 6) (d := some 11) (v := ?_) rfl rfl (by kernel_rfl) (by kernel_rfl) (by kernel_rfl) (fun _ _ _ h => h) (.inl ⟨by rfl, ?_⟩) hS ?_
  rotate_left
  · intro W hW
    go_simp
    try with_reducible rfl
  try simp only [Act.put, List.setIfInBounds_toArray, List.set_cons_zero, List.set_cons_succ]
  refine take_d (i := 7) (d := some 12) (v := ?_) rfl rfl (by kernel_rfl) (by kernel_rfl) (by kernel_rfl) (fun _ _ _ h => h) (.inl ⟨by rfl, ?_⟩) hS ?_
  rotate_left
  · intro W hW
    go_simp
    try with_reducible rfl
  try simp only [Act.put, List.setIfInBounds_toArray, List.set_cons_zero, List.set_cons_succ]
  refine take_d (i := 8) (d := some 13) (v := ?_) rfl rfl (by kernel_rfl) (by kernel_rfl) (by kernel_rfl) (fun _ _ _ h => h) (.inl ⟨by rfl, ?_⟩) hS ?_
  rotate_left
  · intro W hW
    obtain ⟨_, q1, q2, q3, q4⟩ := hW.i.cells
    go_simp
    try with_reducible rfl
  try simp only [Act.put, List.setIfInBounds_toArray, List.set_cons_zero, List.set_cons_succ]
  refine wpAnyH_all (rs := [4]) (by kernel_rfl) (by simp) (fun i hi => ?_)
  simp only [List.mem_cons, List.not_mem_nil, or_false] at hi
  subst hi
  refine .inl ?_
  go_simp
  refine (HC1.out _ hS).mono ?_
  rintro e w1 ⟨v1, bl1, rfl, hm⟩
  have hS := hS.after hm.below
  obtain ⟨b1, d1, hv1, _⟩ := hm.ps.g.shape
  subst hv1
  have HM1 := Lib.hid hm
  clear hm
  refine ⟨hS, ?_⟩
  try simp only [Act.put, List.setIfInBounds_toArray, List.set_cons_zero, List.set_cons_succ]
  refine wpAnyH_all (rs := [9]) (by kernel_rfl) (by simp) (fun i hi => ?_)
  simp only [List.mem_cons, List.not_mem_nil, or_false] at hi
  subst hi
  refine .inl ?_
  go_simp
  refine (HC2.out _ hS).mono ?_
  rintro e w2 ⟨v2, bl2, rfl, hm⟩
  have hS := hS.after hm.below
  obtain ⟨b2, d2, hv2, _⟩ := hm.ps.g.shape
  subst hv2
  have HM2 := Lib.hid hm
  clear hm
  refine ⟨hS, ?_⟩
  try simp only [Act.put, List.setIfInBounds_toArray, List.set_cons_zero, List.set_cons_succ]
  refine take_d (i := 10) (d := some 15) (v := ?_) rfl rfl (by kernel_rfl) (by kernel_rfl) (by kernel_rfl) (fun _ _ _ h => h) (.inl ⟨by rfl, ?_⟩) hS ?_
  rotate_left
  · intro W hW
    go_simp
    try with_reducible rfl
  try simp only [Act.put, List.setIfInBounds_toArray, List.set_cons_zero, List.set_cons_succ]
  refine wpAnyH_all (rs := [11]) (by kernel_rfl) (by simp) (fun i hi => ?_)
  simp only [List.mem_cons, List.not_mem_nil, or_false] at hi
  subst hi
  refine .inl ?_
  have hSn : CyI w S n (.slice ao cl.length c) (.slice ao2 sl.length c2) cl sl (w2.alloc (.cells #[.bool true, .slice b1 bl1.length d1, .int .i64 (tot n.cm : Int), .slice b2 bl2.length d2, .int .i64 (tot n.sn : Int)] 61)) := hS.after ((Below.refl _ _).alloc (Nat.le_refl _) _)
  refine o_ok (d := some 16) rfl (.pointer (some ⟨w2.heap.size, 0, none⟩)) (w2.alloc (.cells #[.bool true, .slice b1 bl1.length d1, .int .i64 (tot n.cm : Int), .slice b2 bl2.length d2, .int .i64 (tot n.sn : Int)] 61)) (by go_simp) ⟨hSn, ?_⟩
  have HE := Lib.hid (copy_end hK0 HM1.out HM2.out)
  have hS := hSn
  clear hSn HM1 HM2 HC1 HC2
  try simp only [Act.put, List.setIfInBounds_toArray, List.set_cons_zero, List.set_cons_succ]
  refine take_d (i := 12) (d := some 2) (v := ?_) rfl rfl (by kernel_rfl) (by kernel_rfl) (by kernel_rfl) (fun _ _ _ h => h) (.inl ⟨by rfl, ?_⟩) hS ?_
  rotate_left
  · intro W hW
    go_simp
    try with_reducible rfl
  try simp only [Act.put, List.setIfInBounds_toArray, List.set_cons_zero, List.set_cons_succ]
  refine wpAnyH_done (by kernel_rfl) ?_ _
  go_wp2
  go_ret
  exact ⟨_, _, rfl, HE.out.1, HE.out.2.1, HE.out.2.2⟩
end Go.Proofs.Ytepimbebodmajaa
