/-
  Layer 14: a history of a walk's own; known of the statements: walks.
-/
import Derived.Test.YtiohlmccnllklaaGreatDoorH38
import Derived.Test.YtiohlmccnllklaaGreatDoorH32
import Derived.Test.YtiohlmccnllklaaGreatDoorH06
import Derived.Test.YtiohlmccnllklaaGreatDoorH40
set_option linter.unusedVariables false
set_option linter.unusedSimpArgs false
namespace Go.Proofs.YtiohlmccnllklaaGreatDoor.Q
open Go.RowKit
set_option maxHeartbeats 8000000
set_option maxRecDepth 100000
set_option linter.unusedVariables false
set_option linter.unusedSimpArgs false

/-- A history made behind w0: its notes, its last step. -/
structure HsW (w0 : World) (S mb : Nat) (m : List T.No × Int) (W : World) : Prop where
  b : Below w0.heap.size w0 W
  h : ∃ V, HsIs W S mb m.1 m.2 V ∧ ∀ k, hF S mb V k → w0.heap.size ≤ k
/-- What a history's growing keeps. -/
structure Kp (w0 W w' : World) : Prop where
  b : Below w0.heap.size w0 w'
  k : ∀ {k : Nat} {cur : Array Value} {ty : TypeId}, Blk W k cur ty → ty ≠ 58 → ty ≠ 63 → Blk w' k cur ty
  s : W.heap.size ≤ w'.heap.size
theorem HsW.below {w0 : World} {S mb : Nat} {m : List T.No × Int} {W W' : World} (h : HsW w0 S mb m W) (hb : Below W.heap.size W W') : HsW w0 S mb m W' := by
  obtain ⟨V, h1, h2⟩ := h.h
  exact ⟨belT h.b hb, V, h1.below hb, h2⟩
theorem Kp.below {w0 W W1 W2 : World} (h : Kp w0 W W1) (hb : Below W1.heap.size W1 W2) : Kp w0 W W2 := ⟨belT h.b hb, fun hk h1 h2 => (h.k hk h1 h2).below hb, Nat.le_trans h.s hb.size⟩
theorem Kp.refl {w0 W : World} (h : Below w0.heap.size w0 W) : Kp w0 W W := ⟨h, fun hk _ _ => hk, Nat.le_refl _⟩
theorem Kp.trans {w0 W1 W2 W3 : World} (h : Kp w0 W1 W2) (k : Kp w0 W2 W3) : Kp w0 W1 W3 := ⟨k.b, fun hk h1 h2 => k.k (h.k hk h1 h2) h1 h2, Nat.le_trans h.s k.s⟩
theorem New_W {w0 W : World} (hb : Below w0.heap.size w0 W) : Calls Tryz.prog 23 #[] W fun e w' => ∃ S mb, e = .returned (.pointer (some ⟨S, 0, none⟩)) ∧ HsW w0 S mb ([], 0) w' ∧ Below W.heap.size W w' := by
  refine (new_any W).mono ?_
  rintro e w' ⟨S, mb, rfl, h1, h2, h3, h4⟩
  have := hb.size
  refine ⟨S, mb, rfl, ⟨belT hb h4, _, h3, fun k hk => ?_⟩, h4⟩
  rcases hk with e | e | ⟨p, hp⟩
  · omega
  · omega
  · simp [blkOf] at hp
theorem Add_W {w0 : World} {S mb : Nat} {m : List T.No × Int} {W : World} (h : HsW w0 S mb m W) {v : Value} {ts : List T.Tc} (hv : ∀ W', Kp w0 W W' → TsIn W' v ts) (hl : m.1.length + ts.length ≤ 900000)
    (hfl : ∀ t ∈ ts, t.2.length ≤ 1000000) {s : Int} (hs : I64 s) : Calls Tryz.prog 15 #[.pointer (some ⟨S, 0, none⟩), .int .i64 s, v] W fun e w' => e = .returned (.int .i64 (if s < m.2 then 2 else 0)) ∧ HsW w0 S mb (T.stM m (s, ts)) w' ∧ Kp w0 W w' := by
  obtain ⟨V, h1, h2⟩ := h.h
  have kp : ∀ W', Turned (hF S mb V) W W' → Kp w0 W W' := fun W' ht => ⟨h.b.trans (ht.below h.b.size h2), fun hk e1 e2 => hk.turned ht fun e => h1.noBlk e hk e1 e2, ht.size⟩
  refine (Add_any h1 (fun W' ht => hv W' (kp W' ht)) hl hfl hs).mono ?_
  rintro e w' ⟨rfl, h3⟩
  obtain ⟨V', h4, h5⟩ := h3.h
  refine ⟨rfl, ⟨(kp _ h3.t).b, V', h4, fun k hk => ?_⟩, kp _ h3.t⟩
  rcases h5 k hk with e | e
  · exact h2 k e
  · exact Nat.le_trans h.b.size e
theorem PlsIn.lit {w : World} {g : Nat} {l : List T.Pl} (h : Blk w g (l.flatMap plc).toArray 42) (hl : l.length ≤ maxLen) (hp : ∀ p ∈ l, Pi p) : PlsIn w (.slice (some ⟨g, 0, none⟩) l.length l.length) l := by
  refine ⟨⟨flat_len plc plc_sz l, _, _, rfl, Nat.le_refl _, hl, fun _ => ⟨g, 0, rfl, fun j u hj => ?_⟩⟩, hp⟩
  rw [h.cell, Nat.zero_add]
  simpa using hj
theorem TsIn.lit {w : World} {g : Nat} {l : List T.Tc} {cs : List Value} (h : Blk w g cs.toArray 61) (hc : TcC w l cs) (hcl : cs.length = l.length * 3) (hl : l.length ≤ maxLen) (hp : ∀ t ∈ l, Pi t.1) : TsIn w (.slice (some ⟨g, 0, none⟩) l.length l.length) l := by
  refine ⟨cs, ⟨hcl, _, _, rfl, Nat.le_refl _, hl, fun _ => ⟨g, 0, rfl, fun j u hj => ?_⟩⟩, hc, hp⟩
  rw [h.cell, Nat.zero_add]
  simpa using hj
/-- One touch of one place, laid out. -/
theorem ts_one {w : World} {A B : Nat} {p q : T.Pl} (ha : Blk w A #[.int .i64 q.1, .int .i64 q.2] 42) (hb : Blk w B #[.int .i64 p.1, .int .i64 p.2, .slice (some ⟨A, 0, none⟩) 1 1] 61) (hp : Pi p) (hq : Pi q) : TsIn w (.slice (some ⟨B, 0, none⟩) 1 1) [(p, [q])] :=
  TsIn.lit (l := [(p, [q])]) (cs := [.int .i64 p.1, .int .i64 p.2, .slice (some ⟨A, 0, none⟩) 1 1]) hb ⟨_, [], rfl, PlsIn.lit (l := [q]) ha (by simp [maxLen]) (by simpa using hq), rfl⟩ rfl (by simp [maxLen]) (by simpa using hp)

theorem add_one {w0 : World} {S mb : Nat} {m : List T.No × Int} {W : World} (h : HsW w0 S mb m W) {p q : T.Pl} (hp : Pi p) (hq : Pi q) {s : Int} (hs : I64 s) (hl : m.1.length ≤ 1000) :
    Calls Tryz.prog 15 #[.pointer (some ⟨S, 0, none⟩), .int .i64 s, .slice (some ⟨W.heap.size + 1, 0, none⟩) 1 1] ((W.alloc (.cells #[.int .i64 q.1, .int .i64 q.2] 42)).alloc (.cells #[.int .i64 p.1, .int .i64 p.2, .slice (some ⟨W.heap.size, 0, none⟩) 1 1] 61)) fun e w' =>
      e = .returned (.int .i64 (if s < m.2 then 2 else 0)) ∧ HsW w0 S mb (T.stM m (s, [(p, [q])])) w' ∧ Kp w0 W w' := by
  have b1 := (blk_new W #[.int .i64 q.1, .int .i64 q.2] 42).alloc (.cells #[.int .i64 p.1, .int .i64 p.2, .slice (some ⟨W.heap.size, 0, none⟩) 1 1] 61)
  have b2 := blk_new (W.alloc (.cells #[.int .i64 q.1, .int .i64 q.2] 42)) #[.int .i64 p.1, .int .i64 p.2, .slice (some ⟨W.heap.size, 0, none⟩) 1 1] 61
  rw [World.size_alloc] at b2
  have hb := belT (bel1 W (.cells #[.int .i64 q.1, .int .i64 q.2] 42)) (bel1 _ (.cells #[.int .i64 p.1, .int .i64 p.2, .slice (some ⟨W.heap.size, 0, none⟩) 1 1] 61))
  refine (Add_W (h.below hb) (ts := [(p, [q])]) (fun W' hk => ts_one (hk.k b1 (by decide) (by decide)) (hk.k b2 (by decide) (by decide)) hp hq) (by simp; omega) (by simp) hs).mono ?_
  rintro e w' ⟨rfl, h1, h2⟩
  exact ⟨rfl, h1, h2.b, fun hk e1 e2 => h2.k (hk.below hb) e1 e2, Nat.le_trans hb.size h2.s⟩

/-! ### known -/
def kn1 : List T.No := [⟨1, (1, 1), [(13, 0)]⟩]
def kn2 : List T.No := [⟨1, (1, 1), [(13, 0)]⟩, ⟨2, (10, 5), [(1, 1)]⟩]
theorem kn_1 : T.stM ([], 0) (1, [((1, 1), [(13, 0)])]) = (kn1, 1) := by rfl
theorem kn_2 : T.stM (kn1, 1) (2, [((10, 5), [(1, 1)])]) = (kn2, 2) := by rfl
theorem kn_root (q : T.Pl) : T.Root kn2 ((10, 5), 9) q ↔ q = (13, 0) := by
  have k0 : T.kids kn2 ((10, 5), 9) = [((1, 1), 2)] := by decide
  have k1 : T.kids kn2 ((1, 1), 2) = [((13, 0), 1)] := by decide
  have k2 : T.kids kn2 ((13, 0), 1) = [] := by decide
  constructor
  · rintro ⟨s, hr, hl⟩
    have : ∀ b, T.Rch kn2 ((10, 5), 9) b → b = ((10, 5), 9) ∨ b = ((1, 1), 2) ∨ b = ((13, 0), 1) := fun b hb => by
      induction hb with
      | refl => exact .inl rfl
      | step _ hk ih =>
        rcases ih with rfl | rfl | rfl
        · rw [k0] at hk; exact .inr (.inl (by simpa using hk))
        · rw [k1] at hk; exact .inr (.inr (by simpa using hk))
        · rw [k2] at hk; cases hk
    rcases this _ hr with e | e | e
    · obtain ⟨rfl, rfl⟩ := Prod.mk.inj e
      exact absurd hl (by decide)
    · obtain ⟨rfl, rfl⟩ := Prod.mk.inj e
      exact absurd hl (by decide)
    · exact (Prod.mk.inj e).1
  · rintro rfl
    exact ⟨1, T.Rch.step (c := ((13, 0), 1)) (T.Rch.step (c := ((1, 1), 2)) T.Rch.refl (by rw [k0]; simp)) (by rw [k1]; simp), by decide⟩
theorem kn_up : T.Up kn2 := by unfold T.Up kn2; decide
theorem kn_text : txt (10, 5) = [109, 101, 109, 32, 53] := by unfold txt Lib.itoa Lib.decDigits; decide

structure KnS (A B g o : Nat) (W : World) : Prop where
  e : Env W
  a : Blk W A #[.int .i64 13, .int .i64 0] 42
  b : Blk W B #[.int .i64 10, .int .i64 5] 42
  r0 : W.cell? ⟨g, o, none⟩ = some (.int .i64 13)
  r1 : W.cell? ⟨g, o + 1, none⟩ = some (.int .i64 0)
theorem KnS.stb (A B g o : Nat) : Free.Stb (KnS A B g o) := fun W W' h hb => ⟨h.e.below hb, h.a.below hb, h.b.below hb, cell_below h.r0 hb, cell_below h.r1 hb⟩
theorem known_any {w : World} (he : Env w) : Calls Tryz.prog 5 #[] w fun e w' => e = .returned (.bool true) ∧ Below w.heap.size w w' := by
  have HE := Lib.hid he
  have hB0 := Below.refl w.heap.size w
  have HB0 := Lib.hid hB0
  clear he hB0
  go_enter Tryz.func5, Tryz.ntmps5
  go_wp2_with fail
  refine (New_W HB0.out).mono ?_
  rintro e w1 ⟨S, mb, rfl, hw, hb⟩
  have b1 := ((blk_new w1 #[.int .i64 13, .int .i64 0] 42).alloc (.cells #[.int .i64 1, .int .i64 1] 42)).alloc (.cells #[.int .i64 10, .int .i64 5] 42)
  have b2 := (blk_new (w1.alloc (.cells #[.int .i64 13, .int .i64 0] 42)) #[.int .i64 1, .int .i64 1] 42).alloc (.cells #[.int .i64 10, .int .i64 5] 42)
  have b3 := blk_new ((w1.alloc (.cells #[.int .i64 13, .int .i64 0] 42)).alloc (.cells #[.int .i64 1, .int .i64 1] 42)) #[.int .i64 10, .int .i64 5] 42
  have hb2 := belT (belT (bel1 w1 (.cells #[.int .i64 13, .int .i64 0] 42)) (bel1 _ (.cells #[.int .i64 1, .int .i64 1] 42))) (bel1 _ (.cells #[.int .i64 10, .int .i64 5] 42))
  rw [World.size_alloc] at b2
  rw [World.size_alloc, World.size_alloc] at b3
  have HK := Lib.hid (And.intro b1 (And.intro b2 b3))
  have HW := Lib.hid (hw.below hb2)
  clear b1 b2 b3 hb2 hw hb HB0
  go_wp2_with fail
  have hadd := add_one HW.out (p := (1, 1)) (q := (13, 0)) (by simp [Pi, I64]) (by simp [Pi, I64]) (s := 1) (by simp [I64]) (by simp)
  simp only [World.size_alloc] at hadd
  refine hadd.mono ?_
  rintro e w2 ⟨rfl, hw, hk⟩
  have b1 := hk.k HK.out.1 (by decide) (by decide)
  have b2 := hk.k HK.out.2.1 (by decide) (by decide)
  have b3 := hk.k HK.out.2.2 (by decide) (by decide)
  have HK2 := Lib.hid (And.intro b1 (And.intro b2 b3))
  rw [kn_1] at hw
  have HW2 := Lib.hid hw
  have x0 := b2.cell 0
  have x1 := b2.cell 1
  have y0 := b3.cell 0
  have y1 := b3.cell 1
  simp only [List.getElem?_toArray, List.getElem?_cons_zero, List.getElem?_cons_succ] at x0 x1 y0 y1
  clear hw hk b1 b2 b3 HK HW hadd
  go_wp2_with fail
  have hadd := add_one HW2.out (p := (10, 5)) (q := (1, 1)) (by simp [Pi, I64]) (by simp [Pi, I64]) (s := 2) (by simp [I64]) (by simp [kn1])
  refine hadd.mono ?_
  rintro e w3 ⟨rfl, hw, hk⟩
  have b1 := hk.k HK2.out.1 (by decide) (by decide)
  have b3 := hk.k HK2.out.2.2 (by decide) (by decide)
  have HK3 := Lib.hid (And.intro b1 b3)
  rw [kn_2] at hw
  have y0 := b3.cell 0
  have y1 := b3.cell 1
  simp only [List.getElem?_toArray, List.getElem?_cons_zero, List.getElem?_cons_succ] at y0 y1
  obtain ⟨V, hv, _⟩ := hw.h
  have HRo := Lib.hid (Roots_any hv kn_up (by simp [kn2]) (by simp [kn2, Pi, I64]) (by simp [kn2, I64]) (Sl := [1, 2]) (by simp [kn2]) (by simp) (by simp [T.sumF, kn2]) (p := (10, 5)) (by simp [Pi, I64]) (s := 9) (by simp [I64]))
  have HB3 := Lib.hid hw.b
  have HE3 := Lib.hid (HE.out.below hw.b)
  clear hw hk b1 b3 HK2 HW2 hadd hv HE x0 x1
  go_wp2_with fail
  refine HRo.out.mono ?_
  rintro e w4 ⟨v, l, rfl, hown, hris, hroot, _, hb4⟩
  obtain rfl := T.ris_one hris (13, 0) (fun q => (hroot q).trans (kn_root q))
  obtain ⟨ov, cv, rfl, _, _⟩ : ∃ ov cv, v = .slice ov 1 cv ∧ _ ∧ _ := hown.1.shape
  obtain ⟨g1, o1, c1, p, e1, l1, hpi, r1⟩ := (hown.pls).at_ (show 0 < 1 by omega)
  simp at e1 l1
  obtain ⟨rfl, rfl⟩ := e1
  subst l1
  obtain ⟨q1, q2⟩ := rng2 r1
  have b1 := HK3.out.1.below hb4
  have b3 := HK3.out.2.below hb4
  have HS : Hid (KnS w1.heap.size (w1.heap.size + 1 + 1) g1 o1 w4.drew) :=
    KnS.stb _ _ _ _ _ _ ⟨HE3.out.below hb4, b1, b3, by simpa using q1, by simpa using q2⟩ (Below.refl _ _).drew
  have HB4 := Lib.hid (belT HB3.out hb4)
  clear hown hris hroot hpi r1 hb4 HK3 HB3 HE3 y0 y1 q1 q2 b1 b3 HRo
  go_wp2
  refine Free.any (KnS w1.heap.size (w1.heap.size + 1 + 1) g1 o1) (KnS.stb _ _ g1 o1) HS.out (fun st => ?_)
  refine Free.tk 0 (some 29) (v := .int .i64 0) ?_ (hy := by intro W hW; go_simp; try with_reducible rfl)
  refine Free.tk 1 (some 30) (v := .bool true) ?_ (hy := by intro W hW; go_simp; try with_reducible rfl)
  refine Free.tk 2 (some 31) (v := .bool true) ?_ (hy := by intro W hW; go_simp; try with_reducible rfl)
  refine Free.tk 3 (some 32) (v := .int .i64 0) ?_ (hy := by intro W hW; go_simp; try with_reducible rfl)
  refine Free.tk 4 (some 33) (v := .bool true) ?_ (hy := by intro W hW; go_simp; try with_reducible rfl)
  refine Free.tk 5 (some 34) (v := .bool true) ?_ (hy := by intro W hW; go_simp; try with_reducible rfl)
  refine Free.tk 6 (some 35) (v := .bool true) ?_ (hy := by intro W hW; go_simp; try with_reducible rfl)
  refine Free.tk 7 (some 36) ?_ (hy := by intro W hW; go_simp; try with_reducible rfl)
  refine Free.tk 8 (some 37) (v := .int .i64 1) ?_ (hy := by intro W hW; go_simp; try with_reducible rfl)
  refine Free.tk 9 (some 38) (v := .bool true) ?_ (hy := by intro W hW; go_simp; try with_reducible rfl)
  refine Free.tk 10 (some 39) (v := .bool true) ?_ (hy := by intro W hW; go_simp; try with_reducible rfl)
  refine Free.tk 11 (some 40) (v := .bool true) ?_ (hy := by intro W hW; go_simp; try with_reducible rfl)
  refine Free.tk 12 (some 41) ?_ (hy := by intro W hW; go_simp; try with_reducible rfl)
  refine Free.tk 13 (some 42) (v := .pointer (some ⟨g1, o1, none⟩)) ?_ (hy := by intro W hW; go_simp; try with_reducible rfl)
  refine Free.tk 14 (some 43) (v := .agg #[.int .i64 13, .int .i64 0]) ?_ (hy := by intro W hW; have c0 := hW.r0; have c1 := hW.r1; go_simp; try with_reducible rfl)
  refine Free.tk 15 (some 44) (v := .agg #[.int .i64 13, .int .i64 0]) ?_ (hy := by intro W hW; have c0 := hW.a.cell 0; have c1 := hW.a.cell 1; simp only [List.getElem?_toArray, List.getElem?_cons_zero, List.getElem?_cons_succ] at c0 c1; go_simp; try with_reducible rfl)
  refine Free.tk 16 (some 45) (v := .bool true) ?_ (hy := by intro W hW; go_simp; try with_reducible rfl)
  refine Free.tk 17 (some 46) (v := .bool true) ?_ (hy := by intro W hW; go_simp; try with_reducible rfl)
  refine Free.tk 18 (some 47) (v := .bool true) ?_ (hy := by intro W hW; go_simp; try with_reducible rfl)
  refine Free.tk 19 (some 48) (v := .agg #[.int .i64 10, .int .i64 5]) ?_ (hy := by intro W hW; have c0 := hW.b.cell 0; have c1 := hW.b.cell 1; simp only [List.getElem?_toArray, List.getElem?_cons_zero, List.getElem?_cons_succ] at c0 c1; go_simp; try with_reducible rfl)
  refine Free.cl 20 (some 49) (v := .string (bytesQ (txt (10, 5)))) st (fun W hW => (Text_any hW.e (p := (10, 5)) (by simp [Pi, I64]))) ?_ (hy := by intro W; go_simp; try with_reducible rfl)
  rw [show bytesQ (txt (10, 5)) = ⟨#[109, 101, 109, 32, 53]⟩ by rw [kn_text]; rfl]
  refine Free.tk 21 (some 50) (v := .bool true) ?_ (hy := by intro W hW; go_simp; try with_reducible rfl)
  refine Free.tk 22 (some 51) (v := .bool true) ?_ (hy := by intro W hW; go_simp; try with_reducible rfl)
  refine Free.tk 23 (some 0) (v := .bool true) ?_ (hy := by intro W hW; go_simp; try with_reducible rfl)
  refine Free.done (fun W hb hW => ?_)
  have HB := Lib.hid (belT HB4.out ((Below.refl _ _).drew.trans hb))
  clear hb hW
  go_wp2
  go_ret
  exact ⟨rfl, HB.out⟩
end Go.Proofs.YtiohlmccnllklaaGreatDoor.Q
