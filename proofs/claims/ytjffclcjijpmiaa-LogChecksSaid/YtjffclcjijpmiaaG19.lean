/-
  Layer 16: a writer: a head, a record: walks. Written by gen_wr.py.
-/
import Derived.Test.YtjffclcjijpmiaaG14
import Derived.Test.YtjffclcjijpmiaaG17
set_option linter.unusedVariables false
set_option linter.unusedSimpArgs false
namespace Go.Proofs.Ytjffclcjijpmiaa.LG
open Go.RowKit
set_option maxHeartbeats 8000000
set_option maxRecDepth 100000
set_option linter.unusedVariables false
set_option linter.unusedSimpArgs false

/-- A writer: its bytes, its own row, the last At. -/
abbrev Wr (w : World) (S : Nat) (at_ : Int) (out : List Int) (g : Option Nat) : Prop := Lw w S 60 [.int .i64 at_] out g
/-- What a list's growing leaves, call by call. -/
structure LwI (w : World) (S : Nat) (ty : TypeId) (rest : List Value) (g : Option Nat) (out : List Int) (W : World) : Prop where
  l : ∃ g', Lw W S ty rest out g' ∧ (∀ k, g' = some k → g = some k ∨ w.heap.size ≤ k)
  u : Turned (fun k => k = S ∨ g = some k) w W
theorem LwI.start {w : World} {S : Nat} {ty : TypeId} {rest : List Value} {g : Option Nat} {out : List Int} (h : Lw w S ty rest out g) : LwI w S ty rest g out w := ⟨⟨g, h, fun k hk => .inl hk⟩, Turned.refl _ _⟩
theorem LwI.below {w W W' : World} {S : Nat} {ty : TypeId} {rest : List Value} {g : Option Nat} {out : List Int} (h : LwI w S ty rest g out W) (hb : Below W.heap.size W W') : LwI w S ty rest g out W' := by
  obtain ⟨⟨g', h1, h2⟩, hu⟩ := h
  exact ⟨⟨g', h1.below hb, h2⟩, hu.trans (Turned.of_below hb (fun k => k = S ∨ g = some k)) (fun k hk => .inl hk)⟩
theorem LwI.step {w W W' : World} {S : Nat} {ty : TypeId} {rest : List Value} {g g' : Option Nat} {out' : List Int} {e : Ending} (hu : Turned (fun k => k = S ∨ g = some k) w W) (hn : ∀ k, g' = some k → g = some k ∨ w.heap.size ≤ k) (h : PutP S ty rest out' g' W e W') : e = .returned (.tuple #[]) ∧ LwI w S ty rest g out' W' := by
  obtain ⟨g2, he, hl, ht, hn2⟩ := h
  have hz := hu.size
  refine ⟨he, ⟨g2, hl, fun k hk => ?_⟩, hu.trans ht (fun k hk => ?_)⟩
  · rcases hn2 k hk with e | e
    · exact hn k e
    · right; omega
  · rcases hk with rfl | hk
    · exact .inl (.inl rfl)
    · rcases hn k hk with e | e
      · exact .inl (.inr e)
      · exact .inr e
/-- A block of another type is neither the list's nor its row's. -/
theorem Lw.ne {W : World} {S : Nat} {ty : TypeId} {rest : List Value} {out : List Int} {g : Option Nat} (h : Lw W S ty rest out g) {R : Nat} {cc : Array Value} {ty' : TypeId} (hR : Blk W R cc ty') (h1 : ty' ≠ ty) (h2 : ty' ≠ 5) : ¬ (R = S ∨ g = some R) := by
  obtain ⟨sv, hb, hg, he⟩ := h
  rintro (rfl | e)
  · have := hb.symm.trans hR
    simp at this
    exact h1 this.2.symm
  · exact Gs.ne hg hR h2 (he.trans e) rfl
theorem Lw.last {W : World} {S : Nat} {ty : TypeId} {a : Value} {out : List Int} {g : Option Nat} (h : Lw W S ty [a] out g) (t : Int) (ht : ty ≠ 5 := by decide) : Lw (W.setCell ⟨S, 1, none⟩ (.int .i64 t)) S ty [.int .i64 t] out g := by
  obtain ⟨sv, h1, h2, h3⟩ := h
  refine ⟨sv, ?_, Gs.turned h2 ((Turned.refl (fun k => k = S) W).setCell (p := ⟨S, 1, none⟩) (.inl rfl) _) (fun k hk => Gs.ne h2 h1 ht hk), h3⟩
  have := h1.setCell 1 (.int .i64 t)
  simpa using this
theorem LwI.put {w : World} {S : Nat} {ty : TypeId} {rest : List Value} {g : Option Nat} {out : List Int} {W : World} (h : LwI w S ty rest g out W) : PutP S ty rest out g w (.returned (.tuple #[])) W := by
  obtain ⟨⟨g', h1, h2⟩, hu⟩ := h
  exact ⟨g', rfl, h1, hu, h2⟩
theorem whead_any {w : World} {S : Nat} {at_ : Int} {g : Option Nat} {l : Lg} {rv : Value} (h : Wr w S at_ [] g) (hl : LgIn w rv l) (hh : headOk l.fr l.se l.mo = true) :
    Calls Try.prog 33 #[.pointer (some ⟨S, 0, none⟩), .agg (lgc l rv)] w fun e w' => PutP S 60 [.int .i64 at_] (encH l.fr l.se l.mo) g w e w' := by
  have hb := headOk_b hh
  obtain ⟨fr, se, mo, rs, wh, en⟩ := l
  simp only at hb ⊢
  have HE : Hid (encH fr se mo = (([] ++ [80, 77, 68, 82] ++ num fr.toNat) ++ num se.toNat) ++ num mo.toNat) := Lib.hid (by unfold encH pmdr; simp [List.append_assoc])
  have n1 := num_len 8 (n := fr.toNat) (by omega)
  have n2 := num_len 8 (n := se.toNat) (by omega)
  have n3 := num_len 8 (n := mo.toNat) (by omega)
  have f1 : ((fr.toNat : Nat) : Int) = fr := by omega
  have f2 : ((se.toNat : Nat) : Int) = se := by omega
  have f3 : ((mo.toNat : Nat) : Int) = mo := by omega
  have HM := Lib.hid (And.intro (show fr.toNat < 2 ^ 63 by omega) (And.intro (show se.toNat < 2 ^ 63 by omega) (show mo.toNat < 2 ^ 63 by omega)))
  have HN := Lib.hid (And.intro n1 (And.intro n2 n3))
  have HF := Lib.hid (And.intro f1 (And.intro f2 f3))
  have hb0 : Below w.heap.size w (w.alloc (.cells #[.int .i64 fr, .int .i64 se, .int .i64 mo, rv, .bool wh, .int .i64 en] 26)) := bel1 w _
  have hk0 := blk_new w #[.int .i64 fr, .int .i64 se, .int .i64 mo, rv, .bool wh, .int .i64 en] 26
  have hcv := conv_lit (w.alloc (.cells #[.int .i64 fr, .int .i64 se, .int .i64 mo, rv, .bool wh, .int .i64 en] 26)) #[.int .u8 80, .int .u8 77, .int .u8 68, .int .u8 82] 4 4
  have hrn := rng_lit (w.alloc (.cells #[.int .i64 fr, .int .i64 se, .int .i64 mo, rv, .bool wh, .int .i64 en] 26)) (4, 5) [80, 77, 68, 82]
  simp only [World.size_alloc] at hcv hrn
  have hb1 := bel1 (w.alloc (.cells #[.int .i64 fr, .int .i64 se, .int .i64 mo, rv, .bool wh, .int .i64 en] 26)) (.cells #[.int .u8 80, .int .u8 77, .int .u8 68, .int .u8 82] 5 (4, 5))
  have HP := Lib.hid (put_any ((h.below hb0).below hb1) (by decide) (show Bs ((w.alloc (.cells #[.int .i64 fr, .int .i64 se, .int .i64 mo, rv, .bool wh, .int .i64 en] 26)).alloc (.cells #[.int .u8 80, .int .u8 77, .int .u8 68, .int .u8 82] 5 (4, 5))) (.slice (some ⟨w.heap.size + 1, 0, none⟩) 4 4) [80, 77, 68, 82] from ⟨⟨rfl, _, 4, rfl, by simp, by unfold maxLen; simp, fun _ => ⟨_, _, rfl, hrn⟩⟩, by intro x hx; simp at hx; omega⟩) (by simp))
  have HK := Lib.hid (hk0.below hb1)
  have HB := Lib.hid (belT hb0 hb1)
  have hS : S ≠ w.heap.size := fun e => by have := h.lt; omega
  have hg : ∀ k, g = some k → k < w.heap.size := fun k hk => h.lt' hk
  have HG := Lib.hid (And.intro hS hg)
  clear h hl hh hb hb0 hk0 hrn hb1 n1 n2 n3 f1 f2 f3 hS hg
  simp only [lgc]
  go_enter Try.func33, Try.ntmps33
  go_wp2_with fail
  refine HP.out.mono ?_
  generalize ((w.alloc (.cells #[.int .i64 fr, .int .i64 se, .int .i64 mo, rv, .bool wh, .int .i64 en] 26)).alloc (.cells #[.int .u8 80, .int .u8 77, .int .u8 68, .int .u8 82] 5 (4, 5))) = W1 at *
  rintro e W2 hp
  obtain ⟨rfl, hI2⟩ := LwI.step (w := w) (g := g) (Turned.of_below HB.out _) (fun k hk => .inl hk) hp
  have HI := Lib.hid hI2
  have HS := Lib.hid (HK.out.turned hp.choose_spec.2.2.1 (by have := HG.out; rintro (e | e); exact this.1 e.symm; have := this.2 _ e; omega))
  clear hp hI2 HK HP HB hcv
  replace HI := Lib.hid (HI.out.below (Below.refl _ _).drew)
  replace HS := Lib.hid (HS.out.drew)
  obtain ⟨N1, N2, N3⟩ := HN.out
  go_wp2_with fail
  refine Free.any (fun W => Blk W w.heap.size #[.int .i64 fr, .int .i64 se, .int .i64 mo, rv, .bool wh, .int .i64 en] 26) (fun _ _ h hb => h.below hb) HS.out (fun st => ?_)
  refine Free.tk 0 (some 10) ?_ (hy := by intro W hW; go_simp; try with_reducible rfl)
  refine Free.tk 1 (some 11) ?_ (hy := by intro W hW; go_simp; try with_reducible rfl)
  refine Free.tk 2 (some 12) ?_ (hy := by intro W hW; go_simp; try with_reducible rfl)
  refine Free.tk 3 (some 13) ?_ (hy := by intro W hW; go_simp; try with_reducible rfl)
  refine Free.tk 4 (some 14) ?_ (hy := by intro W hW; go_simp; try with_reducible rfl)
  refine Free.tk 5 (some 15) ?_ (hy := by intro W hW; have c0 := hW.cell 0; simp only [List.getElem?_toArray, List.getElem?_cons_zero, List.getElem?_cons_succ] at c0; go_simp; try with_reducible rfl)
  refine Free.one 6 (fun Wa hba hWa => ?_)
  obtain ⟨⟨g3, hw3, hn3⟩, hu3⟩ := HI.out.below hba
  have hc := lnum_any fr.toNat HM.out.1 hw3 (by decide) (by simp only [List.length_append, List.length_nil, List.length_cons] <;> omega)
  rw [HF.out.1] at hc
  refine o_callb (some 16) (by go_simp; try first | exact ⟨rfl, rfl⟩ | rfl) (hc.mono ?_)
  rintro e Wb hp
  obtain ⟨rfl, hIb⟩ := LwI.step (w := w) (g := g) hu3 hn3 hp
  have hSb := hWa.turned hp.choose_spec.2.2.1 (hw3.ne hWa (by decide) (by decide))
  refine ⟨_, rfl, hSb, ?_⟩
  refine Free.done (fun Wc hbc hWc => ?_)
  replace HI := Lib.hid (hIb.below hbc)
  replace HS := Lib.hid hWc
  clear hp hc hIb hSb hbc hWc hba hWa hw3 hn3 hu3 st N1 N2 N3
  replace HI := Lib.hid (HI.out.below (Below.refl _ _).drew)
  replace HS := Lib.hid (HS.out.drew)
  obtain ⟨N1, N2, N3⟩ := HN.out
  go_wp2_with fail
  refine Free.any (fun W => Blk W w.heap.size #[.int .i64 fr, .int .i64 se, .int .i64 mo, rv, .bool wh, .int .i64 en] 26) (fun _ _ h hb => h.below hb) HS.out (fun st => ?_)
  refine Free.tk 0 (some 17) ?_ (hy := by intro W hW; go_simp; try with_reducible rfl)
  refine Free.tk 1 (some 18) ?_ (hy := by intro W hW; go_simp; try with_reducible rfl)
  refine Free.tk 2 (some 19) ?_ (hy := by intro W hW; go_simp; try with_reducible rfl)
  refine Free.tk 3 (some 20) ?_ (hy := by intro W hW; go_simp; try with_reducible rfl)
  refine Free.tk 4 (some 21) ?_ (hy := by intro W hW; go_simp; try with_reducible rfl)
  refine Free.tk 5 (some 22) ?_ (hy := by intro W hW; have c0 := hW.cell 1; simp only [List.getElem?_toArray, List.getElem?_cons_zero, List.getElem?_cons_succ] at c0; go_simp; try with_reducible rfl)
  refine Free.one 6 (fun Wa hba hWa => ?_)
  obtain ⟨⟨g3, hw3, hn3⟩, hu3⟩ := HI.out.below hba
  have hc := lnum_any se.toNat HM.out.2.1 hw3 (by decide) (by simp only [List.length_append, List.length_nil, List.length_cons] <;> omega)
  rw [HF.out.2.1] at hc
  refine o_callb (some 23) (by go_simp; try first | exact ⟨rfl, rfl⟩ | rfl) (hc.mono ?_)
  rintro e Wb hp
  obtain ⟨rfl, hIb⟩ := LwI.step (w := w) (g := g) hu3 hn3 hp
  have hSb := hWa.turned hp.choose_spec.2.2.1 (hw3.ne hWa (by decide) (by decide))
  refine ⟨_, rfl, hSb, ?_⟩
  refine Free.done (fun Wc hbc hWc => ?_)
  replace HI := Lib.hid (hIb.below hbc)
  replace HS := Lib.hid hWc
  clear hp hc hIb hSb hbc hWc hba hWa hw3 hn3 hu3 st N1 N2 N3
  replace HI := Lib.hid (HI.out.below (Below.refl _ _).drew)
  replace HS := Lib.hid (HS.out.drew)
  obtain ⟨N1, N2, N3⟩ := HN.out
  go_wp2_with fail
  refine Free.any (fun W => Blk W w.heap.size #[.int .i64 fr, .int .i64 se, .int .i64 mo, rv, .bool wh, .int .i64 en] 26) (fun _ _ h hb => h.below hb) HS.out (fun st => ?_)
  refine Free.tk 0 (some 24) ?_ (hy := by intro W hW; go_simp; try with_reducible rfl)
  refine Free.tk 1 (some 25) ?_ (hy := by intro W hW; go_simp; try with_reducible rfl)
  refine Free.tk 2 (some 26) ?_ (hy := by intro W hW; go_simp; try with_reducible rfl)
  refine Free.tk 3 (some 27) ?_ (hy := by intro W hW; go_simp; try with_reducible rfl)
  refine Free.tk 4 (some 28) ?_ (hy := by intro W hW; have c0 := hW.cell 2; simp only [List.getElem?_toArray, List.getElem?_cons_zero, List.getElem?_cons_succ] at c0; go_simp; try with_reducible rfl)
  refine Free.one 5 (fun Wa hba hWa => ?_)
  obtain ⟨⟨g3, hw3, hn3⟩, hu3⟩ := HI.out.below hba
  have hc := lnum_any mo.toNat HM.out.2.2 hw3 (by decide) (by simp only [List.length_append, List.length_nil, List.length_cons] <;> omega)
  rw [HF.out.2.2] at hc
  refine o_callb (some 29) (by go_simp; try first | exact ⟨rfl, rfl⟩ | rfl) (hc.mono ?_)
  rintro e Wb hp
  obtain ⟨rfl, hIb⟩ := LwI.step (w := w) (g := g) hu3 hn3 hp
  have hSb := hWa.turned hp.choose_spec.2.2.1 (hw3.ne hWa (by decide) (by decide))
  refine ⟨_, rfl, hSb, ?_⟩
  refine Free.done (fun Wc hbc hWc => ?_)
  replace HI := Lib.hid (hIb.below hbc)
  replace HS := Lib.hid hWc
  clear hp hc hIb hSb hbc hWc hba hWa hw3 hn3 hu3 st N1 N2 N3
  go_end0
  have := HI.out.put
  rw [← HE.out] at this
  exact this
theorem wrec_any {w : World} {S : Nat} {at_ : Int} {out : List Int} {g : Option Nat} {r : Rc} {bv : Value} (h : Wr w S at_ out g) (hb : Bs w bv r.bs) (hm : r.May) (h0 : 0 ≤ at_) (h1 : at_ ≤ r.tm) (hl : out.length ≤ 800000) :
    Calls Try.prog 35 #[.pointer (some ⟨S, 0, none⟩), .agg (rcl r bv).toArray] w fun e w' => PutP S 60 [.int .i64 r.tm] (out ++ rb r at_) g w e w' := by
  have hmb := hm.b
  have htm := hm.2.1
  have hbl := bd_len hm h0
  have HBY := Lib.hid (bd_byte hm at_)
  have HBD : Hid (bd r at_ = (([] ++ [r.kind]) ++ num (r.tm - at_).toNat ++ num r.n.toNat) ++ r.bs ∧ rb r at_ = num (bd r at_).length ++ bd r at_) := Lib.hid ⟨by unfold bd; simp [List.append_assoc], rfl⟩
  obtain ⟨t, k, n, bs⟩ := r
  simp only at hmb htm hbl HBD h1 ⊢
  obtain ⟨bo, bc, rfl, _, _⟩ := hb.shape
  have h62 : two62 = 4611686018427387904 := rfl
  have n1 := num_len 8 (n := (t - at_).toNat) (by omega)
  have n2 := num_len 8 (n := n.toNat) (by omega)
  have n3 := num_len 8 (n := (bd ⟨t, k, n, bs⟩ at_).length) (by omega)
  have f1 : (((t - at_).toNat : Nat) : Int) = t - at_ := by omega
  have f2 : ((n.toNat : Nat) : Int) = n := by omega
  have kk : k % 256 = k := by omega
  have HM := Lib.hid (And.intro (show (t - at_).toNat < 2 ^ 63 by omega) (And.intro (show n.toNat < 2 ^ 63 by omega) (show (bd ⟨t, k, n, bs⟩ at_).length < 2 ^ 63 by omega)))
  have HN := Lib.hid (And.intro n1 (And.intro n2 n3))
  have HF := Lib.hid (And.intro f1 f2)
  have HLn := Lib.hid (And.intro hbl hl)
  have hsb : (0 : Int) ≤ t - at_ ∧ t - at_ ≤ 4611686018427387904 := by omega
  have HBn := Lib.hid hb.bn
  have HK := Lib.hid ((blk_new w #[.int .i64 t, .int .i64 k, .int .i64 n, .slice bo bs.length bc] 42).alloc (.cells #[.slice none 0 0] 58))
  have hcb := blk_new (w.alloc (.cells #[.int .i64 t, .int .i64 k, .int .i64 n, .slice bo bs.length bc] 42)) #[.slice none 0 0] 58
  rw [World.size_alloc] at hcb
  have HC0 : Hid (LwI ((w.alloc (.cells #[.int .i64 t, .int .i64 k, .int .i64 n, .slice bo bs.length bc] 42)).alloc (.cells #[.slice none 0 0] 58)) (w.heap.size + 1) 58 [] none [] ((w.alloc (.cells #[.int .i64 t, .int .i64 k, .int .i64 n, .slice bo bs.length bc] 42)).alloc (.cells #[.slice none 0 0] 58))) := Lib.hid (LwI.start ⟨_, hcb, Og.nil _, rfl⟩)
  have HB0 := Lib.hid (belT (bel1 w (.cells #[.int .i64 t, .int .i64 k, .int .i64 n, .slice bo bs.length bc] 42)) (bel1 _ (.cells #[.slice none 0 0] 58)))
  have HW := Lib.hid h
  have hz0 : ((w.alloc (.cells #[.int .i64 t, .int .i64 k, .int .i64 n, .slice bo bs.length bc] 42)).alloc (.cells #[.slice none 0 0] 58)).heap.size = w.heap.size + 2 := by simp
  have HZ := Lib.hid hz0
  have HG := Lib.hid (And.intro h.lt (fun k (hk : g = some k) => h.lt' hk))
  clear h hb hm hcb n1 n2 n3 f1 f2 hbl hl hz0
  simp only [rcl]
  go_enter Try.func35, Try.ntmps35
  go_wp2_with fail
  generalize (w.alloc (.cells #[.int .i64 t, .int .i64 k, .int .i64 n, .slice bo bs.length bc] 42)).alloc (.cells #[.slice none 0 0] 58) = W0 at *
  have hk1 := bel1 W0 (.cells #[.int .u8 k] 5)
  have hlit : Bs (W0.alloc (.cells #[.int .u8 k] 5)) (.slice (some ⟨w.heap.size + 1 + 1, 0, none⟩) 1 1) [k] := ⟨⟨rfl, _, 1, rfl, by simp, by unfold maxLen; simp, fun _ => ⟨_, _, rfl, by have := (blk_new W0 #[.int .u8 k] 5).range 0 [.int .u8 k] rfl; rw [HZ.out] at this; exact this⟩⟩, fun x hx => by simp at hx; omega⟩
  obtain ⟨⟨g1, hw1, hn1⟩, hu1⟩ := HC0.out.below hk1
  have HP1 := Lib.hid (put_any hw1 (by decide) hlit (by simp))
  have hl1 := Lib.hid (And.intro hn1 hu1)
  have hS1 := HK.out.below hk1
  have HS1 := Lib.hid (And.intro hS1 (hw1.ne hS1 (by decide) (by decide)))
  have HZ1 := Lib.hid hk1.size
  clear hk1 hlit hw1 hn1 hu1 hS1
  refine HP1.out.mono ?_
  rintro e W2 hp
  obtain ⟨rfl, hI2⟩ := LwI.step (w := W0) (g := none) hl1.out.2 hl1.out.1 hp
  have HI := Lib.hid hI2
  have HS := Lib.hid (HS1.out.1.turned hp.choose_spec.2.2.1 HS1.out.2)
  clear hp hI2 HP1 hl1 HS1 HK HC0
  -- what is below keeps
  have hlow : ∀ {o : List Int} {W : World}, LwI W0 (w.heap.size + 1) 58 [] none o W → Below w.heap.size w W ∧ Wr W S at_ out g := fun {o W} h => by
    have hz := HZ.out
    have hw0 := HW.out.below HB0.out
    have hg := HG.out
    refine ⟨HB0.out.trans (h.u.below (by omega) (fun k hk => by rcases hk with e | e; omega; cases e)), hw0.turned h.u ?_ ?_⟩
    · rintro (e | e)
      · omega
      · cases e
    · intro k hk
      have := hg.2 k hk
      rintro (e | e)
      · omega
      · cases e
  replace hlow := @hlow
  have HLw := Lib.hid (fun (o : List Int) (W : World) (h : LwI W0 (w.heap.size + 1) 58 [] none o W) => hlow h)
  clear hlow
  -- number(At - at)
  replace HI := Lib.hid (HI.out.below (Below.refl _ _).drew)
  replace HS := Lib.hid (HS.out.drew)
  have HA := Lib.hid (And.intro HS.out (show (_ : World).cell? ⟨S, 1, none⟩ = some (.int .i64 at_) from by obtain ⟨sv, h1, _⟩ := (HLw.out _ _ HI.out).2; exact h1.cell 1))
  obtain ⟨N1, N2, N3⟩ := HN.out
  go_wp2_with fail
  refine Free.any (fun W => Blk W w.heap.size #[.int .i64 t, .int .i64 k, .int .i64 n, .slice bo bs.length bc] 42 ∧ W.cell? ⟨S, 1, none⟩ = some (.int .i64 at_)) (fun _ _ h hb => ⟨h.1.below hb, cell_below h.2 hb⟩) HA.out (fun st => ?_)
  refine Free.tk 0 (some 10) ?_ (hy := by intro W hW; go_simp; try with_reducible rfl)
  refine Free.tk 1 (some 11) ?_ (hy := by intro W hW; have c0 := hW.1.cell 0; have c1 := hW.2; simp only [List.getElem?_toArray, List.getElem?_cons_zero, List.getElem?_cons_succ] at c0; go_simp; try with_reducible rfl)
  refine Free.tk 2 (some 12) ?_ (hy := by intro W hW; go_simp; try with_reducible rfl)
  refine Free.tk 3 (some 13) ?_ (hy := by intro W hW; go_simp; try with_reducible rfl)
  refine Free.tk 4 (some 14) ?_ (hy := by intro W hW; go_simp; try with_reducible rfl)
  refine Free.tk 5 (some 15) ?_ (hy := by intro W hW; have c0 := hW.1.cell 0; have c1 := hW.2; simp only [List.getElem?_toArray, List.getElem?_cons_zero, List.getElem?_cons_succ] at c0; go_simp; try with_reducible rfl)
  refine Free.tk 6 (some 16) (v := .int .i64 (t - at_)) ?_ (hy := by intro W hW; go_simp; try (rw [IntKind.wrap_i64] <;> omega))
  refine Free.one 7 (fun Wa hba hWa => ?_)
  obtain ⟨⟨g3, hw3, hn3⟩, hu3⟩ := HI.out.below hba
  have hc := lnum_any (t - at_).toNat HM.out.1 hw3 (by decide) (by simp)
  rw [HF.out.1] at hc
  refine o_callb (some 17) (by go_simp; try first | exact ⟨rfl, rfl⟩ | rfl) (hc.mono ?_)
  rintro e Wb hp
  obtain ⟨rfl, hIb⟩ := LwI.step (w := W0) (g := none) hu3 hn3 hp
  have hSb := hWa.1.turned hp.choose_spec.2.2.1 (hw3.ne hWa.1 (by decide) (by decide))
  refine ⟨_, rfl, ⟨hSb, by obtain ⟨sv, h1, _⟩ := (HLw.out _ _ hIb).2; exact h1.cell 1⟩, ?_⟩
  refine Free.done (fun Wc hbc hWc => ?_)
  replace HI := Lib.hid (hIb.below hbc)
  replace HS := Lib.hid hWc.1
  clear hp hc hIb hSb hbc hWc hba hWa hw3 hn3 hu3 st HA
  -- number(N)
  obtain ⟨y0, y1, y2, y3⟩ : Wc.cell? ⟨w.heap.size, 0, none⟩ = some (.int .i64 t) ∧ Wc.cell? ⟨w.heap.size, 1, none⟩ = some (.int .i64 k) ∧ Wc.cell? ⟨w.heap.size, 2, none⟩ = some (.int .i64 n) ∧ Wc.cell? ⟨w.heap.size, 3, none⟩ = some (.slice bo bs.length bc) := ⟨HS.out.cell 0, HS.out.cell 1, HS.out.cell 2, HS.out.cell 3⟩
  obtain ⟨⟨g3, hw3, hn3⟩, hu3⟩ := HI.out
  have hc := lnum_any n.toNat HM.out.2.1 hw3 (by decide) (by simp only [List.length_append, List.length_nil, List.length_cons] <;> omega)
  rw [HF.out.2] at hc
  have HC := Lib.hid hc
  have HX := Lib.hid (And.intro hu3 (And.intro hn3 (hw3.ne HS.out (by decide) (by decide))))
  clear hc hu3 hn3 hw3
  go_wp2_with fail
  refine HC.out.mono ?_
  rintro e Wd hp
  obtain ⟨rfl, hId⟩ := LwI.step (w := W0) (g := none) HX.out.1 HX.out.2.1 hp
  replace HS := Lib.hid (HS.out.turned hp.choose_spec.2.2.1 HX.out.2.2)
  replace HI := Lib.hid hId
  clear hp hId HC HX y0 y1 y2 y3
  -- the Bytes
  obtain ⟨y0, y1, y2, y3⟩ : Wd.cell? ⟨w.heap.size, 0, none⟩ = some (.int .i64 t) ∧ Wd.cell? ⟨w.heap.size, 1, none⟩ = some (.int .i64 k) ∧ Wd.cell? ⟨w.heap.size, 2, none⟩ = some (.int .i64 n) ∧ Wd.cell? ⟨w.heap.size, 3, none⟩ = some (.slice bo bs.length bc) := ⟨HS.out.cell 0, HS.out.cell 1, HS.out.cell 2, HS.out.cell 3⟩
  obtain ⟨⟨g3, hw3, hn3⟩, hu3⟩ := HI.out
  have hc := put_any hw3 (by decide) (HBn.out.keep (HLw.out _ _ HI.out).1).1 (by simp only [List.length_append, List.length_nil, List.length_cons] <;> omega)
  have HC := Lib.hid hc
  have HX := Lib.hid (And.intro hu3 (And.intro hn3 (hw3.ne HS.out (by decide) (by decide))))
  clear hc hu3 hn3 hw3
  go_wp2_with fail
  refine HC.out.mono ?_
  rintro e We hp
  obtain ⟨rfl, hIe⟩ := LwI.step (w := W0) (g := none) HX.out.1 HX.out.2.1 hp
  replace HS := Lib.hid (HS.out.turned hp.choose_spec.2.2.1 HX.out.2.2)
  rw [← HBD.out.1] at hIe
  replace HI := Lib.hid hIe
  clear hp hIe HC HX y0 y1 y2 y3
  obtain ⟨Q, hQ⟩ : ∃ Q, bd ⟨t, k, n, bs⟩ at_ = Q := ⟨_, rfl⟩
  have HRB : Hid (rb ⟨t, k, n, bs⟩ at_ = num Q.length ++ Q) := by rw [HBD.out.2, hQ]; exact Lib.hid rfl
  rw [hQ] at HI HBY HM HN HLn
  clear HBD hQ N1 N2 N3
  obtain ⟨N1, N2, N3⟩ := HN.out
  obtain ⟨N4, N5⟩ := HLn.out
  -- number(len), put
  have HV0 := Lib.hid (LwI.start (HLw.out _ _ HI.out).2)
  have HVB := Lib.hid (HLw.out _ _ HI.out).1
  obtain ⟨⟨gc, ⟨sv, hcb, hog, hge⟩, hn3⟩, hu3⟩ := HI.out
  obtain ⟨so, sc, rfl, _, _⟩ := hog.shape
  have HCl := Lib.hid (And.intro hcb (And.intro hog (And.intro hge hn3)))
  clear hcb hog hge hn3 hu3 HI
  replace HV0 := Lib.hid (HV0.out.below (Below.refl _ _).drew)
  have HCb := Lib.hid (And.intro HCl.out.1.drew HS.out.drew)
  go_wp2_with fail
  refine Free.any (fun W => Blk W (w.heap.size + 1) #[.slice so Q.length sc] 58 ∧ Blk W w.heap.size #[.int .i64 t, .int .i64 k, .int .i64 n, .slice bo bs.length bc] 42) (fun _ _ h hb => ⟨h.1.below hb, h.2.below hb⟩) HCb.out (fun st => ?_)
  refine Free.tk 0 (some 24) ?_ (hy := by intro W hW; go_simp; try with_reducible rfl)
  refine Free.tk 1 (some 25) ?_ (hy := by intro W hW; go_simp; try with_reducible rfl)
  refine Free.tk 2 (some 26) ?_ (hy := by intro W hW; go_simp; try with_reducible rfl)
  refine Free.tk 3 (some 27) ?_ (hy := by intro W hW; have c0 := hW.1.cell 0; simp only [List.getElem?_toArray, List.getElem?_cons_zero] at c0; go_simp; try with_reducible rfl)
  refine Free.tk 4 (some 28) ?_ (hy := by intro W hW; go_simp; try with_reducible rfl)
  refine Free.one 5 (fun Wa hba hWa => ?_)
  obtain ⟨⟨g4, hw4, hn4⟩, hu4⟩ := HV0.out.below hba
  have hc := lnum_any Q.length HM.out.2.2 hw4 (by decide) (by omega)
  have hoa := (HCl.out.2.1.below (Below.refl _ _).drew).below hba
  refine o_callb (some 29) (by go_simp; try first | exact ⟨rfl, rfl⟩ | rfl) (hc.mono ?_)
  rintro e Wb hp
  obtain ⟨rfl, hIb⟩ := LwI.step (w := We) (g := g) hu4 hn4 hp
  have hgc : ∀ k, blkOf (.slice so Q.length sc) = some k → ¬ (k = S ∨ g4 = some k) := fun k hk => by
    have h1 := HCl.out.2.2.2 k (by rw [← HCl.out.2.2.1]; exact hk)
    have h2 := Gs.lt HCl.out.2.1 hk
    have h3 := HZ.out
    have h4 := HG.out.1
    rintro (e | e)
    · rcases h1 with h1 | h1
      · cases h1
      · omega
    · rcases h1 with h1 | h1
      · cases h1
      · rcases hn4 k e with e | e
        · have := HG.out.2 k e; omega
        · omega
  have hob := Gs.turned hoa hp.choose_spec.2.2.1 hgc
  have hSb := hWa.2.turned hp.choose_spec.2.2.1 (hw4.ne hWa.2 (by decide) (by decide))
  have hCb := hWa.1.turned hp.choose_spec.2.2.1 (hw4.ne hWa.1 (by decide) (by decide))
  refine ⟨_, rfl, ⟨hCb, hSb⟩, ?_⟩
  refine Free.done (fun Wc hbc hWc => ?_)
  have HV1 := Lib.hid (hIb.below hbc)
  have HO1 : Hid (Og Wc (.slice so Q.length sc) Q) := Lib.hid (Gs.below hob hbc)
  have HC1 := Lib.hid hWc
  clear hp hc hIb hgc hob hSb hCb hbc hWc hba hWa hw4 hn4 hu4 st HV0 HCb hoa
  replace HV1 := Lib.hid (HV1.out.below (Below.refl _ _).drew)
  replace HO1 : Hid (Og Wc.drew (.slice so Q.length sc) Q) := Lib.hid (HO1.out.below (Below.refl _ _).drew)
  have HC2 := Lib.hid (And.intro HC1.out.1.drew HC1.out.2.drew)
  clear HC1
  go_wp2_with fail
  refine Free.any (fun W => Blk W (w.heap.size + 1) #[.slice so Q.length sc] 58 ∧ Blk W w.heap.size #[.int .i64 t, .int .i64 k, .int .i64 n, .slice bo bs.length bc] 42) (fun _ _ h hb => ⟨h.1.below hb, h.2.below hb⟩) HC2.out (fun st => ?_)
  refine Free.tk 0 (some 30) ?_ (hy := by intro W hW; go_simp; try with_reducible rfl)
  refine Free.tk 1 (some 31) ?_ (hy := by intro W hW; go_simp; try with_reducible rfl)
  refine Free.tk 2 (some 32) ?_ (hy := by intro W hW; go_simp; try with_reducible rfl)
  refine Free.tk 3 (some 33) ?_ (hy := by intro W hW; have c0 := hW.1.cell 0; simp only [List.getElem?_toArray, List.getElem?_cons_zero] at c0; go_simp; try with_reducible rfl)
  refine Free.one 4 (fun Wa hba hWa => ?_)
  obtain ⟨⟨g4, hw4, hn4⟩, hu4⟩ := HV1.out.below hba
  have hc := put_any hw4 (by decide) ((HO1.out.below hba).bs HBY.out) (by simp only [List.length_append]; omega)
  refine o_callb (some 34) (by go_simp; try first | exact ⟨rfl, rfl⟩ | rfl) (hc.mono ?_)
  rintro e Wb hp
  obtain ⟨rfl, hIb⟩ := LwI.step (w := We) (g := g) hu4 hn4 hp
  have hSb := hWa.2.turned hp.choose_spec.2.2.1 (hw4.ne hWa.2 (by decide) (by decide))
  have hCb := hWa.1.turned hp.choose_spec.2.2.1 (hw4.ne hWa.1 (by decide) (by decide))
  refine ⟨_, rfl, ⟨hCb, hSb⟩, ?_⟩
  refine Free.done (fun Wd2 hbc hWc => ?_)
  have HV2 := Lib.hid (hIb.below hbc)
  have HS2 := Lib.hid hWc.2
  clear hp hc hIb hSb hCb hbc hWc hba hWa hw4 hn4 hu4 st HV1 HC2 HO1
  have y0 := HS2.out.cell 0
  simp only [List.getElem?_toArray, List.getElem?_cons_zero] at y0
  obtain ⟨⟨g5, hw5, hn5⟩, hu5⟩ := HV2.out
  have hE := hw5.last t
  obtain ⟨sv, hb5, _⟩ := hw5
  have y1 := hb5.cell 1
  have z1 := hb5.frozen 1
  simp only [List.getElem?_toArray, List.getElem?_cons_zero, List.getElem?_cons_succ] at y1
  have HE : Hid (PutP S 60 [.int .i64 t] (out ++ rb ⟨t, k, n, bs⟩ at_) g w (.returned (.tuple #[])) (Wd2.setCell ⟨S, 1, none⟩ (.int .i64 t))) := by
    rw [HRB.out, ← List.append_assoc]
    have hzz := HVB.out.size
    refine Lib.hid ⟨g5, rfl, hE, ?_, fun k hk => ?_⟩
    · exact ((Turned.of_below HVB.out (fun k => k = S ∨ g = some k)).trans hu5 (fun k hk => .inl hk)).trans ((Turned.refl (fun k => k = S) Wd2).setCell (p := ⟨S, 1, none⟩) (.inl rfl) _) (fun k hk => .inl (.inl hk))
    · rcases hn5 k hk with e | e
      · exact .inl e
      · right; omega
  clear hE hb5 hn5 hu5 HV2 HS2
  go_wp2
  go_end0
  exact HE.out
end Go.Proofs.Ytjffclcjijpmiaa.LG
