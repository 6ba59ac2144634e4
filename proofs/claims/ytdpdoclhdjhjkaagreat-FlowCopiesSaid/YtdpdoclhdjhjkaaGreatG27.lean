/-
  Layer 12: known of the statements: a set that goes on: a walk. Layer 12: what the statements' steps ask.
-/
import Derived.Test.YtdpdoclhdjhjkaaGreatG24
set_option linter.unusedVariables false
set_option linter.unusedSimpArgs false
namespace Go.Proofs.YtdpdoclhdjhjkaaGreat
open Go.RowKit
set_option maxHeartbeats 8000000
set_option maxRecDepth 100000
set_option linter.unusedVariables false
set_option linter.unusedSimpArgs false

theorem kn1 : (T.Fl.mk 1 1 4 [0] []).mark (13, 0) 2 1 = (⟨1, 1, 4, [0, 1], [((13, 0), 1), ((13, 1), 1)]⟩, 0) := by rfl
theorem kn2 : (T.Fl.mk 1 1 4 [0, 1] [((13, 0), 1), ((13, 1), 1)]).apply [((1, 1), [(13, 0)])] = (⟨1, 1, 4, [0, 1], [((1, 1), 1), ((13, 0), 1), ((13, 1), 1)]⟩, 0) := by rfl
theorem kn3 : T.may 1 1 (1, 1) = true := by rfl
theorem kn4 : T.get [((1, 1), 1), ((13, 0), 1), ((13, 1), 1)] (1, 1) = 1 := by rfl
theorem PlsIn.lit {w : World} {g : Nat} {l : List T.Pl} (h : Blk w g (l.flatMap plc).toArray 35) (hl : l.length ≤ maxLen) (hp : ∀ p ∈ l, Pi p) : PlsIn w (.slice (some ⟨g, 0, none⟩) l.length l.length) l := by
  refine ⟨⟨flat_len plc plc_sz l, _, _, rfl, Nat.le_refl _, hl, fun _ => ⟨g, 0, rfl, fun j u hj => ?_⟩⟩, hp⟩
  rw [h.cell, Nat.zero_add]
  simpa using hj
theorem TsIn.lit {w : World} {g : Nat} {l : List T.Tc} {cs : List Value} (h : Blk w g cs.toArray 90) (hc : TcC w l cs) (hcl : cs.length = l.length * 3) (hl : l.length ≤ maxLen) (hp : ∀ t ∈ l, Pi t.1) : TsIn w (.slice (some ⟨g, 0, none⟩) l.length l.length) l := by
  refine ⟨cs, ⟨hcl, _, _, rfl, Nat.le_refl _, hl, fun _ => ⟨g, 0, rfl, fun j u hj => ?_⟩⟩, hc, hp⟩
  rw [h.cell, Nat.zero_add]
  simpa using hj
theorem Chg.below {w W W' : World} {S : Nat} {f : T.Fl} {F : Nat → Prop} (h : Chg W S f F W') (hb : Below w.heap.size w W) (hF : ∀ k, F k → w.heap.size ≤ k) : ∃ F', At W' S f F' ∧ (∀ k, F' k → w.heap.size ≤ k) ∧ Below w.heap.size w W' ∧ Turned F W W' ∧ (∀ k, F' k → F k ∨ W.heap.size ≤ k) := by
  obtain ⟨F', h1, h2, h3⟩ := h
  refine ⟨F', h1, fun k hk => ?_, hb.trans (h3.below hb.size hF), h3, h2⟩
  rcases h2 k hk with e | e
  · exact hF k e
  · have := hb.size; omega
theorem known_any (w : World) : Calls Tryz.prog 9 #[] w fun e w' => e = .returned (.bool true) ∧ Below w.heap.size w w' := by
  go_enter Tryz.func9, Tryz.ntmps9
  go_wp2_with fail
  refine (New_any 1 1 4 (by omega) _).mono ?_
  rintro e w1 ⟨S, F, rfl, hat, hF, hb⟩
  have HAt := Lib.hid hat
  have HB := Lib.hid hb
  have hFl : ∀ k, F k → k < w1.heap.size := fun k hk => hat.lt hk
  clear hat hb
  have b1 := (blk_new w1 #[.int .i64 13, .int .i64 0] 35).alloc (.cells #[.int .i64 1, .int .i64 1] 35)
  have b2 := blk_new (w1.alloc (.cells #[.int .i64 13, .int .i64 0] 35)) #[.int .i64 1, .int .i64 1] 35
  rw [World.size_alloc] at b2
  have hb2 := bel2 w1 (.cells #[.int .i64 13, .int .i64 0] 35) (.cells #[.int .i64 1, .int .i64 1] 35)
  have HB2 := Lib.hid (HB.out.trans (hb2.mono HB.out.size))
  have HA2 := Lib.hid (HAt.out.below hb2)
  have HB1 := Lib.hid b1
  have HB3 := Lib.hid b2
  clear b1 b2 hb2
  go_wp2_with fail
  generalize (w1.alloc (.cells #[.int .i64 13, .int .i64 0] 35)).alloc (.cells #[.int .i64 1, .int .i64 1] 35) = W2 at HB2 HA2 HB1 HB3 ⊢
  refine (Mark_any HA2.out (13, 0) ⟨⟨by decide, by decide⟩, by decide, by decide⟩ 2 1 ⟨by decide, by decide⟩ ⟨by decide, by decide⟩).mono ?_
  rintro e w3 ⟨rfl, hch⟩
  rw [kn1] at hch ⊢
  obtain ⟨F3, hat3, hF3, hb3, ht3, hn3⟩ := hch.below HB2.out hF
  have c1 := HB1.out.turned ht3 (fun e => by have := hFl _ e; omega)
  have c2 := HB3.out.turned ht3 (fun e => by have := hFl _ e; omega)
  have HA3 := Lib.hid hat3
  have HBe3 := Lib.hid hb3
  have x0 := c1.cell 0
  have x1 := c1.cell 1
  have y0 := c2.cell 0
  have y1 := c2.cell 1
  have HC2 := Lib.hid c2
  have hzz := c2.lt
  have r1 := (blk_new w3 #[.int .i64 13, .int .i64 0] 35).alloc (.cells #[.int .i64 1, .int .i64 1, .slice (some ⟨w3.heap.size, 0, none⟩) 1 1] 90)
  have r2 := blk_new (w3.alloc (.cells #[.int .i64 13, .int .i64 0] 35)) #[.int .i64 1, .int .i64 1, .slice (some ⟨w3.heap.size, 0, none⟩) 1 1] 90
  rw [World.size_alloc] at r2
  have hts : ∀ W, Turned F3 ((w3.alloc (.cells #[.int .i64 13, .int .i64 0] 35)).alloc (.cells #[.int .i64 1, .int .i64 1, .slice (some ⟨w3.heap.size, 0, none⟩) 1 1] 90)) W → TsIn W (.slice (some ⟨w3.heap.size + 1, 0, none⟩) 1 1) [((1, 1), [(13, 0)])] := fun W ht =>
    TsIn.lit (l := [((1, 1), [(13, 0)])]) (cs := [.int .i64 1, .int .i64 1, .slice (some ⟨w3.heap.size, 0, none⟩) 1 1]) (r2.turned ht (fun e => by have := HA3.out.lt e; omega)) ⟨_, [], rfl, PlsIn.lit (l := [(13, 0)]) (r1.turned ht (fun e => by have := HA3.out.lt e; omega)) (by simp [maxLen]) (by simp [Pi, I64]), rfl⟩ rfl (by simp [maxLen]) (by simp [Pi, I64])
  have HTs := Lib.hid hts
  have hb4 := bel2 w3 (.cells #[.int .i64 13, .int .i64 0] 35) (.cells #[.int .i64 1, .int .i64 1, .slice (some ⟨w3.heap.size, 0, none⟩) 1 1] 90)
  have HB4 := Lib.hid hb4
  have hF3l : ∀ k, F3 k → k ≠ w1.heap.size + 1 := fun k hk e => by
    have := HB3.out.lt
    rcases hn3 k hk with e' | e'
    · have := hFl k e'; omega
    · omega
  clear hat3 hb3 ht3 hch c1 c2 r1 r2 hts hb4
  go_wp2_with fail
  refine (Apply_any (HA3.out.below HB4.out) HTs.out (by simp)).mono ?_
  rintro e w5 ⟨rfl, hch⟩
  rw [kn2] at hch ⊢
  obtain ⟨F5, hat5, hF5, hb5, ht5, _⟩ := hch.below (HBe3.out.trans (HB4.out.mono HBe3.out.size)) hF3
  have c5 := (HC2.out.below HB4.out).turned ht5 (fun e => hF3l _ e rfl)
  have y5 := c5.cell 0
  have y6 := c5.cell 1
  have HA5 := Lib.hid hat5
  have HBe5 := Lib.hid hb5
  clear hch hat5 hb5 ht5 c5 x0 x1 y0 y1
  go_wp2_with fail
  refine (Get_any HA5.out (1, 1) ⟨⟨by decide, by decide⟩, by decide, by decide⟩).mono ?_
  rintro e w6 ⟨rfl, hb6⟩
  have HB6 := Lib.hid (HBe5.out.trans (hb6.mono HBe5.out.size))
  simp only [kn3, kn4, if_true]
  clear hb6 y5 y6
  go_wp2
  go_ret
  exact ⟨rfl, HB6.out⟩
end Go.Proofs.YtdpdoclhdjhjkaaGreat
namespace Go.Proofs.YtdpdoclhdjhjkaaGreat
open Go.RowKit
set_option maxHeartbeats 8000000
set_option maxRecDepth 100000
set_option linter.unusedVariables false
set_option linter.unusedSimpArgs false

theorem cell_of_below {w W : World} (hb : Below w.heap.size w W) {g : Nat} (hg : g < w.heap.size) (o : Nat) : W.cell? ⟨g, o, none⟩ = w.cell? ⟨g, o, none⟩ := by
  unfold World.cell?
  rw [hb.block g hg]
theorem rng_turned {W W' : World} {g o : Nat} {l : List Value} (h : W.rangeAt g o l) {G : Nat → Prop} (ht : Turned G W W') (hn : ¬ G g) (hl : 0 < l.length) : W'.rangeAt g o l := fun j u hj => by
  have h1 := h j u hj
  have hg := World.block_lt_of_cell? _ _ h1
  unfold World.cell? at h1 ⊢
  rw [ht.block g hg hn]; exact h1
theorem two_new {w0 W1 W2 : World} {S : Nat} {f : T.Fl} {F : Nat → Prop} {c : Array Value} (h : At W1 S f F) (hF : ∀ k, F k → w0.heap.size ≤ k) (h0 : Below w0.heap.size w0 W1) {W : World} (hb0 : Below W1.heap.size W1 W) (hb : Below W.heap.size W W2) (hr : RvO W (fun _ => False) W2 f c)  : Two (fun _ => False) (fun _ => False) w0 S f c W2 := by
  obtain ⟨g, ct, pv, rfl, h1, h2⟩ := hr
  refine ⟨g, ct, pv, F, rfl, (h.below hb0).below hb, h1, fun k hk e => ?_, hF, (h0.trans (hb0.mono h0.size)).trans (hb.mono (by have := h0.size; have := hb0.size; omega)), (fun k hk => hk.elim), fun k hk => hk.elim⟩
  rcases h2 k hk with e' | e'
  · exact e'
  · have := h.lt e; have := hb0.size; omega
/-- What is not more than is done. -/
theorem vast_no {l : List Ac} (h : vastS l = false) : l.length ≤ 30 ∧ ∀ a ∈ l, ¬ (200 < a.n ∧ a.n ≤ 65536) ∧ a.ts.length ≤ 20 := by
  unfold vastS at h
  simp only [Bool.or_eq_false_iff, decide_eq_false_iff_not] at h
  refine ⟨by omega, fun a ha => ?_⟩
  have h1 := List.any_eq_false.1 h.2 a ha
  simp only [Bool.or_eq_true, decide_eq_true_eq, not_or] at h1
  refine ⟨h1.1, ?_⟩
  have h2 := h1.2
  unfold broadS at h2
  simp only [Bool.or_eq_true, decide_eq_true_eq, not_or] at h2
  omega
theorem step_len (f : T.Fl) (a : Ac) (hn : ¬ (200 < a.n ∧ a.n ≤ 65536)) (ht : a.ts.length ≤ 20) : (stepS f a).ps.length ≤ f.ps.length + 200 := by
  unfold stepS
  split
  · unfold T.Fl.mark
    dsimp only
    split
    · exact Nat.le_add_right _ _
    · split
      · exact Nat.le_add_right _ _
      · rename_i h1 h2
        split
        · have := T.marks_len f.ps a.p a.s a.n.toNat
          show (T.marks a.p a.s a.n.toNat f.ps).length ≤ _
          omega
        · exact Nat.le_add_right _ _
  · unfold T.Fl.apply
    dsimp only
    split
    · exact Nat.le_add_right _ _
    · split
      · have := T.lays_len f.ps f.ps a.ts
        show (T.lays f.ps f.ps a.ts).length ≤ _
        omega
      · exact Nat.le_add_right _ _
theorem step_form (f : T.Fl) (a : Ac) : (stepS f a).fr = f.fr ∧ (stepS f a).se = f.se ∧ (stepS f a).mo = f.mo := by
  unfold stepS T.Fl.mark T.Fl.apply
  dsimp only
  repeat' split
  all_goals exact ⟨rfl, rfl, rfl⟩
end Go.Proofs.YtdpdoclhdjhjkaaGreat
