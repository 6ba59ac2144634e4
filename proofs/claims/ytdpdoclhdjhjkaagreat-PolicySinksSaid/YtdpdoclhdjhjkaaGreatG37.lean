/-
  Layer 13: a flow and the document's, marked one behind the other. No walk. Layer 13: made of the statements: a flow with marks, and the document's: a walk.
-/
import Derived.Test.YtdpdoclhdjhjkaaGreatG27
set_option linter.unusedVariables false
set_option linter.unusedSimpArgs false
namespace Go.Proofs.YtdpdoclhdjhjkaaGreat
open Go.RowKit
set_option linter.unusedVariables false

/-- A flow and another one of the document's, apart, both made behind w0; the blocks X are others'. -/
def Tw2 (X : Nat → Prop) (w0 : World) (S : Nat) (f r : T.Fl) (c : Array Value) (W : World) : Prop := ∃ g ct pv F, c = rfc r.fr r.se r.mo (tbV g r.ss.length ct) pv ∧ At W S f F ∧ RvI W r g ct pv ∧ (∀ k, rvB g pv k → ¬ F k) ∧ (∀ k, F k → w0.heap.size ≤ k) ∧ Below w0.heap.size w0 W ∧ ∀ k, X k → k < W.heap.size ∧ ¬ F k ∧ ¬ rvB g pv k
section
variable {X : Nat → Prop} {w0 W W' : World} {S : Nat} {f r : T.Fl} {c : Array Value}
theorem Tw2.of (h : Two X X w0 S f c W) : Tw2 X w0 S f f c W := by
  obtain ⟨g, ct, pv, F, h1, h2, h3, h4, h5, h6, h7, h8⟩ := h
  exact ⟨g, ct, pv, F, h1, h2, h3, h4, h5, h6, h8⟩
theorem Tw2.two (h : Tw2 X w0 S f f c W) : Two X X w0 S f c W := by
  obtain ⟨g, ct, pv, F, h1, h2, h3, h4, h5, h6, h8⟩ := h
  exact ⟨g, ct, pv, F, h1, h2, h3, h4, h5, h6, fun k hk => ⟨(h8 k hk).1, (h8 k hk).2.1⟩, h8⟩
theorem Tw2.b (h : Tw2 X w0 S f r c W) : Below w0.heap.size w0 W := by obtain ⟨g, ct, pv, F, h1, h2, h3, h4, h5, h6, h8⟩ := h; exact h6
theorem Tw2.ok (h : Tw2 X w0 S f r c W) : Ok1 5 c ∧ FOk f := by
  obtain ⟨g, ct, pv, F, rfl, h2, h3, h4, h5, h6, h8⟩ := h; exact ⟨h3.ok _ _ _, h2.ok⟩
theorem Tw2.after (h : Tw2 X w0 S f r c W) (hb : Below W.heap.size W W') : Tw2 X w0 S f r c W' := by
  obtain ⟨g, ct, pv, F, h1, h2, h3, h4, h5, h6, h8⟩ := h
  exact ⟨g, ct, pv, F, h1, h2.below hb, h3.below hb, h4, h5, h6.trans (hb.mono h6.size), fun k hk => ⟨by have := (h8 k hk).1; have := hb.size; omega, (h8 k hk).2⟩⟩
/-- One of the others' blocks is written. -/
theorem Tw2.turned (h : Tw2 X w0 S f r c W) {G : Nat → Prop} (ht : Turned G W W') (hG : ∀ k, G k → X k ∧ w0.heap.size ≤ k) : Tw2 X w0 S f r c W' := by
  obtain ⟨g, ct, pv, F, h1, h2, h3, h4, h5, h6, h8⟩ := h
  exact ⟨g, ct, pv, F, h1, h2.turned ht (fun k hk e => (h8 k (hG k e).1).2.1 hk), h3.stay (fun k hk => ht.block k (h3.lt hk) (fun e => (h8 k (hG k e).1).2.2 hk)), h4, h5, h6.trans (ht.below h6.size (fun k e => (hG k e).2)), fun k hk => ⟨by have := (h8 k hk).1; have := ht.size; omega, (h8 k hk).2⟩⟩
/-- More blocks are others'. -/
theorem Tw2.more {Y : Nat → Prop} (h : Tw2 X w0 S f r c W) (hb : Below W.heap.size W W') (hY : ∀ k, Y k → X k ∨ (W.heap.size ≤ k ∧ k < W'.heap.size)) : Tw2 Y w0 S f r c W' := by
  obtain ⟨g, ct, pv, F, h1, h2, h3, h4, h5, h6, h8⟩ := h
  refine ⟨g, ct, pv, F, h1, h2.below hb, h3.below hb, h4, h5, h6.trans (hb.mono h6.size), fun k hk => ?_⟩
  rcases hY k hk with e | e
  · exact ⟨by have := (h8 k e).1; have := hb.size; omega, (h8 k e).2⟩
  · exact ⟨e.2, fun e' => by have := h2.lt e'; omega, fun e' => by have := h3.lt e'; omega⟩
theorem Tw2.mark (h : Tw2 X w0 S f r c W) (p : T.Pl) (hp : Pi p) (n s : Int) (hn : I64 n) (hs : W32 s) : Calls Tryz.prog 11 #[.pointer (some ⟨S, 0, none⟩), .agg (pla p), .int .i64 n, .int .u32 s] W fun e W' =>
    e = .returned (.int .i64 (f.mark p n s).2) ∧ Tw2 X w0 S (f.mark p n s).1 r c W' ∧ Turned (fun k => w0.heap.size ≤ k ∧ ¬ X k) W W' := by
  obtain ⟨g, ct, pv, F, h1, h2, h3, h4, h5, h6, h8⟩ := h
  refine (Mark_any h2 p hp n s hn hs).mono fun e W' ⟨e1, F', k1, k2, k3⟩ => ⟨e1, ⟨g, ct, pv, F', h1, k1, h3.stay fun k hk => k3.block k (h3.lt hk) (h4 k hk), fun k hk e => ?_, fun k hk => ?_, h6.trans (k3.below h6.size h5), fun k hk => ⟨?_, fun e => ?_, (h8 k hk).2.2⟩⟩, k3.mono fun k hk => ⟨h5 k hk, fun e => (h8 k e).2.1 hk⟩⟩
  · rcases k2 k e with e' | e'
    · exact h4 k hk e'
    · have := h3.lt hk; omega
  · rcases k2 k hk with e' | e'
    · exact h5 k e'
    · have := h6.size; omega
  · have := (h8 k hk).1; have := k3.size; omega
  · rcases k2 k e with e' | e'
    · exact (h8 k hk).2.1 e'
    · have := (h8 k hk).1; omega
theorem Tw2.rmark (h : Tw2 X w0 S f r c W) (hr : FOk r) (p : T.Pl) (hp : Pi p) (n s : Int) (hn : I64 n) (hs : W32 s) (hl : 0 ≤ n → n ≤ 65536 → (r.ps.length : Int) + n ≤ 900000) : Calls Tryz.prog 56 #[.agg c, .agg (pla p), .int .i64 n, .int .u32 s] W fun e W' =>
    ∃ c', e = .returned (.tuple #[.agg c', .int .i64 (r.mark p n s).2]) ∧ Tw2 X w0 S f (r.mark p n s).1 c' W' ∧ Below W.heap.size W W' := by
  obtain ⟨g, ct, pv, F, rfl, h2, h3, h4, h5, h6, h8⟩ := h
  refine (RMark_any (fr := r.fr) (se := r.se) (mo := r.mo) (ss := r.ss) (ps := r.ps) h3 hr.bd hr.sets p hp n s hn hs hl).mono ?_
  rintro e W' ⟨c', e1, ⟨g', ct', pv', rfl, k1, k2⟩, hb⟩
  refine ⟨_, e1, ⟨g', ct', pv', F, rfl, h2.below hb, k1, fun k hk e => ?_, h5, h6.trans (hb.mono h6.size), fun k hk => ⟨?_, (h8 k hk).2.1, fun e => ?_⟩⟩, hb⟩
  · rcases k2 k hk with e' | e'
    · exact h4 k e' e
    · have := h2.lt e; omega
  · have := (h8 k hk).1; have := hb.size; omega
  · rcases k2 k e with e' | e'
    · exact (h8 k hk).2.2 e'
    · have := (h8 k hk).1; omega
end
theorem tw2_new {w0 W1 W2 : World} {S : Nat} {f : T.Fl} {F : Nat → Prop} {c : Array Value} (h : At W1 S f F) (hF : ∀ k, F k → w0.heap.size + 1 ≤ k) (h0 : Below w0.heap.size w0 W1) (hz : w0.heap.size < W1.heap.size) {W : World} (hb0 : Below W1.heap.size W1 W) (hb : Below W.heap.size W W2) (hr : RvO W (fun _ => False) W2 f c) : Tw2 (fun k => k = w0.heap.size) w0 S f f c W2 := by
  obtain ⟨g, ct, pv, rfl, h1, h2⟩ := hr
  have z1 := hb0.size
  have z2 := hb.size
  refine ⟨g, ct, pv, F, rfl, (h.below hb0).below hb, h1, fun k hk e => ?_, fun k hk => by have := hF k hk; omega, (h0.trans (hb0.mono h0.size)).trans (hb.mono (by omega)), fun k hk => ⟨by omega, fun e => by have := hF k e; omega, fun e => ?_⟩⟩
  · rcases h2 k hk with e' | e'
    · exact e'
    · have := h.lt e; omega
  · rcases h2 k e with e' | e'
    · exact e'
    · omega
/-- Places that are marked. -/
def MksIn (w : World) (v : Value) (l : List T.Pr) : Prop := PrIn w v l ∧ ∀ x ∈ l, Pi x.1 ∧ W32 x.2
theorem MksIn.below {w w' : World} {v : Value} {l : List T.Pr} (h : MksIn w v l) (hb : Below w.heap.size w w') : MksIn w' v l := ⟨h.1.below hb, h.2⟩
/-- The flow behind the marks. -/
def mkF (l : List T.Pr) : T.Fl := l.foldl (fun f m => (f.mark m.1 1 m.2).1) ⟨2, 2, 65536, [0], []⟩
theorem mkF_succ {l : List T.Pr} {k : Nat} {x : T.Pr} (h : l[k]? = some x) : mkF (l.take (k + 1)) = ((mkF (l.take k)).mark x.1 1 x.2).1 := by
  obtain ⟨h1, rfl⟩ := List.getElem?_eq_some_iff.1 h
  rw [List.take_succ_eq_append_getElem h1]
  unfold mkF
  rw [List.foldl_append]; rfl
theorem mark1_len (f : T.Fl) (p : T.Pl) (s : Int) : ((f.mark p 1 s).1).ps.length ≤ f.ps.length + 1 := by
  unfold T.Fl.mark
  dsimp only
  split
  · exact Nat.le_add_right _ _
  · split
    · exact Nat.le_add_right _ _
    · split
      · have := T.marks_len f.ps p s (1 : Int).toNat
        exact this
      · exact Nat.le_add_right _ _
theorem mark_form (f : T.Fl) (p : T.Pl) (n s : Int) : ((f.mark p n s).1).fr = f.fr ∧ ((f.mark p n s).1).se = f.se ∧ ((f.mark p n s).1).mo = f.mo := by
  unfold T.Fl.mark
  dsimp only
  repeat' split
  all_goals exact ⟨rfl, rfl, rfl⟩
end Go.Proofs.YtdpdoclhdjhjkaaGreat
namespace Go.Proofs.YtdpdoclhdjhjkaaGreat
open Go.RowKit
set_option maxHeartbeats 8000000
set_option maxRecDepth 100000
set_option linter.unusedVariables false
set_option linter.unusedSimpArgs false

theorem PrIn.fix {w : World} {v : Value} {l : List T.Pr} (h : PrIn w v l) {k : Nat} (hk : k < l.length) : ∃ g o c x, v = .slice (some ⟨g, o, none⟩) l.length c ∧ l[k]? = some x ∧ g < w.heap.size ∧ ∀ W, Below w.heap.size w W → W.cell? ⟨g, o + k * 3, none⟩ = some (.int .i64 x.1.1) ∧ W.cell? ⟨g, o + k * 3 + 1, none⟩ = some (.int .i64 x.1.2) ∧ W.cell? ⟨g, o + k * 3 + 2, none⟩ = some (.int .u32 x.2) := by
  obtain ⟨g, o, c, x, e, hl, hr⟩ := h.at_ hk
  obtain ⟨q1, q2, q3⟩ := rng3 hr
  exact ⟨g, o, c, x, e, hl, World.block_lt_of_cell? _ _ q1, fun W hb => ⟨cell_below q1 hb, cell_below q2 hb, cell_below q3 hb⟩⟩
theorem res_tR {fn : Func} {p q : Tmp} {ty : TypeId} {n : Nat} (ht : RowT ty n) (h : fn.results = #[.tmp p, .cell q ty]) (tmps : Array Value) {W : World} {R : Nat} {c : Array Value} (hr : Rf ty n W R c) (hp : tmps.getD q undef = .pointer (some ⟨R, 0, none⟩)) :
    (results fn tmps).run Tryz.prog W = .ok (.tuple #[tmps.getD p undef, .agg c]) W := by
  have hp' : tmps[q]?.getD undef = .pointer (some ⟨R, 0, none⟩) := by simpa using hp
  simp [results, h, hp', asAddr, run_load_R ht hr]
theorem made_any {v : Value} {ms : List T.Pr} {w : World} (h : MksIn w v ms) (hl : ms.length ≤ 100000) :
    Calls Tryz.prog 27 #[v] w fun e w' => ∃ S c, e = .returned (.tuple #[.pointer (some ⟨S, 0, none⟩), .agg c]) ∧ Tw2 (fun _ => False) w S (mkF ms) (mkF ms) c w' := by
  have HM := Lib.hid h
  obtain ⟨oa, ca, rfl, _, hla⟩ := h.1.shape
  have hff := blk_new (w.alloc (.cells zF 59)) #[.int .i64 2, .int .i64 2] 26
  rw [World.size_alloc] at hff
  have hb0 := bel2 w (.cells zF 59) (.cells #[.int .i64 2, .int .i64 2] 26)
  have HB0 := Lib.hid hb0
  have HF0 := Lib.hid hff
  have HR0 := Lib.hid ((zF_ok.new 59 w).alloc (.cells #[.int .i64 2, .int .i64 2] 26))
  have x0 := hff.cell 0
  have x1 := hff.cell 1
  clear h hff hb0
  go_enter Tryz.func27, Tryz.ntmps27
  go_wp2_with fail
  refine (New_any 2 2 65536 (by omega) _).mono ?_
  rintro e w2 ⟨S, F, rfl, hat, hF, hb⟩
  have HB2 := Lib.hid (HB0.out.trans (hb.mono HB0.out.size))
  have HF2 := Lib.hid (HF0.out.below hb)
  have HR2 := Lib.hid (HR0.out.below hb)
  have HAt := Lib.hid hat
  have HLo : Hid (∀ k, F k → w.heap.size + 1 ≤ k) := fun k hk => by have := hF k hk; simp only [World.size_alloc] at this; omega
  clear hb hat hF x0 x1 HB0 HF0 HR0
  have x0 := HF2.out.cell 0
  have x1 := HF2.out.cell 1
  go_wp2_with fail
  refine (RNew_any 2 2 65536 _).mono ?_
  rintro e w4 ⟨c, rfl, hro, hb⟩
  have hT := tw2_new HAt.out HLo.out HB2.out HR2.out.lt (Below.refl _ _) hb hro
  have hok := hT.ok.1
  have hba := bel1 w4 (.cells c 59)
  have hR4 := HR2.out.below hb
  have HT := Lib.hid (hT.more (Y := fun k => k = w4.heap.size ∨ k = w.heap.size) hba (fun k hk => by rcases hk with e | e; exact .inr ⟨by omega, by simp; omega⟩; exact .inl e))
  have HZ : Hid ((zF.size = 5) ∧ Ok1 5 c) := ⟨rfl, hok⟩
  have HR := Lib.hid (hok.new 59 w4)
  have HRr := Lib.hid (hR4.below hba)
  have HRz := Lib.hid hR4.lt
  clear hro hb hT hok hba x0 x1 HF2 HB2 HAt hR4
  go_wp2_with (first | ((with_reducible apply wp_store_Rn _ rowF); (exact HZ.out); (rfl); (rfl)))
  have hBl : w.heap.size < w4.heap.size := by
    have := HRz.out
    omega
  generalize w4.heap.size = B at HT HR hBl ⊢
  go_loopw [8] (fun i wr => ∃ (k : Nat) (c : Array Value), k ≤ ms.length ∧ i = .int .i64 (k : Int) ∧ (mkF (ms.take k)).ps.length ≤ k ∧ Hid (Tw2 (fun k => k = B ∨ k = w.heap.size) w S (mkF (ms.take k)) (mkF (ms.take k)) c wr) ∧ Hid (Rf 59 5 wr B c) ∧ Hid (Rf 59 5 wr w.heap.size zF)) (fun i _ => ms.length + 1 - natI i)
  case atStart => exact ⟨0, c, by omega, rfl, by rw [List.take_zero]; exact Nat.le_refl _, by rw [List.take_zero]; exact HT.out, HR.out, HRr.out⟩
  case round =>
    obtain ⟨k, c, hk, rfl, hps, HT, HR, HRr⟩ := hrel
    by_cases hlt : k < ms.length
    · have hi : (k : Int) < (ms.length : Int) := by omega
      obtain ⟨g1, o1, c1, x, e1, l1, hg1, hq⟩ := PrIn.fix HM.out.1 hlt
      simp at e1
      obtain ⟨rfl, rfl⟩ := e1
      obtain ⟨hpi, hxs⟩ := HM.out.2 x (List.mem_of_getElem? l1)
      have HQ := Lib.hid hq
      have HN := Lib.hid (mkF_succ l1)
      have HL := Lib.hid (show (mkF (ms.take (k + 1))).ps.length ≤ k + 1 by rw [mkF_succ l1]; have := mark1_len (mkF (ms.take k)) x.1 x.2; omega)
      have hBw := HR.out.lt
      have HOk := Lib.hid HT.out.ok.2
      generalize mkF (ms.take k) = f at HT HN HOk hps
      have HB0 : Hid (Below w.heap.size w wr.drew) := HT.out.b.trans ((Below.refl _ _).drew.mono HT.out.b.size)
      clear hq l1
      go_wp2
      refine Free.any (fun W => Below w.heap.size w W) (fun W W' h hb => h.trans (hb.mono h.size)) HB0.out (fun st => ?_)
      refine Free.tk 0 (some 23) ?_
      refine Free.tk 1 (some 24) ?_
      refine Free.tk 2 (some 25) ?_
      refine Free.tk 3 (some 26) ?_
      refine Free.tk 4 (some 27) ?_
      refine Free.tk 5 (some 28) (v := .agg #[.int .i64 x.1.1, .int .i64 x.1.2]) ?_ (hy := by intro W hW; obtain ⟨q1, q2, q3⟩ := HQ.out W hW; go_simp; try with_reducible rfl)
      refine Free.tk 6 (some 29) ?_
      refine Free.tk 7 (some 30) ?_
      refine Free.tk 8 (some 31) ?_
      refine Free.tk 9 (some 32) ?_
      refine Free.tk 10 (some 33) ?_ (hy := by intro W hW; obtain ⟨q1, q2, q3⟩ := HQ.out W hW; go_simp; try with_reducible rfl)
      refine Free.one 11 (fun W hb hW => ?_)
      refine o_callb (some 34) (by go_simp; first | exact ⟨rfl, rfl⟩ | rfl) ?_
      refine (Tw2.mark ((HT.out.after (Below.refl _ _).drew).after hb) x.1 hpi 1 x.2 ⟨by omega, by omega⟩ hxs).mono ?_
      rintro e V ⟨rfl, hT2, ht2⟩
      have hR2 : Rf 59 5 V B c := (HR.out.drew.below hb).turned ht2 (fun e => e.2 (.inl rfl))
      have hr2 : Rf 59 5 V w.heap.size zF := (HRr.out.drew.below hb).turned ht2 (fun e => e.2 (.inr rfl))
      refine ⟨_, rfl, hT2.b, ?_⟩
      refine Free.done (fun W2 hb2 hW2 => ?_)
      have HT2 := Lib.hid (hT2.after hb2)
      have HR2 := Lib.hid (hR2.below hb2)
      have HRr2 := Lib.hid (hr2.below hb2)
      have hBw2 := HR2.out.lt
      clear hb hW hT2 ht2 hR2 hr2 hb2 hW2 HT HR HRr HB0 st hBw
      have HB0 : Hid (Below w.heap.size w W2.drew) := HT2.out.b.trans ((Below.refl _ _).drew.mono HT2.out.b.size)
      go_wp2
      refine Free.any (fun W => Below w.heap.size w W) (fun W W' h hb => h.trans (hb.mono h.size)) HB0.out (fun st => ?_)
      refine Free.tk 1 (some 37) ?_
      refine Free.tk 2 (some 38) ?_
      refine Free.tk 3 (some 39) ?_
      refine Free.tk 4 (some 40) ?_
      refine Free.tk 5 (some 41) (v := .agg #[.int .i64 x.1.1, .int .i64 x.1.2]) ?_ (hy := by intro W hW; obtain ⟨q1, q2, q3⟩ := HQ.out W hW; go_simp; try with_reducible rfl)
      refine Free.tk 6 (some 42) ?_
      refine Free.tk 7 (some 43) ?_
      refine Free.tk 8 (some 44) ?_
      refine Free.tk 9 (some 45) ?_
      refine Free.tk 10 (some 46) ?_ (hy := by intro W hW; obtain ⟨q1, q2, q3⟩ := HQ.out W hW; go_simp; try with_reducible rfl)
      refine Free.one 0 (fun W hb hW => ?_)
      have hR3 := HR2.out.drew.below hb
      have hT3 := (HT2.out.after (Below.refl _ _).drew).after hb
      have hr3 := HRr2.out.drew.below hb
      refine o_load_R (d := some 36) rfl rowF hR3 rfl rfl ?_
      refine ⟨hW, ?_⟩
      refine Free.one 11 (fun W3 hb3 hW3 => ?_)
      refine o_callb (some 47) (by go_simp; first | exact ⟨rfl, rfl⟩ | rfl) ?_
      refine (Tw2.rmark (hT3.after hb3) HOk.out x.1 hpi 1 x.2 ⟨by omega, by omega⟩ hxs (by intro _ _; omega)).mono ?_
      rintro e V ⟨c2, rfl, hT4, hb4⟩
      have hR4 := (hR3.below hb3).below hb4
      have hr4 := (hr3.below hb3).below hb4
      have hok2 := hT4.ok.1
      refine ⟨_, rfl, hT4.b, ?_⟩
      refine Free.tk 12 (some 35) ?_
      refine Free.tk 13 (some 48) ?_
      refine Free.tk 14 (some 49) ?_
      refine Free.one 15 (fun W5 hb5 hW5 => ?_)
      refine o_store_R (d := none) rfl c2 rowF (hR4.below hb5) hok2 rfl rfl rfl ?_
      have hT6 := (hT4.after hb5).turned (turned_setRow _ B c2) (fun k e => ⟨.inl e, by omega⟩)
      have hR6 := (hR4.below hb5).set hok2
      have hr6 := (hr4.below hb5).setOther (show w.heap.size ≠ B by omega) c2
      refine ⟨hT6.b, ?_⟩
      refine Free.done (fun W7 hb7 hW7 => ?_)
      have HT7 := Lib.hid (hT6.after hb7)
      have HR7 := Lib.hid (hR6.below hb7)
      have HRr7 := Lib.hid (hr6.below hb7)
      rw [← HN.out] at HT7
      clear hb hW hR3 hT3 hr3 hb3 hW3 hT4 hb4 hR4 hr4 hb5 hW5 hT6 hR6 hr6 hb7 hW7 st HB0 HT2 HR2 HRr2
      go_wp2
      exact ⟨⟨k + 1, c2, by omega, by go_num, HL.out, HT7, HR7, HRr7⟩, by simp [natI]; omega⟩
    · obtain rfl : k = ms.length := by omega
      have HB0 : Hid (Below w.heap.size w wr.drew) := HT.out.b.trans ((Below.refl _ _).drew.mono HT.out.b.size)
      have hBw := HR.out.lt
      rw [List.take_length] at HT
      go_wp2
      refine Free.any (fun W => Below w.heap.size w W) (fun W W' h hb => h.trans (hb.mono h.size)) HB0.out (fun st => ?_)
      refine Free.tk 0 (some 50) ?_
      refine Free.tk 2 (some 2) ?_
      refine Free.one 1 (fun W hb hW => ?_)
      have hR1 := HR.out.drew.below hb
      have hT1 := (HT.out.after (Below.refl _ _).drew).after hb
      have hr1 := HRr.out.drew.below hb
      have hok := hT1.ok.1
      refine o_load_R (d := some 51) rfl rowF hR1 rfl rfl ?_
      refine ⟨hW, ?_⟩
      refine Free.one 3 (fun W2 hb2 hW2 => ?_)
      refine o_store_R (d := none) rfl c rowF (hr1.below hb2) hok rfl rfl rfl ?_
      have hT2 := (hT1.after hb2).turned (turned_setRow _ w.heap.size c) (fun k e => ⟨.inr e, by omega⟩)
      have hr2 := (hr1.below hb2).set hok
      refine ⟨hT2.b, ?_⟩
      refine Free.done (fun W3 hb3 hW3 => ?_)
      have HT3 : Hid (Tw2 (fun _ => False) w S (mkF ms) (mkF ms) c W3) := (hT2.after hb3).more (Below.refl _ _) (fun k hk => hk.elim)
      have HR3 := Lib.hid (hr2.below hb3)
      clear hb hW hR1 hT1 hr1 hok hb2 hW2 hT2 hr2 hb3 hW3 st HB0 HT HR HRr
      go_wp2
      exact bodyPost_ret (res_tR rowF (fn := Tryz.f27) rfl _ HR3.out rfl) rfl ⟨S, c, rfl, HT3.out⟩
end Go.Proofs.YtdpdoclhdjhjkaaGreat
