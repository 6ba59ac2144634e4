/-
  Layer 12: what a flow is, what its methods give: the texts of the landed code, gathered. Layer 12: does of the statements: a call by both: a walk. Layer 12: does of the statements: a call by both: the walk.
-/
import Derived.Test.YtdpdoclhdjhjkaaGreatG17
import Derived.Test.YtdpdoclhdjhjkaaGreatG15
import Derived.Test.YtdpdoclhdjhjkaaGreatG14
import Derived.Test.YtdpdoclhdjhjkaaGreatG16
import Derived.Test.YtdpdoclhdjhjkaaGreatG19
set_option linter.unusedVariables false
set_option linter.unusedSimpArgs false

namespace Go.Proofs.YtdpdoclhdjhjkaaGreat
open Go.RowKit
set_option maxHeartbeats 8000000
set_option maxRecDepth 100000
set_option linter.unusedVariables false
set_option linter.unusedSimpArgs false

theorem rt_stay {w w' : World} {g c : Nat} {ss : List Int} (h : L2.RT w g c ss) (hk : w'.heap[g]? = w.heap[g]?) : L2.RT w' g c ss := by
  refine ⟨h.1, ?_⟩
  rcases h.2 with hnil | ⟨g', cap, cur, e, hb, hgg, rest⟩
  · exact .inl hnil
  · simp at e
    obtain ⟨rfl, rfl⟩ := e
    exact .inr ⟨g, c, cur, rfl, hb, hk.trans hgg, rest⟩
theorem RvI.lt {w : World} {f : T.Fl} {g ct : Nat} {pv : Value} (h : RvI w f g ct pv) {k : Nat} (hk : rvB g pv k) : k < w.heap.size := by
  rcases hk with rfl | e
  · exact h.t.lt
  · exact Rd.lt h.p (by omega) e
theorem RvI.stay {w w' : World} {f : T.Fl} {g ct : Nat} {pv : Value} (h : RvI w f g ct pv) (hk : ∀ k, rvB g pv k → w'.heap[k]? = w.heap[k]?) : RvI w' f g ct pv :=
  ⟨rt_stay h.t (hk g (.inl rfl)), h.p.stay fun k e => hk k (.inr e)⟩
/-- A flow and the document's, apart, both made behind w0; the blocks X are others' than the flow's, the blocks Z also than the document's. -/
def Two (X Z : Nat → Prop) (w0 : World) (S : Nat) (f : T.Fl) (c : Array Value) (W : World) : Prop := ∃ g ct pv F, c = rfc f.fr f.se f.mo (tbV g f.ss.length ct) pv ∧ At W S f F ∧ RvI W f g ct pv ∧ (∀ k, rvB g pv k → ¬ F k) ∧ (∀ k, F k → w0.heap.size ≤ k) ∧ Below w0.heap.size w0 W ∧ (∀ k, X k → k < W.heap.size ∧ ¬ F k) ∧ ∀ k, Z k → k < W.heap.size ∧ ¬ F k ∧ ¬ rvB g pv k
theorem Two.after {X Z : Nat → Prop} {w0 : World} {S : Nat} {f : T.Fl} {c : Array Value} {W W' : World} (h : Two X Z w0 S f c W) (hb : Below W.heap.size W W') : Two X Z w0 S f c W' := by
  obtain ⟨g, ct, pv, F, h1, h2, h3, h4, h5, h6, h7, h8⟩ := h
  exact ⟨g, ct, pv, F, h1, h2.below hb, h3.below hb, h4, h5, h6.trans (hb.mono h6.size), fun k hk => ⟨by have := (h7 k hk).1; have := hb.size; omega, (h7 k hk).2⟩, fun k hk => ⟨by have := (h8 k hk).1; have := hb.size; omega, (h8 k hk).2⟩⟩
/-- One of the others' blocks is written. -/
theorem Two.turned {X Z : Nat → Prop} {w0 : World} {S : Nat} {f : T.Fl} {c : Array Value} {W W' : World} (h : Two X Z w0 S f c W) {G : Nat → Prop} (ht : Turned G W W') (hG : ∀ k, G k → Z k ∧ w0.heap.size ≤ k) : Two X Z w0 S f c W' := by
  obtain ⟨g, ct, pv, F, h1, h2, h3, h4, h5, h6, h7, h8⟩ := h
  exact ⟨g, ct, pv, F, h1, h2.turned ht (fun k hk e => (h8 k (hG k e).1).2.1 hk), h3.stay (fun k hk => ht.block k (h3.lt hk) (fun e => (h8 k (hG k e).1).2.2 hk)), h4, h5, h6.trans (ht.below h6.size (fun k e => (hG k e).2)), fun k hk => ⟨by have := (h7 k hk).1; have := ht.size; omega, (h7 k hk).2⟩, fun k hk => ⟨by have := (h8 k hk).1; have := ht.size; omega, (h8 k hk).2⟩⟩
/-- More blocks are others'. -/
theorem Two.more {X Z Y Y2 : Nat → Prop} {w0 : World} {S : Nat} {f : T.Fl} {c : Array Value} {W W' : World} (h : Two X Z w0 S f c W) (hb : Below W.heap.size W W') (hY : ∀ k, Y k → X k ∨ (W.heap.size ≤ k ∧ k < W'.heap.size)) (hY2 : ∀ k, Y2 k → Z k ∨ (W.heap.size ≤ k ∧ k < W'.heap.size)) : Two Y Y2 w0 S f c W' := by
  obtain ⟨g, ct, pv, F, h1, h2, h3, h4, h5, h6, h7, h8⟩ := h
  refine ⟨g, ct, pv, F, h1, h2.below hb, h3.below hb, h4, h5, h6.trans (hb.mono h6.size), fun k hk => ?_, fun k hk => ?_⟩
  · rcases hY k hk with e | e
    · exact ⟨by have := (h7 k e).1; have := hb.size; omega, (h7 k e).2⟩
    · exact ⟨e.2, fun e' => by have := h2.lt e'; omega⟩
  · rcases hY2 k hk with e | e
    · exact ⟨by have := (h8 k e).1; have := hb.size; omega, (h8 k e).2⟩
    · exact ⟨e.2, fun e' => by have := h2.lt e'; omega, fun e' => by have := h3.lt e'; omega⟩
theorem Two.ok {X Z : Nat → Prop} {w0 : World} {S : Nat} {f : T.Fl} {c : Array Value} {W : World} (h : Two X Z w0 S f c W) : Ok1 5 c ∧ FOk f := by
  obtain ⟨g, ct, pv, F, rfl, h2, h3, h4, h5, h6, h7, h8⟩ := h
  exact ⟨h3.ok _ _ _, h2.ok⟩
theorem st_two (X Z : Nat → Prop) (w0 : World) (S : Nat) (f : T.Fl) (c : Array Value) : Stable (fun W => Two X Z w0 S f c W) := fun _ _ h hb => h.after hb
/-- What a call makes of a flow. -/
def stepS (f : T.Fl) (a : Ac) : T.Fl := if a.k = 1 then (f.mark a.p a.n a.s).1 else (f.apply a.ts).1
/-- The boxes of does. -/
structure DsI (X Z : Nat → Prop) (w0 w : World) (S : Nat) (f r : T.Fl) (F : Nat → Prop) (g ct : Nat) (pv : Value) (a : Ac) (tv : Value) (W : World) : Prop where
  b : Below w0.heap.size w0 W
  at_ : At W S f F
  rv : RvI W r g ct pv
  b1 : Rf 59 5 W w.heap.size (rfc r.fr r.se r.mo (tbV g r.ss.length ct) pv)
  b2 : Rf 38 6 W (w.heap.size + 1) (acc a tv)
  b3 : Rf 59 5 W (w.heap.size + 2) zF
  sep : ∀ k, rvB g pv k → ¬ F k
  fF : ∀ k, F k → w0.heap.size ≤ k ∧ (k < w.heap.size ∨ w.heap.size + 3 ≤ k)
  rl : ∀ k, rvB g pv k → k < w.heap.size
  sz : w0.heap.size ≤ w.heap.size
  xs : ∀ k, X k → k < w.heap.size ∧ ¬ F k
  zs : ∀ k, Z k → k < w.heap.size ∧ ¬ F k ∧ ¬ rvB g pv k
  t : Turned (fun k => w0.heap.size ≤ k ∧ ¬ X k) w W
section
variable {X Z : Nat → Prop} {w0 w W W' : World} {S : Nat} {f f' r : T.Fl} {F : Nat → Prop} {g ct : Nat} {pv tv : Value} {a : Ac}
theorem DsI.after (h : DsI X Z w0 w S f r F g ct pv a tv W) (hb : Below W.heap.size W W') : DsI X Z w0 w S f r F g ct pv a tv W' :=
  ⟨h.b.trans (hb.mono h.b.size), h.at_.below hb, h.rv.below hb, h.b1.below hb, h.b2.below hb, h.b3.below hb, h.sep, h.fF, h.rl, h.sz, h.xs, h.zs, h.t.trans (Turned.of_below hb (fun _ => False)) (fun _ e => e.elim)⟩
theorem DsI.chg (h : DsI X Z w0 w S f r F g ct pv a tv W) (hc : Chg W S f' F W') : ∃ F', DsI X Z w0 w S f' r F' g ct pv a tv W' := by
  obtain ⟨F', h1, h2, h3⟩ := hc
  have hz : w.heap.size + 3 ≤ W.heap.size := h.b3.lt
  have nb : ∀ j, j < 3 → ¬ F (w.heap.size + j) := fun j hj e => by have := (h.fF _ e).2; omega
  have n0 : ¬ F w.heap.size := nb 0 (by omega)
  refine ⟨F', h.b.trans (h3.below h.b.size (fun k e => (h.fF k e).1)), h1, h.rv.stay fun k hk => h3.block k (h.rv.lt hk) (h.sep k hk), h.b1.turned h3 n0, h.b2.turned h3 (nb 1 (by omega)), h.b3.turned h3 (nb 2 (by omega)), fun k hk e => ?_, fun k hk => ?_, h.rl, h.sz, fun k hk => ⟨(h.xs k hk).1, fun e => ?_⟩, fun k hk => ⟨(h.zs k hk).1, fun e => ?_, (h.zs k hk).2.2⟩, h.t.trans h3 (fun k hk => .inl ⟨(h.fF k hk).1, fun e => (h.xs k e).2 hk⟩)⟩
  · rcases h2 k e with e' | e'
    · exact h.sep k hk e'
    · have := h.rl k hk; omega
  · rcases h2 k hk with e' | e'
    · exact h.fF k e'
    · have := h.sz; exact ⟨by omega, .inr (by omega)⟩
  · rcases h2 k e with e' | e'
    · exact (h.xs k hk).2 e'
    · have := (h.xs k hk).1; omega
  · rcases h2 k e with e' | e'
    · exact (h.zs k hk).2.1 e'
    · have := (h.zs k hk).1; omega
theorem DsI.cells (h : DsI X Z w0 w S f r F g ct pv a tv W) : W.cell? ⟨w.heap.size + 1, 0, none⟩ = some (.int .i64 a.k) ∧ W.cell? ⟨w.heap.size + 1, 1, none⟩ = some (.int .i64 a.n) ∧ W.cell? ⟨w.heap.size + 1, 2, none⟩ = some (.int .i64 a.p.1) ∧ W.cell? ⟨w.heap.size + 1, 3, none⟩ = some (.int .i64 a.p.2) ∧ W.cell? ⟨w.heap.size + 1, 4, none⟩ = some (.int .u32 a.s) ∧ W.cell? ⟨w.heap.size + 1, 5, none⟩ = some tv :=
  ⟨h.b2.cell 0, h.b2.cell 1, h.b2.cell 2, h.b2.cell 3, h.b2.cell 4, h.b2.cell 5⟩
/-- The document's flow behind a call; it is handed on. -/
theorem DsI.fin {c : Array Value} (h : DsI X Z w0 w S f' r F g ct pv a tv W) (hb : Below W.heap.size W W') (hr : RvO W (rvB g pv) W' f' c) {B : Nat} (hB : B = W'.heap.size) :
    (Rf 59 5 (W'.alloc (.cells c 59)) B c ∧ Rf 59 5 (W'.alloc (.cells c 59)) (w.heap.size + 2) zF ∧ Ok1 5 c) ∧ Two X Z w0 S f' c ((W'.alloc (.cells c 59)).setRow (w.heap.size + 2) c) ∧ Turned (fun k => w0.heap.size ≤ k ∧ ¬ X k) w ((W'.alloc (.cells c 59)).setRow (w.heap.size + 2) c) := by
  obtain ⟨g', ct', pv', rfl, h1, h2⟩ := hr
  have hok : Ok1 5 (rfc f'.fr f'.se f'.mo (tbV g' f'.ss.length ct') pv') := h1.ok _ _ _
  have hz : w.heap.size + 3 ≤ W.heap.size := h.b3.lt
  subst hB
  have hba := bel1 W' (.cells (rfc f'.fr f'.se f'.mo (tbV g' f'.ss.length ct') pv') 59)
  have tt := turned_setRow (W'.alloc (.cells (rfc f'.fr f'.se f'.mo (tbV g' f'.ss.length ct') pv') 59)) (w.heap.size + 2) (rfc f'.fr f'.se f'.mo (tbV g' f'.ss.length ct') pv')
  have nF : ∀ k, F k → ¬ k = w.heap.size + 2 := fun k hk e => by have := (h.fF k hk).2; omega
  have rvl : ∀ k, rvB g' pv' k → k ≠ w.heap.size + 2 := fun k hk => by
    rcases h2 k hk with e | e
    · have := h.rl k e; omega
    · omega
  refine ⟨⟨hok.new _ _, (h.b3.below hb).alloc _, hok⟩, ⟨g', ct', pv', F, rfl, ((h.at_.below hb).below hba).turned tt nF, (h1.below hba).stay fun k hk => tt.block k ((h1.below hba).lt hk) (rvl k hk), fun k hk e => ?_, fun k hk => (h.fF k hk).1, ?_, fun k hk => ⟨?_, (h.xs k hk).2⟩, fun k hk => ⟨?_, (h.zs k hk).2.1, fun e => ?_⟩⟩, ((h.t.trans (Turned.of_below hb (fun _ => False)) (fun _ e => e.elim)).trans (Turned.of_below hba (fun _ => False)) (fun _ e => e.elim)).trans tt (fun k e => .inr (by omega))⟩
  · rcases h2 k hk with e' | e'
    · exact h.sep k e' e
    · have := h.at_.lt e; omega
  · have hz2 := hb.size
    have hz0 := h.b.size
    have := h.sz
    exact ((h.b.trans (hb.mono h.b.size)).trans (hba.mono (by omega))).trans (tt.below (by simp; omega) (fun k e => by omega))
  · have := (h.xs k hk).1; have := hb.size; have := hba.size; have := tt.size; omega
  · have := (h.zs k hk).1; have := hb.size; have := hba.size; have := tt.size; omega
  · rcases h2 k e with e' | e'
    · exact (h.zs k hk).2.2 e'
    · have := (h.zs k hk).1; omega
end
end Go.Proofs.YtdpdoclhdjhjkaaGreat
namespace Go.Proofs.YtdpdoclhdjhjkaaGreat
open Go.RowKit
set_option maxHeartbeats 8000000
set_option maxRecDepth 100000
set_option linter.unusedVariables false
set_option linter.unusedSimpArgs false

theorem does_any {X Z : Nat → Prop} {w0 w : World} {S : Nat} {f : T.Fl} {c : Array Value} (h : Two X Z w0 S f c w) (a : Ac) (ha : a.Ok) {tv : Value} (HT : ∀ W, Below w0.heap.size w0 W → TsIn W tv a.ts) (hn : ¬ (200 < a.n ∧ a.n ≤ 65536)) (ht : a.ts.length ≤ 20) (hl : f.ps.length ≤ 800000) :
    Calls Tryz.prog 21 #[.pointer (some ⟨S, 0, none⟩), .agg c, .agg (acc a tv)] w fun e w' => ∃ c', e = .returned (.tuple #[.agg c', .bool true]) ∧ Two X Z w0 S (stepS f a) c' w' ∧ Turned (fun k => w0.heap.size ≤ k ∧ ¬ X k) w w' := by
  obtain ⟨g, ct, pv, F, rfl, hat, hrv, hsep, hlo, hbw, hxx, hzz⟩ := h
  have hok := hat.ok
  have HB0 := Lib.hid hbw
  have h1 := (hrv.ok f.fr f.se f.mo).new 59 w
  have htv : tv.oneCell' = true := by obtain ⟨_, _, e, _⟩ := (HT w0 (Below.refl _ _)).shape; rw [e]; rfl
  have h2 := (acc_ok a htv).new 38 (w.alloc (.cells (rfc f.fr f.se f.mo (tbV g f.ss.length ct) pv) 59))
  have h3 := zF_ok.new 59 ((w.alloc (.cells (rfc f.fr f.se f.mo (tbV g f.ss.length ct) pv) 59)).alloc (.cells (acc a tv) 38))
  simp only [World.size_alloc] at h2 h3
  have hb3 : Below w.heap.size w (((w.alloc (.cells (rfc f.fr f.se f.mo (tbV g f.ss.length ct) pv) 59)).alloc (.cells (acc a tv) 38)).alloc (.cells zF 59)) := (bel2 w _ _).alloc (by simp; omega) _
  have H : Hid (DsI X Z w0 w S f f F g ct pv a tv (((w.alloc (.cells (rfc f.fr f.se f.mo (tbV g f.ss.length ct) pv) 59)).alloc (.cells (acc a tv) 38)).alloc (.cells zF 59))) :=
    ⟨hbw.trans (hb3.mono hbw.size), hat.below hb3, hrv.below hb3, (h1.alloc _).alloc _, h2.alloc _, h3, hsep, fun k hk => ⟨hlo k hk, .inl (hat.lt hk)⟩, fun k hk => hrv.lt hk, hbw.size, hxx, hzz, Turned.of_below hb3 _⟩
  obtain ⟨oa, ca, rfl, _, _⟩ := hrv.p.shape
  obtain ⟨ot, ctt, rfl, _, _⟩ := (HT w0 (Below.refl _ _)).shape
  have HTt := Lib.hid HT
  clear hat hrv hsep hlo hbw hxx hzz h1 h2 h3 hb3 HT htv
  obtain ⟨y0, y1, y2, y3, y4, y5⟩ := H.out.cells
  have hac := ha
  obtain ⟨⟨k0, k1⟩, ⟨n0, n1⟩, hpi, hs32⟩ := ha
  go_enter Tryz.func21, Tryz.ntmps21
  by_cases hk : a.k = 1
  · have hst : stepS f a = (f.mark a.p a.n a.s).1 := by unfold stepS; rw [if_pos hk]
    rw [hst]
    go_wp2_with fail
    refine (Mark_any H.out.at_ a.p hpi a.n a.s ⟨n0, n1⟩ hs32).mono ?_
    rintro e w1 ⟨rfl, hch⟩
    obtain ⟨F1, hd1⟩ := H.out.chg hch
    have H1 := Lib.hid hd1
    clear hch hd1 H y0 y1 y2 y3 y4 y5
    obtain ⟨y0, y1, y2, y3, y4, y5⟩ := H1.out.cells
    go_wp2_with (first | ((with_reducible refine wp_load_R rowF H1.out.b1 ?_ ?_); (kernel_rfl)))
    refine (RMark_any H1.out.rv hok.bd hok.sets a.p hpi a.n a.s ⟨n0, n1⟩ hs32 (by intro h0 h6; have : a.n ≤ 200 := by omega
                                                                                  omega)).mono ?_
    rintro e w2 ⟨c2, rfl, hr2, hb2⟩
    obtain ⟨⟨hf1, hf2, hf3⟩, hT, hTt⟩ := H1.out.fin hb2 hr2 rfl
    have HF := Lib.hid hf1
    have HR := Lib.hid (And.intro hf2 hf3)
    have HTw := Lib.hid (And.intro hT hTt)
    have HZ : Hid ((zF.size = 5) ∧ Ok1 5 c2) := ⟨rfl, hf3⟩
    clear hf1 hf2 hf3 hT hTt hr2 hb2 H1 y0 y1 y2 y3 y4 y5
    obtain ⟨E, hE⟩ : ∃ E, Hid (E = (f.mark a.p a.n a.s).2) := ⟨_, rfl⟩
    have hee : ((f.mark a.p a.n a.s).2 == (f.mark a.p a.n a.s).2) = true := by simp
    rw [← hE.out] at hee ⊢
    go_wp2_with (first | ((with_reducible apply wp_store_Rn _ rowF); (exact HZ.out); (rfl); (rfl)) | ((with_reducible refine wp_load_R rowF HF.out ?_ ?_); (kernel_rfl)) | ((with_reducible refine wp_store_R _ rowF HR.out ?_ ?_ ?_); (kernel_rfl); (kernel_rfl)))
    refine bodyPost_ret (res_R_tmp rowF (fn := Tryz.f21) rfl _ (HR.out.1.set HR.out.2) rfl) rfl ⟨c2, ?_, HTw.out⟩
    first | rfl | (simp; done)
  · have hst : stepS f a = (f.apply a.ts).1 := by unfold stepS; rw [if_neg hk]
    rw [hst]
    go_wp2_with fail
    refine (Decides_any H.out.at_ (HTt.out _ H.out.b)).mono ?_
    rintro e w1 ⟨rfl, hb⟩
    replace H := Lib.hid (H.out.after hb)
    clear hb y0 y1 y2 y3 y4 y5
    obtain ⟨y0, y1, y2, y3, y4, y5⟩ := H.out.cells
    go_wp2_with (first | ((with_reducible refine wp_load_R rowF H.out.b1 ?_ ?_); (kernel_rfl)))
    refine (RMayAll_any f.fr f.se f.mo hok.bd (tv := tbV g f.ss.length ct) rfl H.out.rv.p.one (HTt.out _ H.out.b)).mono ?_
    rintro e w2 ⟨rfl, hb⟩
    replace H := Lib.hid (H.out.after hb)
    clear hb y0 y1 y2 y3 y4 y5
    obtain ⟨y0, y1, y2, y3, y4, y5⟩ := H.out.cells
    cases hmay : T.mayAll f.fr f.se a.ts with
    | true =>
      have hd : f.decides a.ts = (T.dec f.ps 0 a.ts, 0) := by unfold T.Fl.decides; rw [if_neg (by simp [hmay])]
      rw [hd]
      clear hmay hd
      have hdb := dec_bd hok.small (s := 0) (by omega) a.ts
      go_wp2_with (first | ((with_reducible refine wp_load_Rg ?_ rowF H.out.b1 ?_ ?_); (kernel_rfl); (rfl)))
      refine (RDec_any f.fr f.se f.mo ⟨rfl, H.out.rv.p, hok.small⟩ (HTt.out _ H.out.b)).mono ?_
      rintro e w3 ⟨rfl, hb⟩
      replace H := Lib.hid (H.out.after hb)
      clear hb y0 y1 y2 y3 y4 y5
      obtain ⟨y0, y1, y2, y3, y4, y5⟩ := H.out.cells
      generalize T.dec f.ps 0 a.ts = dd at hdb ⊢
      go_wp2_with fail
      refine (Apply_any H.out.at_ (fun W ht => HTt.out W (H.out.b.trans (ht.below H.out.b.size (fun k e => (H.out.fF k e).1)))) (by omega)).mono ?_
      rintro e w4 ⟨rfl, hch⟩
      obtain ⟨F1, hd1⟩ := H.out.chg hch
      have H1 := Lib.hid hd1
      clear hch hd1 H y0 y1 y2 y3 y4 y5
      obtain ⟨y0, y1, y2, y3, y4, y5⟩ := H1.out.cells
      go_wp2_with (first | ((with_reducible refine wp_load_R rowF H1.out.b1 ?_ ?_); (kernel_rfl)))
      refine (RApply_any H1.out.rv hok.bd hok.sets hok.small (HTt.out _ H1.out.b) (by omega)).mono ?_
      rintro e w5 ⟨c2, rfl, hr2, hb2⟩
      obtain ⟨⟨hf1, hf2, hf3⟩, hT, hTt⟩ := H1.out.fin hb2 hr2 rfl
      have HF := Lib.hid hf1
      have HR := Lib.hid (And.intro hf2 hf3)
      have HTw := Lib.hid (And.intro hT hTt)
      have HZ : Hid ((zF.size = 5) ∧ Ok1 5 c2) := ⟨rfl, hf3⟩
      clear hf1 hf2 hf3 hT hTt hr2 hb2 H1 y0 y1 y2 y3 y4 y5
      obtain ⟨E, hE⟩ : ∃ E, Hid (E = (f.apply a.ts).2) := ⟨_, rfl⟩
      have hee : ((f.apply a.ts).2 == (f.apply a.ts).2) = true := by simp
      rw [← hE.out] at hee ⊢
      go_wp2_with (first | ((with_reducible apply wp_store_Rn _ rowF); (exact HZ.out); (rfl); (rfl)) | ((with_reducible refine wp_load_R rowF HF.out ?_ ?_); (kernel_rfl)) | ((with_reducible refine wp_store_R _ rowF HR.out ?_ ?_ ?_); (kernel_rfl); (kernel_rfl)))
      refine bodyPost_ret (res_R_tmp rowF (fn := Tryz.f21) rfl _ (HR.out.1.set HR.out.2) rfl) rfl ⟨c2, ?_, HTw.out⟩
      first | rfl | (simp; done)
    | false =>
      have hd : f.decides a.ts = (0, 2) := by unfold T.Fl.decides; rw [if_pos hmay]
      rw [hd]
      clear hmay hd
      go_wp2_with fail
      refine (Apply_any H.out.at_ (fun W ht => HTt.out W (H.out.b.trans (ht.below H.out.b.size (fun k e => (H.out.fF k e).1)))) (by omega)).mono ?_
      rintro e w4 ⟨rfl, hch⟩
      obtain ⟨F1, hd1⟩ := H.out.chg hch
      have H1 := Lib.hid hd1
      clear hch hd1 H y0 y1 y2 y3 y4 y5
      obtain ⟨y0, y1, y2, y3, y4, y5⟩ := H1.out.cells
      go_wp2_with (first | ((with_reducible refine wp_load_R rowF H1.out.b1 ?_ ?_); (kernel_rfl)))
      refine (RApply_any H1.out.rv hok.bd hok.sets hok.small (HTt.out _ H1.out.b) (by omega)).mono ?_
      rintro e w5 ⟨c2, rfl, hr2, hb2⟩
      obtain ⟨⟨hf1, hf2, hf3⟩, hT, hTt⟩ := H1.out.fin hb2 hr2 rfl
      have HF := Lib.hid hf1
      have HR := Lib.hid (And.intro hf2 hf3)
      have HTw := Lib.hid (And.intro hT hTt)
      have HZ : Hid ((zF.size = 5) ∧ Ok1 5 c2) := ⟨rfl, hf3⟩
      clear hf1 hf2 hf3 hT hTt hr2 hb2 H1 y0 y1 y2 y3 y4 y5
      obtain ⟨E, hE⟩ : ∃ E, Hid (E = (f.apply a.ts).2) := ⟨_, rfl⟩
      have hee : ((f.apply a.ts).2 == (f.apply a.ts).2) = true := by simp
      rw [← hE.out] at hee ⊢
      go_wp2_with (first | ((with_reducible apply wp_store_Rn _ rowF); (exact HZ.out); (rfl); (rfl)) | ((with_reducible refine wp_load_R rowF HF.out ?_ ?_); (kernel_rfl)) | ((with_reducible refine wp_store_R _ rowF HR.out ?_ ?_ ?_); (kernel_rfl); (kernel_rfl)))
      refine bodyPost_ret (res_R_tmp rowF (fn := Tryz.f21) rfl _ (HR.out.1.set HR.out.2) rfl) rfl ⟨c2, ?_, HTw.out⟩
      first | rfl | (simp; done)
end Go.Proofs.YtdpdoclhdjhjkaaGreat
