/-
  Layer 14 (as layer 13's Md): a flow and the document's, marked one behind the other. No walk. Layer 14 (as layer 13's openers): marks opened.
-/
import Derived.Test.YtiohlmccnllklaaGreatDoorH28
import Derived.Test.YtiohlmccnllklaaGreatDoorH42
set_option linter.unusedVariables false
set_option linter.unusedSimpArgs false
namespace Go.Proofs.YtiohlmccnllklaaGreatDoor
open Go.RowKit
set_option linter.unusedVariables false

/-- A flow and another one of the document's, apart, both made behind w0; the blocks X are others'. -/
def Tw2 (X : Nat → Prop) (w0 : World) (S : Nat) (f r : T.Fl) (c : Array Value) (W : World) : Prop := ∃ g ct pv F, c = rfc r.fr r.se r.mo (tbV g r.ss.length ct) pv ∧ At W S f F ∧ RvI W r g ct pv ∧ (∀ k, rvB g pv k → ¬ F k) ∧ (∀ k, F k → w0.heap.size ≤ k) ∧ Below w0.heap.size w0 W ∧ ∀ k, X k → k < W.heap.size ∧ ¬ F k ∧ ¬ rvB g pv k
section
variable {X : Nat → Prop} {w0 W W' : World} {S : Nat} {f r : T.Fl} {c : Array Value}
theorem Tw2.of (h : Two X X w0 S f c W) : Tw2 X w0 S f f c W := by
  obtain ⟨g, ct, pv, F, h1, h2, h3, h4, h5, h6, h7, h8⟩ := h
  exact ⟨g, ct, pv, F, h1, h2, h3, h4, h5, h6, h8⟩
theorem Tw2.two (h : Tw2 X w0 S f f c W) : Two X X w0 S f c W := by
  obtain ⟨g, ct, pv, F, h1, h2, h3, h4, h5, h6, h8⟩ := h
  exact ⟨g, ct, pv, F, h1, h2, h3, h4, h5, h6, fun k hk => ⟨(h8 k hk).1, (h8 k hk).2.1⟩, h8⟩
theorem Tw2.b (h : Tw2 X w0 S f r c W) : Below w0.heap.size w0 W := by obtain ⟨g, ct, pv, F, h1, h2, h3, h4, h5, h6, h8⟩ := h; exact h6
theorem Tw2.ok (h : Tw2 X w0 S f r c W) : Ok1 5 c ∧ FOk f := by
  obtain ⟨g, ct, pv, F, rfl, h2, h3, h4, h5, h6, h8⟩ := h; exact ⟨h3.ok _ _ _, h2.ok⟩
theorem Tw2.after (h : Tw2 X w0 S f r c W) (hb : Below W.heap.size W W') : Tw2 X w0 S f r c W' := by
  obtain ⟨g, ct, pv, F, h1, h2, h3, h4, h5, h6, h8⟩ := h
  exact ⟨g, ct, pv, F, h1, h2.below hb, h3.below hb, h4, h5, h6.trans (hb.mono h6.size), fun k hk => ⟨by have := (h8 k hk).1; have := hb.size; omega, (h8 k hk).2⟩⟩
/-- One of the others' blocks is written. -/
theorem Tw2.turned (h : Tw2 X w0 S f r c W) {G : Nat → Prop} (ht : Turned G W W') (hG : ∀ k, G k → X k ∧ w0.heap.size ≤ k) : Tw2 X w0 S f r c W' := by
  obtain ⟨g, ct, pv, F, h1, h2, h3, h4, h5, h6, h8⟩ := h
  exact ⟨g, ct, pv, F, h1, h2.turned ht (fun k hk e => (h8 k (hG k e).1).2.1 hk), h3.stay (fun k hk => ht.block k (h3.lt hk) (fun e => (h8 k (hG k e).1).2.2 hk)), h4, h5, h6.trans (ht.below h6.size (fun k e => (hG k e).2)), fun k hk => ⟨by have := (h8 k hk).1; have := ht.size; omega, (h8 k hk).2⟩⟩
/-- More blocks are others'. -/
theorem Tw2.more {Y : Nat → Prop} (h : Tw2 X w0 S f r c W) (hb : Below W.heap.size W W') (hY : ∀ k, Y k → X k ∨ (W.heap.size ≤ k ∧ k < W'.heap.size)) : Tw2 Y w0 S f r c W' := by
  obtain ⟨g, ct, pv, F, h1, h2, h3, h4, h5, h6, h8⟩ := h
  refine ⟨g, ct, pv, F, h1, h2.below hb, h3.below hb, h4, h5, h6.trans (hb.mono h6.size), fun k hk => ?_⟩
  rcases hY k hk with e | e
  · exact ⟨by have := (h8 k e).1; have := hb.size; omega, (h8 k e).2⟩
  · exact ⟨e.2, fun e' => by have := h2.lt e'; omega, fun e' => by have := h3.lt e'; omega⟩
theorem Tw2.mark (h : Tw2 X w0 S f r c W) (p : T.Pl) (hp : Pi p) (n s : Int) (hn : I64 n) (hs : W32 s) : Calls Tryz.prog 8 #[.pointer (some ⟨S, 0, none⟩), .agg (pla p), .int .i64 n, .int .u32 s] W fun e W' =>
    e = .returned (.int .i64 (f.mark p n s).2) ∧ Tw2 X w0 S (f.mark p n s).1 r c W' ∧ Turned (fun k => w0.heap.size ≤ k ∧ ¬ X k) W W' := by
  obtain ⟨g, ct, pv, F, h1, h2, h3, h4, h5, h6, h8⟩ := h
  refine (Mark_any h2 p hp n s hn hs).mono fun e W' ⟨e1, F', k1, k2, k3⟩ => ⟨e1, ⟨g, ct, pv, F', h1, k1, h3.stay fun k hk => k3.block k (h3.lt hk) (h4 k hk), fun k hk e => ?_, fun k hk => ?_, h6.trans (k3.below h6.size h5), fun k hk => ⟨?_, fun e => ?_, (h8 k hk).2.2⟩⟩, k3.mono fun k hk => ⟨h5 k hk, fun e => (h8 k e).2.1 hk⟩⟩
  · rcases k2 k e with e' | e'
    · exact h4 k hk e'
    · have := h3.lt hk; omega
  · rcases k2 k hk with e' | e'
    · exact h5 k e'
    · have := h6.size; omega
  · have := (h8 k hk).1; have := k3.size; omega
  · rcases k2 k e with e' | e'
    · exact (h8 k hk).2.1 e'
    · have := (h8 k hk).1; omega
theorem Tw2.rmark (h : Tw2 X w0 S f r c W) (hr : FOk r) (p : T.Pl) (hp : Pi p) (n s : Int) (hn : I64 n) (hs : W32 s) (hl : 0 ≤ n → n ≤ 65536 → (r.ps.length : Int) + n ≤ 900000) : Calls Tryz.prog 9 #[.agg c, .agg (pla p), .int .i64 n, .int .u32 s] W fun e W' =>
    ∃ c', e = .returned (.tuple #[.agg c', .int .i64 (r.mark p n s).2]) ∧ Tw2 X w0 S f (r.mark p n s).1 c' W' ∧ Below W.heap.size W W' := by
  obtain ⟨g, ct, pv, F, rfl, h2, h3, h4, h5, h6, h8⟩ := h
  refine (RMark_any (fr := r.fr) (se := r.se) (mo := r.mo) (ss := r.ss) (ps := r.ps) h3 hr.bd hr.sets p hp n s hn hs hl).mono ?_
  rintro e W' ⟨c', e1, ⟨g', ct', pv', rfl, k1, k2⟩, hb⟩
  refine ⟨_, e1, ⟨g', ct', pv', F, rfl, h2.below hb, k1, fun k hk e => ?_, h5, h6.trans (hb.mono h6.size), fun k hk => ⟨?_, (h8 k hk).2.1, fun e => ?_⟩⟩, hb⟩
  · rcases k2 k hk with e' | e'
    · exact h4 k e' e
    · have := h2.lt e; omega
  · have := (h8 k hk).1; have := hb.size; omega
  · rcases k2 k e with e' | e'
    · exact (h8 k hk).2.2 e'
    · have := (h8 k hk).1; omega
end
theorem tw2_new {w0 W1 W2 : World} {S : Nat} {f : T.Fl} {F : Nat → Prop} {c : Array Value} (h : At W1 S f F) (hF : ∀ k, F k → w0.heap.size + 1 ≤ k) (h0 : Below w0.heap.size w0 W1) (hz : w0.heap.size < W1.heap.size) {W : World} (hb0 : Below W1.heap.size W1 W) (hb : Below W.heap.size W W2) (hr : RvO W (fun _ => False) W2 f c) : Tw2 (fun k => k = w0.heap.size) w0 S f f c W2 := by
  obtain ⟨g, ct, pv, rfl, h1, h2⟩ := hr
  have z1 := hb0.size
  have z2 := hb.size
  refine ⟨g, ct, pv, F, rfl, (h.below hb0).below hb, h1, fun k hk e => ?_, fun k hk => by have := hF k hk; omega, (h0.trans (hb0.mono h0.size)).trans (hb.mono (by omega)), fun k hk => ⟨by omega, fun e => by have := hF k e; omega, fun e => ?_⟩⟩
  · rcases h2 k hk with e' | e'
    · exact e'
    · have := h.lt e; omega
  · rcases h2 k e with e' | e'
    · exact e'
    · omega
/-- Places that are marked. -/
def MksIn (w : World) (v : Value) (l : List T.Pr) : Prop := PrIn w v l ∧ ∀ x ∈ l, Pi x.1 ∧ W32 x.2
theorem MksIn.below {w w' : World} {v : Value} {l : List T.Pr} (h : MksIn w v l) (hb : Below w.heap.size w w') : MksIn w' v l := ⟨h.1.below hb, h.2⟩
/-- The flow behind the marks. -/
def mkF (l : List T.Pr) : T.Fl := l.foldl (fun f m => (f.mark m.1 1 m.2).1) ⟨2, 2, 65536, [0], []⟩
theorem mkF_succ {l : List T.Pr} {k : Nat} {x : T.Pr} (h : l[k]? = some x) : mkF (l.take (k + 1)) = ((mkF (l.take k)).mark x.1 1 x.2).1 := by
  obtain ⟨h1, rfl⟩ := List.getElem?_eq_some_iff.1 h
  rw [List.take_succ_eq_append_getElem h1]
  unfold mkF
  rw [List.foldl_append]; rfl
theorem mark1_len (f : T.Fl) (p : T.Pl) (s : Int) : ((f.mark p 1 s).1).ps.length ≤ f.ps.length + 1 := by
  unfold T.Fl.mark
  dsimp only
  split
  · exact Nat.le_add_right _ _
  · split
    · exact Nat.le_add_right _ _
    · split
      · have := T.marks_len f.ps p s (1 : Int).toNat
        exact this
      · exact Nat.le_add_right _ _
theorem mark_form (f : T.Fl) (p : T.Pl) (n s : Int) : ((f.mark p n s).1).fr = f.fr ∧ ((f.mark p n s).1).se = f.se ∧ ((f.mark p n s).1).mo = f.mo := by
  unfold T.Fl.mark
  dsimp only
  repeat' split
  all_goals exact ⟨rfl, rfl, rfl⟩
end Go.Proofs.YtiohlmccnllklaaGreatDoor
namespace Go.Proofs.YtiohlmccnllklaaGreatDoor.Q
open Go.ChangeShapes Go.WideShapes Go.ChangeAt Go.RowKit Go.Joins Go.Deep
set_option maxRecDepth 100000
set_option linter.unusedVariables false
section
variable {H : Type} {enc : TypeId × Value → H} {w : World} {base b0 : Nat} {spare : Nat → Bool} {held : Bool} {r : Reach} {v : Value} {d : DataW H} {p : List MemPlace}
/-- A mark's cells. -/
theorem mark_cells {n : Nat} {cs : List Value} {x : DataW H × List MemPlace} (hl : cs.length = 3) (ht : DataW.trod enc Tryz.prog w base spare held n 44 cs = some x) : ∃ q : T.Pr, cs = prc q ∧ Pi q.1 ∧ W32 q.2 := by
  obtain ⟨ys, n', _, hx, hlen, hyl, hf⟩ := DataW.trod_struct Tryz.underlying44 ht
  match cs, hl, ys, hyl with
  | [c0, c1, c2], _, [y0, y1], _ =>
    have h0 := hf 0 _ rfl
    have h1 := hf 1 _ rfl
    have ek : Tryz.prog.cellsOf 42 = 2 := by kernel_rfl
    have ei : Tryz.prog.cellsOf 23 = 1 := by kernel_rfl
    change DataW.trod enc Tryz.prog w base spare held n' 42 (List.take (Tryz.prog.cellsOf 42) [c0, c1, c2]) = some y0 at h0
    change DataW.trod enc Tryz.prog w base spare held n' 23 (List.take (Tryz.prog.cellsOf 23) [c2]) = some y1 at h1
    rw [ek] at h0
    rw [ei] at h1
    obtain ⟨q, hq, hpi⟩ := place_cells (cs := [c0, c1]) rfl h0
    obtain ⟨z, e, _, hz⟩ := DataW.trod_int Tryz.underlying23 h1
    simp [plc] at hq e
    exact ⟨(q, z), by rw [hq.1, hq.2, e]; rfl, hpi, w32_of_wf hz⟩
theorem open_marks14 (h : DataW.Trod enc Tryz.prog w base spare held 22 v d p) (hv : Value.okWide Tryz.prog w r b0 22 v) : ∃ xs, MksIn w v xs := by
  obtain ⟨fuel, hf⟩ := h
  rw [slice_cells Tryz.underlying22 hv] at hf
  obtain ⟨l, h1, h2⟩ := open_rows (sz := 3) Tryz.underlying22 (by kernel_rfl) (by omega) (fun (q : T.Pr) cs => cs = prc q ∧ Pi q.1 ∧ W32 q.2) (fun n cs x hl ht => mark_cells hl ht) hf
  refine ⟨l.map Prod.fst, ?_, fun q hq => ?_⟩
  · have e : (l.map Prod.fst).flatMap prc = l.flatMap Prod.snd := by
      rw [List.flatMap_map]
      exact flat_congr fun y hy => ((h2 y hy).2.1).symm
    show Rd 3 w v (l.map Prod.fst).length ((l.map Prod.fst).flatMap prc)
    rw [List.length_map, e]; exact h1
  · obtain ⟨y, hy, rfl⟩ := List.mem_map.1 hq
    exact (h2 y hy).2.2
end
end Go.Proofs.YtiohlmccnllklaaGreatDoor.Q
