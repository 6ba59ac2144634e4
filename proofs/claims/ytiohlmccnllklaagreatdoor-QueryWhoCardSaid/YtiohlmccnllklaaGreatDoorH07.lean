/-
  Layer 12: the document's flow: which places may be, which is ahead, a place's set, what places have together: walks. Layer 12: what places have together, which touches may be, what decides, by the document: walks. Written by gen_ref.py. Layer 12: which touches may be, by the document: a walk. Written by gen_ref.py. Layer 12: what decides, how many pages there are, which forms may be, a new flow, by the document: walks. Written by gen_ref.py. Layer 12: a place's set laid into the pairs, by the document: a walk. Written by gen_ref.py. Layer 12: a new flow, marks, by the document: walks. Written by gen_ref.py.
-/
import Derived.Test.YtiohlmccnllklaaGreatDoorH01
set_option linter.unusedVariables false
set_option linter.unusedSimpArgs false
namespace Go.Proofs.YtiohlmccnllklaaGreatDoor
open Go.RowKit
set_option maxHeartbeats 4000000
set_option maxRecDepth 100000
set_option linter.unusedVariables false
set_option linter.unusedSimpArgs false

structure Bd (fr se : Int) : Prop where
  f : 1 ≤ fr ∧ fr ≤ 32
  s : 1 ≤ se ∧ se ≤ 32
theorem bel1 (w : World) (o : Obj) : Below w.heap.size w (w.alloc o) := (Below.refl _ _).alloc (Nat.le_refl _) o
theorem bel2 (w : World) (o1 o2 : Obj) : Below w.heap.size w ((w.alloc o1).alloc o2) := (bel1 w o1).alloc (by simp) o2

theorem RMay_any (fr se mo : Int) (tv pv : Value) (hb : Bd fr se) (p : T.Pl) (hp : Pi p) (w : World) :
    Calls Tryz.prog 31 #[.agg (rfc fr se mo tv pv), .agg (pla p)] w fun e w' => e = .returned (.bool (T.may fr se p)) ∧ Below w.heap.size w w' := by
  obtain ⟨⟨f0, f1⟩, s0, s1⟩ := hb
  obtain ⟨k, n⟩ := p
  obtain ⟨⟨k0, k1⟩, n0, n1⟩ := hp
  simp only at k0 k1 n0 n1
  have HB := Lib.hid (bel2 w (.cells (rfc fr se mo tv pv) 37) (.cells (pla (k, n)) 42))
  have HT : Hid (T.may fr se (k, n) = (decide (0 ≤ n) && decide (n < T.most fr se k))) := rfl
  have HM : Hid (T.most fr se k = if k < 1 ∨ 17 < k then 0 else if k = 1 then 8 else if k = 10 then 64 * fr else if k = 11 then 4 else if k = 12 then 64 * se else if 13 ≤ k ∧ k ≤ 16 then 2147483648 else if k = 17 then 2 else 1) := rfl
  have HR : Hid (rfc fr se mo tv pv = #[.int .i64 fr, .int .i64 se, .int .i64 mo, tv, pv]) := rfl
  unfold pla rfc at HB ⊢
  go_enter Tryz.func31, Tryz.ntmps31
  go_wp2
  all_goals go_ret
  all_goals refine ⟨?_, HB.out⟩
  all_goals rw [HT.out, HM.out]
  all_goals refine congrArg (fun b => Ending.returned (Value.bool b)) (Bool.eq_iff_iff.2 ?_)
  all_goals simp only [beq_iff_eq, beq_eq_false_iff_ne, ne_eq, Bool.and_eq_true, decide_eq_true_eq, Bool.false_eq_true, false_iff, true_iff, Bool.true_eq_false] at *
  all_goals first
    | omega
    | (repeat' split) <;> omega
theorem ahead_any (p q : T.Pl) (w : World) : Calls Tryz.prog 55 #[.agg (pla p), .agg (pla q)] w fun e w' => e = .returned (.bool (T.lt p q)) ∧ Below w.heap.size w w' := by
  obtain ⟨a, b⟩ := p
  obtain ⟨c, d⟩ := q
  have HB := Lib.hid (bel2 w (.cells (pla (a, b)) 42) (.cells (pla (c, d)) 42))
  have HT : Hid (T.lt (a, b) (c, d) = (decide (a < c) || (decide (a = c) && decide (b < d)))) := rfl
  unfold pla at HB ⊢
  go_enter Tryz.func55, Tryz.ntmps55
  go_wp2
  all_goals go_ret
  all_goals try subst_vars
  all_goals refine ⟨?_, HB.out⟩
  all_goals rw [HT.out]
  all_goals refine congrArg (fun b => Ending.returned (Value.bool b)) (Bool.eq_iff_iff.2 ?_)
  all_goals simp only [beq_iff_eq, beq_eq_false_iff_ne, ne_eq, Bool.and_eq_true, Bool.or_eq_true, decide_eq_true_eq, Bool.false_eq_true, false_iff, true_iff, Bool.true_eq_false] at *
  all_goals first
    | omega
    | (simp; done)
    | (simp; omega)
    | trace_state

theorem get_take {l : List T.Pr} {p : T.Pl} {k : Nat} (h : ∀ (j : Nat) (x : T.Pr), j < k → l[j]? = some x → x.1 ≠ p) : T.get l p = T.get (l.drop k) p := by
  induction k generalizing l with
  | zero => rfl
  | succ k ih =>
    cases l with
    | nil => rfl
    | cons y r =>
      rw [T.get_cons, if_neg (h 0 y (by omega) rfl), List.drop_succ_cons]
      exact ih fun j x hj hx => h (j + 1) x (by omega) hx
theorem get_hit {l : List T.Pr} {p : T.Pl} {k : Nat} {x : T.Pr} (h : ∀ (j : Nat) (x : T.Pr), j < k → l[j]? = some x → x.1 ≠ p) (hk : l[k]? = some x) (hx : x.1 = p) : T.get l p = x.2 := by
  rw [get_take h]
  obtain ⟨h1, h2⟩ := List.getElem?_eq_some_iff.1 hk
  rw [List.drop_eq_getElem_cons h1, h2, T.get_cons, if_pos hx]
theorem get_miss {l : List T.Pr} {p : T.Pl} (h : ∀ (j : Nat) (x : T.Pr), j < l.length → l[j]? = some x → x.1 ≠ p) : T.get l p = 0 := by
  rw [get_take h, List.drop_length]; rfl
end Go.Proofs.YtiohlmccnllklaaGreatDoor
namespace Go.Proofs.YtiohlmccnllklaaGreatDoor
open Go.RowKit
set_option maxHeartbeats 8000000
set_option maxRecDepth 100000
set_option linter.unusedVariables false
set_option linter.unusedSimpArgs false

theorem tog_succ (l : List T.Pr) (s : Int) (ps : List T.Pl) (k : Nat) (p : T.Pl) (h : ps[k]? = some p) : T.tog l s (ps.take (k + 1)) = L2.orI (T.tog l s (ps.take k)) (T.get l p) := by
  induction ps generalizing s k with
  | nil => simp at h
  | cons q r ih =>
    cases k with
    | zero => simp at h; subst h; rfl
    | succ k =>
      rw [List.getElem?_cons_succ] at h
      rw [List.take_succ_cons, List.take_succ_cons, T.tog, T.tog]
      exact ih _ k h
/-- A flow of the document's as an argument: fr, se, mo: its form and its bound. -/
structure Fa (w : World) (tv pv : Value) (l : List T.Pr) : Prop where
  t : tv.oneCell' = true
  p : PrIn w pv l
  s : T.Small l
theorem Fa.below {w w' : World} {tv pv : Value} {l : List T.Pr} (h : Fa w tv pv l) (hb : Below w.heap.size w w') : Fa w' tv pv l := ⟨h.t, h.p.below hb, h.s⟩
theorem st_fa (tv pv : Value) (l : List T.Pr) : Stable (fun W => Fa W tv pv l) := fun _ _ h hb => h.below hb
theorem Fa.box {w : World} {tv pv : Value} {l : List T.Pr} (h : Fa w tv pv l) (fr se mo : Int) : Rf 37 5 (w.alloc (.cells (rfc fr se mo tv pv) 37)) w.heap.size (rfc fr se mo tv pv) := (rfc_ok fr se mo h.t h.p.one).new _ _
end Go.Proofs.YtiohlmccnllklaaGreatDoor
namespace Go.Proofs.YtiohlmccnllklaaGreatDoor
open Go.RowKit
set_option maxHeartbeats 8000000
set_option maxRecDepth 100000
set_option linter.unusedVariables false
set_option linter.unusedSimpArgs false

theorem all_take_succ {α : Type} (f : α → Bool) (l : List α) (k : Nat) (x : α) (h : l[k]? = some x) : (l.take (k + 1)).all f = ((l.take k).all f && f x) := by
  rw [List.take_add_one, h]; simp
theorem mayT_true {fr se : Int} {tc : T.Tc} (h0 : tc.1 = T.none0 ∨ T.may fr se tc.1 = true) (h1 : tc.2.all (T.may fr se) = true) : T.mayT fr se tc = true := by
  unfold T.mayT
  rw [h1]
  rcases h0 with h | h <;> simp [h]
theorem mayT_false1 {fr se : Int} {tc : T.Tc} (h0 : tc.1 ≠ T.none0) (h1 : T.may fr se tc.1 = false) : T.mayT fr se tc = false := by simp [T.mayT, h0, h1]
theorem mayT_false2 {fr se : Int} {tc : T.Tc} {j : Nat} {p : T.Pl} (h0 : tc.2[j]? = some p) (h1 : T.may fr se p = false) : T.mayT fr se tc = false := by
  have : tc.2.all (T.may fr se) = false := List.all_eq_false.2 ⟨p, List.mem_of_getElem? h0, by simp [h1]⟩
  simp [T.mayT, this]
theorem mayAll_false {fr se : Int} {l : List T.Tc} {k : Nat} {tc : T.Tc} (h0 : l[k]? = some tc) (h1 : T.mayT fr se tc = false) : T.mayAll fr se l = false := List.all_eq_false.2 ⟨tc, List.mem_of_getElem? h0, by simp [h1]⟩
end Go.Proofs.YtiohlmccnllklaaGreatDoor
namespace Go.Proofs.YtiohlmccnllklaaGreatDoor
open Go.RowKit
set_option maxHeartbeats 8000000
set_option maxRecDepth 100000
set_option linter.unusedVariables false
set_option linter.unusedSimpArgs false

theorem dec_succ (l : List T.Pr) (s : Int) (ts : List T.Tc) (k : Nat) (t : T.Tc) (h : ts[k]? = some t) : T.dec l s (ts.take (k + 1)) = if t.1 = T.none0 then L2.orI (T.dec l s (ts.take k)) (T.tog l 0 t.2) else T.dec l s (ts.take k) := by
  induction ts generalizing s k with
  | nil => simp at h
  | cons q r ih =>
    cases k with
    | zero => simp at h; subst h; rfl
    | succ k =>
      rw [List.getElem?_cons_succ] at h
      rw [List.take_succ_cons, List.take_succ_cons, T.dec, T.dec]
      exact ih _ k h
theorem dec_bd {l : List T.Pr} (h : T.Small l) {s : Int} (hs : 0 ≤ s ∧ s < 65536) (ts : List T.Tc) : 0 ≤ T.dec l s ts ∧ T.dec l s ts < 65536 := by
  induction ts generalizing s with
  | nil => exact hs
  | cons t r ih =>
    refine ih ?_
    split
    · exact T.orI_bd hs (h.tog (by omega) _)
    · exact hs
theorem pgs_drop {k b n : Int} {l : List T.Pr} {j : Nat} {x : T.Pr} (h : l[j]? = some x) : T.pgs k b n (l.drop j) = if x.1.1 = k ∧ x.1.2 / 64 ≠ b then T.pgs k (x.1.2 / 64) (n + 1) (l.drop (j + 1)) else T.pgs k b n (l.drop (j + 1)) := by
  obtain ⟨h1, h2⟩ := List.getElem?_eq_some_iff.1 h
  rw [List.drop_eq_getElem_cons h1, h2]; rfl
/-- Places that may be: their numbers are from 0. -/
def Pos (l : List T.Pr) : Prop := ∀ x ∈ l, Pi x.1 ∧ 0 ≤ x.1.2
end Go.Proofs.YtiohlmccnllklaaGreatDoor
namespace Go.Proofs.YtiohlmccnllklaaGreatDoor
open Go.RowKit
set_option maxHeartbeats 8000000
set_option maxRecDepth 100000
set_option linter.unusedVariables false
set_option linter.unusedSimpArgs false

/-- The document's zero flow, as cells. -/
abbrev zF : Array Value := #[.int .i64 0, .int .i64 0, .int .i64 0, .slice none 0 0, .slice none 0 0]
theorem zF_ok : Ok1 5 zF := ⟨rfl, by simp [zF]; exact ⟨rfl, rfl⟩⟩
theorem infoX : (Tryz.prog.info? 49).map (fun i => (i.zero, i.size, i.bytes)) = some (some (.agg #[.int .i64 0, .int .i64 0, .int .u32 0]), 3, 24) := by kernel_rfl
/-- A row of one pair. -/
theorem pr_src (w : World) (x : T.Pr) : Src Tryz.prog 3 35 (.slice (some ⟨w.heap.size, 0, none⟩) 1 1) 1 (prc x) (w.alloc (.cells #[.int .i64 x.1.1, .int .i64 x.1.2, .int .u32 x.2] 49)) := by
  refine Src.ofSlice _ Tryz.underlying35 _ 1 1 _ rfl (fun j u hj => ?_) (fun u hu => ?_)
  · rw [add_lit, (blk_new w _ _).cell, Nat.zero_add]
    simpa [prc] using hj
  · simp [prc] at hu
    rcases hu with rfl | rfl | rfl <;> rfl
/-- The boxes of Put and what is laid so far. -/
structure PuI (w : World) (fr se mo : Int) (tv pv : Value) (p : T.Pl) (ov : Value) (out : List T.Pr) (W : World) : Prop where
  b : Below w.heap.size w W
  f : Rf 37 5 W w.heap.size (rfc fr se mo tv pv)
  p : Rf 42 2 W (w.heap.size + 1) (pla p)
  r : Rf 37 5 W (w.heap.size + 2) zF
  g : Gs 49 3 W ov out.length (out.flatMap prc)
  lo : ∀ k, blkOf ov = some k → w.heap.size + 3 ≤ k
section
variable {w W W' : World} {fr se mo : Int} {tv pv ov v' : Value} {p : T.Pl} {out : List T.Pr} {x : T.Pr} {B : Nat}
theorem PuI.after (h : PuI w fr se mo tv pv p ov out W) (hb : Below W.heap.size W W') : PuI w fr se mo tv pv p ov out W' := ⟨h.b.trans (hb.mono h.b.size), h.f.below hb, h.p.below hb, h.r.below hb, h.g.below hb, h.lo⟩
theorem PuI.size (h : PuI w fr se mo tv pv p ov out W) : w.heap.size + 3 ≤ W.heap.size := h.r.lt
theorem PuI.app (h : PuI w fr se mo tv pv p ov out W) (hg : Gs 49 3 W' v' (out.length + 1) (out.flatMap prc ++ prc x)) (ht : Turned (fun k => blkOf ov = some k) W W') (hn : ∀ k, blkOf v' = some k → blkOf ov = some k ∨ W.heap.size ≤ k) : PuI w fr se mo tv pv p v' (out ++ [x]) W' := by
  have hz := h.size
  refine ⟨h.b.trans (ht.below h.b.size (fun k e => by have := h.lo k e; omega)), h.f.turned ht (fun e => by have := h.lo _ e; omega), h.p.turned ht (fun e => by have := h.lo _ e; omega), h.r.turned ht (fun e => by have := h.lo _ e; omega), ?_, fun k hk => ?_⟩
  · have e : (out ++ [x]).flatMap prc = out.flatMap prc ++ prc x := by simp
    rw [List.length_append, List.length_singleton, e]; exact hg
  · rcases hn k hk with e | e
    · exact h.lo k e
    · omega
/-- .. and the box of the pair that is looked at. -/
structure PuX (w : World) (fr se mo : Int) (tv pv : Value) (p : T.Pl) (ov : Value) (out : List T.Pr) (x : T.Pr) (B : Nat) (W : World) : Prop where
  i : PuI w fr se mo tv pv p ov out W
  x : Rf 49 3 W B (prc x).toArray
  ne : ∀ k, blkOf ov = some k → k ≠ B
theorem PuX.after (h : PuX w fr se mo tv pv p ov out x B W) (hb : Below W.heap.size W W') : PuX w fr se mo tv pv p ov out x B W' := ⟨h.i.after hb, h.x.below hb, h.ne⟩
theorem PuX.app {y : T.Pr} (h : PuX w fr se mo tv pv p ov out x B W) (hg : Gs 49 3 W' v' (out.length + 1) (out.flatMap prc ++ prc y)) (ht : Turned (fun k => blkOf ov = some k) W W') (hn : ∀ k, blkOf v' = some k → blkOf ov = some k ∨ W.heap.size ≤ k) : PuX w fr se mo tv pv p v' (out ++ [y]) x B W' := by
  refine ⟨h.i.app hg ht hn, h.x.turned ht (fun e => h.ne _ e rfl), fun k hk => ?_⟩
  rcases hn k hk with e | e
  · exact h.ne k e
  · have := h.x.lt; omega
theorem PuX.cells (h : PuX w fr se mo tv pv p ov out x B W) : W.cell? ⟨w.heap.size + 1, 0, none⟩ = some (.int .i64 p.1) ∧ W.cell? ⟨w.heap.size + 1, 1, none⟩ = some (.int .i64 p.2) ∧ W.cell? ⟨B, 0, none⟩ = some (.int .i64 x.1.1) ∧ W.cell? ⟨B, 1, none⟩ = some (.int .i64 x.1.2) ∧ W.cell? ⟨B, 2, none⟩ = some (.int .u32 x.2) :=
  ⟨h.i.p.cell 0, h.i.p.cell 1, h.x.cell 0, h.x.cell 1, h.x.cell 2⟩
theorem PuI.cells (h : PuI w fr se mo tv pv p ov out W) : W.cell? ⟨w.heap.size + 1, 0, none⟩ = some (.int .i64 p.1) ∧ W.cell? ⟨w.heap.size + 1, 1, none⟩ = some (.int .i64 p.2) := ⟨h.p.cell 0, h.p.cell 1⟩
theorem prc_ok (x : T.Pr) : Ok1 3 #[.int .i64 x.1.1, .int .i64 x.1.2, .int .u32 x.2] := ⟨rfl, by simp; exact ⟨rfl, rfl, rfl⟩⟩
theorem PuI.box (h : PuI w fr se mo tv pv p ov out W) (x : T.Pr) : PuX w fr se mo tv pv p ov out x W.heap.size (W.alloc (.cells #[.int .i64 x.1.1, .int .i64 x.1.2, .int .u32 x.2] 49)) :=
  ⟨h.after (bel1 _ _), (prc_ok x).new _ _, fun k hk => by have := h.g.lt hk; omega⟩
/-- The pairs are laid into the flow, and it is handed on. -/
theorem PuI.fin (h : PuI w fr se mo tv pv p ov out W) (ht : tv.oneCell' = true) : Rf 37 5 (W.setCell ⟨w.heap.size, 4, none⟩ ov) w.heap.size (rfc fr se mo tv ov) ∧ (Rf 37 5 (W.setCell ⟨w.heap.size, 4, none⟩ ov) (w.heap.size + 2) zF ∧ Ok1 5 (rfc fr se mo tv ov)) ∧
    W.cell? ⟨w.heap.size, 4, none⟩ = some pv ∧ W.frozen? ⟨w.heap.size, 4, none⟩ = false ∧
    PrIn ((W.setCell ⟨w.heap.size, 4, none⟩ ov).setRow (w.heap.size + 2) (rfc fr se mo tv ov)) ov out ∧ Below w.heap.size w ((W.setCell ⟨w.heap.size, 4, none⟩ ov).setRow (w.heap.size + 2) (rfc fr se mo tv ov)) := by
  have hok := rfc_ok fr se mo ht h.g.one
  have hz := h.size
  refine ⟨⟨?_, hok.1, hok.2⟩, ⟨h.r.keep (Below.heap_setCell _ _ _ _ (by simp)), hok⟩, h.f.cell 4, h.f.blk.frozen 4, ?_, ?_⟩
  · have := h.f.blk.setCell 4 ov
    exact this
  · refine (h.g.turned (F := fun k => k = w.heap.size ∨ k = w.heap.size + 2) ?_ (fun k hk e => by have := h.lo k hk; omega)).rd
    exact ((Turned.refl (fun k => k = w.heap.size ∨ k = w.heap.size + 2) W).setCell (.inl (.inl rfl)) ov).trans (turned_setRow _ _ _) (fun x hx => .inl (.inr hx))
  · exact (h.b.setCell (Nat.le_refl _) ov).trans ((turned_setRow _ _ _).below (by simp [World.setCell]; omega) (fun k e => by subst e; omega))
end
/-- What the loop makes of the pair that is looked at. -/
theorem gq_cons (p : T.Pl) (s : Int) (d : Bool) (x : T.Pr) (r out : List T.Pr) : (d = true → x.1 = p → out ++ T.go p s d (x :: r) = out ++ T.go p s true r) ∧
    (d = true → x.1 ≠ p → out ++ T.go p s d (x :: r) = (out ++ [x]) ++ T.go p s true r) ∧
    (d = false → T.lt p x.1 = true → out ++ T.go p s d (x :: r) = ((out ++ [(p, s)]) ++ [x]) ++ T.go p s true r) ∧
    (d = false → T.lt p x.1 = false → x.1 = p → out ++ T.go p s d (x :: r) = (out ++ [(p, s)]) ++ T.go p s true r) ∧
    (d = false → T.lt p x.1 = false → x.1 ≠ p → out ++ T.go p s d (x :: r) = (out ++ [x]) ++ T.go p s false r) := by
  refine ⟨?_, ?_, ?_, ?_, ?_⟩
  · rintro rfl h; simp [T.go, h]
  · rintro rfl h; simp [T.go, h]
  · rintro rfl h
    have : x.1 ≠ p := fun e => by rw [e, T.lt_irrefl] at h; cases h
    simp [T.go, h, this]
  · rintro rfl h e; subst e; simp [T.go, T.lt_irrefl]
  · rintro rfl h e; simp [T.go, h, e]
theorem RPut_any (fr se mo : Int) {tv pv : Value} (ht : tv.oneCell' = true) {l : List T.Pr} (p : T.Pl) (s : Int) {w : World} (h : PrIn w pv l) (hl : l.length ≤ 900000) :
    Calls Tryz.prog 33 #[.agg (rfc fr se mo tv pv), .agg (pla p), .int .u32 s] w fun e w' => ∃ pv', e = .returned (.agg (rfc fr se mo tv pv')) ∧ PrIn w' pv' (T.put l p s) ∧ (∀ k, rdBlk pv' = some k → w.heap.size ≤ k) ∧ Below w.heap.size w w' := by
  obtain ⟨q, hq⟩ : ∃ q, Hid (q = T.put l p s) := ⟨_, rfl⟩
  rw [← hq.out]
  have HA := Lib.hid (fun W (hb : Below w.heap.size w W) => (show PrIn W pv l from h.below hb))
  have H0 : Hid (PuI w fr se mo tv pv p (.slice none 0 0) [] (((w.alloc (.cells (rfc fr se mo tv pv) 37)).alloc (.cells (pla p) 42)).alloc (.cells zF 37))) := by
    have h1 := (rfc_ok fr se mo ht h.one).new 37 w
    have h2 := (pla_ok p).new 42 (w.alloc (.cells (rfc fr se mo tv pv) 37))
    have h3 := zF_ok.new 37 ((w.alloc (.cells (rfc fr se mo tv pv) 37)).alloc (.cells (pla p) 42))
    simp only [World.size_alloc] at h2 h3
    exact ⟨(bel2 w _ _).alloc (by simp; omega) _, (h1.alloc _).alloc _, h2.alloc _, h3, Gs.nil _ _ _, fun k hk => by simp [blkOf] at hk⟩
  obtain ⟨oa, ca, rfl, _, hla⟩ := h.shape
  unfold maxLen at hla
  clear h
  go_enter Tryz.func33, Tryz.ntmps33
  go_wp2
  generalize ((w.alloc (.cells (rfc fr se mo tv (.slice oa l.length ca)) 37)).alloc (.cells (pla p) 42)).alloc (.cells zF 37) = W0 at H0 ⊢
  go_loopw [7, 8, 9] (fun ov dv i wr => ∃ (k : Nat) (out : List T.Pr) (d : Bool), k ≤ l.length ∧ (d = false → out.length ≤ k) ∧ out.length ≤ k + 1 ∧ dv = .bool d ∧ i = .int .i64 (k : Int) ∧ Hid (PuI w fr se mo tv (.slice oa l.length ca) p ov out wr) ∧ Hid (q = out ++ T.go p s d (l.drop k))) (fun _ _ i _ => l.length + 1 - (intOf i).toNat)
  case atStart => exact ⟨0, [], s == 0, by omega, by simp, by simp, rfl, rfl, H0.out, Lib.hid hq.out⟩
  case round =>
    obtain ⟨k, out, d, hk, ho1, ho2, rfl, rfl, HP, HQ⟩ := hrel
    have p4 := (HP.out.f.cell 4).trans (show (rfc fr se mo tv (.slice oa l.length ca))[4]? = some (.slice oa l.length ca) from rfl)
    obtain ⟨oo, co, eo, _⟩ := HP.out.g.shape
    subst eo
    by_cases hlt : k < l.length
    · have hi : (k : Int) < (l.length : Int) := by omega
      obtain ⟨g1, o1, c1, x, e1, l1, r1⟩ := (HA.out _ HP.out.b).at_ hlt
      obtain ⟨q1, q2, q3⟩ := rng3 r1
      simp at e1
      obtain ⟨rfl, rfl⟩ := e1
      have hdrop : l.drop k = x :: l.drop (k + 1) := by
        obtain ⟨h1, h2⟩ := List.getElem?_eq_some_iff.1 l1
        rw [List.drop_eq_getElem_cons h1, h2]
      have H := Lib.hid (HP.out.box x)
      clear l1 r1 H0
      cases d with
      | true =>
        by_cases hc : x.1 = p
        · have HQ2 : Hid (q = out ++ T.go p s true (l.drop (k + 1))) := by
            have := HQ.out; rw [hdrop, (gq_cons p s true x (l.drop (k + 1)) out).1 rfl hc] at this; exact Lib.hid this
          have hne := neq_place x.1 p
          have hel := eql_place x.1 p
          rw [decide_eq_true hc] at hne hel
          simp only [Bool.not_true] at hne
          obtain ⟨z0, z1, z2, z3, z4⟩ := H.out.cells
          clear hdrop hc
          go_wp2_with ((with_reducible refine wp_store_Rn rowX _ ?_ ?_ ?_ ?_); (exact ⟨rfl, prc_ok x⟩); (kernel_rfl); (kernel_rfl))
          refine ⟨⟨k + 1, out, true, by omega, by simp, by omega, rfl, by go_num, Lib.hid H.out.i, HQ2⟩, ?_⟩
          simp [intOf]; omega
        · have HQ2 : Hid (q = (out ++ [x]) ++ T.go p s true (l.drop (k + 1))) := by
            have := HQ.out; rw [hdrop, (gq_cons p s true x (l.drop (k + 1)) out).2.1 rfl hc] at this; exact Lib.hid this
          have hne := neq_place x.1 p
          have hel := eql_place x.1 p
          rw [decide_eq_false hc] at hne hel
          simp only [Bool.not_false] at hne
          clear hdrop hc
          have HG := Lib.hid ((H.out.after (bel1 (wr.alloc (.cells #[.int .i64 x.1.1, .int .i64 x.1.2, .int .u32 x.2] 49)) (.cells #[.int .i64 x.1.1, .int .i64 x.1.2, .int .u32 x.2] 49))).i.g)
          have hsr := pr_src (wr.alloc (.cells #[.int .i64 x.1.1, .int .i64 x.1.2, .int .u32 x.2] 49)) x
          try simp only [World.size_alloc] at hsr
          have HSr := Lib.hid hsr
          clear hsr
          have HA2 := Lib.hid (H.out.after (bel1 (wr.alloc (.cells #[.int .i64 x.1.1, .int .i64 x.1.2, .int .u32 x.2] 49)) (.cells #[.int .i64 x.1.1, .int .i64 x.1.2, .int .u32 x.2] 49)))
          obtain ⟨z0, z1, z2, z3, z4⟩ := H.out.cells
          clear H
          go_wp2_with (first | ((with_reducible refine wp_store_Rn rowX _ ?_ ?_ ?_ ?_); (exact ⟨rfl, prc_ok x⟩); (kernel_rfl); (kernel_rfl)) | (at_builtin; refine wp_append_g rfl _ _ rfl Tryz.underlying35 infoX rfl (by omega) (by omega) rfl rfl HG.out HSr.out (by omega) ?_))
          intro vw2 w2 hg ht hn
          have H := Lib.hid (HA2.out.app (y := x) hg ht (by simp only [World.size_alloc]; exact hn))
          obtain ⟨ow2, cw2, ew2, _⟩ := H.out.i.g.shape
          rw [List.length_append, List.length_singleton] at ew2
          subst ew2
          clear HG HSr HA2 z0 z1 z2 z3 z4 hg ht hn
          obtain ⟨z0, z1, z2, z3, z4⟩ := H.out.cells
          go_wp2
          refine ⟨⟨k + 1, out ++ [x], true, by omega, by simp, by simp; omega, rfl, by go_num, Lib.hid H.out.i, HQ2⟩, ?_⟩
          simp [intOf]; omega

      | false =>
        cases hlt2 : T.lt p x.1 with
        | true =>
          have HQ2 : Hid (q = ((out ++ [(p, s)]) ++ [x]) ++ T.go p s true (l.drop (k + 1))) := by
            have := HQ.out; rw [hdrop, (gq_cons p s false x (l.drop (k + 1)) out).2.2.1 rfl hlt2] at this; exact Lib.hid this
          have hc : x.1 ≠ p := fun e => by rw [e, T.lt_irrefl] at hlt2; cases hlt2
          have hne := neq_place x.1 p
          have hel := eql_place x.1 p
          rw [decide_eq_false hc] at hne hel
          simp only [Bool.not_false] at hne
          clear hdrop hc
          obtain ⟨z0, z1, z2, z3, z4⟩ := H.out.cells
          go_wp2_with (first | ((with_reducible refine wp_store_Rn rowX _ ?_ ?_ ?_ ?_); (exact ⟨rfl, prc_ok x⟩); (kernel_rfl); (kernel_rfl)) | fail)
          refine (ahead_any p x.1 _).mono ?_
          rintro e wc ⟨rfl, hb⟩
          replace H := Lib.hid (H.out.after hb)
          clear hb z0 z1 z2 z3 z4
          rw [hlt2]
          clear hlt2
          have HG := Lib.hid ((H.out.after (bel1 wc (.cells #[.int .i64 p.1, .int .i64 p.2, .int .u32 s] 49))).i.g)
          have hsr := pr_src wc (p, s)
          try simp only [World.size_alloc] at hsr
          have HSr := Lib.hid hsr
          clear hsr
          have HA2 := Lib.hid (H.out.after (bel1 wc (.cells #[.int .i64 p.1, .int .i64 p.2, .int .u32 s] 49)))
          obtain ⟨z0, z1, z2, z3, z4⟩ := H.out.cells
          clear H
          go_wp2_with (first | (at_builtin; refine wp_append_g rfl _ _ rfl Tryz.underlying35 infoX rfl (by omega) (by omega) rfl rfl HG.out HSr.out (by omega) ?_))
          intro vw1 w1 hg ht hn
          have H := Lib.hid (HA2.out.app (y := (p, s)) hg ht (by simp only [World.size_alloc]; exact hn))
          obtain ⟨ow1, cw1, ew1, _⟩ := H.out.i.g.shape
          rw [List.length_append, List.length_singleton] at ew1
          subst ew1
          clear HG HSr HA2 z0 z1 z2 z3 z4 hg ht hn
          have hl1 : (out ++ [(p, s)]).length = out.length + 1 := by simp
          have hl2 : (out ++ [(p, s)]).length ≤ k + 1 := by have := ho1 (by trivial); omega
          generalize hou : out ++ [(p, s)] = ou at H HQ2 hl1 hl2 ⊢
          have HG := Lib.hid ((H.out.after (bel1 w1 (.cells #[.int .i64 x.1.1, .int .i64 x.1.2, .int .u32 x.2] 49))).i.g)
          have hsr := pr_src w1 x
          try simp only [World.size_alloc] at hsr
          have HSr := Lib.hid hsr
          clear hsr
          have HA2 := Lib.hid (H.out.after (bel1 w1 (.cells #[.int .i64 x.1.1, .int .i64 x.1.2, .int .u32 x.2] 49)))
          obtain ⟨z0, z1, z2, z3, z4⟩ := H.out.cells
          clear H
          go_wp2_with (first | (at_builtin; refine wp_append_g rfl _ _ rfl Tryz.underlying35 infoX rfl (by omega) (by omega) rfl rfl HG.out HSr.out (by omega) ?_))
          intro vw2 w2 hg ht hn
          rw [← hl1] at hg
          have H := Lib.hid (HA2.out.app (y := x) hg ht (by simp only [World.size_alloc]; exact hn))
          obtain ⟨ow2, cw2, ew2, _⟩ := H.out.i.g.shape
          rw [List.length_append, List.length_singleton] at ew2
          subst ew2
          clear HG HSr HA2 z0 z1 z2 z3 z4 hg ht hn
          obtain ⟨z0, z1, z2, z3, z4⟩ := H.out.cells
          go_wp2
          refine ⟨⟨k + 1, ou ++ [x], true, by omega, by simp, by simp; omega, rfl, by go_num, Lib.hid H.out.i, HQ2⟩, ?_⟩
          simp [intOf]; omega
        | false =>
          by_cases hc : x.1 = p
          · have HQ2 : Hid (q = (out ++ [(p, s)]) ++ T.go p s true (l.drop (k + 1))) := by
              have := HQ.out; rw [hdrop, (gq_cons p s false x (l.drop (k + 1)) out).2.2.2.1 rfl hlt2 hc] at this; exact Lib.hid this
            have hne := neq_place x.1 p
            have hel := eql_place x.1 p
            rw [decide_eq_true hc] at hne hel
            simp only [Bool.not_true] at hne
            clear hdrop hc
            obtain ⟨z0, z1, z2, z3, z4⟩ := H.out.cells
            go_wp2_with (first | ((with_reducible refine wp_store_Rn rowX _ ?_ ?_ ?_ ?_); (exact ⟨rfl, prc_ok x⟩); (kernel_rfl); (kernel_rfl)) | fail)
            refine (ahead_any p x.1 _).mono ?_
            rintro e wc ⟨rfl, hb⟩
            replace H := Lib.hid (H.out.after hb)
            clear hb z0 z1 z2 z3 z4
            rw [hlt2]
            clear hlt2
            have HG := Lib.hid ((H.out.after (bel1 wc (.cells #[.int .i64 p.1, .int .i64 p.2, .int .u32 s] 49))).i.g)
            have hsr := pr_src wc (p, s)
            try simp only [World.size_alloc] at hsr
            have HSr := Lib.hid hsr
            clear hsr
            have HA2 := Lib.hid (H.out.after (bel1 wc (.cells #[.int .i64 p.1, .int .i64 p.2, .int .u32 s] 49)))
            obtain ⟨z0, z1, z2, z3, z4⟩ := H.out.cells
            clear H
            go_wp2_with (first | (at_builtin; refine wp_append_g rfl _ _ rfl Tryz.underlying35 infoX rfl (by omega) (by omega) rfl rfl HG.out HSr.out (by omega) ?_))
            intro vw1 w1 hg ht hn
            have H := Lib.hid (HA2.out.app (y := (p, s)) hg ht (by simp only [World.size_alloc]; exact hn))
            obtain ⟨ow1, cw1, ew1, _⟩ := H.out.i.g.shape
            rw [List.length_append, List.length_singleton] at ew1
            subst ew1
            clear HG HSr HA2 z0 z1 z2 z3 z4 hg ht hn
            obtain ⟨z0, z1, z2, z3, z4⟩ := H.out.cells
            go_wp2
            refine ⟨⟨k + 1, out ++ [(p, s)], true, by omega, by simp, by simp; omega, rfl, by go_num, Lib.hid H.out.i, HQ2⟩, ?_⟩
            simp [intOf]; omega
          · have HQ2 : Hid (q = (out ++ [x]) ++ T.go p s false (l.drop (k + 1))) := by
              have := HQ.out; rw [hdrop, (gq_cons p s false x (l.drop (k + 1)) out).2.2.2.2 rfl hlt2 hc] at this; exact Lib.hid this
            have hne := neq_place x.1 p
            have hel := eql_place x.1 p
            rw [decide_eq_false hc] at hne hel
            simp only [Bool.not_false] at hne
            clear hdrop hc
            obtain ⟨z0, z1, z2, z3, z4⟩ := H.out.cells
            go_wp2_with (first | ((with_reducible refine wp_store_Rn rowX _ ?_ ?_ ?_ ?_); (exact ⟨rfl, prc_ok x⟩); (kernel_rfl); (kernel_rfl)) | fail)
            refine (ahead_any p x.1 _).mono ?_
            rintro e wc ⟨rfl, hb⟩
            replace H := Lib.hid (H.out.after hb)
            clear hb z0 z1 z2 z3 z4
            rw [hlt2]
            clear hlt2
            have HG := Lib.hid ((H.out.after (bel1 wc (.cells #[.int .i64 x.1.1, .int .i64 x.1.2, .int .u32 x.2] 49))).i.g)
            have hsr := pr_src wc x
            try simp only [World.size_alloc] at hsr
            have HSr := Lib.hid hsr
            clear hsr
            have HA2 := Lib.hid (H.out.after (bel1 wc (.cells #[.int .i64 x.1.1, .int .i64 x.1.2, .int .u32 x.2] 49)))
            obtain ⟨z0, z1, z2, z3, z4⟩ := H.out.cells
            clear H
            go_wp2_with (first | (at_builtin; refine wp_append_g rfl _ _ rfl Tryz.underlying35 infoX rfl (by omega) (by omega) rfl rfl HG.out HSr.out (by omega) ?_))
            intro vw1 w1 hg ht hn
            have H := Lib.hid (HA2.out.app (y := x) hg ht (by simp only [World.size_alloc]; exact hn))
            obtain ⟨ow1, cw1, ew1, _⟩ := H.out.i.g.shape
            rw [List.length_append, List.length_singleton] at ew1
            subst ew1
            clear HG HSr HA2 z0 z1 z2 z3 z4 hg ht hn
            obtain ⟨z0, z1, z2, z3, z4⟩ := H.out.cells
            go_wp2
            refine ⟨⟨k + 1, out ++ [x], false, by omega, by (intro _; simp; have := ho1 (by trivial); omega), by simp; omega, rfl, by go_num, Lib.hid H.out.i, HQ2⟩, ?_⟩
            simp [intOf]; omega
    · obtain rfl : k = l.length := by omega
      have hdrop : l.drop l.length = [] := List.drop_length
      cases d with
      | true =>
        have hq2 : q = out := by rw [HQ.out, hdrop]; simp [T.go]
        have HLo := Lib.hid (fun k hk => (show w.heap.size ≤ k by have := HP.out.lo k (HP.out.g.rdblk hk); omega))
        obtain ⟨HF, HR, c4, f4, HX, HY⟩ := HP.out.fin ht
        have HF := Lib.hid HF
        have HR := Lib.hid HR
        have HX := Lib.hid HX
        have HY := Lib.hid HY
        clear hdrop
        go_wp2_with (first | ((with_reducible refine wp_load_R rowF HF.out ?_ ?_); (kernel_rfl)) | ((with_reducible refine wp_store_R _ rowF HR.out ?_ ?_ ?_); (kernel_rfl); (kernel_rfl)))
        refine bodyPost_ret (res_R rowF (fn := Tryz.f33) rfl _ (HR.out.1.set HR.out.2) rfl) rfl ⟨_, rfl, ?_, HLo.out, HY.out⟩
        rw [hq2]; exact HX.out
      | false =>
        have hq2 : q = out ++ [(p, s)] := by rw [HQ.out, hdrop]; simp [T.go]
        have HG := Lib.hid ((HP.out.after (bel1 wr (.cells #[.int .i64 p.1, .int .i64 p.2, .int .u32 s] 49))).g)
        have HSr := Lib.hid (pr_src wr (p, s))
        have HA2 := Lib.hid (HP.out.after (bel1 wr (.cells #[.int .i64 p.1, .int .i64 p.2, .int .u32 s] 49)))
        obtain ⟨z0, z1⟩ := HP.out.cells
        clear hdrop HP
        go_wp2_with (first | (at_builtin; refine wp_append_g rfl _ _ rfl Tryz.underlying35 infoX rfl (by omega) (by omega) rfl rfl HG.out HSr.out (by omega) ?_))
        intro v1 w1 hg htn hn
        have H := Lib.hid (HA2.out.app (x := (p, s)) hg htn (by simp only [World.size_alloc]; exact hn))
        obtain ⟨o3, c3, e3, _⟩ := H.out.g.shape
        rw [List.length_append, List.length_singleton] at e3
        subst e3
        have HLo := Lib.hid (fun k hk => (show w.heap.size ≤ k by have := H.out.lo k (H.out.g.rdblk hk); omega))
        obtain ⟨HF, HR, c4, f4, HX, HY⟩ := H.out.fin ht
        have HF := Lib.hid HF
        have HR := Lib.hid HR
        have HX := Lib.hid HX
        have HY := Lib.hid HY
        clear HG HSr HA2 z0 z1 hg htn hn H p4
        go_wp2_with (first | ((with_reducible refine wp_load_R rowF HF.out ?_ ?_); (kernel_rfl)) | ((with_reducible refine wp_store_R _ rowF HR.out ?_ ?_ ?_); (kernel_rfl); (kernel_rfl)))
        refine bodyPost_ret (res_R rowF (fn := Tryz.f33) rfl _ (HR.out.1.set HR.out.2) rfl) rfl ⟨_, rfl, ?_, HLo.out, HY.out⟩
        rw [hq2]; exact HX.out
end Go.Proofs.YtiohlmccnllklaaGreatDoor
namespace Go.Proofs.YtiohlmccnllklaaGreatDoor
open Go.RowKit
set_option maxHeartbeats 8000000
set_option maxRecDepth 100000
set_option linter.unusedVariables false
set_option linter.unusedSimpArgs false

theorem toL2 {g : Nat} {w w' : World} (h : Turned (fun k => k = g) w w') : L2.Turned [g] w w' := ⟨h.os, h.tape, h.output, h.size, fun k hk hn => h.block k hk (by simpa using hn)⟩
abbrev tbV (g n c : Nat) : Value := .slice (some ⟨g, 0, none⟩) n c
/-- A flow of the document's, as it is: f: what it is; g: the block of its sets. -/
structure RvI (w : World) (f : T.Fl) (g ct : Nat) (pv : Value) : Prop where
  t : L2.RT w g ct f.ss
  p : PrIn w pv f.ps
/-- The blocks that it reads. -/
def rvB (g : Nat) (pv : Value) (k : Nat) : Prop := k = g ∨ rdBlk pv = some k
/-- A flow of the document's that a call made of one whose blocks are G. -/
def RvO (w0 : World) (G : Nat → Prop) (w : World) (f : T.Fl) (c : Array Value) : Prop := ∃ g ct pv, c = rfc f.fr f.se f.mo (tbV g f.ss.length ct) pv ∧ RvI w f g ct pv ∧ ∀ k, rvB g pv k → G k ∨ w0.heap.size ≤ k
def Rv (w : World) (f : T.Fl) (c : Array Value) : Prop := ∃ g ct pv, c = rfc f.fr f.se f.mo (tbV g f.ss.length ct) pv ∧ RvI w f g ct pv
theorem RvI.below {w w' : World} {f : T.Fl} {g ct : Nat} {pv : Value} (h : RvI w f g ct pv) (hb : Below w.heap.size w w') : RvI w' f g ct pv := ⟨h.t.below hb, h.p.below hb⟩
theorem Rv.below {w w' : World} {f : T.Fl} {c : Array Value} (h : Rv w f c) (hb : Below w.heap.size w w') : Rv w' f c := by
  obtain ⟨g, ct, pv, h1, h2⟩ := h
  exact ⟨g, ct, pv, h1, h2.below hb⟩
theorem RvI.ok {w : World} {f : T.Fl} {g ct : Nat} {pv : Value} (h : RvI w f g ct pv) (fr se mo : Int) : Ok1 5 (rfc fr se mo (tbV g f.ss.length ct) pv) := rfc_ok _ _ _ rfl h.p.one
theorem Rv.ok {w : World} {f : T.Fl} {c : Array Value} (h : Rv w f c) : Ok1 5 c := by
  obtain ⟨g, ct, pv, rfl, h2⟩ := h
  exact h2.ok _ _ _
theorem RNew_any (fr se mo : Int) (w : World) : Calls Tryz.prog 7 #[.agg #[.int .i64 fr, .int .i64 se], .int .i64 mo] w fun e w' => ∃ c, e = .returned (.agg c) ∧ RvO w (fun _ => False) w' ⟨fr, se, mo, [0], []⟩ c ∧ Below w.heap.size w w' := by
  have h1 : Rf 27 2 (w.alloc (.cells #[.int .i64 fr, .int .i64 se] 27)) w.heap.size #[.int .i64 fr, .int .i64 se] := ⟨blk_new _ _ _, rfl, by simp; exact ⟨rfl, rfl⟩⟩
  have h2 := zF_ok.new 37 (w.alloc (.cells #[.int .i64 fr, .int .i64 se] 27))
  rw [World.size_alloc] at h2
  have HB := Lib.hid (bel2 w (.cells #[.int .i64 fr, .int .i64 se] 27) (.cells zF 37))
  have H0 : Hid (Rf 27 2 ((w.alloc (.cells #[.int .i64 fr, .int .i64 se] 27)).alloc (.cells zF 37)) w.heap.size #[.int .i64 fr, .int .i64 se] ∧ ∃ c, Rf 37 5 ((w.alloc (.cells #[.int .i64 fr, .int .i64 se] 27)).alloc (.cells zF 37)) (w.heap.size + 1) c) := Lib.hid ⟨h1.alloc _, _, h2⟩
  clear h1 h2
  go_enter Tryz.func7, Tryz.ntmps7
  go_wp2
  generalize (w.alloc (.cells #[.int .i64 fr, .int .i64 se] 27)).alloc (.cells zF 37) = W0 at H0 HB ⊢
  have hz0 : w.heap.size + 1 < W0.drew.heap.size := by obtain ⟨_, h⟩ := H0.out.2; exact h.lt
  have hS : Hl (fun W => Rf 27 2 W w.heap.size #[.int .i64 fr, .int .i64 se] ∧ ∃ c, Rf 37 5 W (w.heap.size + 1) c) W0 W0.drew := Hl.start ((st_rf _ _ _ _).and (st_ex _ _ _)) H0.out
  refine wp_region_held_drew (S := fun W => Rf 27 2 W w.heap.size #[.int .i64 fr, .int .i64 se] ∧ ∃ c, Rf 37 5 W (w.heap.size + 1) c) (by kernel_rfl) hS.i (fun _ => ?_)
  refine Dense.tv 0 (some 5) rfl (y_R rowM (by rfl) rfl rfl (fun W hW => hW.1)) hS.i ?_
  refine Dense.tk 1 (some 6) hS.i ?_
  refine Dense.o1 2 ?_
  go_simp
  refine (L2.RNew_any mo _).mono ?_
  rintro e wc ⟨g, ct, rfl, hrt, hg, hb⟩
  have HRT := Lib.hid hrt
  have hgS := hS.b
  replace hS := hS.after ((st_rf _ _ _ _).and (st_ex _ _ _)) hb
  have hgS2 := hS.b
  clear hb
  unfold L2.rtab
  refine ⟨hS.i, ?_⟩
  refine Dense.nm ?_
  refine Dense.tk 3 (some 8) hS.i ?_
  refine Dense.o1 4 ?_
  have hok : Ok1 5 (rfc fr se mo (tbV g 1 ct) (.slice none 0 0)) := rfc_ok _ _ _ rfl rfl
  obtain ⟨c0, hc0⟩ := hS.i.2
  refine o_store_R (d := none) rfl (rfc fr se mo (tbV g 1 ct) (.slice none 0 0)) rowF hc0 hok rfl rfl rfl ?_
  have hR := Lib.hid (hc0.set hok)
  have hF := Lib.hid (hS.i.1.setOther (g := w.heap.size + 1) (by omega) (rfc fr se mo (tbV g 1 ct) (.slice none 0 0)))
  refine ⟨⟨hF.out, _, hR.out⟩, ?_⟩
  refine Dense.nm ?_
  refine wpAnyH_done (by kernel_rfl) ?_ _
  have HB2 := hS.b
  go_wp2
  refine bodyPost_ret (res_R rowF (fn := Tryz.f7) rfl _ hR.out rfl) rfl ⟨_, rfl, ⟨g, ct, _, rfl, ⟨?_, Rd.nil _ _ _ _⟩, fun k hk => ?_⟩, ?_⟩
  · exact HRT.out.kept (L2.Turned.mono (F := [w.heap.size + 1]) (toL2 (turned_setRow _ _ _)) (fun x hx => hx)) (by simp; omega)
  · rcases hk with rfl | e
    · exact .inr (by omega)
    · simp [rdBlk] at e
  · exact (HB.out.trans (hgS2.mono HB.out.size)).trans ((turned_setRow _ _ _).below (by have := HB.out.size; have := hgS2.size; omega) (fun k e => by omega))
end Go.Proofs.YtiohlmccnllklaaGreatDoor
