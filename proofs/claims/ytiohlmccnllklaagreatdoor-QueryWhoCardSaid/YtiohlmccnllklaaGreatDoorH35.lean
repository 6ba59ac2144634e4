/-
  Layer 14: what was found, as a map of points; the closure's boxes. No walk. Layer 14: going back from a point: the closure of Roots: walk.
-/
import Derived.Test.YtiohlmccnllklaaGreatDoorH34
set_option linter.unusedVariables false
set_option linter.unusedSimpArgs false
namespace Go.Proofs.YtiohlmccnllklaaGreatDoor.Q
open Go.RowKit
set_option maxHeartbeats 8000000
set_option maxRecDepth 100000
set_option linter.unusedVariables false
set_option linter.unusedSimpArgs false

def ptc (a : T.Pt) : Array Value := #[.int .i64 a.1.1, .int .i64 a.1.2, .int .i64 a.2]
def PiT (a : T.Pt) : Prop := Pi a.1 ∧ I64 a.2
def qk (a : T.Pt) : Lit := .string (keyBytes [.int .i64 a.1.1, .int .i64 a.1.2, .int .i64 a.2])
theorem pointType : Tryz.prog.keyType 120 = true := by kernel_rfl
theorem pointLaw : Maps.Keyed Tryz.prog 120 := Maps.Keyed.of_law (deep_law_gate (by kernel_rfl) (of_decide_eq_true (by kernel_rfl)) (of_decide_eq_true (by kernel_rfl)) pointType (by kernel_rfl))
theorem key_point {a : T.Pt} (hp : PiT a) : keyOf Tryz.prog 120 (.agg (ptc a)) = some (qk a) := by
  obtain ⟨⟨a, b⟩, c⟩ := a
  have wa := wf_i64 hp.1.1.1 hp.1.1.2
  have wb := wf_i64 hp.1.2.1 hp.1.2.2
  have wc := wf_i64 hp.2.1 hp.2.2
  have hc : Tryz.prog.cellsOf 120 = 3 := by kernel_rfl
  have hd : Tryz.prog.cellsOf 42 = 2 := by kernel_rfl
  have hi : Tryz.prog.cellsOf 3 = 1 := by kernel_rfl
  have hj : Tryz.prog.cellsOf 40 = 1 := by kernel_rfl
  have hk : Tryz.prog.cellsOf 2 = 1 := by kernel_rfl
  obtain ⟨m, hm⟩ : ∃ m, Tryz.prog.types.size = m + 2 := ⟨Tryz.prog.types.size - 2, by have : 2 ≤ Tryz.prog.types.size := of_decide_eq_true (by kernel_rfl); omega⟩
  have hu := Tryz.underlying120
  have hu2 := Tryz.underlying42
  have hv := Tryz.underlying3
  have hw := Tryz.underlying40
  have hx := Tryz.underlying2
  unfold keyOf ptc
  simp only [hu]
  rw [if_pos (by simp [pointType, Value.formed, hu, hc]), hm]
  unfold Program.keyLits
  simp only [hu, Value.cells]
  rw [if_pos (by rw [hc]; exact ⟨rfl, by kernel_rfl⟩)]
  simp at wa wb wc
  simp [Program.keyLits, hd, hi, hj, hk, hu2, hv, hw, hx, wa, wb, wc, qk]
  rw [if_pos (by
    intro i hi
    rcases (show i = 0 ∨ i = 1 by omega) with rfl | rfl <;> simp)]
  rfl
theorem isKey_qk (a : T.Pt) : WideAt.IsKeyLit (qk a) := trivial
theorem qk_ne {a b : T.Pt} (hp : PiT a) (hq : PiT b) (h : a ≠ b) : qk a ≠ qk b := fun e => by
  have h1 := key_point hp
  have h2 := key_point hq
  rw [e] at h1
  have e2 := pointLaw.inj h1 h2
  simp [ptc] at e2
  exact h (Prod.ext (Prod.ext e2.1 e2.2.1) e2.2.2)
/-- What was found. -/
def FdD (F : List T.Pt) (D : DataW Unit) : Prop := ∀ a, PiT a → Maps.has D (qk a) = decide (a ∈ F)
theorem fdD_new : FdD [] (.map []) := fun a _ => by simp [Maps.has]
theorem FdD.put {F : List T.Pt} {D : DataW Unit} (h : FdD F D) (hm : Maps.IsMap D) {a : T.Pt} (ha : PiT a) : FdD (a :: F) (D.put (qk a) (.agg [])) := fun b hb => by
  by_cases e : b = a
  · subst e; rw [Maps.has_put_same hm (isKey_qk _)]; simp
  · rw [Maps.has_put_other (qk_ne hb ha e), h b hb]
    simp [e]
theorem rowPt : (Tryz.prog.info? 126).map (·.size) = some 0 := by kernel_rfl
theorem zero_point (w : World) : (zeroValue 120).run Tryz.prog w = .ok (.agg #[.int .i64 0, .int .i64 0, .int .i64 0]) w := by kernel_rfl
theorem zero_unit (w : World) : (zeroValue 126).run Tryz.prog w = .ok (.agg #[]) w := by kernel_rfl
theorem infoPt : (Tryz.prog.info? 120).map (fun i => (i.zero, i.size, i.bytes)) = some (some (.agg #[.int .i64 0, .int .i64 0, .int .i64 0]), 3, 24) := by kernel_rfl

/-- The closure's boxes: what is left, the history, what was found, the roots, itself. -/
structure Bx5 where
  l : Nat
  h : Nat
  f : Nat
  r : Nat
  g : Nat
  m : Nat
def Bx5.ps (x : Bx5) : Array Value := #[.pointer (some ⟨x.l, 0, none⟩), .pointer (some ⟨x.h, 0, none⟩), .pointer (some ⟨x.f, 0, none⟩), .pointer (some ⟨x.r, 0, none⟩), .pointer (some ⟨x.g, 0, none⟩)]
def Bx5.fn (x : Bx5) : Value := .func (.func 45) #[] x.ps
/-- The state of a search: base w0. -/
structure Fw (w0 : World) (S : Nat) (x : Bx5) (F : List T.Pt) (R : List T.Pl) (W : World) : Prop where
  b : Below w0.heap.size w0 W
  h : Blk W x.h #[.pointer (some ⟨S, 0, none⟩)] 55
  f : Blk W x.f #[.map (some x.m)] 124
  g : Blk W x.g #[x.fn] 123
  r : ∃ rv, Blk W x.r #[rv] 24 ∧ Own W rv R ∧ ∀ k, blkOf rv = some k → w0.heap.size ≤ k
  m : ∃ D, W.ownsMap Tryz.prog 120 unitElem x.m F.length D ∧ FdD F D
  lo : w0.heap.size ≤ x.r ∧ w0.heap.size ≤ x.m
/-- What a search turns: the roots' box, the map, rows of places that are none of the base's. -/
def Fg (w0 : World) (x : Bx5) (W : World) (k : Nat) : Prop := k = x.r ∨ k = x.m ∨ (w0.heap.size ≤ k ∧ ∃ cur, Blk W k cur 42)
theorem Fw.after {w0 : World} {S : Nat} {x : Bx5} {F : List T.Pt} {R : List T.Pl} {W W' : World} (h : Fw w0 S x F R W) (hb : Below W.heap.size W W') : Fw w0 S x F R W' := by
  obtain ⟨rv, r1, r2, r3⟩ := h.r
  obtain ⟨D, m1, m2⟩ := h.m
  exact ⟨belT h.b hb, h.h.below hb, h.f.below hb, h.g.below hb, ⟨rv, r1.below hb, r2.below hb, r3⟩, ⟨D, own_keep m1 (hb.block _ m1.lt), m2⟩, h.lo⟩
theorem Fw.neM {w0 : World} {S : Nat} {x : Bx5} {F : List T.Pt} {R : List T.Pl} {W : World} (h : Fw w0 S x F R W) {k : Nat} {cur : Array Value} {ty : TypeId} (hb : Blk W k cur ty) : k ≠ x.m := by
  rintro rfl
  obtain ⟨D, m1, _⟩ := h.m
  obtain ⟨es, c, e⟩ := own_blk m1
  unfold Blk at hb
  rw [e] at hb; cases hb
/-- Something is found. -/
theorem Fw.found {w0 : World} {S : Nat} {x : Bx5} {F : List T.Pt} {R : List T.Pl} {W W' : World} (h : Fw w0 S x F R W) {a : T.Pt} (ha : PiT a) {D : DataW Unit} (hD : FdD F D) (hm : Maps.IsMap D) (hown : W'.ownsMap Tryz.prog 120 unitElem x.m (F.length + 1) (D.put (qk a) (.agg []))) (hg : W.grownBy W' (some x.m)) :
    Fw w0 S x (a :: F) R W' ∧ Turned (fun k => k = x.m) W W' := by
  have ht : Turned (fun k => k = x.m) W W' := Turned.of_grown hg (fun k e => by cases e; rfl)
  obtain ⟨rv, r1, r2, r3⟩ := h.r
  refine ⟨⟨h.b.trans (ht.below h.b.size (fun k e => by have := h.lo.2; omega)), h.h.turned ht (h.neM h.h), h.f.turned ht (h.neM h.f), h.g.turned ht (h.neM h.g), ⟨rv, r1.turned ht (h.neM r1), r2.keep fun k cur hb => ht.block k hb.lt (h.neM hb), r3⟩, ⟨_, hown, hD.put hm ha⟩, h.lo⟩, ht⟩
/-- A root is told. -/
theorem Fw.root {w0 : World} {S : Nat} {x : Bx5} {F : List T.Pt} {R : List T.Pl} {W W6 : World} (h : Fw w0 S x F R W) {p : T.Pl} (hp : Pi p) {rv v6 : Value} (r1 : Blk W x.r #[rv] 24) (r2 : Own W rv R) (r3 : ∀ k, blkOf rv = some k → w0.heap.size ≤ k)
    (hg6 : Gs 42 2 W6 v6 (R.length + 1) (R.flatMap plc ++ plc p)) (ht6 : Turned (fun k => blkOf rv = some k) W W6) (hn6 : ∀ k, blkOf v6 = some k → blkOf rv = some k ∨ W.heap.size ≤ k) :
    Fw w0 S x F (R ++ [p]) (W6.setCell ⟨x.r, 0, none⟩ v6) ∧ Turned (fun k => k = x.r ∨ blkOf rv = some k) W (W6.setCell ⟨x.r, 0, none⟩ v6) ∧ Blk W6 x.r #[rv] 24 := by
  have nb : ∀ {k : Nat} {cur : Array Value} {ty : TypeId}, Blk W k cur ty → ty ≠ 42 → ¬ blkOf rv = some k := fun {k cur ty} hb hne e => by
    obtain ⟨cur', h1⟩ := r2.1.in_ e
    unfold Blk at hb h1
    rw [hb] at h1
    simp at h1
    exact hne h1.2
  have r6 := r1.turned ht6 (nb r1 (by decide))
  have hs := r6.setCell 0 v6
  have ht7 : Turned (fun k => k = x.r) W6 (W6.setCell ⟨x.r, 0, none⟩ v6) := (Turned.refl (fun k => k = x.r) W6).setCell (p := ⟨x.r, 0, none⟩) (.inl rfl) v6
  have ht : Turned (fun k => k = x.r ∨ blkOf rv = some k) W (W6.setCell ⟨x.r, 0, none⟩ v6) := (ht6.mono (fun k e => .inr e)).trans ht7 (fun k e => .inl (.inl e))
  have ne : ∀ {k : Nat} {cur : Array Value} {ty : TypeId}, Blk W k cur ty → ty ≠ 24 → ¬ k = x.r := fun {k cur ty} hb hne e => by
    subst e
    unfold Blk at hb r1
    rw [r1] at hb
    simp at hb
    exact hne hb.2.symm
  have both : ∀ {k : Nat} {cur : Array Value} {ty : TypeId}, Blk W k cur ty → ty ≠ 24 → ty ≠ 42 → ¬ (k = x.r ∨ blkOf rv = some k) := fun hb h1 h2 e => by
    rcases e with e | e
    · exact ne hb h1 e
    · exact nb hb h2 e
  obtain ⟨D, m1, m2⟩ := h.m
  refine ⟨⟨h.b.trans (ht.below h.b.size (fun k e => by rcases e with e | e; have := h.lo.1; omega; exact r3 k e)), h.h.turned ht (both h.h (by decide) (by decide)), h.f.turned ht (both h.f (by decide) (by decide)), h.g.turned ht (both h.g (by decide) (by decide)), ⟨v6, hs, ⟨?_, fun q hq => ?_⟩, fun k hk => ?_⟩, ⟨D, own_keep m1 (ht.block _ m1.lt fun e => ?_), m2⟩, h.lo⟩, ht, r6⟩
  · rw [List.length_append, List.flatMap_append]
    have e : [p].flatMap plc = plc p := by simp
    rw [e]
    refine hg6.turned ht7 fun k hk e => ?_
    subst e
    obtain ⟨cur', h1⟩ := hg6.in_ hk
    unfold Blk at r6 h1
    rw [r6] at h1
    simp at h1
  · rcases List.mem_append.1 hq with hq | hq
    · exact r2.2 q hq
    · rw [List.mem_singleton.1 hq]; exact hp
  · rcases hn6 k hk with e | e
    · exact r3 k e
    · have := h.b.size; omega
  · rcases e with e | e
    · exact h.neM r1 e.symm
    · obtain ⟨cur', h1⟩ := r2.1.in_ e
      exact h.neM h1 rfl
end Go.Proofs.YtiohlmccnllklaaGreatDoor.Q
namespace Go.Proofs.YtiohlmccnllklaaGreatDoor.Q
open Go.RowKit
set_option maxHeartbeats 16000000
set_option maxRecDepth 100000
set_option linter.unusedVariables false
set_option linter.unusedSimpArgs false

theorem Fg.back {w0 w W : World} {x : Bx5} {G : Nat → Prop} (ht : Turned G w W) (hG : ∀ k, G k → Fg w0 x w k ∨ w.heap.size ≤ k) : ∀ k, Fg w0 x W k → Fg w0 x w k ∨ w.heap.size ≤ k := by
  rintro k (e | e | ⟨hb, cur, hc⟩)
  · exact .inl (.inl e)
  · exact .inl (.inr (.inl e))
  · by_cases hk : w.heap.size ≤ k
    · exact .inr hk
    · by_cases hg : G k
      · exact hG k hg
      · exact .inl (.inr (.inr ⟨hb, cur, (ht.block k (by omega) hg).symm.trans hc⟩))
def FolO (w0 : World) (S : Nat) (x : Bx5) (ns : List T.No) (U : List T.Pt) (F : List T.Pt) (R : List T.Pl) (a : T.Pt) (w : World) (e : Ending) (w' : World) : Prop :=
  e = .returned (.tuple #[]) ∧ ∃ F' R', Fw w0 S x F' R' w' ∧ T.Dfs ns U F R a F' R' ∧ Turned (Fg w0 x w) w w'
/-- While a note's places are gone through. -/
structure Fl (w0 : World) (S : Nat) (x : Bx5) (ns : List T.No) (U : List T.Pt) (F : List T.Pt) (a : T.Pt) (w : World) (Nb : Nat) (nc : Array Value) (i : Nat) (W : World) : Prop where
  d : ∃ F2 R2, Fw w0 S x F2 R2 W ∧ T.DfsI ns U (T.key ns a :: F) a (T.kids ns a) i F2 R2
  t : Turned (Fg w0 x w) w W
  n : Blk W Nb nc 63
theorem Fl.after {w0 : World} {S : Nat} {x : Bx5} {ns : List T.No} {U F : List T.Pt} {a : T.Pt} {w : World} {Nb : Nat} {nc : Array Value} {i : Nat} {W W' : World} (h : Fl w0 S x ns U F a w Nb nc i W) (hb : Below W.heap.size W W') : Fl w0 S x ns U F a w Nb nc i W' := by
  obtain ⟨F2, R2, h1, h2⟩ := h.d
  exact ⟨⟨F2, R2, h1.after hb, h2⟩, h.t.trans (Turned.of_below hb (fun _ => False)) (fun _ e => e.elim), h.n.below hb⟩
theorem tg_trans {w0 w W W' : World} {x : Bx5} {G : Nat → Prop} (h : Turned (Fg w0 x w) w W) (k : Turned G W W') (hG : ∀ j, G j → Fg w0 x W j) : Turned (Fg w0 x w) w W' :=
  h.trans k fun j hj => Fg.back h (fun _ e => .inl e) j (hG j hj)
theorem tg_below {w0 w W W' : World} {x : Bx5} (h : Turned (Fg w0 x w) w W) (hb : Below W.heap.size W W') : Turned (Fg w0 x w) w W' := h.trans (Turned.of_below hb (fun _ => False)) (fun _ e => e.elim)
theorem pl_src (w : World) (p : T.Pl) : Src Tryz.prog 2 24 (.slice (some ⟨w.heap.size, 0, none⟩) 1 1) 1 (plc p) (w.alloc (.cells (plc p).toArray 42)) :=
  (Gs.lit (sz := 2) (n := 1) (cs := (plc p).toArray) w 42 rfl (by decide)).src Tryz.underlying24 (by intro u hu; simp [plc] at hu; rcases hu with rfl | rfl <;> rfl)
theorem fol_leaf {w0 : World} {S : Nat} {x : Bx5} {ns : List T.No} {U F : List T.Pt} {R : List T.Pl} {a : T.Pt} {w W4 w5 W5 W6 : World} {rv : Value} (hu : T.Up ns) (hI : T.Inv U F R) (hU : T.key ns a ∈ U) (hn : T.lastN ns a.1 a.2 = none) (hkf : ((a.1, -1) : T.Pt) ∉ F) (hT : Below w.heap.size w W4)
    (hX : Turned (fun k => k = x.m) W4 w5) (hb : Below w5.heap.size w5 W5) (r2 : Own W5 rv R) (r3 : ∀ k, blkOf rv = some k → w0.heap.size ≤ k) (hY : Fw w0 S x ((a.1, -1) :: F) (R ++ [a.1]) W6) (hY2 : Turned (fun k => k = x.r ∨ blkOf rv = some k) W5 W6) :
    FolO w0 S x ns U F R a w (.returned (.tuple #[])) W6 := by
  have hkey : T.key ns a = (a.1, -1) := by unfold T.key T.nst; rw [hn]
  have hd := T.Dfs.leaf hI hn hu (by rw [hkey]; exact hkf) hU
  rw [hkey] at hd
  refine ⟨rfl, _, _, hY, hd, ?_⟩
  have t1 := tg_trans (Turned.of_below hT (Fg w0 x w)) hX (fun j e => .inr (.inl e))
  refine tg_trans (tg_below t1 hb) hY2 (fun j e => ?_)
  rcases e with e | e
  · exact .inl e
  · obtain ⟨cur, hc⟩ := r2.1.in_ e
    exact .inr (.inr ⟨r3 j e, cur, hc⟩)
/-- A note's point: found already. -/
theorem fol_was {w0 : World} {S : Nat} {x : Bx5} {ns : List T.No} {U F : List T.Pt} {R : List T.Pl} {a : T.Pt} {w W : World} (hI : T.Inv U F R) (hk : T.key ns a ∈ F) (h : Fw w0 S x F R W) (hT : Below w.heap.size w W) : FolO w0 S x ns U F R a w (.returned (.tuple #[])) W :=
  ⟨rfl, F, R, h, .found hI hk, Turned.of_below hT _⟩
theorem Fl.start {w0 : World} {S : Nat} {x : Bx5} {ns : List T.No} {U F : List T.Pt} {R : List T.Pl} {a : T.Pt} {w W4 w5 : World} {Nb : Nat} {nc : Array Value} {n : T.No} (hu : T.Up ns) (hI : T.Inv U F R) (hU : T.key ns a ∈ U) (hn : T.lastN ns a.1 a.2 = some n) (hkf : T.key ns a ∉ F) (hT : Below w.heap.size w W4)
    (hX : Turned (fun k => k = x.m) W4 w5) (hF : Fw w0 S x (T.key ns a :: F) R w5) (hN : Blk w5 Nb nc 63) : Fl w0 S x ns U F a w Nb nc 0 w5 :=
  ⟨⟨_, R, hF, T.DfsI.start hu hI hn hkf hU⟩, tg_trans (Turned.of_below hT (Fg w0 x w)) hX (fun j e => .inr (.inl e)), hN⟩
theorem Fl.step {w0 : World} {S : Nat} {x : Bx5} {ns : List T.No} {U F : List T.Pt} {a : T.Pt} {w W W8 : World} {Nb : Nat} {nc : Array Value} {i : Nat} {c : T.Pt} {F2 : List T.Pt} {R2 : List T.Pl} (ht : Turned (Fg w0 x w) w W) (hN : Blk W Nb nc 63) (hF : Fw w0 S x F2 R2 W) (hD : T.DfsI ns U (T.key ns a :: F) a (T.kids ns a) i F2 R2) (hc : (T.kids ns a)[i]? = some c)
    {e : Ending} (h : FolO w0 S x ns U F2 R2 c W e W8) : e = .returned (.tuple #[]) ∧ Fl w0 S x ns U F a w Nb nc (i + 1) W8 := by
  obtain ⟨rfl, F3, R3, h3, hd3, ht3⟩ := h
  refine ⟨rfl, ⟨F3, R3, h3, hD.step hc hd3⟩, tg_trans ht ht3 (fun _ e => e), hN.turned ht3 fun e => ?_⟩
  rcases e with e | e | ⟨_, cur, hp⟩
  · subst e
    obtain ⟨rv, r1, _⟩ := hF.r
    unfold Blk at r1 hN
    rw [r1] at hN
    simp at hN
  · exact hF.neM hN e
  · unfold Blk at hp hN
    rw [hN] at hp
    simp at hp
theorem Fl.end_ {w0 : World} {S : Nat} {x : Bx5} {ns : List T.No} {U F : List T.Pt} {R : List T.Pl} {a : T.Pt} {w W : World} {Nb : Nat} {nc : Array Value} {n : T.No} (hu : T.Up ns) (hn : T.lastN ns a.1 a.2 = some n) (h : Fl w0 S x ns U F a w Nb nc n.fr.length W) : FolO w0 S x ns U F R a w (.returned (.tuple #[])) W := by
  obtain ⟨F2, R2, h1, h2⟩ := h.d
  have hk : (T.kids ns a).length = n.fr.length := by unfold T.kids; rw [hn]; simp
  rw [← hk] at h2
  have he := T.DfsI.end_ (R := R) hu h2
  exact ⟨rfl, F2, R2, h1, he, h.t⟩
end Go.Proofs.YtiohlmccnllklaaGreatDoor.Q
