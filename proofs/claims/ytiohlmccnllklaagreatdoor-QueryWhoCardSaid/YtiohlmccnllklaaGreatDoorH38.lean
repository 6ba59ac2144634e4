/-
  Layer 14: Roots: walk.
-/
import Derived.Test.YtiohlmccnllklaaGreatDoorH36
import Derived.Test.YtiohlmccnllklaaGreatDoorH37
import Derived.Laws.EntriesVeiled
set_option linter.unusedVariables false
set_option linter.unusedSimpArgs false
namespace Go.Proofs.YtiohlmccnllklaaGreatDoor.Q
open Go.RowKit
set_option maxHeartbeats 16000000
set_option maxRecDepth 100000
set_option linter.unusedVariables false
set_option linter.unusedSimpArgs false

theorem fol_any {w0 : World} {S mb : Nat} {ns : List T.No} {la : Int} {V : T.Pl → Value} (h0 : HsIs w0 S mb ns la V) (hu : T.Up ns) (hl : ns.length ≤ 900000) (hfp : ∀ n ∈ ns, ∀ q ∈ n.fr, Pi q) (hpn : ∀ n ∈ ns, I64 n.st) {Sl : List Int} (hSl : ∀ n ∈ ns, n.st ∈ Sl) {A : List T.Pl} (hA : ∀ n ∈ ns, ∀ q ∈ n.fr, q ∈ A)
    (hU : (T.univ ns A).length ≤ 900000) {x : Bx5} : ∀ (m : Nat) (a : T.Pt) (deep : Int) (F : List T.Pt) (R : List T.Pl) (w : World), PiT a → a.1 ∈ A → T.mu Sl a.2 ≤ m → 0 ≤ deep → deep + (m : Int) ≤ 1000 → T.Inv (T.univ ns A) F R → Fw w0 S x F R w →
    Calls Tryz.prog 45 (#[.agg (ptc a), .int .i64 deep] ++ x.ps) w fun e w' => FolO w0 S x ns (T.univ ns A) F R a w e w' := by
  intro m
  induction m with
  | zero =>
    intro a deep F R w ha haA hm h0d hd hI h
    cases hn : T.lastN ns a.1 a.2 with
    | none => exact fol_none h0 hu hl hfp ha ⟨h0d, by omega⟩ hI hU (T.key_univ haA) h hn
    | some n =>
      obtain ⟨h1, _, h3⟩ := T.lastN_mem hn
      have := T.mu_lt (hSl n h1) h3
      omega
  | succ m ih =>
    intro a deep F R w ha haA hm h0d hd hI h
    cases hn : T.lastN ns a.1 a.2 with
    | none => exact fol_none h0 hu hl hfp ha ⟨h0d, by omega⟩ hI hU (T.key_univ haA) h hn
    | some n =>
      obtain ⟨h1, _, h3⟩ := T.lastN_mem hn
      have hmu := T.mu_lt (hSl n h1) h3
      refine fol_some h0 hu hl hfp hpn ha ⟨h0d, by omega⟩ hI hU (T.key_univ haA) h hn fun c W F2 R2 hc hF hI2 => ?_
      unfold T.kids at hc
      rw [hn] at hc
      obtain ⟨q, hq, rfl⟩ := List.mem_map.1 hc
      exact ih (q, n.st) (deep + 1) F2 R2 W ⟨hfp n h1 q hq, hpn n h1⟩ (hA n h1 q hq) (by simp only; omega) (by omega) (by omega) hI2 hF
theorem Roots_nil (p : T.Pl) (s : Int) (w : World) : Calls Tryz.prog 20 #[.pointer none, .agg #[.int .i64 p.1, .int .i64 p.2], .int .i64 s] w fun e w' => e = .returned (.slice none 0 0) ∧ Below w.heap.size w w' := by
  have hb1 := bel1 w (.cells #[.pointer none] 55)
  have HB := Lib.hid (belT hb1 (bel1 _ (.cells #[.int .i64 p.1, .int .i64 p.2] 42)))
  clear hb1
  go_enter Tryz.func20, Tryz.ntmps20
  go_wp2_with (first | (go_at_call 41; refine (none_nil _).mono ?_; rintro e w' ⟨rfl, rfl⟩))
  go_ret
  exact ⟨rfl, HB.out⟩
theorem _root_.Go.Proofs.YtiohlmccnllklaaGreatDoor.T.RisP.nd {l : List T.Pl} (h : T.RisP l) : l.Nodup := List.Pairwise.imp (fun {a b} hab e => by subst e; rw [T.lt_irrefl] at hab; cases hab) h
/-- What Roots tells. -/
def RoO (w : World) (ns : List T.No) (a : T.Pt) (e : Ending) (w' : World) : Prop :=
  ∃ v l, e = .returned v ∧ Own w' v l ∧ T.RisP l ∧ (∀ q, q ∈ l ↔ T.Root ns a q) ∧ l.length ≤ 900000 ∧ Below w.heap.size w w'
/-- The boxes of Roots, from the heap's size on. -/
def rox (n : Nat) : Bx5 := ⟨n + 1 + 1 + 1 + 1 + 1 + 1 + 1, n, n + 1 + 1 + 1 + 1 + 1, n + 1 + 1, n + 1 + 1 + 1, n + 1 + 1 + 1 + 1⟩
structure Rs (w : World) (S : Nat) (a : T.Pt) (W : World) : Prop where
  f : Fw w S (rox w.heap.size) [] [] W
  l : Blk W (rox w.heap.size).l #[.slice (some ⟨w.heap.size + 1 + 1 + 1 + 1 + 1 + 1, 0, none⟩) 1 1] 125
  p : Blk W (w.heap.size + 1 + 1 + 1 + 1 + 1 + 1) (ptc a) 120
def roW (w : World) (S : Nat) (a : T.Pt) : World :=
  (((((((w.alloc (.cells #[.pointer (some ⟨S, 0, none⟩)] 55)).alloc (.cells #[.int .i64 a.1.1, .int .i64 a.1.2] 42)).alloc (.cells #[.slice none 0 0] 24)).alloc (.cells #[(rox w.heap.size).fn] 123)).alloc (.map #[] 0)).alloc (.cells #[.map (some (w.heap.size + 1 + 1 + 1 + 1))] 124)).alloc (.cells (ptc a) 120)).alloc (.cells #[.slice (some ⟨w.heap.size + 1 + 1 + 1 + 1 + 1 + 1, 0, none⟩) 1 1] 125)
theorem roW_rs (w : World) (S : Nat) (a : T.Pt) : Rs w S a (roW w S a) := by
  have b0 := blk_new w #[.pointer (some ⟨S, 0, none⟩)] 55
  have h0 := bel1 w (.cells #[.pointer (some ⟨S, 0, none⟩)] 55)
  have z0 := size1 w (.cells #[.pointer (some ⟨S, 0, none⟩)] 55)
  unfold roW
  generalize w.alloc (.cells #[.pointer (some ⟨S, 0, none⟩)] 55) = w1 at b0 h0 z0 ⊢
  replace b0 := b0.alloc (.cells #[.int .i64 a.1.1, .int .i64 a.1.2] 42)
  have h1 := belT h0 (bel1 w1 (.cells #[.int .i64 a.1.1, .int .i64 a.1.2] 42))
  have z1 := size1 w1 (.cells #[.int .i64 a.1.1, .int .i64 a.1.2] 42)
  rw [z0] at z1
  generalize w1.alloc (.cells #[.int .i64 a.1.1, .int .i64 a.1.2] 42) = w2 at b0 h1 z1 ⊢
  have b2 := blk_new w2 #[.slice none 0 0] 24
  replace b0 := b0.alloc (.cells #[.slice none 0 0] 24)
  have h2 := belT h1 (bel1 w2 (.cells #[.slice none 0 0] 24))
  have z2 := size1 w2 (.cells #[.slice none 0 0] 24)
  rw [z1] at z2 b2
  generalize w2.alloc (.cells #[.slice none 0 0] 24) = w3 at b0 b2 h2 z2 ⊢
  have b3 := blk_new w3 #[(rox w.heap.size).fn] 123
  replace b0 := b0.alloc (.cells #[(rox w.heap.size).fn] 123)
  replace b2 := b2.alloc (.cells #[(rox w.heap.size).fn] 123)
  have h3 := belT h2 (bel1 w3 (.cells #[(rox w.heap.size).fn] 123))
  have z3 := size1 w3 (.cells #[(rox w.heap.size).fn] 123)
  rw [z2] at z3 b3
  generalize w3.alloc (.cells #[(rox w.heap.size).fn] 123) = w4 at b0 b2 b3 h3 z3 ⊢
  have m4 := World.ownsMap_made w4 Tryz.prog 120 (unitElem (H := Unit))
  replace b0 := b0.alloc (.map #[] 0)
  replace b2 := b2.alloc (.map #[] 0)
  replace b3 := b3.alloc (.map #[] 0)
  have h4 := belT h3 (bel1 w4 (.map #[] 0))
  have z4 := size1 w4 (.map #[] 0)
  rw [z3] at z4 m4
  generalize w4.alloc (.map #[] 0) = w5 at b0 b2 b3 m4 h4 z4 ⊢
  have b5 := blk_new w5 #[.map (some (w.heap.size + 1 + 1 + 1 + 1))] 124
  have k5 := bel1 w5 (.cells #[.map (some (w.heap.size + 1 + 1 + 1 + 1))] 124)
  replace b0 := b0.below k5
  replace b2 := b2.below k5
  replace b3 := b3.below k5
  replace m4 := own_keep m4 (k5.block _ m4.lt)
  have h5 := belT h4 k5
  have z5 := size1 w5 (.cells #[.map (some (w.heap.size + 1 + 1 + 1 + 1))] 124)
  rw [z4] at z5 b5
  generalize w5.alloc (.cells #[.map (some (w.heap.size + 1 + 1 + 1 + 1))] 124) = w6 at b0 b2 b3 b5 m4 h5 z5 k5 ⊢
  have b6 := blk_new w6 (ptc a) 120
  have k6 := bel1 w6 (.cells (ptc a) 120)
  replace b0 := b0.below k6
  replace b2 := b2.below k6
  replace b3 := b3.below k6
  replace b5 := b5.below k6
  replace m4 := own_keep m4 (k6.block _ m4.lt)
  have h6 := belT h5 k6
  have z6 := size1 w6 (.cells (ptc a) 120)
  rw [z5] at z6 b6
  generalize w6.alloc (.cells (ptc a) 120) = w7 at b0 b2 b3 b5 b6 m4 h6 z6 k6 ⊢
  have b7 := blk_new w7 #[.slice (some ⟨w.heap.size + 1 + 1 + 1 + 1 + 1 + 1, 0, none⟩) 1 1] 125
  have k7 := bel1 w7 (.cells #[.slice (some ⟨w.heap.size + 1 + 1 + 1 + 1 + 1 + 1, 0, none⟩) 1 1] 125)
  rw [z6] at b7
  replace m4 := own_keep m4 (k7.block _ m4.lt)
  refine ⟨⟨belT h6 k7, b0.below k7, b5.below k7, b3.below k7, ⟨_, b2.below k7, own_nil _, fun k hk => by simp [blkOf] at hk⟩, ⟨_, m4, fdD_new⟩, ?_, ?_⟩, b7, b6.below k7⟩
  · show w.heap.size ≤ w.heap.size + 1 + 1; omega
  · show w.heap.size ≤ w.heap.size + 1 + 1 + 1 + 1; omega
theorem Fw.setL {w0 : World} {S : Nat} {x : Bx5} {F : List T.Pt} {R : List T.Pl} {W : World} (h : Fw w0 S x F R W) {cs : Array Value} (hl : Blk W x.l cs 125) (hlo : w0.heap.size ≤ x.l) (v : Value) : Fw w0 S x F R (W.setCell ⟨x.l, 0, none⟩ v) := by
  have ht : Turned (fun k => k = x.l) W (W.setCell ⟨x.l, 0, none⟩ v) := (Turned.refl (fun k => k = x.l) W).setCell (p := ⟨x.l, 0, none⟩) (.inl rfl) v
  have ne : ∀ {k : Nat} {cur : Array Value} {ty : TypeId}, Blk W k cur ty → ty ≠ 125 → ¬ k = x.l := fun {k cur ty} hb hne e => by
    subst e
    unfold Blk at hb hl
    rw [hl] at hb
    simp at hb
    exact hne hb.2.symm
  obtain ⟨rv, r1, r2, r3⟩ := h.r
  obtain ⟨D, m1, m2⟩ := h.m
  exact ⟨h.b.trans (ht.below h.b.size (fun k e => by omega)), h.h.turned ht (ne h.h (by decide)), h.f.turned ht (ne h.f (by decide)), h.g.turned ht (ne h.g (by decide)), ⟨rv, r1.turned ht (ne r1 (by decide)), r2.keep fun k cur hb => ht.block k hb.lt (ne hb (by decide)), r3⟩, ⟨D, own_keep m1 (ht.block _ m1.lt fun e => h.neM hl e.symm), m2⟩, h.lo⟩
theorem Roots_any {w : World} {S mb : Nat} {ns : List T.No} {la : Int} {V : T.Pl → Value} (h : HsIs w S mb ns la V) (hu : T.Up ns) (hl : ns.length ≤ 100000) (hfp : ∀ n ∈ ns, ∀ q ∈ n.fr, Pi q) (hpn : ∀ n ∈ ns, I64 n.st) {Sl : List Int} (hSl : ∀ n ∈ ns, n.st ∈ Sl) (hSm : Sl.length ≤ 900)
    (hsum : T.sumF ns ≤ 100000) {p : T.Pl} (hp : Pi p) {s : Int} (hs : I64 s) :
    Calls Tryz.prog 20 #[.pointer (some ⟨S, 0, none⟩), .agg #[.int .i64 p.1, .int .i64 p.2], .int .i64 s] w fun e w' => RoO w ns (p, s) e w' := by
  have hzp := zero_point
  have hmm := @run_makeMap Tryz.prog
  have hb1 := bel1 w (.cells #[.pointer (some ⟨S, 0, none⟩)] 55)
  have hb2 := belT hb1 (bel1 _ (.cells #[.int .i64 p.1, .int .i64 p.2] 42))
  have HNo := Lib.hid (none_some S mb _ ((h.below hb2).blk.cell 0))
  have HRs := Lib.hid (roW_rs w S (p, s))
  obtain ⟨A, hAe⟩ : ∃ A, A = p :: ns.flatMap T.No.fr := ⟨_, rfl⟩
  have hUl : (T.univ ns A).length ≤ 900000 := by
    unfold T.univ
    rw [hAe, List.length_append, List.length_map, List.length_map, List.length_cons]
    unfold T.sumF at hsum
    omega
  have HFol := Lib.hid (fun (W : World) (hF : Fw w S (rox w.heap.size) [] [] W) => fol_any h hu (by omega) hfp hpn hSl (A := A) (fun n hn q hq => by rw [hAe]; exact List.mem_cons_of_mem _ (List.mem_flatMap.2 ⟨n, hn, hq⟩)) hUl (x := rox w.heap.size) Sl.length (p, s) 0 [] [] W ⟨hp, hs⟩ (by rw [hAe]; simp) (T.mu_le _ _) (by omega) (by omega) (T.Inv.nil _) hF)
  have HUp := Lib.hid hu
  have HUl := Lib.hid hUl
  unfold roW at HRs
  clear hb1 hb2 h hu hl hfp hpn hSl hSm hsum hp hs hAe hUl
  have hw0 : w.heap.size ≤ (rox w.heap.size).l := by show _ ≤ w.heap.size + 1 + 1 + 1 + 1 + 1 + 1 + 1; omega
  have HW0 := Lib.hid hw0
  clear hw0
  unfold rox Bx5.fn Bx5.ps ptc at HRs
  simp only at HRs
  go_enter Tryz.func20, Tryz.ntmps20
  go_wp2_with fail
  refine HNo.out.mono ?_
  rintro e w1 ⟨rfl, rfl⟩
  go_wp2_with fail
  generalize hW : World.alloc _ (.cells #[.slice (some ⟨w.heap.size + 1 + 1 + 1 + 1 + 1 + 1, 0, none⟩) 1 1] 125) = W7 at HRs ⊢
  clear hW HNo
  have c0 := HRs.out.l.cell 0
  have p0 := HRs.out.p.cell 0
  have p1 := HRs.out.p.cell 1
  have p2 := HRs.out.p.cell 2
  have hb8 := bel1 W7 (.cells #[.int .i64 p.1, .int .i64 p.2, .int .i64 s] 120)
  have hA8 := blk_new W7 #[.int .i64 p.1, .int .i64 p.2, .int .i64 s] 120
  have c8 := (HRs.out.l.below hb8).cell 0
  have f8 := (HRs.out.l.below hb8).frozen 0
  have hF8 := (HRs.out.f.after hb8).setL (HRs.out.l.below hb8) HW0.out (.slice (some ⟨w.heap.size + 1 + 1 + 1 + 1 + 1 + 1, 0, none⟩) 0 1)
  have hL8 := (HRs.out.l.below hb8).setCell 0 (.slice (some ⟨w.heap.size + 1 + 1 + 1 + 1 + 1 + 1, 0, none⟩) 0 1)
  have hne : ¬ W7.heap.size = (rox w.heap.size).l := fun e => by have := HRs.out.l.lt; omega
  have cg := hF8.g.cell 0
  have hA9 : Blk ((W7.alloc (.cells #[.int .i64 p.1, .int .i64 p.2, .int .i64 s] 120)).setCell ⟨(rox w.heap.size).l, 0, none⟩ (.slice (some ⟨w.heap.size + 1 + 1 + 1 + 1 + 1 + 1, 0, none⟩) 0 1)) W7.heap.size #[.int .i64 p.1, .int .i64 p.2, .int .i64 s] 120 := (Below.heap_setCell _ _ _ _ hne).trans hA8
  have a0 := hA9.cell 0
  have a1 := hA9.cell 1
  have a2 := hA9.cell 2
  have hcall := HFol.out _ hF8
  unfold rox Bx5.fn Bx5.ps ptc at *
  simp only [List.getElem?_toArray, List.getElem?_cons_zero, List.getElem?_cons_succ] at c0 p0 p1 p2 cg hcall hL8 hF8 c8 f8 hne a0 a1 a2
  change Calls Tryz.prog 45 #[.agg #[.int .i64 p.1, .int .i64 p.2, .int .i64 s], .int .i64 0, .pointer (some ⟨w.heap.size + 1 + 1 + 1 + 1 + 1 + 1 + 1, 0, none⟩), .pointer (some ⟨w.heap.size, 0, none⟩), .pointer (some ⟨w.heap.size + 1 + 1 + 1 + 1 + 1, 0, none⟩), .pointer (some ⟨w.heap.size + 1 + 1, 0, none⟩), .pointer (some ⟨w.heap.size + 1 + 1 + 1, 0, none⟩)] _ _ at hcall
  have HCall := Lib.hid hcall
  have HSt := Lib.hid (And.intro hF8 hL8)
  clear hF8 hL8 hcall hb8 hA8 hA9 HFol
  refine wp_loop_rounds 2 ?_
  rw [rounds_succ]
  go_wp2_with fail
  refine HCall.out.mono ?_
  rintro e w9 ⟨rfl, F', R', hF9, hD9, hT9⟩
  have hL9 := HSt.out.2.turned hT9 (by
    rintro (e | e | ⟨_, cur, e⟩)
    · simp only at e; omega
    · simp only at e; omega
    · have h2 := HSt.out.2
      unfold Blk at e h2
      rw [h2] at e
      simp at e)
  have c9 := hL9.cell 0
  simp only [Array.setIfInBounds, List.size_toArray, List.length_cons, List.length_nil, List.getElem?_toArray] at c9
  obtain ⟨rv, r1, r2, r3⟩ := hF9.r
  obtain ⟨orv, crv, erv, _, _⟩ := r2.1.shape
  subst erv
  have d0 := r1.cell 0
  have hI9 := hD9.inv
  have hR9 := hI9.len.2
  have HSo := Lib.hid (sort_any r2 hI9.nr (by have := HUl.out; omega))
  have HRo := Lib.hid (hD9.roots HUp.out)
  have HR9 := Lib.hid hR9
  have HK9 := Lib.hid (And.intro r1 (And.intro r2 (And.intro r3 hF9.b)))
  have hrl : R'.length ≤ 900000 := by have := HUl.out; omega
  simp only [List.getElem?_toArray, List.getElem?_cons_zero] at d0
  clear c0 p0 p1 p2 c8 f8 hne cg a0 a1 a2 HSt HCall hL9 hT9 hF9 hD9 hI9 hR9 r1 r2 r3
  go_wp2_with fail
  rw [rounds_succ]
  go_wp2_with fail
  refine HSo.out.mono ?_
  rintro e w10 ⟨rfl, l', hris, hmem, hown, ht10⟩
  have hr10 := HK9.out.1.turned ht10 (fun e => HK9.out.2.1.1.ne HK9.out.1 (by decide) e rfl)
  have e0 := hr10.cell 0
  simp only [List.getElem?_toArray, List.getElem?_cons_zero] at e0
  have hb10 : Below w.heap.size w w10 := HK9.out.2.2.2.trans (ht10.below HK9.out.2.2.2.size (fun k e => HK9.out.2.2.1 k e))
  have hl10 : l'.length ≤ 900000 := Nat.le_trans (T.nodup_len (T.RisP.nd hris) fun q hq => (hmem q).1 hq) hrl
  have HFin := Lib.hid (show RoO w ns (p, s) (.returned (.slice orv R'.length crv)) w10 from ⟨_, l', rfl, hown, hris, fun q => (hmem q).trans (HRo.out q), hl10, hb10⟩)
  clear hr10 hris hmem hown ht10 hb10 c9 d0
  go_wp2
  go_ret
  exact HFin.out
end Go.Proofs.YtiohlmccnllklaaGreatDoor.Q
