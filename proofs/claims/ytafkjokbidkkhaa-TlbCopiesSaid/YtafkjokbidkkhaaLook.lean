/-
  Layer 6: Look of package tlb: walk.
-/
import Derived.Test.YtafkjokbidkkhaaIter
import Derived.Test.YtafkjokbidkkhaaRegion
import Derived.Laws.CopyRow
namespace Go.Proofs.Ytafkjokbidkkhaa
open Go.RowKit Go.Shelf
attribute [local go_sem] Oper.semAt_some
set_option maxHeartbeats 1000000
set_option linter.unusedVariables false

/-! ### boxes that a call made, and what lies in them -/
theorem boxed_cell {w : World} {B : Nat} {v : Value} {t : TypeId} (h : w.heap[B]? = some (.cells #[v] t (0, 0))) : w.cell? ⟨B, 0, none⟩ = some v ∧ w.frozen? ⟨B, 0, none⟩ = false := by simp [World.cell?, World.frozen?, h]
theorem cell_putObj {W : World} {D : Nat} {o : Obj} {p : Addr} (h : p.block ≠ D) : (W.putObj D o).cell? p = W.cell? p := by
  simp only [World.cell?, World.putObj_heap_other h]
abbrev Bx := Nat × Array Value × TypeId
structure Bxs (w : World) (L : List Bx) (W : World) : Prop where
  below : Below w.heap.size w W
  at_ : ∀ p ∈ L, Blk W p.1 p.2.1 p.2.2
section
variable {w W W' : World} {L : List Bx}
theorem Bxs.after (h : Bxs w L W) (hb : Below W.heap.size W W') : Bxs w L W' := ⟨h.below.trans (hb.mono h.below.size), fun p hp => (h.at_ p hp).below hb⟩
theorem Bxs.drew (h : Bxs w L W) : Bxs w L W.drew := h.after (Below.refl _ _).drew
theorem Bxs.nil (w : World) : Bxs w [] w := ⟨Below.refl _ _, fun p hp => by cases hp⟩
theorem Bxs.alloc (h : Bxs w L W) (cs : Array Value) (ty : TypeId) : Bxs w ((W.heap.size, cs, ty) :: L) (W.alloc (.cells cs ty)) :=
  ⟨h.below.alloc h.below.size _, fun p hp => by
    rcases List.mem_cons.1 hp with rfl | hp
    · exact blk_new _ _ _
    · exact (h.at_ p hp).alloc _⟩
theorem Bxs.get (h : Bxs w L W) (b : Nat) {cs : Array Value} {ty : TypeId} (hm : (b, cs, ty) ∈ L) : Blk W b cs ty := h.at_ _ hm
theorem bxs_own {β γ : Type} (w : World) (f : β → γ → Prop) (L : β → γ → List Bx) {B : Nat} (hB : w.heap.size ≤ B) : OwnFrom B (fun (s : β) W => ∃ x, f s x ∧ Bxs w (L s x) W) := by
  intro s W W' row hs hg hr
  obtain ⟨x, hf, hs⟩ := hs
  refine ⟨x, hf, hs.below.grown hg hs.below.size (fun k e => by have := (hr k e).1; omega), fun p hp => ?_⟩
  have hj := hs.at_ p hp
  exact (hg.block _ hj.lt (fun e => by
      obtain ⟨h1, o', h2, h3⟩ := hr _ e.symm
      rw [hj] at h2; cases h2
      cases h3)).trans hj
/-- A block of the list is written anew: by what the walk makes of it. -/
theorem Bxs.turned (h : Bxs w L W) {F : Nat → Prop} (ht : Turned F W W') (hF : ∀ k, F k → w.heap.size ≤ k) {L' : List Bx} (hL : ∀ p ∈ L', (F p.1 → Blk W' p.1 p.2.1 p.2.2) ∧ (¬ F p.1 → p ∈ L)) : Bxs w L' W' :=
  ⟨h.below.trans (ht.below h.below.size hF), fun p hp => by
    by_cases e : F p.1
    · exact (hL p hp).1 e
    · exact (h.at_ p ((hL p hp).2 e)).turned ht e⟩
end
theorem KeptBut.cell {M : Nat → Prop} (W : World) {p : Addr} (v : Value) (h : M p.block) : KeptBut M W (W.setCell p v) := ⟨by simp, fun k _ hn => Below.heap_setCell _ _ _ _ (fun e => hn (e ▸ h))⟩
theorem KeptBut.ofTurned {M : Nat → Prop} {W W' : World} (h : Turned M W W') : KeptBut M W W' := ⟨h.size, fun k hk hn => h.block k hk hn⟩

/-- The boxes of Look. -/
abbrev lkL (z : Nat) (p : Int) (e : Ent) (i : Nat) (b : Bool) : List Bx :=
  [(z + 1 + 1 + 1, #[.bool b], 4), (z + 1 + 1, #[.int .i64 (i : Int)], 3), (z + 1, #[.bool e.th, .int .u32 e.pg, .int .u32 e.fr, .bool e.wr], 27), (z, #[.int .u32 p], 25)]
theorem lk_start (w : World) (p : Int) : Bxs w (lkL w.heap.size p E0 0 false) ((((w.alloc (.cells #[.int .u32 p] 25)).alloc (.cells #[.bool false, .int .u32 0, .int .u32 0, .bool false] 27)).alloc (.cells #[.int .i64 0] 3)).alloc (.cells #[.bool false] 4)) := by
  have := ((((Bxs.nil w).alloc #[.int .u32 p] 25).alloc #[.bool false, .int .u32 0, .int .u32 0, .bool false] 27).alloc #[.int .i64 0] 3).alloc #[.bool false] 4
  simp only [World.size_alloc] at this
  exact this
/-- The blocks that Look's results lie in. -/
abbrev lkM (z : Nat) (k : Nat) : Prop := k = z + 1 ∨ k = z + 1 + 1 ∨ k = z + 1 + 1 + 1
theorem Blk.off {w : World} {b : Nat} {cs : Array Value} {ty : TypeId} (h : Blk w b cs ty) {g j : Nat} (hp : b ≠ g) (v : Value) : Blk (w.setCell ⟨g, j, none⟩ v) b cs ty := (Below.heap_setCell _ _ _ _ hp).trans h
theorem lk_set {w W : World} {p : Int} {e0 : Ent} {i0 : Nat} {b0 : Bool} (h : Bxs w (lkL w.heap.size p e0 i0 b0) W) (e : Ent) (i : Nat) (b : Bool) {W' : World}
    (hW : W' = (((((W.setCell ⟨w.heap.size + 1, 0, none⟩ (.bool e.th)).setCell ⟨w.heap.size + 1, 1, none⟩ (.int .u32 e.pg)).setCell ⟨w.heap.size + 1, 2, none⟩ (.int .u32 e.fr)).setCell ⟨w.heap.size + 1, 3, none⟩ (.bool e.wr)).setCell ⟨w.heap.size + 1 + 1, 0, none⟩ (.int .i64 (i : Int))).setCell ⟨w.heap.size + 1 + 1 + 1, 0, none⟩ (.bool b)) :
    Bxs w (lkL w.heap.size p e i b) W' ∧ Turned (lkM w.heap.size) W W' := by
  have a0 := h.get w.heap.size (cs := #[.int .u32 p]) (ty := 25) (by simp)
  have a1 := h.get (w.heap.size + 1) (cs := #[.bool e0.th, .int .u32 e0.pg, .int .u32 e0.fr, .bool e0.wr]) (ty := 27) (by simp)
  have a2 := h.get (w.heap.size + 1 + 1) (cs := #[.int .i64 (i0 : Int)]) (ty := 3) (by simp)
  have a3 := h.get (w.heap.size + 1 + 1 + 1) (cs := #[.bool b0]) (ty := 4) (by simp)
  have ht : Turned (lkM w.heap.size) W W' := by
    rw [hW]
    exact ((((((Turned.refl (lkM w.heap.size) W).setCell (.inl (.inl rfl)) _).setCell (.inl (.inl rfl)) _).setCell (.inl (.inl rfl)) _).setCell (.inl (.inl rfl)) _).setCell (.inl (.inr (.inl rfl))) _).setCell (.inl (.inr (.inr rfl))) _
  have b1 : Blk W' (w.heap.size + 1) #[.bool e.th, .int .u32 e.pg, .int .u32 e.fr, .bool e.wr] 27 := by
    rw [hW]
    exact (((((a1.setCell 0 _).setCell 1 _).setCell 2 _).setCell 3 _).off (by omega) _).off (by omega) _
  have b2 : Blk W' (w.heap.size + 1 + 1) #[.int .i64 (i : Int)] 3 := by
    rw [hW]
    exact (((((a2.off (by omega) _).off (by omega) _).off (by omega) _).off (by omega) _).setCell 0 _).off (by omega) _
  have b3 : Blk W' (w.heap.size + 1 + 1 + 1) #[.bool b] 4 := by
    rw [hW]
    exact (((((a3.off (by omega) _).off (by omega) _).off (by omega) _).off (by omega) _).off (by omega) _).setCell 0 _
  have b0 : Blk W' w.heap.size #[.int .u32 p] 25 := by
    rw [hW]
    exact (((((a0.off (by omega) _).off (by omega) _).off (by omega) _).off (by omega) _).off (by omega) _).off (by omega) _
  refine ⟨⟨h.below.trans (ht.below h.below.size (by rintro k (e | e | e) <;> omega)), fun q hq => ?_⟩, ht⟩
  simp only [List.mem_cons, List.not_mem_nil, or_false] at hq
  rcases hq with rfl | rfl | rfl | rfl
  · exact b3
  · exact b2
  · exact b1
  · exact b0
theorem setCell_same {w : World} {b j : Nat} {cs : Array Value} {ty : TypeId} {v : Value} (h : Blk w b cs ty) (hv : cs[j]? = some v) : w.setCell ⟨b, j, none⟩ v = w := by
  rw [setCell_eq_setRow w b j cs ty (0, 0) v h]
  have e : cs.setIfInBounds j v = cs := by
    apply Array.ext
    · simp
    · intro k h1 h2
      rw [Array.getElem_setIfInBounds (by simpa using h2)]
      split
      · rename_i e; subst e
        rw [Array.getElem?_eq_getElem h2] at hv
        exact (Option.some.inj hv).symm
      · rfl
  rw [e]
  exact setRow_self w b cs ty (0, 0) h
set_option maxRecDepth 100000 in
theorem Look_any {w : World} {S : Nat} {t : Tl} (h : At w S t) (p : Int) : Calls Try.prog 14 #[.pointer (some ⟨S, 0, none⟩), .int .u32 p] w fun e w' =>
    e = .returned (.tuple #[.agg #[.bool (t.lkE p).th, .int .u32 (t.lkE p).pg, .int .u32 (t.lkE p).fr, .bool (t.lkE p).wr], .int .i64 (t.lkI p : Int), .bool (t.lkB p)]) ∧ Below w.heap.size w w' := by
  have HW := Lib.hid (fun W (hb : Below w.heap.size w W) => Walked_any (h.below' hb h.lt))
  have H0 := Lib.hid (lk_start w p)
  clear h
  refine (callsIn_wide (n := 5)).1 ?_
  refine callsIn_of_wp_marks Try.func14 rfl trivial ?_ rfl
  refine wpIn_wide.2 ?_
  simp only [Try.ntmps14, List.size_toArray, List.length_cons, List.length_nil, Nat.reduceAdd, Nat.reduceSub, Array.replicate_succ, Array.replicate_zero, List.push_toArray, List.append_toArray, List.nil_append, List.cons_append]
  go_wp2
  go_step3
  go_wp2
  go_step3
  go_wp2_with fail
  refine (HW.out _ H0.out.below).mono ?_; rintro e W1 ⟨B, g, c, rfl, hB, hr, hBl, hgl, hc4, hb1⟩
  have HX := Lib.hid (H0.out.after hb1)
  have hz1 := hb1.size
  have hzB := hB.lt
  simp only [World.size_alloc] at hBl hgl hz1
  clear hb1 H0 HW
  go_wp2_with fail
  refine (wpIn_wide (n := 5)).1 (wp_over_ab (id := 0) (gf := 28) (lb := #[.pointer (some ⟨B, 0, none⟩)]) rfl (enters_of Try.func28 (by kernel_rfl) rfl)
    (Walked1_gives hB hr (fun k => k = w.heap.size + 1 ∨ k = w.heap.size + 1 + 1 ∨ k = w.heap.size + 1 + 1 + 1) (by omega))
    (fun k hk => by rcases hk with rfl | rfl | rfl <;> omega) (fun _ => rfl)
    (fun pre W => ∃ _x : Unit, (∀ y ∈ pre, (t.g y).hit p = false) ∧ Bxs w (lkL w.heap.size p E0 0 false) W)
    (fun c pre W => ∃ k : Nat, (c = .exit 0 ∧ t.fnd p = some k) ∧ Bxs w (lkL w.heap.size p (t.g k) k true) W)
    (bxs_own w _ _ (by omega)) (fun c => bxs_own w _ _ (by omega)) ⟨(), by simp, HX.out⟩
    (fun x => .cells #[.bool (t.g x).th, .int .u32 (t.g x).pg, .int .u32 (t.g x).fr, .bool (t.g x).wr] 27)
    (fun tm x b => (((tm.setIfInBounds 11 (.int .i64 (x : Int))).setIfInBounds 12 (.agg #[.bool (t.g x).th, .int .u32 (t.g x).pg, .int .u32 (t.g x).fr, .bool (t.g x).wr])).setIfInBounds 7 (.int .i64 (x : Int))).setIfInBounds 8 (.pointer (some ⟨b, 0, none⟩)))
    ?assign ?body (fun _ _ h => h) (fun c pre W ⟨k, h, _⟩ => h.1) ?rest)
  case assign =>
    intro ll mm x W1 K hK
    gi_wp2
    simp only [List.setIfInBounds_toArray, List.set_cons_zero, List.set_cons_succ] at hK
    exact hK
  case body =>
    rintro ll mm pre x rest W b hf ⟨_, hpre, hX⟩ hob hb2 hbl
    obtain ⟨hx4, hth, hlt⟩ := wks_next hf
    simp only [List.setIfInBounds_toArray, List.set_cons_zero, List.set_cons_succ]
    have q0 := (hX.get w.heap.size (cs := #[.int .u32 p]) (ty := 25) (by simp)).cell 0
    have q1 := hX.get (w.heap.size + 1) (cs := #[.bool false, .int .u32 0, .int .u32 0, .bool false]) (ty := 27) (by simp [E0])
    have q2 := hX.get (w.heap.size + 1 + 1) (cs := #[.int .i64 0]) (ty := 3) (by simp)
    have q3 := hX.get (w.heap.size + 1 + 1 + 1) (cs := #[.bool false]) (ty := 4) (by simp)
    have q10 := q1.cell 0
    have q11 := q1.cell 1
    have q12 := q1.cell 2
    have q13 := q1.cell 3
    have q20 := q2.cell 0
    have q30 := q3.cell 0
    have f10 := q1.frozen 0
    have f11 := q1.frozen 1
    have f12 := q1.frozen 2
    have f13 := q1.frozen 3
    have f20 := q2.frozen 0
    have f30 := q3.frozen 0
    have hbk : Blk W b #[.bool (t.g x).th, .int .u32 (t.g x).pg, .int .u32 (t.g x).fr, .bool (t.g x).wr] 27 := hob
    have r0 := hbk.cell 0
    have r1 := hbk.cell 1
    have r2 := hbk.cell 2
    have r3 := hbk.cell 3
    simp only [List.getElem?_toArray, List.getElem?_cons_zero, List.getElem?_cons_succ] at q0 q10 q11 q12 q13 q20 q30 r0 r1 r2 r3
    have HX9 := Lib.hid hX
    have HF := Lib.hid hf
    have HP := Lib.hid hpre
    have HT := Lib.hid hth
    have HM := Lib.hid (fun (W' : World) hW => lk_set (W' := W') hX (t.g x) x true hW)
    clear hX hf hpre hob hbk q1 q2 q3 hb2 hlt hth
    by_cases he : (t.g x).pg = p
    · have HE : Hid (t.fnd p = some x) := Tl.fnd_of hx4 (by simp [Ent.hit, HT.out, he]) (fun j hj => by
        cases hj2 : (t.g j).th with
        | false => simp [Ent.hit, hj2]
        | true =>
          have : j ∈ pre := by
            have hm : j ∈ wks t 4 := wks_mem.2 ⟨by omega, hj2⟩
            have hs := wks_sorted t 4
            rw [HF.out] at hm hs
            rcases List.mem_append.1 hm with h | h
            · exact h
            · rw [List.pairwise_append] at hs
              have h2 := List.pairwise_cons.1 hs.2.1
              rcases List.mem_cons.1 h with h3 | h3
              · omega
              · have := h2.1 j h3; omega
          exact HP.out j this)
      have hm2 := HM.out
      rw [he] at hm2
      have HM2 := Lib.hid hm2
      clear HT hm2 HM
      gi_wp2
      obtain ⟨hB1, hT1⟩ := HM2.out _ rfl
      exact ⟨KeptBut.ofTurned hT1, x, ⟨rfl, HE.out⟩, hB1⟩
    · gi_wp2
      refine ⟨KeptBut.refl _ _, (), ?_, HX9.out⟩
      intro y hy
      rcases List.mem_append.1 hy with h | h
      · exact HP.out y h
      · simp at h; subst h; simp [Ent.hit, he]
  intro D0 W9 hD0 hends hK
  obtain ⟨e, i, q, he9, hX9⟩ : ∃ e i q, (e = t.lkE p ∧ i = t.lkI p ∧ q = t.lkB p) ∧ Bxs w (lkL w.heap.size p e i q) W9 := by
    rcases hends with ⟨_, hn, hX⟩ | ⟨_, _, _, _, k, ⟨_, hk⟩, hX⟩
    · have hf : t.fnd p = none := Tl.fnd_of_none fun j hj => by
        cases hj2 : (t.g j).th with
        | false => simp [Ent.hit, hj2]
        | true => exact hn j (wks_mem.2 ⟨hj, hj2⟩)
      exact ⟨_, _, _, ⟨by simp [Tl.lkE, hf], by simp [Tl.lkI, hf], by simp [Tl.lkB, hf]⟩, hX⟩
    · exact ⟨_, _, _, ⟨by simp [Tl.lkE, hk], by simp [Tl.lkI, hk], by simp [Tl.lkB, hk]⟩, hX⟩
  have HQ := Lib.hid he9
  have HX9 := Lib.hid hX9
  have HK := Lib.hid hK
  clear he9 hends hX9 hK hB hr HX
  go_wp2
  have k1 := HX9.out.get (w.heap.size + 1) (cs := #[.bool e.th, .int .u32 e.pg, .int .u32 e.fr, .bool e.wr]) (ty := 27) (by simp)
  have k2 := HX9.out.get (w.heap.size + 1 + 1) (cs := #[.int .i64 (i : Int)]) (ty := 3) (by simp)
  have k3 := HX9.out.get (w.heap.size + 1 + 1 + 1) (cs := #[.bool q]) (ty := 4) (by simp)
  have HE : Hid (∀ W, W = W9.drew → W.rangeAt (w.heap.size + 1) 0 (cE e)) := fun W hW => by rw [hW]; exact k1.drew.range 0 _ rfl
  have HC : Hid (∀ W, W = W9.drew → W.cell? ⟨w.heap.size + 1 + 1, 0, none⟩ = some (.int .i64 (i : Int)) ∧ W.cell? ⟨w.heap.size + 1 + 1 + 1, 0, none⟩ = some (.bool q)) := fun W hW => by
    rw [hW]; exact ⟨k2.drew.cell 0, k3.drew.cell 0⟩
  have q10 := k1.cell 0
  have q11 := k1.cell 1
  have q12 := k1.cell 2
  have q13 := k1.cell 3
  have q20 := k2.cell 0
  have q30 := k3.cell 0
  simp only [List.getElem?_toArray, List.getElem?_cons_zero, List.getElem?_cons_succ] at q10 q11 q12 q13 q20 q30
  have f10 := k1.frozen 0
  have f11 := k1.frozen 1
  have f12 := k1.frozen 2
  have f13 := k1.frozen 3
  have f20 := k2.frozen 0
  have f30 := k3.frozen 0
  have s10 : W9.setCell ⟨w.heap.size + 1, 0, none⟩ (.bool e.th) = W9 := setCell_same k1 rfl
  have s11 : W9.setCell ⟨w.heap.size + 1, 1, none⟩ (.int .u32 e.pg) = W9 := setCell_same k1 rfl
  have s12 : W9.setCell ⟨w.heap.size + 1, 2, none⟩ (.int .u32 e.fr) = W9 := setCell_same k1 rfl
  have s13 : W9.setCell ⟨w.heap.size + 1, 3, none⟩ (.bool e.wr) = W9 := setCell_same k1 rfl
  have s20 : W9.setCell ⟨w.heap.size + 1 + 1, 0, none⟩ (.int .i64 (i : Int)) = W9 := setCell_same k2 rfl
  have s30 : W9.setCell ⟨w.heap.size + 1 + 1 + 1, 0, none⟩ (.bool q) = W9 := setCell_same k3 rfl
  have hK0 : (fun W => W = W9.drew) W9.drew := rfl
  clear k1 k2 k3
  refine wp_region_noPanic ?_
  refine wp_region_held_drew (S := (fun W => W = W9.drew)) (by kernel_rfl) hK0 (fun _ => ?_)
  have hS := hK0
  refine take_d (i := 0) (d := some 19) (v := .agg #[.bool e.th, .int .u32 e.pg, .int .u32 e.fr, .bool e.wr]) rfl rfl (by kernel_rfl) (by kernel_rfl) (by kernel_rfl) (fun _ _ _ h => h) (y_E (by kernel_rfl) rfl rfl (fun W hW => HE.out W hW)) hS ?_
  try simp only [Act.put, List.setIfInBounds_toArray, List.set_cons_zero, List.set_cons_succ]
  refine take_d (i := 1) (d := some 20) (v := .int .i64 (i : Int)) rfl rfl (by kernel_rfl) (by kernel_rfl) (by kernel_rfl) (fun _ _ _ h => h) (.inl ⟨by rfl, fun W hW => by have q1 := (HC.out W hW).1; go_simp⟩) hS ?_
  try simp only [Act.put, List.setIfInBounds_toArray, List.set_cons_zero, List.set_cons_succ]
  refine take_d (i := 2) (d := some 21) (v := .bool q) rfl rfl (by kernel_rfl) (by kernel_rfl) (by kernel_rfl) (fun _ _ _ h => h) (.inl ⟨by rfl, fun W hW => by have q1 := (HC.out W hW).2; go_simp⟩) hS ?_
  try simp only [Act.put, List.setIfInBounds_toArray, List.set_cons_zero, List.set_cons_succ]
  refine wpAnyH_all (rs := [3]) (by kernel_rfl) (by simp) (fun i hi => ?_)
  simp only [List.mem_cons, List.not_mem_nil, or_false] at hi
  subst hi
  refine .inl ?_
  go_simp
  try simp only [Act.put, List.setIfInBounds_toArray, List.set_cons_zero, List.set_cons_succ]
  refine wpAnyH_all (rs := [4]) (by kernel_rfl) (by simp) (fun i hi => ?_)
  simp only [List.mem_cons, List.not_mem_nil, or_false] at hi
  subst hi
  refine .inl ?_
  go_simp
  try simp only [Act.put, List.setIfInBounds_toArray, List.set_cons_zero, List.set_cons_succ]
  refine wpAnyH_all (rs := [5]) (by kernel_rfl) (by simp) (fun i hi => ?_)
  simp only [List.mem_cons, List.not_mem_nil, or_false] at hi
  subst hi
  refine .inl ?_
  go_simp
  try simp only [Act.put, List.setIfInBounds_toArray, List.set_cons_zero, List.set_cons_succ]
  refine wpAnyH_done (by kernel_rfl) ?_ _
  refine NoPanic.normal ?_
  clear s10 s11 s12 s13 s20 s30 f10 f11 f12 f13 f20 f30 q10 q11 q12 q13 q20 q30 HE HC
  have hz9 := HX9.out.below.size
  have hD9 := (Array.getElem?_eq_some_iff.1 HK.out).1
  go_wp2
  refine ⟨by simp, .inl ⟨_, _, rfl, run_takeDeferred (show W9.drew.heap[D0]? = some (.deferred (some [])) from HK.out), ?_⟩⟩
  have hX := HX9.out
  have k1 := hX.get (w.heap.size + 1) (cs := #[.bool e.th, .int .u32 e.pg, .int .u32 e.fr, .bool e.wr]) (ty := 27) (by simp)
  have k2 := hX.get (w.heap.size + 1 + 1) (cs := #[.int .i64 (i : Int)]) (ty := 3) (by simp)
  have k3 := hX.get (w.heap.size + 1 + 1 + 1) (cs := #[.bool q]) (ty := 4) (by simp)
  have c10 : (W9.drew.putObj D0 (.deferred none)).cell? ⟨w.heap.size + 1, 0, none⟩ = some (.bool e.th) := (cell_putObj (show w.heap.size + 1 ≠ D0 by omega)).trans (k1.cell 0)
  have c11 : (W9.drew.putObj D0 (.deferred none)).cell? ⟨w.heap.size + 1, 1, none⟩ = some (.int .u32 e.pg) := (cell_putObj (show w.heap.size + 1 ≠ D0 by omega)).trans (k1.cell 1)
  have c12 : (W9.drew.putObj D0 (.deferred none)).cell? ⟨w.heap.size + 1, 2, none⟩ = some (.int .u32 e.fr) := (cell_putObj (show w.heap.size + 1 ≠ D0 by omega)).trans (k1.cell 2)
  have c13 : (W9.drew.putObj D0 (.deferred none)).cell? ⟨w.heap.size + 1, 3, none⟩ = some (.bool e.wr) := (cell_putObj (show w.heap.size + 1 ≠ D0 by omega)).trans (k1.cell 3)
  have c20 : (W9.drew.putObj D0 (.deferred none)).cell? ⟨w.heap.size + 1 + 1, 0, none⟩ = some (.int .i64 (i : Int)) := (cell_putObj (show w.heap.size + 1 + 1 ≠ D0 by omega)).trans (k2.cell 0)
  have c30 : (W9.drew.putObj D0 (.deferred none)).cell? ⟨w.heap.size + 1 + 1 + 1, 0, none⟩ = some (.bool q) := (cell_putObj (show w.heap.size + 1 + 1 + 1 ≠ D0 by omega)).trans (k3.cell 0)
  have hB : Below w.heap.size w (W9.drew.putObj D0 (.deferred none)) := hX.below.trans ((Below.refl _ _).drew.trans (belowK_b (w := w) (Nat.le_refl _) _ D0 _ _ (by omega) HK.out rfl rfl))
  clear HX9 HK hX k1 k2 k3
  refine ⟨.tuple #[.agg #[.bool e.th, .int .u32 e.pg, .int .u32 e.fr, .bool e.wr], .int .i64 (i : Int), .bool q], by simp [results, Try.results14, go_sem, c10, c11, c12, c13, c20, c30], ?_, hB⟩
  obtain ⟨rfl, rfl, rfl⟩ := HQ.out
  rfl

set_option maxRecDepth 100000 in
theorem Look_nil (p : Int) (w : World) : Calls Try.prog 14 #[.pointer none, .int .u32 p] w fun e w' =>
    e = .returned (.tuple #[.agg #[.bool false, .int .u32 0, .int .u32 0, .bool false], .int .i64 0, .bool false]) ∧ Below w.heap.size w w' := by
  have H0 := Lib.hid (lk_start w p)
  refine (callsIn_wide (n := 5)).1 ?_
  refine callsIn_of_wp_marks Try.func14 rfl trivial ?_ rfl
  refine wpIn_wide.2 ?_
  simp only [Try.ntmps14, List.size_toArray, List.length_cons, List.length_nil, Nat.reduceAdd, Nat.reduceSub, Array.replicate_succ, Array.replicate_zero, List.push_toArray, List.append_toArray, List.nil_append, List.cons_append]
  go_wp2
  go_step3
  go_wp2
  go_step3
  go_wp2_with fail
  refine (Walked_nil _).mono ?_; rintro e W1 ⟨rfl, hW1⟩
  have hX := H0.out.after (W' := W1) (by rw [hW1]; exact (Below.refl _ _).alloc (Nat.le_refl _) _)
  have hB : Blk W1 (w.heap.size + 1 + 1 + 1 + 1) #[.slice none 0 0] 52 := by
    rw [hW1]
    have := blk_new ((((w.alloc (.cells #[.int .u32 p] 25)).alloc (.cells #[.bool false, .int .u32 0, .int .u32 0, .bool false] 27)).alloc (.cells #[.int .i64 0] 3)).alloc (.cells #[.bool false] 4)) #[.slice none 0 0] 52
    simp only [World.size_alloc] at this
    exact this
  have HX := Lib.hid hX
  have hz1 := hB.lt
  simp only [World.size_alloc]
  clear hX hW1 H0
  go_wp2_with fail
  refine (wpIn_wide (n := 5)).1 (wp_over_ab (id := 0) (gf := 28) (lb := #[.pointer (some ⟨w.heap.size + 1 + 1 + 1 + 1, 0, none⟩)]) rfl (enters_of Try.func28 (by kernel_rfl) rfl)
    (Walked1_nil _ _ hB (fun _ => False) T0)
    (fun k hk => hk.elim) (fun _ => rfl)
    (fun pre W => ∃ _x : Unit, True ∧ Bxs w (lkL w.heap.size p E0 0 false) W)
    (fun c pre W => ∃ _x : Unit, False ∧ Bxs w [] W)
    (bxs_own w _ _ (by omega)) (fun c => bxs_own w _ _ (by omega)) ⟨(), trivial, HX.out⟩
    (fun x => .cells #[.bool (T0.g x).th, .int .u32 (T0.g x).pg, .int .u32 (T0.g x).fr, .bool (T0.g x).wr] 27)
    (fun tm x b => (((tm.setIfInBounds 11 (.int .i64 (x : Int))).setIfInBounds 12 (.agg #[.bool (T0.g x).th, .int .u32 (T0.g x).pg, .int .u32 (T0.g x).fr, .bool (T0.g x).wr])).setIfInBounds 7 (.int .i64 (x : Int))).setIfInBounds 8 (.pointer (some ⟨b, 0, none⟩)))
    ?assign ?body (fun _ _ h => h) (fun c pre W ⟨_, h, _⟩ => h.elim) ?rest)
  case assign =>
    intro ll mm x W1 K hK
    gi_wp2
    simp only [List.setIfInBounds_toArray, List.set_cons_zero, List.set_cons_succ] at hK
    exact hK
  case body =>
    rintro ll mm pre x rest W b hf _ _ _ _
    simp at hf
  intro D0 W9 hD0 hends hK
  obtain ⟨e, i, q, he9, hX9⟩ : ∃ e i q, (E0 = e ∧ 0 = i ∧ false = q) ∧ Bxs w (lkL w.heap.size p e i q) W9 := by
    rcases hends with ⟨_, _, hX⟩ | ⟨_, _, _, _, _, h, _⟩
    · exact ⟨_, _, _, ⟨rfl, rfl, rfl⟩, hX⟩
    · exact h.elim
  have HX9 := Lib.hid hX9
  have HK := Lib.hid hK
  have HQ := Lib.hid he9
  clear he9 hends hX9 hK hB HX
  go_wp2
  have k1 := HX9.out.get (w.heap.size + 1) (cs := #[.bool e.th, .int .u32 e.pg, .int .u32 e.fr, .bool e.wr]) (ty := 27) (by simp)
  have k2 := HX9.out.get (w.heap.size + 1 + 1) (cs := #[.int .i64 (i : Int)]) (ty := 3) (by simp)
  have k3 := HX9.out.get (w.heap.size + 1 + 1 + 1) (cs := #[.bool q]) (ty := 4) (by simp)
  have HE : Hid (∀ W, W = W9.drew → W.rangeAt (w.heap.size + 1) 0 (cE e)) := fun W hW => by rw [hW]; exact k1.drew.range 0 _ rfl
  have HC : Hid (∀ W, W = W9.drew → W.cell? ⟨w.heap.size + 1 + 1, 0, none⟩ = some (.int .i64 (i : Int)) ∧ W.cell? ⟨w.heap.size + 1 + 1 + 1, 0, none⟩ = some (.bool q)) := fun W hW => by
    rw [hW]; exact ⟨k2.drew.cell 0, k3.drew.cell 0⟩
  have q10 := k1.cell 0
  have q11 := k1.cell 1
  have q12 := k1.cell 2
  have q13 := k1.cell 3
  have q20 := k2.cell 0
  have q30 := k3.cell 0
  simp only [List.getElem?_toArray, List.getElem?_cons_zero, List.getElem?_cons_succ] at q10 q11 q12 q13 q20 q30
  have f10 := k1.frozen 0
  have f11 := k1.frozen 1
  have f12 := k1.frozen 2
  have f13 := k1.frozen 3
  have f20 := k2.frozen 0
  have f30 := k3.frozen 0
  have s10 : W9.setCell ⟨w.heap.size + 1, 0, none⟩ (.bool e.th) = W9 := setCell_same k1 rfl
  have s11 : W9.setCell ⟨w.heap.size + 1, 1, none⟩ (.int .u32 e.pg) = W9 := setCell_same k1 rfl
  have s12 : W9.setCell ⟨w.heap.size + 1, 2, none⟩ (.int .u32 e.fr) = W9 := setCell_same k1 rfl
  have s13 : W9.setCell ⟨w.heap.size + 1, 3, none⟩ (.bool e.wr) = W9 := setCell_same k1 rfl
  have s20 : W9.setCell ⟨w.heap.size + 1 + 1, 0, none⟩ (.int .i64 (i : Int)) = W9 := setCell_same k2 rfl
  have s30 : W9.setCell ⟨w.heap.size + 1 + 1 + 1, 0, none⟩ (.bool q) = W9 := setCell_same k3 rfl
  have hK0 : (fun W => W = W9.drew) W9.drew := rfl
  clear k1 k2 k3
  refine wp_region_noPanic ?_
  refine wp_region_held_drew (S := (fun W => W = W9.drew)) (by kernel_rfl) hK0 (fun _ => ?_)
  have hS := hK0
  refine take_d (i := 0) (d := some 19) (v := .agg #[.bool e.th, .int .u32 e.pg, .int .u32 e.fr, .bool e.wr]) rfl rfl (by kernel_rfl) (by kernel_rfl) (by kernel_rfl) (fun _ _ _ h => h) (y_E (by kernel_rfl) rfl rfl (fun W hW => HE.out W hW)) hS ?_
  try simp only [Act.put, List.setIfInBounds_toArray, List.set_cons_zero, List.set_cons_succ]
  refine take_d (i := 1) (d := some 20) (v := .int .i64 (i : Int)) rfl rfl (by kernel_rfl) (by kernel_rfl) (by kernel_rfl) (fun _ _ _ h => h) (.inl ⟨by rfl, fun W hW => by have q1 := (HC.out W hW).1; go_simp⟩) hS ?_
  try simp only [Act.put, List.setIfInBounds_toArray, List.set_cons_zero, List.set_cons_succ]
  refine take_d (i := 2) (d := some 21) (v := .bool q) rfl rfl (by kernel_rfl) (by kernel_rfl) (by kernel_rfl) (fun _ _ _ h => h) (.inl ⟨by rfl, fun W hW => by have q1 := (HC.out W hW).2; go_simp⟩) hS ?_
  try simp only [Act.put, List.setIfInBounds_toArray, List.set_cons_zero, List.set_cons_succ]
  refine wpAnyH_all (rs := [3]) (by kernel_rfl) (by simp) (fun i hi => ?_)
  simp only [List.mem_cons, List.not_mem_nil, or_false] at hi
  subst hi
  refine .inl ?_
  go_simp
  try simp only [Act.put, List.setIfInBounds_toArray, List.set_cons_zero, List.set_cons_succ]
  refine wpAnyH_all (rs := [4]) (by kernel_rfl) (by simp) (fun i hi => ?_)
  simp only [List.mem_cons, List.not_mem_nil, or_false] at hi
  subst hi
  refine .inl ?_
  go_simp
  try simp only [Act.put, List.setIfInBounds_toArray, List.set_cons_zero, List.set_cons_succ]
  refine wpAnyH_all (rs := [5]) (by kernel_rfl) (by simp) (fun i hi => ?_)
  simp only [List.mem_cons, List.not_mem_nil, or_false] at hi
  subst hi
  refine .inl ?_
  go_simp
  try simp only [Act.put, List.setIfInBounds_toArray, List.set_cons_zero, List.set_cons_succ]
  refine wpAnyH_done (by kernel_rfl) ?_ _
  refine NoPanic.normal ?_
  clear s10 s11 s12 s13 s20 s30 f10 f11 f12 f13 f20 f30 q10 q11 q12 q13 q20 q30 HE HC
  have hz9 := HX9.out.below.size
  have hD9 := (Array.getElem?_eq_some_iff.1 HK.out).1
  go_wp2
  refine ⟨by simp, .inl ⟨_, _, rfl, run_takeDeferred (show W9.drew.heap[D0]? = some (.deferred (some [])) from HK.out), ?_⟩⟩
  have hX := HX9.out
  have k1 := hX.get (w.heap.size + 1) (cs := #[.bool e.th, .int .u32 e.pg, .int .u32 e.fr, .bool e.wr]) (ty := 27) (by simp)
  have k2 := hX.get (w.heap.size + 1 + 1) (cs := #[.int .i64 (i : Int)]) (ty := 3) (by simp)
  have k3 := hX.get (w.heap.size + 1 + 1 + 1) (cs := #[.bool q]) (ty := 4) (by simp)
  have c10 : (W9.drew.putObj D0 (.deferred none)).cell? ⟨w.heap.size + 1, 0, none⟩ = some (.bool e.th) := (cell_putObj (show w.heap.size + 1 ≠ D0 by omega)).trans (k1.cell 0)
  have c11 : (W9.drew.putObj D0 (.deferred none)).cell? ⟨w.heap.size + 1, 1, none⟩ = some (.int .u32 e.pg) := (cell_putObj (show w.heap.size + 1 ≠ D0 by omega)).trans (k1.cell 1)
  have c12 : (W9.drew.putObj D0 (.deferred none)).cell? ⟨w.heap.size + 1, 2, none⟩ = some (.int .u32 e.fr) := (cell_putObj (show w.heap.size + 1 ≠ D0 by omega)).trans (k1.cell 2)
  have c13 : (W9.drew.putObj D0 (.deferred none)).cell? ⟨w.heap.size + 1, 3, none⟩ = some (.bool e.wr) := (cell_putObj (show w.heap.size + 1 ≠ D0 by omega)).trans (k1.cell 3)
  have c20 : (W9.drew.putObj D0 (.deferred none)).cell? ⟨w.heap.size + 1 + 1, 0, none⟩ = some (.int .i64 (i : Int)) := (cell_putObj (show w.heap.size + 1 + 1 ≠ D0 by omega)).trans (k2.cell 0)
  have c30 : (W9.drew.putObj D0 (.deferred none)).cell? ⟨w.heap.size + 1 + 1 + 1, 0, none⟩ = some (.bool q) := (cell_putObj (show w.heap.size + 1 + 1 + 1 ≠ D0 by omega)).trans (k3.cell 0)
  have hB : Below w.heap.size w (W9.drew.putObj D0 (.deferred none)) := hX.below.trans ((Below.refl _ _).drew.trans (belowK_b (w := w) (Nat.le_refl _) _ D0 _ _ (by omega) HK.out rfl rfl))
  clear HX9 HK hX k1 k2 k3
  refine ⟨.tuple #[.agg #[.bool e.th, .int .u32 e.pg, .int .u32 e.fr, .bool e.wr], .int .i64 (i : Int), .bool q], by simp [results, Try.results14, go_sem, c10, c11, c12, c13, c20, c30], ?_, hB⟩
  obtain ⟨rfl, rfl, rfl⟩ := HQ.out
  rfl
end Go.Proofs.Ytafkjokbidkkhaa
