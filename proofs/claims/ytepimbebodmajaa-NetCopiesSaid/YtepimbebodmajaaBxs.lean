/-
  Layer 9: boxes that a call made, and what lies in them.
-/
import Derived.Test.YtepimbebodmajaaOver
import Derived.Test.YtepimbebodmajaaRound
import Derived.Test.YtepimbebodmajaaRegion
import Derived.RangeFuncBound
import Derived.RangeFuncBox
import Derived.Shelf.Abstract
import Derived.Shelf.RegionOpen
import Derived.OwnWalkIn
import Derived.TacticsInMore
import Derived.LoopNIn
import Derived.LoopIn
import Derived.Maps.OwnIn
namespace Go.Proofs.Ytepimbebodmajaa
open Go.RowKit Go.Shelf
set_option linter.unusedVariables false

/-! ### boxes that a call made, and what lies in them -/
theorem cell_putObj {W : World} {D : Nat} {o : Obj} {p : Addr} (h : p.block ≠ D) : (W.putObj D o).cell? p = W.cell? p := by
  simp only [World.cell?, World.putObj_heap_other h]
abbrev Bx := Nat × Array Value × TypeId
structure Bxs (w : World) (L : List Bx) (W : World) : Prop where
  below : Below w.heap.size w W
  at_ : ∀ p ∈ L, Blk W p.1 p.2.1 p.2.2
section
variable {w W W' : World} {L : List Bx}
theorem Bxs.after (h : Bxs w L W) (hb : Below W.heap.size W W') : Bxs w L W' := ⟨h.below.trans (hb.mono h.below.size), fun p hp => (h.at_ p hp).below hb⟩
theorem Bxs.drew (h : Bxs w L W) : Bxs w L W.drew := h.after (Below.refl _ _).drew
theorem Bxs.nil (w : World) : Bxs w [] w := ⟨Below.refl _ _, fun p hp => by cases hp⟩
theorem Bxs.alloc (h : Bxs w L W) (cs : Array Value) (ty : TypeId) : Bxs w ((W.heap.size, cs, ty) :: L) (W.alloc (.cells cs ty)) :=
  ⟨h.below.alloc h.below.size _, fun p hp => by
    rcases List.mem_cons.1 hp with rfl | hp
    · exact blk_new _ _ _
    · exact (h.at_ p hp).alloc _⟩
theorem Bxs.get (h : Bxs w L W) (b : Nat) {cs : Array Value} {ty : TypeId} (hm : (b, cs, ty) ∈ L) : Blk W b cs ty := h.at_ _ hm
theorem bxs_own {β γ : Type} (w : World) (f : β → γ → Prop) (L : β → γ → List Bx) {B : Nat} (hB : w.heap.size ≤ B) : OwnFrom B (fun (s : β) W => ∃ x, f s x ∧ Bxs w (L s x) W) := by
  intro s W W' row hs hg hr
  obtain ⟨x, hf, hs⟩ := hs
  refine ⟨x, hf, hs.below.grown hg hs.below.size (fun k e => by have := (hr k e).1; omega), fun p hp => ?_⟩
  have hj := hs.at_ p hp
  exact (hg.block _ hj.lt (fun e => by
      obtain ⟨h1, o', h2, h3⟩ := hr _ e.symm
      rw [hj] at h2; cases h2
      cases h3)).trans hj
/-- A block of the list is written anew: by what the walk makes of it. -/
theorem Bxs.turned (h : Bxs w L W) {F : Nat → Prop} (ht : Turned F W W') (hF : ∀ k, F k → w.heap.size ≤ k) {L' : List Bx} (hL : ∀ p ∈ L', (F p.1 → Blk W' p.1 p.2.1 p.2.2) ∧ (¬ F p.1 → p ∈ L)) : Bxs w L' W' :=
  ⟨h.below.trans (ht.below h.below.size hF), fun p hp => by
    by_cases e : F p.1
    · exact (hL p hp).1 e
    · exact (h.at_ p ((hL p hp).2 e)).turned ht e⟩
end
theorem KeptBut.cell {M : Nat → Prop} (W : World) {p : Addr} (v : Value) (h : M p.block) : KeptBut M W (W.setCell p v) := ⟨by simp, fun k _ hn => Below.heap_setCell _ _ _ _ (fun e => hn (e ▸ h))⟩
theorem KeptBut.ofTurned {M : Nat → Prop} {W W' : World} (h : Turned M W W') : KeptBut M W W' := ⟨h.size, fun k hk hn => h.block k hk hn⟩

theorem Blk.off {w : World} {b : Nat} {cs : Array Value} {ty : TypeId} (h : Blk w b cs ty) {g j : Nat} (hp : b ≠ g) (v : Value) : Blk (w.setCell ⟨g, j, none⟩ v) b cs ty := (Below.heap_setCell _ _ _ _ hp).trans h
theorem setCell_same {w : World} {b j : Nat} {cs : Array Value} {ty : TypeId} {v : Value} (h : Blk w b cs ty) (hv : cs[j]? = some v) : w.setCell ⟨b, j, none⟩ v = w := by
  rw [setCell_eq_setRow w b j cs ty (0, 0) v h]
  have e : cs.setIfInBounds j v = cs := by
    apply Array.ext
    · simp
    · intro k h1 h2
      rw [Array.getElem_setIfInBounds (by simpa using h2)]
      split
      · rename_i e; subst e
        rw [Array.getElem?_eq_getElem h2] at hv
        exact (Option.some.inj hv).symm
      · rfl
  rw [e]
  exact setRow_self w b cs ty (0, 0) h

theorem Bxs.set1 {w W W' : World} {b : Nat} {cs cs' : Array Value} {ty : TypeId} (h : Bxs w [(b, cs, ty)] W) (hb : w.heap.size ≤ b) (ht : Turned (fun k => k = b) W W') (hB : Blk W' b cs' ty) : Bxs w [(b, cs', ty)] W' :=
  h.turned ht (fun k e => by omega) (fun p hp => by
    simp only [List.mem_cons, List.not_mem_nil, or_false] at hp
    subst hp
    exact ⟨fun _ => hB, fun hn => absurd rfl hn⟩)
end Go.Proofs.Ytepimbebodmajaa
