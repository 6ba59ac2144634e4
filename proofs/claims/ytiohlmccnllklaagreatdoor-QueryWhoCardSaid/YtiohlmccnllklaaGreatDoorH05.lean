/-
  Layer 12 (as in layer 9): a loop over an iterator whose contract names the list that it gives: the body of a round is told what came and what comes. The iterator may itself hold such a loop. No program. A region that draws its order, in the round of a loop over an iterator: what holds of it in the plain walk holds in the round. No program. Layer 12 (as in layer 9): boxes that a call made, and what lies in them.
-/
import Derived.RangeFuncNested
import Derived.Test.YtiohlmccnllklaaGreatDoorH02
import Derived.RangeFuncLeaves
import Derived.RangeFuncCalls
import Derived.WalkKit
import Derived.OrdersHeld
import Derived.OrdersIn
import Derived.Deep.RegionHeld
import Derived.TacticsIn
import Derived.Test.YtiohlmccnllklaaGreatDoorH01
import Derived.RangeFuncBound
import Derived.RangeFuncBox
import Derived.Shelf.Abstract
import Derived.Shelf.RegionOpen
import Derived.OwnWalkIn
import Derived.TacticsInMore
import Derived.LoopNIn
import Derived.LoopIn
import Derived.Maps.OwnIn
set_option linter.unusedVariables false
set_option linter.unusedSimpArgs false
namespace Go.Proofs.YtiohlmccnllklaaGreatDoor
open Go.RowKit

/-- Where no depth is asked a round may come from any. -/
theorem yield_deep {m : Nat} (m' : Nat) {P : Program} {l : Nat} {args : Array Value} {W : World} {R : Ending → World → Prop} (h : YieldAt Fence.wide m P l args W R) : YieldAt Fence.wide m' P l args W R := by
  obtain ⟨fn, t, x, y, hy, hR⟩ := h
  exact ⟨fn, t, x, y, hy, hR.1, fun c cs _ => hR.2 c cs (room_wide _)⟩

/-- All that lay lies as it lay, but for the blocks M, and rows of places. -/
def KeptBut (M : Nat → Prop) (W W' : World) : Prop := W.heap.size ≤ W'.heap.size ∧ ∀ k, k < W.heap.size → ¬ M k → ¬ L3.Pls W k → W'.heap[k]? = W.heap[k]?
theorem KeptBut.refl (M : Nat → Prop) (W : World) : KeptBut M W W := ⟨Nat.le_refl _, fun _ _ _ _ => rfl⟩
theorem KeptBut.trans {M : Nat → Prop} {A B C : World} (h : KeptBut M A B) (k : KeptBut M B C) : KeptBut M A C :=
  ⟨Nat.le_trans h.1 k.1, fun j hj hn hp => (k.2 j (Nat.lt_of_lt_of_le hj h.1) hn (fun e => hp (e.eq (h.2 j hj hn hp)))).trans (h.2 j hj hn hp)⟩
theorem KeptBut.mono {M N : Nat → Prop} {A B : World} (h : KeptBut M A B) (hN : ∀ k, M k → N k) : KeptBut N A B := ⟨h.1, fun j hj hn hp => h.2 j hj (fun hm => hn (hN j hm)) hp⟩
theorem KeptBut.put {M : Nat → Prop} (W : World) {l : Nat} (o : Obj) (hl : M l) : KeptBut M W (W.putObj l o) := ⟨by simp, fun k _ hn _ => World.putObj_heap_other (fun e => hn (e ▸ hl))⟩
theorem KeptBut.from {M : Nat → Prop} {A B : World} (h : KeptBut M A B) {b : Nat} (hM : ∀ k, M k → k < b) : KeepsFrom b A B :=
  ⟨h.1, fun k o hk ho hc => (h.2 k (Array.getElem?_eq_some_iff.1 ho).1 (fun hm => by have := hM k hm; omega) (L3.Pls.notO ho hc)).trans ho⟩
theorem OwnFrom.higher {β : Type} {B B' : Nat} {I : β → World → Prop} (h : OwnFrom B I) (hB : B ≤ B') : OwnFrom B' I := fun s W W' row hs hg hr => h s W W' row hs hg (fun r e => ⟨Nat.le_trans hB (hr r e).1, (hr r e).2⟩)

/-- THE FUNCTION g, OVER lb, GIVES THE LIST full TO WHATEVER LOOP RANGES OVER IT, or a beginning of it, where a round has said 'no more'; M: the blocks that the rounds may turn. -/
def Gives {α : Type} (P : Program) (g : Nat) (lb : Array Value) (encs : α → Array Value) (M : Nat → Prop) (full : List α) (w : World) : Prop :=
  ∀ (n l : Nat) (J Jx : List α → World → Prop) (W : World), Below w.heap.size w W → OwnFrom W.heap.size J → OwnFrom W.heap.size Jx →
    (∀ m pre x rest W1, full = pre ++ x :: rest → J pre W1 → YieldAt Fence.wide m P l (encs x) W1 fun e W' =>
      ((e = .returned (.bool true) ∧ J (pre ++ [x]) W') ∨ (e = .returned (.bool false) ∧ Jx (pre ++ [x]) W')) ∧ KeptBut (fun k => M k ∨ (w.heap.size ≤ k ∧ k < W.heap.size)) W1 W') →
    J [] W →
    CallsIn Fence.wide n P g (#[.func (.yield l) #[] #[]] ++ lb) W fun e W' => (∃ v, e = .returned v) ∧ (J full W' ∨ ∃ pre rest, full = pre ++ rest ∧ Jx pre W')
/-- HOW THE BODY OF A ROUND MAY BE LEFT. -/
def RoundP {α : Type} (M : Nat → Prop) (I : List α → World → Prop) (Ix : Code → List α → World → Prop) (xs : List α) (W : World) : Exit → Act → World → Prop
  | .normal, _, W' => KeptBut M W W' ∧ I xs W'
  | .ret, _, W' => KeptBut M W W' ∧ Ix .ret xs W'
  | .exit id, _, W' => KeptBut M W W' ∧ Ix (.exit id) xs W'
  | .goto t, _, W' => KeptBut M W W' ∧ Ix (.goto t) xs W'
  | .panic _, _, _ => False
  | .outgrown, _, _ => False

/-- What a round leaves of a block that is no cells and lies from B on. -/
theorem round_end {P : Program} {B l : Nat} {r r' : Loop} {W W3 : World} (hB : B ≤ l) (hl : W.heap[l]? = some (.loop r')) (hr : r' = { r with state := .busy }) (hk : KeepsFrom B W W3) (jump : Option Code) :
    (Instr.endRound l jump).run P W3 = .ok (.bool jump.isNone) (W3.putObj l (.loop { r with state := if jump.isNone then .ready else .done, pending := jump })) ∧ W3.heap[l]? = some (.loop r') := by
  have h3 := hk.same _ _ hB hl rfl
  have := run_endRound (P := P) jump h3
  subst hr
  exact ⟨this, h3⟩

theorem wp_over {α : Type} {P : Program} {n : Nat} {g : Operand} {ps : Array Tmp} {assign body : Code} {Q : Exit → Act → World → Prop} {a : Act} {w : World}
    {gf : Nat} {lb : Array Value} (hg : a.eval g = .func (.func gf) #[] lb) (eg : ∀ args w, (callFunc gf args).run P w = .ok (.enter gf args) w)
    {encs : α → Array Value} {M : Nat → Prop} {full : List α} (hseq : Gives P gf lb encs M full w)
    (hM : ∀ k, M k → k < w.heap.size) (hps : ∀ x, (encs x).size = ps.size)
    (I : List α → World → Prop) (Ix : Code → List α → World → Prop) (hI : OwnFrom w.heap.size I) (hIx : ∀ c, OwnFrom w.heap.size (Ix c)) (h0 : I [] w) (a₁ : α → Act)
    (hassign : ∀ (l m : Nat) (x : α) (W : World) (K : Act → World → Prop), K (a₁ x) W →
      assign.wpIn (Fence.wide.inRound l) m P (Exit.then K (fun _ _ _ => False)) { tmps := (ps.zip (encs x)).foldl (fun t (p, v) => t.setIfInBounds p v) a.tmps, defers := [] } W)
    (hbody : ∀ (l m : Nat) (pre : List α) (x : α) (rest : List α) (W : World), full = pre ++ x :: rest → I pre W → body.wpIn (Fence.wide.inRound l) m P (RoundP M I Ix (pre ++ [x]) W) (a₁ x) W)
    (hdone : ∀ (D : Nat) (W : World), w.heap.size ≤ D → I full W → W.heap[D]? = some (.deferred (some [])) → Q .normal { a with defers := { target := .collected D, args := #[] } :: a.defers } W)
    (hstop : ∀ (D : Nat) (c : Code) (pre rest : List α) (W : World), w.heap.size ≤ D → full = pre ++ rest → Ix c pre W → W.heap[D]? = some (.deferred (some [])) → c.wpIn Fence.wide n P Q { a with defers := { target := .collected D, args := #[] } :: a.defers } W) :
    (Code.rangeFunc g ps assign body).wpIn Fence.wide n P Q a w := by
  have hD0 : (w.alloc (.deferred (some []))).heap[w.heap.size]? = some (.deferred (some [])) := World.alloc_heap_new w _
  refine wpIn_rangeFunc fun fn _ => ?_
  obtain ⟨r0, hr0⟩ : ∃ r0 : Loop, r0 = { state := .ready, pending := none, fn, tmps := a.tmps, params := ps, assign, body, defers := w.heap.size } := ⟨_, rfl⟩
  obtain ⟨L, hL⟩ : ∃ L, L = w.heap.size + 1 := ⟨_, rfl⟩
  obtain ⟨W1, hW1⟩ : ∃ W1, (w.alloc (.deferred (some []))).alloc (.loop r0) = W1 := ⟨_, rfl⟩
  have z1 : W1.heap.size = w.heap.size + 2 := by rw [← hW1]; simp
  have l1 : W1.heap[L]? = some (.loop r0) := by
    have := World.alloc_heap_new (w.alloc (.deferred (some []))) (.loop r0)
    rw [World.size_alloc] at this
    rw [← hW1, hL]; exact this
  have d1 : W1.heap[w.heap.size]? = some (.deferred (some [])) := by
    rw [← hW1]; exact (Below.heap_alloc _ _ _ (by simp)).trans hD0
  have i1 : I [] W1 := by rw [← hW1]; exact hI.alloc _ (hI.alloc _ h0)
  have b1 : Below w.heap.size w W1 := by rw [← hW1]; exact ((Below.refl _ w).alloc (Nat.le_refl _) _).alloc (by simp) _
  refine ⟨L, [{ target := .collected w.heap.size, args := #[] }], W1, { target := .fn (.func gf) lb, args := #[.func (.yield L) #[] #[]] }, W1, gf, #[.func (.yield L) #[] #[]] ++ lb, W1, ?_, ?_, fun _ _ => trivial, ?_, (fun h => by cases h), ?_⟩
  · rw [← hW1, hr0, hL]; exact run_enterLoop_outer _ _ _ _ _
  · simp only [resolve, hg]; simp [go_sem]
  · simp [invoke, go_sem, eg]
  -- what is carried: the caller's word, the loop's record, the block for deferred calls
  have own : ∀ {A B : World} {row : Option Nat} {k : Nat} {o : Obj}, k < W1.heap.size → A.grownBy B row → (∀ r, row = some r → W1.heap.size ≤ r ∧ ∃ o : Obj, A.heap[r]? = some o ∧ o.isCells = false) → A.heap[k]? = some o → B.heap[k]? = some o :=
    fun hk hgr hr hA => (hgr.block _ (Array.getElem?_eq_some_iff.1 hA).1 (fun e => by have := (hr _ e.symm).1; omega)).trans hA
  have down : ∀ {A : World} {row : Option Nat}, (∀ r, row = some r → W1.heap.size ≤ r ∧ ∃ o : Obj, A.heap[r]? = some o ∧ o.isCells = false) → (∀ r, row = some r → w.heap.size ≤ r ∧ ∃ o : Obj, A.heap[r]? = some o ∧ o.isCells = false) :=
    fun hr r e => ⟨by have := (hr r e).1; omega, (hr r e).2⟩
  refine (hseq _ L (fun pre W => I pre W ∧ W.heap[L]? = some (.loop r0) ∧ W.heap[w.heap.size]? = some (.deferred (some [])))
    (fun pre W => ∃ c, Ix c pre W ∧ W.heap[L]? = some (.loop { r0 with state := .done, pending := some c }) ∧ W.heap[w.heap.size]? = some (.deferred (some [])))
    W1 b1 (fun s A B row hs hgr hr => ⟨hI s A B row hs.1 hgr (down hr), own (by omega) hgr hr hs.2.1, own (by omega) hgr hr hs.2.2⟩)
    (fun s A B row hs hgr hr => by obtain ⟨c, h1, h2, h3⟩ := hs; exact ⟨c, hIx c s A B row h1 hgr (down hr), own (by omega) hgr hr h2, own (by omega) hgr hr h3⟩)
    ?_ ⟨i1, l1, d1⟩).mono ?_
  · rintro m pre x rest W hf ⟨hi, hl, hd⟩
    have hy := run_yield (P := P) (args := encs x) hl (by rw [hr0]; exact hps x)
    refine ⟨_, _, _, _, hy, roundIn_of_wpIn trivial ?_⟩
    have hta : r0.tmps = a.tmps := by rw [hr0]
    have htp : r0.params = ps := by rw [hr0]
    have hts : r0.assign = assign := by rw [hr0]
    have htb : r0.body = body := by rw [hr0]
    rw [hta, htp, hts, htb]
    refine hassign L _ x W _ ?_
    have hbg := run_beginRound (P := P) hl (by rw [hr0])
    refine ⟨_, hbg, ?_⟩
    obtain ⟨Wb, hWb⟩ : ∃ Wb, W.putObj L (.loop { r0 with state := .busy }) = Wb := ⟨_, rfl⟩
    have lb' : Wb.heap[L]? = some (.loop { r0 with state := .busy }) := by rw [← hWb]; exact World.putObj_heap_same (Array.getElem?_eq_some_iff.1 hl).1
    have db : Wb.heap[w.heap.size]? = some (.deferred (some [])) := by rw [← hWb]; exact (World.putObj_heap_other (by omega)).trans hd
    have ib : I pre Wb := by rw [← hWb]; exact hI.putObj _ hi (by omega) hl rfl
    have kb : KeptBut (fun k => M k ∨ (w.heap.size ≤ k ∧ k < W1.heap.size)) W Wb := by rw [← hWb]; exact KeptBut.put _ _ (.inr ⟨by omega, by omega⟩)
    have up : ∀ {A B : World}, KeptBut M A B → KeptBut (fun k => M k ∨ (w.heap.size ≤ k ∧ k < W1.heap.size)) A B := fun h => h.mono (fun _ h => .inl h)
    rw [hWb]
    refine wpIn_mono (hbody L _ pre x rest Wb hf ib) ?_
    have fin : ∀ (jump : Option Code) (W3 : World), KeepsFrom w.heap.size Wb W3 → ∃ W4, (Instr.endRound L jump).run P W3 = .ok (.bool jump.isNone) W4 ∧ W4 = W3.putObj L (.loop { r0 with state := if jump.isNone then .ready else .done, pending := jump }) ∧
        W3.heap[L]? = some (.loop { r0 with state := .busy }) ∧ W4.heap[w.heap.size]? = some (.deferred (some [])) ∧ W4.heap[L]? = some (.loop { r0 with state := if jump.isNone then .ready else .done, pending := jump }) := fun jump W3 hk => by
      obtain ⟨e1, e2⟩ := round_end (P := P) (by omega) lb' rfl hk jump
      exact ⟨_, e1, rfl, e2, (World.putObj_heap_other (by omega)).trans (hk.same _ _ (Nat.le_refl _) db rfl), World.putObj_heap_same (Array.getElem?_eq_some_iff.1 e2).1⟩
    have hrr : { r0 with state := LoopState.ready, pending := none } = r0 := by rw [hr0]
    have last : ∀ {W3 W4 : World} {o : Obj}, KeptBut M Wb W3 → W4 = W3.putObj L o → KeptBut (fun k => M k ∨ (w.heap.size ≤ k ∧ k < W1.heap.size)) W W4 := fun {W3 W4 o} h3 h4 => by
      rw [h4]; exact (kb.trans (up h3)).trans (KeptBut.put _ _ (.inr ⟨by omega, by omega⟩))
    intro e a3 W3 hp
    cases e with
    | normal =>
      obtain ⟨hk3, hi3⟩ := hp
      obtain ⟨W4, e1, e2, e3, e4, e5⟩ := fin none W3 (hk3.from hM)
      refine ⟨_, W4, e1, .inl ⟨rfl, ⟨?_, ?_, e4⟩⟩, last hk3 e2⟩
      · rw [e2]; exact hI.putObj _ hi3 (by omega) e3 rfl
      · simpa [hrr] using e5
    | ret =>
      obtain ⟨hk3, hi3⟩ := hp
      obtain ⟨W4, e1, e2, e3, e4, e5⟩ := fin (some .ret) W3 (hk3.from hM)
      exact ⟨_, W4, e1, .inr ⟨rfl, .ret, by rw [e2]; exact (hIx _).putObj _ hi3 (by omega) e3 rfl, by simpa [hta, htp, hts, htb] using e5, e4⟩, last hk3 e2⟩
    | exit id =>
      obtain ⟨hk3, hi3⟩ := hp
      obtain ⟨W4, e1, e2, e3, e4, e5⟩ := fin (some (.exit id)) W3 (hk3.from hM)
      exact ⟨_, W4, e1, .inr ⟨rfl, .exit id, by rw [e2]; exact (hIx _).putObj _ hi3 (by omega) e3 rfl, by simpa [hta, htp, hts, htb] using e5, e4⟩, last hk3 e2⟩
    | goto t =>
      obtain ⟨hk3, hi3⟩ := hp
      obtain ⟨W4, e1, e2, e3, e4, e5⟩ := fin (some (.goto t)) W3 (hk3.from hM)
      exact ⟨_, W4, e1, .inr ⟨rfl, .goto t, by rw [e2]; exact (hIx _).putObj _ hi3 (by omega) e3 rfl, by simpa [hta, htp, hts, htb] using e5, e4⟩, last hk3 e2⟩
    | panic ch => exact hp.elim
    | outgrown => exact hp.elim
  · rintro e W2 ⟨⟨v, rfl⟩, (⟨hi, hl, hd⟩ | ⟨pre, rest, hf, c, hi, hl, hd⟩)⟩
    · have he := run_endLoop (P := P) hl (by rw [hr0]; simp)
      have hp : r0.pending = none := by rw [hr0]
      rw [hp] at he
      exact ⟨none, _, he, hdone _ _ (Nat.le_refl _) (hI.putObj _ hi (by omega) hl rfl) ((World.putObj_heap_other (by omega)).trans hd)⟩
    · have he := run_endLoop (P := P) hl (by simp)
      exact ⟨some c, _, he, hstop _ c pre rest _ (Nat.le_refl _) hf ((hIx c).putObj _ hi (by omega) hl rfl) ((World.putObj_heap_other (by omega)).trans hd)⟩
theorem wp_over_a {α : Type} {P : Program} {n : Nat} {g : Operand} {ps : Array Tmp} {assign body : Code} {Q : Exit → Act → World → Prop} {a : Act} {w : World}
    {gf : Nat} {lb : Array Value} (hg : a.eval g = .func (.func gf) #[] lb) (eg : ∀ args w, (callFunc gf args).run P w = .ok (.enter gf args) w)
    {encs : α → Array Value} {M : Nat → Prop} {full : List α} (hseq : Gives P gf lb encs M full w)
    (hM : ∀ k, M k → k < w.heap.size) (hps : ∀ x, (encs x).size = ps.size)
    (I : List α → World → Prop) (Ix : Code → List α → World → Prop) (hI : OwnFrom w.heap.size I) (hIx : ∀ c, OwnFrom w.heap.size (Ix c)) (h0 : I [] w) (ob : α → Obj) (fa : Array Value → α → Nat → Array Value)
    (hassign : ∀ (l m : Nat) (x : α) (W : World) (K : Act → World → Prop), K { tmps := fa a.tmps x W.heap.size, defers := [] } (W.alloc (ob x)) →
      assign.wpIn (Fence.wide.inRound l) m P (Exit.then K (fun _ _ _ => False)) { tmps := (ps.zip (encs x)).foldl (fun t (p, v) => t.setIfInBounds p v) a.tmps, defers := [] } W)
    (hbody : ∀ (l m : Nat) (pre : List α) (x : α) (rest : List α) (W : World) (b : Nat), full = pre ++ x :: rest → I pre W → W.heap[b]? = some (ob x) → w.heap.size + 2 ≤ b → b < W.heap.size → body.wpIn (Fence.wide.inRound l) m P (RoundP M I Ix (pre ++ [x]) W) { tmps := fa a.tmps x b, defers := [] } W)
    (hdone : ∀ (D : Nat) (W : World), w.heap.size ≤ D → I full W → W.heap[D]? = some (.deferred (some [])) → Q .normal { a with defers := { target := .collected D, args := #[] } :: a.defers } W)
    (hstop : ∀ (D : Nat) (c : Code) (pre rest : List α) (W : World), w.heap.size ≤ D → full = pre ++ rest → Ix c pre W → W.heap[D]? = some (.deferred (some [])) → c.wpIn Fence.wide n P Q { a with defers := { target := .collected D, args := #[] } :: a.defers } W) :
    (Code.rangeFunc g ps assign body).wpIn Fence.wide n P Q a w := by
  have hD0 : (w.alloc (.deferred (some []))).heap[w.heap.size]? = some (.deferred (some [])) := World.alloc_heap_new w _
  refine wpIn_rangeFunc fun fn _ => ?_
  obtain ⟨r0, hr0⟩ : ∃ r0 : Loop, r0 = { state := .ready, pending := none, fn, tmps := a.tmps, params := ps, assign, body, defers := w.heap.size } := ⟨_, rfl⟩
  obtain ⟨L, hL⟩ : ∃ L, L = w.heap.size + 1 := ⟨_, rfl⟩
  obtain ⟨W1, hW1⟩ : ∃ W1, (w.alloc (.deferred (some []))).alloc (.loop r0) = W1 := ⟨_, rfl⟩
  have z1 : W1.heap.size = w.heap.size + 2 := by rw [← hW1]; simp
  have l1 : W1.heap[L]? = some (.loop r0) := by
    have := World.alloc_heap_new (w.alloc (.deferred (some []))) (.loop r0)
    rw [World.size_alloc] at this
    rw [← hW1, hL]; exact this
  have d1 : W1.heap[w.heap.size]? = some (.deferred (some [])) := by
    rw [← hW1]; exact (Below.heap_alloc _ _ _ (by simp)).trans hD0
  have i1 : I [] W1 := by rw [← hW1]; exact hI.alloc _ (hI.alloc _ h0)
  have b1 : Below w.heap.size w W1 := by rw [← hW1]; exact ((Below.refl _ w).alloc (Nat.le_refl _) _).alloc (by simp) _
  refine ⟨L, [{ target := .collected w.heap.size, args := #[] }], W1, { target := .fn (.func gf) lb, args := #[.func (.yield L) #[] #[]] }, W1, gf, #[.func (.yield L) #[] #[]] ++ lb, W1, ?_, ?_, fun _ _ => trivial, ?_, (fun h => by cases h), ?_⟩
  · rw [← hW1, hr0, hL]; exact run_enterLoop_outer _ _ _ _ _
  · simp only [resolve, hg]; simp [go_sem]
  · simp [invoke, go_sem, eg]
  -- what is carried: the caller's word, the loop's record, the block for deferred calls
  have own : ∀ {A B : World} {row : Option Nat} {k : Nat} {o : Obj}, k < W1.heap.size → A.grownBy B row → (∀ r, row = some r → W1.heap.size ≤ r ∧ ∃ o : Obj, A.heap[r]? = some o ∧ o.isCells = false) → A.heap[k]? = some o → B.heap[k]? = some o :=
    fun hk hgr hr hA => (hgr.block _ (Array.getElem?_eq_some_iff.1 hA).1 (fun e => by have := (hr _ e.symm).1; omega)).trans hA
  have down : ∀ {A : World} {row : Option Nat}, (∀ r, row = some r → W1.heap.size ≤ r ∧ ∃ o : Obj, A.heap[r]? = some o ∧ o.isCells = false) → (∀ r, row = some r → w.heap.size ≤ r ∧ ∃ o : Obj, A.heap[r]? = some o ∧ o.isCells = false) :=
    fun hr r e => ⟨by have := (hr r e).1; omega, (hr r e).2⟩
  refine (hseq _ L (fun pre W => I pre W ∧ W.heap[L]? = some (.loop r0) ∧ W.heap[w.heap.size]? = some (.deferred (some [])))
    (fun pre W => ∃ c, Ix c pre W ∧ W.heap[L]? = some (.loop { r0 with state := .done, pending := some c }) ∧ W.heap[w.heap.size]? = some (.deferred (some [])))
    W1 b1 (fun s A B row hs hgr hr => ⟨hI s A B row hs.1 hgr (down hr), own (by omega) hgr hr hs.2.1, own (by omega) hgr hr hs.2.2⟩)
    (fun s A B row hs hgr hr => by obtain ⟨c, h1, h2, h3⟩ := hs; exact ⟨c, hIx c s A B row h1 hgr (down hr), own (by omega) hgr hr h2, own (by omega) hgr hr h3⟩)
    ?_ ⟨i1, l1, d1⟩).mono ?_
  · rintro m pre x rest W hf ⟨hi, hl, hd⟩
    have hy := run_yield (P := P) (args := encs x) hl (by rw [hr0]; exact hps x)
    refine ⟨_, _, _, _, hy, roundIn_of_wpIn trivial ?_⟩
    have hta : r0.tmps = a.tmps := by rw [hr0]
    have htp : r0.params = ps := by rw [hr0]
    have hts : r0.assign = assign := by rw [hr0]
    have htb : r0.body = body := by rw [hr0]
    rw [hta, htp, hts, htb]
    refine hassign L _ x W _ ?_
    have hLW : L < W.heap.size := (Array.getElem?_eq_some_iff.1 hl).1
    have hDW : w.heap.size < W.heap.size := (Array.getElem?_eq_some_iff.1 hd).1
    have hbc : (W.alloc (ob x)).heap[W.heap.size]? = some (ob x) := World.alloc_heap_new W _
    replace hi := hI.alloc (ob x) hi
    replace hl := (Below.heap_alloc W (ob x) _ hLW).trans hl
    replace hd := (Below.heap_alloc W (ob x) _ hDW).trans hd
    have kc : KeptBut (fun k => M k ∨ (w.heap.size ≤ k ∧ k < W1.heap.size)) W (W.alloc (ob x)) := ⟨by simp, fun k hk _ _ => Below.heap_alloc _ _ _ hk⟩
    obtain ⟨bb, hbb⟩ : ∃ bb, W.heap.size = bb := ⟨_, rfl⟩
    have hzc : (W.alloc (ob x)).heap.size = bb + 1 := by rw [← hbb]; simp
    rw [hbb] at hbc hLW ⊢
    obtain ⟨Wc, hWc⟩ : ∃ Wc, W.alloc (ob x) = Wc := ⟨_, rfl⟩
    rw [hWc] at hi hl hd hbc hzc kc ⊢
    have hbg := run_beginRound (P := P) hl (by rw [hr0])
    refine ⟨_, hbg, ?_⟩
    obtain ⟨Wb, hWb⟩ : ∃ Wb, Wc.putObj L (.loop { r0 with state := .busy }) = Wb := ⟨_, rfl⟩
    have lb' : Wb.heap[L]? = some (.loop { r0 with state := .busy }) := by rw [← hWb]; exact World.putObj_heap_same (Array.getElem?_eq_some_iff.1 hl).1
    have db : Wb.heap[w.heap.size]? = some (.deferred (some [])) := by rw [← hWb]; exact (World.putObj_heap_other (by omega)).trans hd
    have ib : I pre Wb := by rw [← hWb]; exact hI.putObj _ hi (by omega) hl rfl
    have kb : KeptBut (fun k => M k ∨ (w.heap.size ≤ k ∧ k < W1.heap.size)) W Wb := by rw [← hWb]; exact kc.trans (KeptBut.put _ _ (.inr ⟨by omega, by omega⟩))
    have bb' : Wb.heap[bb]? = some (ob x) := by rw [← hWb]; exact (World.putObj_heap_other (by omega)).trans hbc
    have up : ∀ {A B : World}, KeptBut M A B → KeptBut (fun k => M k ∨ (w.heap.size ≤ k ∧ k < W1.heap.size)) A B := fun h => h.mono (fun _ h => .inl h)
    rw [hWb]
    refine wpIn_mono (hbody L _ pre x rest Wb bb hf ib bb' (by omega) (Array.getElem?_eq_some_iff.1 bb').1) ?_
    have fin : ∀ (jump : Option Code) (W3 : World), KeepsFrom w.heap.size Wb W3 → ∃ W4, (Instr.endRound L jump).run P W3 = .ok (.bool jump.isNone) W4 ∧ W4 = W3.putObj L (.loop { r0 with state := if jump.isNone then .ready else .done, pending := jump }) ∧
        W3.heap[L]? = some (.loop { r0 with state := .busy }) ∧ W4.heap[w.heap.size]? = some (.deferred (some [])) ∧ W4.heap[L]? = some (.loop { r0 with state := if jump.isNone then .ready else .done, pending := jump }) := fun jump W3 hk => by
      obtain ⟨e1, e2⟩ := round_end (P := P) (by omega) lb' rfl hk jump
      exact ⟨_, e1, rfl, e2, (World.putObj_heap_other (by omega)).trans (hk.same _ _ (Nat.le_refl _) db rfl), World.putObj_heap_same (Array.getElem?_eq_some_iff.1 e2).1⟩
    have hrr : { r0 with state := LoopState.ready, pending := none } = r0 := by rw [hr0]
    have last : ∀ {W3 W4 : World} {o : Obj}, KeptBut M Wb W3 → W4 = W3.putObj L o → KeptBut (fun k => M k ∨ (w.heap.size ≤ k ∧ k < W1.heap.size)) W W4 := fun {W3 W4 o} h3 h4 => by
      rw [h4]; exact (kb.trans (up h3)).trans (KeptBut.put _ _ (.inr ⟨by omega, by omega⟩))
    intro e a3 W3 hp
    cases e with
    | normal =>
      obtain ⟨hk3, hi3⟩ := hp
      obtain ⟨W4, e1, e2, e3, e4, e5⟩ := fin none W3 (hk3.from hM)
      refine ⟨_, W4, e1, .inl ⟨rfl, ⟨?_, ?_, e4⟩⟩, last hk3 e2⟩
      · rw [e2]; exact hI.putObj _ hi3 (by omega) e3 rfl
      · simpa [hrr] using e5
    | ret =>
      obtain ⟨hk3, hi3⟩ := hp
      obtain ⟨W4, e1, e2, e3, e4, e5⟩ := fin (some .ret) W3 (hk3.from hM)
      exact ⟨_, W4, e1, .inr ⟨rfl, .ret, by rw [e2]; exact (hIx _).putObj _ hi3 (by omega) e3 rfl, by simpa [hta, htp, hts, htb] using e5, e4⟩, last hk3 e2⟩
    | exit id =>
      obtain ⟨hk3, hi3⟩ := hp
      obtain ⟨W4, e1, e2, e3, e4, e5⟩ := fin (some (.exit id)) W3 (hk3.from hM)
      exact ⟨_, W4, e1, .inr ⟨rfl, .exit id, by rw [e2]; exact (hIx _).putObj _ hi3 (by omega) e3 rfl, by simpa [hta, htp, hts, htb] using e5, e4⟩, last hk3 e2⟩
    | goto t =>
      obtain ⟨hk3, hi3⟩ := hp
      obtain ⟨W4, e1, e2, e3, e4, e5⟩ := fin (some (.goto t)) W3 (hk3.from hM)
      exact ⟨_, W4, e1, .inr ⟨rfl, .goto t, by rw [e2]; exact (hIx _).putObj _ hi3 (by omega) e3 rfl, by simpa [hta, htp, hts, htb] using e5, e4⟩, last hk3 e2⟩
    | panic ch => exact hp.elim
    | outgrown => exact hp.elim
  · rintro e W2 ⟨⟨v, rfl⟩, (⟨hi, hl, hd⟩ | ⟨pre, rest, hf, c, hi, hl, hd⟩)⟩
    · have he := run_endLoop (P := P) hl (by rw [hr0]; simp)
      have hp : r0.pending = none := by rw [hr0]
      rw [hp] at he
      exact ⟨none, _, he, hdone _ _ (Nat.le_refl _) (hI.putObj _ hi (by omega) hl rfl) ((World.putObj_heap_other (by omega)).trans hd)⟩
    · have he := run_endLoop (P := P) hl (by simp)
      exact ⟨some c, _, he, hstop _ c pre rest _ (Nat.le_refl _) hf ((hIx c).putObj _ hi (by omega) hl rfl) ((World.putObj_heap_other (by omega)).trans hd)⟩

theorem wp_over_f {α : Type} {P : Program} {n : Nat} {g : Operand} {ps : Array Tmp} {assign body : Code} {Q : Exit → Act → World → Prop} {a : Act} {w : World}
    {gf : Nat} {lb : Array Value} (hg : a.eval g = .func (.func gf) #[] lb) (eg : ∀ args w, (callFunc gf args).run P w = .ok (.enter gf args) w)
    {encs : α → Array Value} {M : Nat → Prop} {full : List α} (hseq : Gives P gf lb encs M full w)
    (hM : ∀ k, M k → k < w.heap.size) (hps : ∀ x, (encs x).size = ps.size)
    (I : List α → World → Prop) (Ix : Code → List α → World → Prop) (hI : OwnFrom w.heap.size I) (hIx : ∀ c, OwnFrom w.heap.size (Ix c)) (h0 : I [] w) (fa : Array Value → α → Array Value)
    (hassign : ∀ (l m : Nat) (x : α) (W : World) (K : Act → World → Prop), K { tmps := fa a.tmps x, defers := [] } W →
      assign.wpIn (Fence.wide.inRound l) m P (Exit.then K (fun _ _ _ => False)) { tmps := (ps.zip (encs x)).foldl (fun t (p, v) => t.setIfInBounds p v) a.tmps, defers := [] } W)
    (hbody : ∀ (l m : Nat) (pre : List α) (x : α) (rest : List α) (W : World), full = pre ++ x :: rest → I pre W → body.wpIn (Fence.wide.inRound l) m P (RoundP M I Ix (pre ++ [x]) W) { tmps := fa a.tmps x, defers := [] } W)
    (hdone : ∀ (D : Nat) (W : World), w.heap.size ≤ D → I full W → W.heap[D]? = some (.deferred (some [])) → Q .normal { a with defers := { target := .collected D, args := #[] } :: a.defers } W)
    (hstop : ∀ (D : Nat) (c : Code) (pre rest : List α) (W : World), w.heap.size ≤ D → full = pre ++ rest → Ix c pre W → W.heap[D]? = some (.deferred (some [])) → c.wpIn Fence.wide n P Q { a with defers := { target := .collected D, args := #[] } :: a.defers } W) :
    (Code.rangeFunc g ps assign body).wpIn Fence.wide n P Q a w :=
  wp_over hg eg hseq hM hps I Ix hI hIx h0 (fun x => { tmps := fa a.tmps x, defers := [] }) hassign hbody hdone hstop

theorem wp_over_b {α : Type} {P : Program} {n id : Nat} {g : Operand} {ps : Array Tmp} {assign body : Code} {Q : Exit → Act → World → Prop} {a : Act} {w : World}
    {gf : Nat} {lb : Array Value} (hg : a.eval g = .func (.func gf) #[] lb) (eg : ∀ args w, (callFunc gf args).run P w = .ok (.enter gf args) w)
    {encs : α → Array Value} {M : Nat → Prop} {full : List α} (hseq : Gives P gf lb encs M full w)
    (hM : ∀ k, M k → k < w.heap.size) (hps : ∀ x, (encs x).size = ps.size)
    (I : List α → World → Prop) (Ix : Code → List α → World → Prop) (hI : OwnFrom w.heap.size I) (hIx : ∀ c, OwnFrom w.heap.size (Ix c)) (h0 : I [] w) (fa : Array Value → α → Array Value)
    (hassign : ∀ (l m : Nat) (x : α) (W : World) (K : Act → World → Prop), K { tmps := fa a.tmps x, defers := [] } W →
      assign.wpIn (Fence.wide.inRound l) m P (Exit.then K (fun _ _ _ => False)) { tmps := (ps.zip (encs x)).foldl (fun t (p, v) => t.setIfInBounds p v) a.tmps, defers := [] } W)
    (hbody : ∀ (l m : Nat) (pre : List α) (x : α) (rest : List α) (W : World), full = pre ++ x :: rest → I pre W → body.wpIn (Fence.wide.inRound l) m P (RoundP M I Ix (pre ++ [x]) W) { tmps := fa a.tmps x, defers := [] } W)
    (hbr : ∀ a w, Q .normal a w → Q (.exit id) a w) (hid : ∀ c pre W, Ix c pre W → c = .exit id)
    (hrest : ∀ (D : Nat) (W : World), w.heap.size ≤ D → (I full W ∨ ∃ c pre rest, full = pre ++ rest ∧ Ix c pre W) → W.heap[D]? = some (.deferred (some [])) → Q .normal { a with defers := { target := .collected D, args := #[] } :: a.defers } W) :
    (Code.rangeFunc g ps assign body).wpIn Fence.wide n P Q a w :=
  wp_over_f hg eg hseq hM hps I Ix hI hIx h0 fa hassign hbody (fun D W hD hI hK => hrest D W hD (.inl hI) hK)
    (fun D c pre rest W hD hf hx hK => by obtain rfl := hid c pre W hx; exact wpIn_exit (hbr _ _ (hrest D W hD (.inr ⟨_, pre, rest, hf, hx⟩) hK)))

theorem wp_over_ab {α : Type} {P : Program} {n id : Nat} {g : Operand} {ps : Array Tmp} {assign body : Code} {Q : Exit → Act → World → Prop} {a : Act} {w : World}
    {gf : Nat} {lb : Array Value} (hg : a.eval g = .func (.func gf) #[] lb) (eg : ∀ args w, (callFunc gf args).run P w = .ok (.enter gf args) w)
    {encs : α → Array Value} {M : Nat → Prop} {full : List α} (hseq : Gives P gf lb encs M full w)
    (hM : ∀ k, M k → k < w.heap.size) (hps : ∀ x, (encs x).size = ps.size)
    (I : List α → World → Prop) (Ix : Code → List α → World → Prop) (hI : OwnFrom w.heap.size I) (hIx : ∀ c, OwnFrom w.heap.size (Ix c)) (h0 : I [] w) (ob : α → Obj) (fa : Array Value → α → Nat → Array Value)
    (hassign : ∀ (l m : Nat) (x : α) (W : World) (K : Act → World → Prop), K { tmps := fa a.tmps x W.heap.size, defers := [] } (W.alloc (ob x)) →
      assign.wpIn (Fence.wide.inRound l) m P (Exit.then K (fun _ _ _ => False)) { tmps := (ps.zip (encs x)).foldl (fun t (p, v) => t.setIfInBounds p v) a.tmps, defers := [] } W)
    (hbody : ∀ (l m : Nat) (pre : List α) (x : α) (rest : List α) (W : World) (b : Nat), full = pre ++ x :: rest → I pre W → W.heap[b]? = some (ob x) → w.heap.size + 2 ≤ b → b < W.heap.size → body.wpIn (Fence.wide.inRound l) m P (RoundP M I Ix (pre ++ [x]) W) { tmps := fa a.tmps x b, defers := [] } W)
    (hbr : ∀ a w, Q .normal a w → Q (.exit id) a w) (hid : ∀ c pre W, Ix c pre W → c = .exit id)
    (hrest : ∀ (D : Nat) (W : World), w.heap.size ≤ D → (I full W ∨ ∃ c pre rest, full = pre ++ rest ∧ Ix c pre W) → W.heap[D]? = some (.deferred (some [])) → Q .normal { a with defers := { target := .collected D, args := #[] } :: a.defers } W) :
    (Code.rangeFunc g ps assign body).wpIn Fence.wide n P Q a w :=
  wp_over_a hg eg hseq hM hps I Ix hI hIx h0 ob fa hassign hbody (fun D W hD hI hK => hrest D W hD (.inl hI) hK)
    (fun D c pre rest W hD hf hx hK => by obtain rfl := hid c pre W hx; exact wpIn_exit (hbr _ _ (hrest D W hD (.inr ⟨_, pre, rest, hf, hx⟩) hK)))
end Go.Proofs.YtiohlmccnllklaaGreatDoor
namespace Go.Proofs.YtiohlmccnllklaaGreatDoor
open Go.RowKit

def noDeferB (ops : Array Oper) : Bool := ops.all fun o => match o.op with | .defer _ => false | _ => true
theorem noDefer_spec {ops : Array Oper} (h : noDeferB ops = true) {j : Nat} {o : Oper} (ho : ops[j]? = some o) (c : Call) : o.op ≠ .defer c := by
  intro e
  have h1 := Array.all_eq_true_iff_forall_mem.1 h o (Array.mem_of_getElem? ho)
  simp [e] at h1

theorem take_step {c : Bool} {A B : Prop} (hc : c = true) (h : A) : if c = true then A else B := by rw [if_pos hc]; exact h

section
variable {P : Program} {ops : Array Oper} {md : Region.Mode} {Q : Exit → Act → World → Prop}

theorem rowsIn_round {n l : Nat} {row : String} {args : Array Value} {w : World} {R : Value → World → Prop} (h : Rows P row args w R) : RowsIn (Fence.wide.inRound l) n P row args w R :=
  fun c cs _ => let ⟨v, w', r, s⟩ := h c cs; ⟨v, w', r, stepsIn_wide.2 s⟩
theorem wpOpIn_of_op {n l i : Nat} {K : Act → World → Prop} {a : Act} {w : World} (hd : noDeferB ops = true) (hno : ∀ a w, ¬ Q .outgrown a w) (h : wpOp P ops Q i K a w) : wpOpIn (Fence.wide.inRound l) n P ops Q i K a w := by
  unfold wpOp at h
  unfold wpOpIn
  cases ho : ops[i]? with
  | none => simpa [ho] using h
  | some o =>
    simp only [ho] at h ⊢
    split
    · rename_i hw
      simp only [hw, if_true] at h
      rcases h with h | ⟨_, a', w', hq⟩
      · refine ⟨fun _ _ => trivial, ?_⟩
        have hs : o.semAt (Fence.wide.inRound l).round a.eval = execOp a.eval o := Oper.semAt_some l a.eval o (fun c => noDefer_spec hd ho c)
        rw [hs]
        unfold Oper.wp at h
        generalize (execOp a.eval o).run P w = r at h ⊢
        cases r with
        | ok x w1 =>
          cases x <;> simp only [Oper.upon] at h <;> simp only [Oper.uponIn]
          case value v => exact h
          case skip => exact h
          case defer d => exact h
          case enter f args =>
            refine ⟨fun hz => by simp [Fence.wide, Fence.inRound] at hz, CallsIn.inRound l (callsIn_wide.2 (h.mono fun e w2 he => ?_))⟩
            cases e <;> exact he
          case row row args => exact ⟨fun hz => by simp [Fence.wide, Fence.inRound] at hz, rowsIn_round h⟩
        | halt x w1 => cases x <;> simp only [Oper.upon] at h <;> simp only [Oper.uponIn] <;> exact h
      · exact absurd hq (hno _ _)
    · rename_i hw
      simp only [hw] at h
      exact ⟨fun _ _ => trivial, h⟩
theorem wpAnyIn_of_any {n l : Nat} (hd : noDeferB ops = true) (hno : ∀ a w, ¬ Q .outgrown a w) : ∀ (fuel : Nat) (listed : Array Bool) (a : Act) (w : World), wpAny P md ops Q fuel listed a w → wpAnyIn (Fence.wide.inRound l) n P md ops Q fuel listed a w
  | 0, _, _, _, h => h
  | fuel + 1, _, _, _, h => ⟨h.1, fun i hi => wpOpIn_mono (fun a' w' h' => wpAnyIn_of_any hd hno fuel _ a' w' h') (wpOpIn_of_op hd hno (h.2 i hi))⟩
/-- The region in a round, S shown of the world behind the draw. -/
theorem wpIn_region_round {n l id : Nat} {S : World → Prop} {a : Act} {w : World} (hm : P.follows .mixedOrders = true) (hd : noDeferB ops = true) (hno : ∀ a w, ¬ Q .outgrown a w)
    (h : wpAnyH P .any ops Q S ops.size (Array.replicate ops.size false) a w.drew) : (Code.region id ops true).wpIn (Fence.wide.inRound l) n P Q a w :=
  wpIn_region_any hm (wpAnyIn_of_any hd hno _ _ _ _ (wpAny_of_held _ _ _ _ h))
/-- The region in a round, nothing kept: each order for itself. -/
theorem wpIn_region_round_plain {n l id : Nat} {a : Act} {w : World} (hm : P.follows .mixedOrders = true) (hd : noDeferB ops = true) (hno : ∀ a w, ¬ Q .outgrown a w)
    (h : wpAny P .any ops Q ops.size (Array.replicate ops.size false) a w.drew) : (Code.region id ops true).wpIn (Fence.wide.inRound l) n P Q a w :=
  wpIn_region_any hm (wpAnyIn_of_any hd hno _ _ _ _ h)
theorem ready_shut {fuel : Nat} {listed : Array Bool} {a : Act} {w : World} {i : Nat} {o : Oper} {rs : List Nat} (ho : ops[i]? = some o)
    (h : ∀ K' : Act → World → Prop, Shut (∀ a w, wpAny P md ops Q fuel (listed.setIfInBounds i true) a w → K' a w) → if Region.wanted o (yielded ops a.tmps) = true then Oper.wp P o a w K' Q else K' (a.put o.dst undef) w)
    (hs : AllReady P md ops Q fuel listed a w rs) : AllReady P md ops Q fuel listed a w (i :: rs) := AllReady.cons ho h hs
end
end Go.Proofs.YtiohlmccnllklaaGreatDoor
namespace Go.Proofs.YtiohlmccnllklaaGreatDoor
open Go.RowKit Go.Shelf
set_option linter.unusedVariables false

/-! ### boxes that a call made, and what lies in them -/
theorem cell_putObj {W : World} {D : Nat} {o : Obj} {p : Addr} (h : p.block ≠ D) : (W.putObj D o).cell? p = W.cell? p := by
  simp only [World.cell?, World.putObj_heap_other h]
abbrev Bx := Nat × Array Value × TypeId
structure Bxs (w : World) (L : List Bx) (W : World) : Prop where
  below : Below w.heap.size w W
  at_ : ∀ p ∈ L, Blk W p.1 p.2.1 p.2.2
section
variable {w W W' : World} {L : List Bx}
theorem Bxs.after (h : Bxs w L W) (hb : Below W.heap.size W W') : Bxs w L W' := ⟨h.below.trans (hb.mono h.below.size), fun p hp => (h.at_ p hp).below hb⟩
theorem Bxs.drew (h : Bxs w L W) : Bxs w L W.drew := h.after (Below.refl _ _).drew
theorem Bxs.nil (w : World) : Bxs w [] w := ⟨Below.refl _ _, fun p hp => by cases hp⟩
theorem Bxs.alloc (h : Bxs w L W) (cs : Array Value) (ty : TypeId) : Bxs w ((W.heap.size, cs, ty) :: L) (W.alloc (.cells cs ty)) :=
  ⟨h.below.alloc h.below.size _, fun p hp => by
    rcases List.mem_cons.1 hp with rfl | hp
    · exact blk_new _ _ _
    · exact (h.at_ p hp).alloc _⟩
theorem Bxs.get (h : Bxs w L W) (b : Nat) {cs : Array Value} {ty : TypeId} (hm : (b, cs, ty) ∈ L) : Blk W b cs ty := h.at_ _ hm
theorem bxs_own {β γ : Type} (w : World) (f : β → γ → Prop) (L : β → γ → List Bx) {B : Nat} (hB : w.heap.size ≤ B) : OwnFrom B (fun (s : β) W => ∃ x, f s x ∧ Bxs w (L s x) W) := by
  intro s W W' row hs hg hr
  obtain ⟨x, hf, hs⟩ := hs
  refine ⟨x, hf, hs.below.grown hg hs.below.size (fun k e => by have := (hr k e).1; omega), fun p hp => ?_⟩
  have hj := hs.at_ p hp
  exact (hg.block _ hj.lt (fun e => by
      obtain ⟨h1, o', h2, h3⟩ := hr _ e.symm
      rw [hj] at h2; cases h2
      cases h3)).trans hj
/-- A block of the list is written anew: by what the walk makes of it. -/
theorem Bxs.turned (h : Bxs w L W) {F : Nat → Prop} (ht : Turned F W W') (hF : ∀ k, F k → w.heap.size ≤ k) {L' : List Bx} (hL : ∀ p ∈ L', (F p.1 → Blk W' p.1 p.2.1 p.2.2) ∧ (¬ F p.1 → p ∈ L)) : Bxs w L' W' :=
  ⟨h.below.trans (ht.below h.below.size hF), fun p hp => by
    by_cases e : F p.1
    · exact (hL p hp).1 e
    · exact (h.at_ p ((hL p hp).2 e)).turned ht e⟩
end
theorem KeptBut.cell {M : Nat → Prop} (W : World) {p : Addr} (v : Value) (h : M p.block) : KeptBut M W (W.setCell p v) := ⟨by simp, fun k _ hn _ => Below.heap_setCell _ _ _ _ (fun e => hn (e ▸ h))⟩
theorem KeptBut.ofTurned {M : Nat → Prop} {W W' : World} (h : Turned M W W') : KeptBut M W W' := ⟨h.size, fun k hk hn _ => h.block k hk hn⟩

theorem Blk.off {w : World} {b : Nat} {cs : Array Value} {ty : TypeId} (h : Blk w b cs ty) {g j : Nat} (hp : b ≠ g) (v : Value) : Blk (w.setCell ⟨g, j, none⟩ v) b cs ty := (Below.heap_setCell _ _ _ _ hp).trans h
theorem setCell_same {w : World} {b j : Nat} {cs : Array Value} {ty : TypeId} {v : Value} (h : Blk w b cs ty) (hv : cs[j]? = some v) : w.setCell ⟨b, j, none⟩ v = w := by
  rw [setCell_eq_setRow w b j cs ty (0, 0) v h]
  have e : cs.setIfInBounds j v = cs := by
    apply Array.ext
    · simp
    · intro k h1 h2
      rw [Array.getElem_setIfInBounds (by simpa using h2)]
      split
      · rename_i e; subst e
        rw [Array.getElem?_eq_getElem h2] at hv
        exact (Option.some.inj hv).symm
      · rfl
  rw [e]
  exact setRow_self w b cs ty (0, 0) h

theorem Bxs.set1 {w W W' : World} {b : Nat} {cs cs' : Array Value} {ty : TypeId} (h : Bxs w [(b, cs, ty)] W) (hb : w.heap.size ≤ b) (ht : Turned (fun k => k = b) W W') (hB : Blk W' b cs' ty) : Bxs w [(b, cs', ty)] W' :=
  h.turned ht (fun k e => by omega) (fun p hp => by
    simp only [List.mem_cons, List.not_mem_nil, or_false] at hp
    subst hp
    exact ⟨fun _ => hB, fun hn => absurd rfl hn⟩)
end Go.Proofs.YtiohlmccnllklaaGreatDoor
