/-
  Layer 9: a loop over an iterator, whose rounds may turn whatever the loop itself made, records apart. No program.
-/
import Derived.Test.YtepimbebodmajaaOver
namespace Go.Proofs.Ytepimbebodmajaa
open Go.RowKit

/-- THE FUNCTION g, OVER lb, GIVES THE LIST full, or a beginning of it; M: what the rounds may turn of what lay there ahead. -/
def Gives3 {α : Type} (P : Program) (g : Nat) (lb : Array Value) (encs : α → Array Value) (M : Nat → Prop) (full : List α) (w : World) : Prop :=
  ∀ (n l : Nat) (J Jx : List α → World → Prop) (W : World), Below w.heap.size w W → OwnFrom W.heap.size J → OwnFrom W.heap.size Jx →
    (∀ m pre x rest W1, full = pre ++ x :: rest → J pre W1 → YieldAt Fence.wide m P l (encs x) W1 fun e W' =>
      ((e = .returned (.bool true) ∧ J (pre ++ [x]) W') ∨ (e = .returned (.bool false) ∧ Jx (pre ++ [x]) W')) ∧ KeptBut (fun k => M k ∨ w.heap.size ≤ k) W1 W') →
    J [] W →
    CallsIn Fence.wide n P g (#[.func (.yield l) #[] #[]] ++ lb) W fun e W' => (∃ v, e = .returned v) ∧ (J full W' ∨ ∃ pre rest, full = pre ++ rest ∧ Jx pre W')
def RoundP3 {α : Type} (b : Nat) (M : Nat → Prop) (I : List α → World → Prop) (Ix : Code → List α → World → Prop) (xs : List α) (W : World) : Exit → Act → World → Prop
  | .normal, _, W' => KeptBut (fun k => M k ∨ b ≤ k) W W' ∧ KeepsFrom b W W' ∧ I xs W'
  | .ret, _, W' => KeptBut (fun k => M k ∨ b ≤ k) W W' ∧ KeepsFrom b W W' ∧ Ix .ret xs W'
  | .exit id, _, W' => KeptBut (fun k => M k ∨ b ≤ k) W W' ∧ KeepsFrom b W W' ∧ Ix (.exit id) xs W'
  | .goto t, _, W' => KeptBut (fun k => M k ∨ b ≤ k) W W' ∧ KeepsFrom b W W' ∧ Ix (.goto t) xs W'
  | .panic _, _, _ => False
  | .outgrown, _, _ => False
theorem wp_over3 {α : Type} {P : Program} {n : Nat} {g : Operand} {ps : Array Tmp} {assign body : Code} {Q : Exit → Act → World → Prop} {a : Act} {w : World}
    {gf : Nat} {lb : Array Value} (hg : a.eval g = .func (.func gf) #[] lb) (eg : ∀ args w, (callFunc gf args).run P w = .ok (.enter gf args) w)
    {encs : α → Array Value} {M : Nat → Prop} {full : List α} (hseq : Gives3 P gf lb encs M full w)
    (hps : ∀ x, (encs x).size = ps.size)
    (I : List α → World → Prop) (Ix : Code → List α → World → Prop) (hI : OwnFrom w.heap.size I) (hIx : ∀ c, OwnFrom w.heap.size (Ix c)) (h0 : I [] w) (ob : α → Obj) (fa : Array Value → α → Nat → Array Value)
    (hassign : ∀ (l m : Nat) (pre : List α) (x : α) (rest : List α) (W : World) (K : Act → World → Prop), full = pre ++ x :: rest → K { tmps := fa a.tmps x W.heap.size, defers := [] } (W.alloc (ob x)) →
      assign.wpIn (Fence.wide.inRound l) m P (Exit.then K (fun _ _ _ => False)) { tmps := (ps.zip (encs x)).foldl (fun t (p, v) => t.setIfInBounds p v) a.tmps, defers := [] } W)
    (hbody : ∀ (l m : Nat) (pre : List α) (x : α) (rest : List α) (W0 W : World) (b : Nat), full = pre ++ x :: rest → I pre W0 → W0.heap.size = b → (∀ I' : List α → World → Prop, OwnFrom w.heap.size I' → I' pre W0 → I' pre W) → W.heap[b]? = some (ob x) → w.heap.size + 2 ≤ b → b < W.heap.size → body.wpIn (Fence.wide.inRound l) m P (RoundP3 w.heap.size M I Ix (pre ++ [x]) W) { tmps := fa a.tmps x b, defers := [] } W)
    (hdone : ∀ (D : Nat) (W : World), w.heap.size ≤ D → I full W → W.heap[D]? = some (.deferred (some [])) → Q .normal { a with defers := { target := .collected D, args := #[] } :: a.defers } W)
    (hstop : ∀ (D : Nat) (c : Code) (pre rest : List α) (W : World), w.heap.size ≤ D → full = pre ++ rest → Ix c pre W → W.heap[D]? = some (.deferred (some [])) → c.wpIn Fence.wide n P Q { a with defers := { target := .collected D, args := #[] } :: a.defers } W) :
    (Code.rangeFunc g ps assign body).wpIn Fence.wide n P Q a w := by
  have hD0 : (w.alloc (.deferred (some []))).heap[w.heap.size]? = some (.deferred (some [])) := World.alloc_heap_new w _
  refine wpIn_rangeFunc fun fn _ => ?_
  obtain ⟨r0, hr0⟩ : ∃ r0 : Loop, r0 = { state := .ready, pending := none, fn, tmps := a.tmps, params := ps, assign, body, defers := w.heap.size } := ⟨_, rfl⟩
  obtain ⟨L, hL⟩ : ∃ L, L = w.heap.size + 1 := ⟨_, rfl⟩
  obtain ⟨W1, hW1⟩ : ∃ W1, (w.alloc (.deferred (some []))).alloc (.loop r0) = W1 := ⟨_, rfl⟩
  have z1 : W1.heap.size = w.heap.size + 2 := by rw [← hW1]; simp
  have l1 : W1.heap[L]? = some (.loop r0) := by
    have := World.alloc_heap_new (w.alloc (.deferred (some []))) (.loop r0)
    rw [World.size_alloc] at this
    rw [← hW1, hL]; exact this
  have d1 : W1.heap[w.heap.size]? = some (.deferred (some [])) := by
    rw [← hW1]; exact (Below.heap_alloc _ _ _ (by simp)).trans hD0
  have i1 : I [] W1 := by rw [← hW1]; exact hI.alloc _ (hI.alloc _ h0)
  have b1 : Below w.heap.size w W1 := by rw [← hW1]; exact ((Below.refl _ w).alloc (Nat.le_refl _) _).alloc (by simp) _
  refine ⟨L, [{ target := .collected w.heap.size, args := #[] }], W1, { target := .fn (.func gf) lb, args := #[.func (.yield L) #[] #[]] }, W1, gf, #[.func (.yield L) #[] #[]] ++ lb, W1, ?_, ?_, fun _ _ => trivial, ?_, (fun h => by cases h), ?_⟩
  · rw [← hW1, hr0, hL]; exact run_enterLoop_outer _ _ _ _ _
  · simp only [resolve, hg]; simp [go_sem]
  · simp [invoke, go_sem, eg]
  -- what is carried: the caller's word, the loop's record, the block for deferred calls
  have own : ∀ {A B : World} {row : Option Nat} {k : Nat} {o : Obj}, k < W1.heap.size → A.grownBy B row → (∀ r, row = some r → W1.heap.size ≤ r ∧ ∃ o : Obj, A.heap[r]? = some o ∧ o.isCells = false) → A.heap[k]? = some o → B.heap[k]? = some o :=
    fun hk hgr hr hA => (hgr.block _ (Array.getElem?_eq_some_iff.1 hA).1 (fun e => by have := (hr _ e.symm).1; omega)).trans hA
  have down : ∀ {A : World} {row : Option Nat}, (∀ r, row = some r → W1.heap.size ≤ r ∧ ∃ o : Obj, A.heap[r]? = some o ∧ o.isCells = false) → (∀ r, row = some r → w.heap.size ≤ r ∧ ∃ o : Obj, A.heap[r]? = some o ∧ o.isCells = false) :=
    fun hr r e => ⟨by have := (hr r e).1; omega, (hr r e).2⟩
  refine (hseq _ L (fun pre W => I pre W ∧ W.heap[L]? = some (.loop r0) ∧ W.heap[w.heap.size]? = some (.deferred (some [])))
    (fun pre W => ∃ c, Ix c pre W ∧ W.heap[L]? = some (.loop { r0 with state := .done, pending := some c }) ∧ W.heap[w.heap.size]? = some (.deferred (some [])))
    W1 b1 (fun s A B row hs hgr hr => ⟨hI s A B row hs.1 hgr (down hr), own (by omega) hgr hr hs.2.1, own (by omega) hgr hr hs.2.2⟩)
    (fun s A B row hs hgr hr => by obtain ⟨c, h1, h2, h3⟩ := hs; exact ⟨c, hIx c s A B row h1 hgr (down hr), own (by omega) hgr hr h2, own (by omega) hgr hr h3⟩)
    ?_ ⟨i1, l1, d1⟩).mono ?_
  · rintro m pre x rest W hf ⟨hi, hl, hd⟩
    have hy := run_yield (P := P) (args := encs x) hl (by rw [hr0]; exact hps x)
    refine ⟨_, _, _, _, hy, roundIn_of_wpIn trivial ?_⟩
    have hta : r0.tmps = a.tmps := by rw [hr0]
    have htp : r0.params = ps := by rw [hr0]
    have hts : r0.assign = assign := by rw [hr0]
    have htb : r0.body = body := by rw [hr0]
    rw [hta, htp, hts, htb]
    refine hassign L _ pre x rest W _ hf ?_
    have hLW : L < W.heap.size := (Array.getElem?_eq_some_iff.1 hl).1
    have hDW : w.heap.size < W.heap.size := (Array.getElem?_eq_some_iff.1 hd).1
    have hbc : (W.alloc (ob x)).heap[W.heap.size]? = some (ob x) := World.alloc_heap_new W _
    have hi0 := hi
    replace hi := hI.alloc (ob x) hi
    replace hl := (Below.heap_alloc W (ob x) _ hLW).trans hl
    replace hd := (Below.heap_alloc W (ob x) _ hDW).trans hd
    have kc : KeptBut (fun k => M k ∨ w.heap.size ≤ k) W (W.alloc (ob x)) := ⟨by simp, fun k hk _ => Below.heap_alloc _ _ _ hk⟩
    obtain ⟨bb, hbb⟩ : ∃ bb, W.heap.size = bb := ⟨_, rfl⟩
    have hzc : (W.alloc (ob x)).heap.size = bb + 1 := by rw [← hbb]; simp
    rw [hbb] at hbc hLW ⊢
    obtain ⟨Wc, hWc⟩ : ∃ Wc, W.alloc (ob x) = Wc := ⟨_, rfl⟩
    rw [hWc] at hi hl hd hbc hzc kc ⊢
    have hbg := run_beginRound (P := P) hl (by rw [hr0])
    refine ⟨_, hbg, ?_⟩
    obtain ⟨Wb, hWb⟩ : ∃ Wb, Wc.putObj L (.loop { r0 with state := .busy }) = Wb := ⟨_, rfl⟩
    have lb' : Wb.heap[L]? = some (.loop { r0 with state := .busy }) := by rw [← hWb]; exact World.putObj_heap_same (Array.getElem?_eq_some_iff.1 hl).1
    have db : Wb.heap[w.heap.size]? = some (.deferred (some [])) := by rw [← hWb]; exact (World.putObj_heap_other (by omega)).trans hd
    have ib : I pre Wb := by rw [← hWb]; exact hI.putObj _ hi (by omega) hl rfl
    have kb : KeptBut (fun k => M k ∨ w.heap.size ≤ k) W Wb := by rw [← hWb]; exact kc.trans (KeptBut.put _ _ (.inr (by omega)))
    have bb' : Wb.heap[bb]? = some (ob x) := by rw [← hWb]; exact (World.putObj_heap_other (by omega)).trans hbc
    have up : ∀ {A B : World}, KeptBut (fun k => M k ∨ w.heap.size ≤ k) A B → KeptBut (fun k => M k ∨ w.heap.size ≤ k) A B := fun h => h
    have hup : ∀ I' : List α → World → Prop, OwnFrom w.heap.size I' → I' pre W → I' pre Wb := fun I' hI' h' => by
      rw [← hWb, ← hWc]
      exact hI'.putObj _ (hI'.alloc (ob x) h') (by omega) (by rw [hWc]; exact hl) rfl
    rw [hWb]
    refine wpIn_mono (hbody L _ pre x rest W Wb bb hf hi0 hbb hup bb' (by omega) (Array.getElem?_eq_some_iff.1 bb').1) ?_
    have fin : ∀ (jump : Option Code) (W3 : World), KeepsFrom w.heap.size Wb W3 → ∃ W4, (Instr.endRound L jump).run P W3 = .ok (.bool jump.isNone) W4 ∧ W4 = W3.putObj L (.loop { r0 with state := if jump.isNone then .ready else .done, pending := jump }) ∧
        W3.heap[L]? = some (.loop { r0 with state := .busy }) ∧ W4.heap[w.heap.size]? = some (.deferred (some [])) ∧ W4.heap[L]? = some (.loop { r0 with state := if jump.isNone then .ready else .done, pending := jump }) := fun jump W3 hk => by
      obtain ⟨e1, e2⟩ := round_end (P := P) (by omega) lb' rfl hk jump
      exact ⟨_, e1, rfl, e2, (World.putObj_heap_other (by omega)).trans (hk.same _ _ (Nat.le_refl _) db rfl), World.putObj_heap_same (Array.getElem?_eq_some_iff.1 e2).1⟩
    have hrr : { r0 with state := LoopState.ready, pending := none } = r0 := by rw [hr0]
    have last : ∀ {W3 W4 : World} {o : Obj}, KeptBut (fun k => M k ∨ w.heap.size ≤ k) Wb W3 → W4 = W3.putObj L o → KeptBut (fun k => M k ∨ w.heap.size ≤ k) W W4 := fun {W3 W4 o} h3 h4 => by
      rw [h4]; exact (kb.trans (up h3)).trans (KeptBut.put _ _ (.inr (by omega)))
    intro e a3 W3 hp
    cases e with
    | normal =>
      obtain ⟨hk3, hkf, hi3⟩ := hp
      obtain ⟨W4, e1, e2, e3, e4, e5⟩ := fin none W3 hkf
      refine ⟨_, W4, e1, .inl ⟨rfl, ⟨?_, ?_, e4⟩⟩, last hk3 e2⟩
      · rw [e2]; exact hI.putObj _ hi3 (by omega) e3 rfl
      · simpa [hrr] using e5
    | ret =>
      obtain ⟨hk3, hkf, hi3⟩ := hp
      obtain ⟨W4, e1, e2, e3, e4, e5⟩ := fin (some .ret) W3 hkf
      exact ⟨_, W4, e1, .inr ⟨rfl, .ret, by rw [e2]; exact (hIx _).putObj _ hi3 (by omega) e3 rfl, by simpa [hta, htp, hts, htb] using e5, e4⟩, last hk3 e2⟩
    | exit id =>
      obtain ⟨hk3, hkf, hi3⟩ := hp
      obtain ⟨W4, e1, e2, e3, e4, e5⟩ := fin (some (.exit id)) W3 hkf
      exact ⟨_, W4, e1, .inr ⟨rfl, .exit id, by rw [e2]; exact (hIx _).putObj _ hi3 (by omega) e3 rfl, by simpa [hta, htp, hts, htb] using e5, e4⟩, last hk3 e2⟩
    | goto t =>
      obtain ⟨hk3, hkf, hi3⟩ := hp
      obtain ⟨W4, e1, e2, e3, e4, e5⟩ := fin (some (.goto t)) W3 hkf
      exact ⟨_, W4, e1, .inr ⟨rfl, .goto t, by rw [e2]; exact (hIx _).putObj _ hi3 (by omega) e3 rfl, by simpa [hta, htp, hts, htb] using e5, e4⟩, last hk3 e2⟩
    | panic ch => exact hp.elim
    | outgrown => exact hp.elim
  · rintro e W2 ⟨⟨v, rfl⟩, (⟨hi, hl, hd⟩ | ⟨pre, rest, hf, c, hi, hl, hd⟩)⟩
    · have he := run_endLoop (P := P) hl (by rw [hr0]; simp)
      have hp : r0.pending = none := by rw [hr0]
      rw [hp] at he
      exact ⟨none, _, he, hdone _ _ (Nat.le_refl _) (hI.putObj _ hi (by omega) hl rfl) ((World.putObj_heap_other (by omega)).trans hd)⟩
    · have he := run_endLoop (P := P) hl (by simp)
      exact ⟨some c, _, he, hstop _ c pre rest _ (Nat.le_refl _) hf ((hIx c).putObj _ hi (by omega) hl rfl) ((World.putObj_heap_other (by omega)).trans hd)⟩

end Go.Proofs.Ytepimbebodmajaa
