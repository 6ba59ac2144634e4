/-
  Layer 3: as XOver, but the blocks that the rounds may turn are a set that grows: each round may turn what it had or what lay there ahead of the loop in the set, and takes up what is new. No program.
-/
import Derived.Test.YtepmndadbikijaaOver
namespace Go.Proofs.Ytepmndadbikijaa
open Go.RowKit

/-- A loop's record, a block for deferred calls. -/
def isRec : Obj → Bool
  | .loop _ => true
  | .deferred _ => true
  | _ => false
theorem isRec_cells {o : Obj} (h : isRec o = true) : o.isCells = false := by cases o <;> first | rfl | (simp [isRec] at h)
/-- OwnFrom, but the row that is turned is a record: never a map. -/
def OwnL {β : Type} (B : Nat) (I : β → World → Prop) : Prop :=
  ∀ s W W' row, I s W → W.grownBy W' row → (∀ r, row = some r → B ≤ r ∧ ∃ o : Obj, W.heap[r]? = some o ∧ isRec o = true) → I s W'
theorem OwnL.of {β : Type} {B : Nat} {I : β → World → Prop} (h : OwnFrom B I) : OwnL B I := fun s W W' row hs hg hr => h s W W' row hs hg (fun r e => by obtain ⟨h1, o, h2, h3⟩ := hr r e; exact ⟨h1, o, h2, isRec_cells h3⟩)
theorem OwnL.putObj {β : Type} {B : Nat} {I : β → World → Prop} (h : OwnL B I) {s : β} {W : World} {l : Nat} {o : Obj} (o' : Obj) (hs : I s W) (hB : B ≤ l) (hl : W.heap[l]? = some o) (ho : isRec o = true) : I s (W.putObj l o') :=
  h s W _ (some l) hs (grownBy_putObj' W l o') (fun r e => by cases e; exact ⟨hB, o, hl, ho⟩)
theorem OwnL.alloc {β : Type} {B : Nat} {I : β → World → Prop} (h : OwnL B I) {s : β} {W : World} (o : Obj) (hs : I s W) : I s (W.alloc o) :=
  h s W _ none hs (World.grownBy_alloc W o none) (fun r e => by cases e)

/-- THE FUNCTION g, OVER lb, GIVES THE LIST full, or a beginning of it; N: the blocks that the rounds may turn, as it stands; K: what the function rests on. -/
def Gives2 {α : Type} (P : Program) (g : Nat) (lb : Array Value) (encs : α → Array Value) (K : Nat → Prop) (full : List α) (w : World) : Prop :=
  ∀ (n l : Nat) (J Jx : List α → (Nat → Prop) → World → Prop) (N0 : Nat → Prop) (W : World), Below w.heap.size w W → (∀ N, OwnL W.heap.size (fun s => J s N)) → (∀ N, OwnL W.heap.size (fun s => Jx s N)) →
    (∀ pre N W1, J pre N W1 → ∀ k, N k → k < W1.heap.size) →
    (∀ m pre x rest N W1, full = pre ++ x :: rest → J pre N W1 → YieldAt Fence.wide m P l (encs x) W1 fun e W' =>
      ∃ N', ((e = .returned (.bool true) ∧ J (pre ++ [x]) N' W') ∨ (e = .returned (.bool false) ∧ Jx (pre ++ [x]) N' W')) ∧ KeptBut (fun k => N k ∨ (w.heap.size ≤ k ∧ k < W.heap.size)) W1 W' ∧ ∀ k, N' k → N k ∨ W1.heap.size ≤ k) →
    (∀ k, N0 k → k < w.heap.size ∧ ¬ K k) → J [] N0 W →
    CallsIn Fence.wide n P g (#[.func (.yield l) #[] #[]] ++ lb) W fun e W' => (∃ v, e = .returned v) ∧ ((∃ N, J full N W') ∨ ∃ pre rest N, full = pre ++ rest ∧ Jx pre N W')
/-- HOW THE BODY OF A ROUND MAY BE LEFT. -/
def RoundP2 {α : Type} (N : Nat → Prop) (I : List α → (Nat → Prop) → World → Prop) (Ix : Code → List α → (Nat → Prop) → World → Prop) (xs : List α) (W : World) : Exit → Act → World → Prop
  | .normal, _, W' => KeptBut N W W' ∧ ∃ N', I xs N' W' ∧ ∀ k, N' k → N k ∨ W.heap.size ≤ k
  | .ret, _, W' => KeptBut N W W' ∧ ∃ N', Ix .ret xs N' W' ∧ ∀ k, N' k → N k ∨ W.heap.size ≤ k
  | .exit id, _, W' => KeptBut N W W' ∧ ∃ N', Ix (.exit id) xs N' W' ∧ ∀ k, N' k → N k ∨ W.heap.size ≤ k
  | .goto t, _, W' => KeptBut N W W' ∧ ∃ N', Ix (.goto t) xs N' W' ∧ ∀ k, N' k → N k ∨ W.heap.size ≤ k
  | .panic _, _, _ => False
  | .outgrown, _, _ => False

theorem wp_over2 {α : Type} {P : Program} {n : Nat} {g : Operand} {ps : Array Tmp} {assign body : Code} {Q : Exit → Act → World → Prop} {a : Act} {w : World}
    {gf : Nat} {lb : Array Value} (hg : a.eval g = .func (.func gf) #[] lb) (eg : ∀ args w, (callFunc gf args).run P w = .ok (.enter gf args) w)
    {encs : α → Array Value} {K : Nat → Prop} {full : List α} (hseq : Gives2 P gf lb encs K full w) (hps : ∀ x, (encs x).size = ps.size)
    (I : List α → (Nat → Prop) → World → Prop) (Ix : Code → List α → (Nat → Prop) → World → Prop) (hI : ∀ N, OwnL w.heap.size (fun s => I s N)) (hIx : ∀ c N, OwnL w.heap.size (fun s => Ix c s N))
    (hN : ∀ pre N W1, I pre N W1 → ∀ k, N k → k < W1.heap.size) (N0 : Nat → Prop) (hN0 : ∀ k, N0 k → k < w.heap.size ∧ ¬ K k) (h0 : I [] N0 w) (fa : Array Value → α → Array Value)
    (hassign : ∀ (l m : Nat) (x : α) (W : World) (K : Act → World → Prop), K { tmps := fa a.tmps x, defers := [] } W →
      assign.wpIn (Fence.wide.inRound l) m P (Exit.then K (fun _ _ _ => False)) { tmps := (ps.zip (encs x)).foldl (fun t (p, v) => t.setIfInBounds p v) a.tmps, defers := [] } W)
    (hbody : ∀ (l m : Nat) (pre : List α) (x : α) (rest : List α) (N : Nat → Prop) (W : World), full = pre ++ x :: rest → I pre N W → body.wpIn (Fence.wide.inRound l) m P (RoundP2 N I Ix (pre ++ [x]) W) { tmps := fa a.tmps x, defers := [] } W)
    (hdone : ∀ (D : Nat) (N : Nat → Prop) (W : World), w.heap.size ≤ D → I full N W → W.heap[D]? = some (.deferred (some [])) → Q .normal { a with defers := { target := .collected D, args := #[] } :: a.defers } W)
    (hstop : ∀ (D : Nat) (c : Code) (pre rest : List α) (N : Nat → Prop) (W : World), w.heap.size ≤ D → full = pre ++ rest → Ix c pre N W → W.heap[D]? = some (.deferred (some [])) → c.wpIn Fence.wide n P Q { a with defers := { target := .collected D, args := #[] } :: a.defers } W) :
    (Code.rangeFunc g ps assign body).wpIn Fence.wide n P Q a w := by
  have hD0 : (w.alloc (.deferred (some []))).heap[w.heap.size]? = some (.deferred (some [])) := World.alloc_heap_new w _
  refine wpIn_rangeFunc fun fn _ => ?_
  obtain ⟨r0, hr0⟩ : ∃ r0 : Loop, r0 = { state := .ready, pending := none, fn, tmps := a.tmps, params := ps, assign, body, defers := w.heap.size } := ⟨_, rfl⟩
  obtain ⟨L, hL⟩ : ∃ L, L = w.heap.size + 1 := ⟨_, rfl⟩
  obtain ⟨W1, hW1⟩ : ∃ W1, (w.alloc (.deferred (some []))).alloc (.loop r0) = W1 := ⟨_, rfl⟩
  have z1 : W1.heap.size = w.heap.size + 2 := by rw [← hW1]; simp
  have l1 : W1.heap[L]? = some (.loop r0) := by
    have := World.alloc_heap_new (w.alloc (.deferred (some []))) (.loop r0)
    rw [World.size_alloc] at this
    rw [← hW1, hL]; exact this
  have d1 : W1.heap[w.heap.size]? = some (.deferred (some [])) := by
    rw [← hW1]; exact (Below.heap_alloc _ _ _ (by simp)).trans hD0
  have i1 : I [] N0 W1 := by rw [← hW1]; exact (hI N0).alloc _ ((hI N0).alloc _ h0)
  have b1 : Below w.heap.size w W1 := by rw [← hW1]; exact ((Below.refl _ w).alloc (Nat.le_refl _) _).alloc (by simp) _
  refine ⟨L, [{ target := .collected w.heap.size, args := #[] }], W1, { target := .fn (.func gf) lb, args := #[.func (.yield L) #[] #[]] }, W1, gf, #[.func (.yield L) #[] #[]] ++ lb, W1, ?_, ?_, fun _ _ => trivial, ?_, (fun h => by cases h), ?_⟩
  · rw [← hW1, hr0, hL]; exact run_enterLoop_outer _ _ _ _ _
  · simp only [resolve, hg]; simp [go_sem]
  · simp [invoke, go_sem, eg]
  have own : ∀ {A B : World} {row : Option Nat} {k : Nat} {o : Obj}, k < W1.heap.size → A.grownBy B row → (∀ r, row = some r → W1.heap.size ≤ r ∧ ∃ o : Obj, A.heap[r]? = some o ∧ isRec o = true) → A.heap[k]? = some o → B.heap[k]? = some o :=
    fun hk hgr hr hA => (hgr.block _ (Array.getElem?_eq_some_iff.1 hA).1 (fun e => by have := (hr _ e.symm).1; omega)).trans hA
  have down : ∀ {A : World} {row : Option Nat}, (∀ r, row = some r → W1.heap.size ≤ r ∧ ∃ o : Obj, A.heap[r]? = some o ∧ isRec o = true) → (∀ r, row = some r → w.heap.size ≤ r ∧ ∃ o : Obj, A.heap[r]? = some o ∧ isRec o = true) :=
    fun hr r e => ⟨by have := (hr r e).1; omega, (hr r e).2⟩
  refine (hseq _ L (fun pre N W => I pre N W ∧ W.heap[L]? = some (.loop r0) ∧ W.heap[w.heap.size]? = some (.deferred (some [])) ∧ ∀ k, N k → k < w.heap.size ∨ W1.heap.size ≤ k)
    (fun pre N W => ∃ c, Ix c pre N W ∧ W.heap[L]? = some (.loop { r0 with state := .done, pending := some c }) ∧ W.heap[w.heap.size]? = some (.deferred (some [])))
    N0 W1 b1 (fun N s A B row hs hgr hr => ⟨hI N s A B row hs.1 hgr (down hr), own (by omega) hgr hr hs.2.1, own (by omega) hgr hr hs.2.2.1, hs.2.2.2⟩)
    (fun N s A B row hs hgr hr => by obtain ⟨c, h1, h2, h3⟩ := hs; exact ⟨c, hIx c N s A B row h1 hgr (down hr), own (by omega) hgr hr h2, own (by omega) hgr hr h3⟩)
    (fun pre N A h => hN pre N A h.1)
    ?_ hN0 ⟨i1, l1, d1, fun k hk => .inl (hN0 k hk).1⟩).mono ?_
  · rintro m pre x rest N W hf ⟨hi, hl, hd, hNk⟩
    have hy := run_yield (P := P) (args := encs x) hl (by rw [hr0]; exact hps x)
    refine ⟨_, _, _, _, hy, roundIn_of_wpIn trivial ?_⟩
    have hta : r0.tmps = a.tmps := by rw [hr0]
    have htp : r0.params = ps := by rw [hr0]
    have hts : r0.assign = assign := by rw [hr0]
    have htb : r0.body = body := by rw [hr0]
    rw [hta, htp, hts, htb]
    refine hassign L _ x W _ ?_
    have hbg := run_beginRound (P := P) hl (by rw [hr0])
    refine ⟨_, hbg, ?_⟩
    obtain ⟨Wb, hWb⟩ : ∃ Wb, W.putObj L (.loop { r0 with state := .busy }) = Wb := ⟨_, rfl⟩
    have lb' : Wb.heap[L]? = some (.loop { r0 with state := .busy }) := by rw [← hWb]; exact World.putObj_heap_same (Array.getElem?_eq_some_iff.1 hl).1
    have db : Wb.heap[w.heap.size]? = some (.deferred (some [])) := by rw [← hWb]; exact (World.putObj_heap_other (by omega)).trans hd
    have ib : I pre N Wb := by rw [← hWb]; exact (hI N).putObj _ hi (by omega) hl rfl
    have zb : Wb.heap.size = W.heap.size := by rw [← hWb]; simp
    have kb : KeptBut (fun k => N k ∨ (w.heap.size ≤ k ∧ k < W1.heap.size)) W Wb := by rw [← hWb]; exact KeptBut.put _ _ (.inr ⟨by omega, by omega⟩)
    have up : ∀ {A B : World}, KeptBut N A B → KeptBut (fun k => N k ∨ (w.heap.size ≤ k ∧ k < W1.heap.size)) A B := fun h => h.mono (fun _ h => .inl h)
    have nL : ¬ N L := fun h => by rcases hNk _ h with h | h <;> omega
    have nD : ¬ N w.heap.size := fun h => by rcases hNk _ h with h | h <;> omega
    rw [hWb]
    refine wpIn_mono (hbody L _ pre x rest N Wb hf ib) ?_
    have fin : ∀ (jump : Option Code) (W3 : World), KeptBut N Wb W3 → ∃ W4, (Instr.endRound L jump).run P W3 = .ok (.bool jump.isNone) W4 ∧ W4 = W3.putObj L (.loop { r0 with state := if jump.isNone then .ready else .done, pending := jump }) ∧
        W3.heap[L]? = some (.loop { r0 with state := .busy }) ∧ W4.heap[w.heap.size]? = some (.deferred (some [])) ∧ W4.heap[L]? = some (.loop { r0 with state := if jump.isNone then .ready else .done, pending := jump }) := fun jump W3 hk => by
      have e2 : W3.heap[L]? = some (.loop { r0 with state := .busy }) := (hk.2 L (Array.getElem?_eq_some_iff.1 lb').1 nL).trans lb'
      have e1 := run_endRound (P := P) jump e2
      exact ⟨_, e1, rfl, e2, (World.putObj_heap_other (by omega)).trans ((hk.2 _ (Array.getElem?_eq_some_iff.1 db).1 nD).trans db), World.putObj_heap_same (Array.getElem?_eq_some_iff.1 e2).1⟩
    have hrr : { r0 with state := LoopState.ready, pending := none } = r0 := by rw [hr0]
    have last : ∀ {W3 W4 : World} {o : Obj}, KeptBut N Wb W3 → W4 = W3.putObj L o → KeptBut (fun k => N k ∨ (w.heap.size ≤ k ∧ k < W1.heap.size)) W W4 := fun {W3 W4 o} h3 h4 => by
      rw [h4]; exact (kb.trans (up h3)).trans (KeptBut.put _ _ (.inr ⟨by omega, by omega⟩))
    have hWz : W1.heap.size ≤ W.heap.size := by have := (Array.getElem?_eq_some_iff.1 hl).1; omega
    intro e a3 W3 hp
    cases e with
    | normal =>
      obtain ⟨hk3, N', hi3, hn3⟩ := hp
      obtain ⟨W4, e1, e2, e3, e4, e5⟩ := fin none W3 hk3
      refine ⟨_, W4, e1, N', .inl ⟨rfl, ⟨?_, ?_, e4, fun k hk => ?_⟩⟩, last hk3 e2, fun k hk => by have := hn3 k hk; rwa [zb] at this⟩
      · rw [e2]; exact (hI N').putObj _ hi3 (by omega) e3 rfl
      · simpa [hrr] using e5
      · rcases hn3 k hk with h | h
        · exact hNk k h
        · exact .inr (by omega)
    | ret =>
      obtain ⟨hk3, N', hi3, hn3⟩ := hp
      obtain ⟨W4, e1, e2, e3, e4, e5⟩ := fin (some .ret) W3 hk3
      exact ⟨_, W4, e1, N', .inr ⟨rfl, .ret, by rw [e2]; exact (hIx _ N').putObj _ hi3 (by omega) e3 rfl, by simpa [hta, htp, hts, htb] using e5, e4⟩, last hk3 e2, fun k hk => by have := hn3 k hk; rwa [zb] at this⟩
    | exit id =>
      obtain ⟨hk3, N', hi3, hn3⟩ := hp
      obtain ⟨W4, e1, e2, e3, e4, e5⟩ := fin (some (.exit id)) W3 hk3
      exact ⟨_, W4, e1, N', .inr ⟨rfl, .exit id, by rw [e2]; exact (hIx _ N').putObj _ hi3 (by omega) e3 rfl, by simpa [hta, htp, hts, htb] using e5, e4⟩, last hk3 e2, fun k hk => by have := hn3 k hk; rwa [zb] at this⟩
    | goto t =>
      obtain ⟨hk3, N', hi3, hn3⟩ := hp
      obtain ⟨W4, e1, e2, e3, e4, e5⟩ := fin (some (.goto t)) W3 hk3
      exact ⟨_, W4, e1, N', .inr ⟨rfl, .goto t, by rw [e2]; exact (hIx _ N').putObj _ hi3 (by omega) e3 rfl, by simpa [hta, htp, hts, htb] using e5, e4⟩, last hk3 e2, fun k hk => by have := hn3 k hk; rwa [zb] at this⟩
    | panic ch => exact hp.elim
    | outgrown => exact hp.elim
  · rintro e W2 ⟨⟨v, rfl⟩, (⟨N, hi, hl, hd, _⟩ | ⟨pre, rest, N, hf, c, hi, hl, hd⟩)⟩
    · have he := run_endLoop (P := P) hl (by rw [hr0]; simp)
      have hp : r0.pending = none := by rw [hr0]
      rw [hp] at he
      exact ⟨none, _, he, hdone _ N _ (Nat.le_refl _) ((hI N).putObj _ hi (by omega) hl rfl) ((World.putObj_heap_other (by omega)).trans hd)⟩
    · have he := run_endLoop (P := P) hl (by simp)
      exact ⟨some c, _, he, hstop _ c pre rest N _ (Nat.le_refl _) hf ((hIx c N).putObj _ hi (by omega) hl rfl) ((World.putObj_heap_other (by omega)).trans hd)⟩
end Go.Proofs.Ytepmndadbikijaa
