/-
  Layer 16: a range over a function whose rounds, or which itself, may panic, in a function whose number is known. No program.
-/
import Derived.RangeFuncNested
import Derived.RangeFuncLeaves
import Derived.RangeFuncCalls
import Derived.RecoverIn
import Derived.WalkKit
import Derived.TacticsIn
set_option linter.unusedVariables false
set_option linter.unusedSimpArgs false
namespace Go.Proofs.Ytjffclcjijpmiaa.LG
open Go.RowKit
set_option linter.unusedVariables false
section
variable {P : Program} {Q : Exit → Act → World → Prop} {a : Act} {w : World} {f : FuncId}

/-- The walk of code in a frame of function f. -/
def wpB (P : Program) (f : FuncId) (c : Code) (Q : Exit → Act → World → Prop) (a : Act) (w : World) : Prop :=
  ∀ (b : Frame) (k : List Item) (cs : List Frame), b.roundOf = none → b.fn = f →
    ∃ e a' w', Q e a' w' ∧ ArrivesIn (Machine.fenced P Fence.wide) P (lone (b.atR a (.code c :: k)) cs w) b k cs e a' w'
theorem wpB_of_wp {c : Code} (h : c.wp P Q a w) : wpB P f c Q a w := fun b k cs hro _ => (wpIn_wide (n := 0)).2 h b k cs hro trivial (room_wide _)
theorem wpB_mono {c : Code} {Q' : Exit → Act → World → Prop} (h : wpB P f c Q a w) (hq : ∀ e a w, Q e a w → Q' e a w) : wpB P f c Q' a w :=
  fun b k cs hro hb => let ⟨e, a', w', q, r⟩ := h b k cs hro hb; ⟨e, a', w', hq _ _ _ q, r⟩
theorem wpB_seq {x y : Code} (h : wpB P f x (Exit.then (wpB P f y Q) Q) a w) : wpB P f (Code.seq x y) Q a w := by
  intro b k cs hro hb
  have h0 : (lone (b.atR a (.code (.seq x y) :: k)) cs w).fenced P Fence.wide := fenced_wide P _
  obtain ⟨e, a₁, w₁, hq, harr⟩ := h b (.code y :: k) cs hro hb
  cases e with
  | normal =>
    obtain ⟨e₂, a₂, w₂, hq₂, harr₂⟩ := hq b k cs hro hb
    exact ⟨e₂, a₂, w₂, hq₂, .of_steps (.head h0 stepR_seq harr) harr₂⟩
  | exit id => exact ⟨_, a₁, w₁, hq, .of_steps (.one h0 stepR_seq) (.pass (x := .code y) rfl (fun _ _ => .inl (by simp)) harr)⟩
  | goto l => exact ⟨_, a₁, w₁, hq, .of_steps (.one h0 stepR_seq) (.pass (x := .code y) rfl (fun _ _ => .inl (by simp)) harr)⟩
  | ret => exact ⟨_, a₁, w₁, hq, .of_steps (.one h0 stepR_seq) (.pass (x := .code y) rfl (fun _ _ => .inl (by simp)) harr)⟩
  | panic ch => exact ⟨_, a₁, w₁, hq, .of_steps (.one h0 stepR_seq) (.pass (x := .code y) rfl (fun _ _ => .inl (by simp)) harr)⟩
  | outgrown => exact ⟨_, a₁, w₁, hq, .of_steps (.one h0 stepR_seq) (.pass (x := .code y) rfl (fun _ _ => .inl (by simp)) harr)⟩
/-- A block that nothing leaves ahead of its end. -/
theorem wpB_block {id : Nat} {c : Code} (h : wpB P f c (fun e a' w' => (e = .normal ∨ ∃ ch, e = .panic ch) ∧ Q e a' w') a w) : wpB P f (Code.block id c) Q a w := by
  intro b k cs hro hb
  have h0 : (lone (b.atR a (.code (.block id c) :: k)) cs w).fenced P Fence.wide := fenced_wide P _
  obtain ⟨e, a₁, w₁, ⟨he, hq⟩, harr⟩ := h b (.inBlock id :: k) cs hro hb
  rcases he with rfl | ⟨ch, rfl⟩
  · refine ⟨.normal, a₁, w₁, hq, .of_steps (.head h0 stepR_block harr) ?_⟩
    exact .one (fenced_wide P _) stepR_inBlock
  · obtain ⟨todo, hs⟩ := harr
    exact ⟨_, a₁, w₁, hq, todo, .head h0 stepR_block hs⟩

/-- The mark of a range over a function that was left is taken. -/
theorem leavesM_mark {F : Fence} {n : Nat} {fn : Func} {tmps : Array Value} {R : Ending → World → Prop} {ds : List Deferred} {u : FrameMode} {D : Nat} {as : Array Value} (hD : w.heap[D]? = some (.deferred (some []))) (hu : u ≠ .run)
    (h : LeavesInM F n P fn tmps R ds u (w.putObj D (.deferred none))) : LeavesInM F n P fn tmps R ({ target := .collected D, args := as } :: ds) u w :=
  ⟨hu, .inl ⟨D, _, rfl, run_takeDeferred hD, h⟩⟩
theorem leavesM_fn {n : Nat} {fn : Func} {tmps : Array Value} {R : Ending → World → Prop} {fv : Fn} {cap dargs : Array Value} {ds : List Deferred} {u : FrameMode} {g : FuncId} {args : Array Value} (hu : u ≠ .run) (hi : (invoke (.fn fv cap) dargs).run P w = .ok (.enter g args) w)
    (h : CallsDIn Fence.wide (n - 1) P g args u w fun
      | .returned _, u', w' => LeavesInM Fence.wide n P fn tmps R ds (settle u') w'
      | .panicked chain, u', w' => LeavesInM Fence.wide n P fn tmps R ds (raised u' chain) w'
      | .outgrown, _, w' => R .outgrown w') : LeavesInM Fence.wide n P fn tmps R ({ target := .fn fv cap, args := dargs } :: ds) u w :=
  ⟨hu, .inr ⟨(fun h => by cases h), fv, cap, g, args, rfl, hi, (fun _ _ => trivial), h⟩⟩
theorem leavesM_ret {F : Fence} {n : Nat} {fn : Func} {tmps : Array Value} {R : Ending → World → Prop} {v : Value} (hv : (results fn tmps).run P w = .ok v w) (h : R (.returned v) w) : LeavesInM F n P fn tmps R [] .returning w := ⟨v, hv, h⟩
theorem leavesM_panic {F : Fence} {n : Nat} {fn : Func} {tmps : Array Value} {R : Ending → World → Prop} {ch : List PanicEntry} (h : R (.panicked ch) w) : LeavesInM F n P fn tmps R [] (.panicking ch) w := h

/-- A function's contract from its body's walk, marks and deferred calls in it. -/
theorem calls_of_wpB {fn : Func} {c : Code} {args : Array Value} {R : Ending → World → Prop} (hf : P.funcs[f]? = some fn) (hb : fn.body = some c)
    (h : wpB P f c (bodyPostM Fence.wide 0 P fn R) { tmps := args ++ Array.replicate (fn.ntmps - args.size) undef, defers := [] } w) : Calls P f args w R := by
  refine (callsIn_wide (n := 0)).1 ⟨trivial, fun cs hr => ?_⟩
  let b : Frame := { (default : Frame) with fn := f, kind := .normal, roundOf := none }
  have henter : Frame.enter P f args .normal =
      b.atR { tmps := args ++ Array.replicate (fn.ntmps - args.size) undef, defers := [] } [.code c] := by
    simp [Frame.enter, Frame.atR, hf, hb, b]
  obtain ⟨e, a', w', hq, harr⟩ := h b [] cs rfl rfl
  rw [← henter] at harr
  cases e with
  | normal =>
    obtain ⟨e', w'', fr', hR, hs, hfn, hl⟩ := leaves_stepsInM a'.defers .returning w' { b.atR a' [] with mode := .returning } cs rfl rfl rfl hf rfl trivial hr hq
    exact ⟨e', w'', fr', hR, ComesIn.of_steps (StepsIn.trans harr (.one (fenced_wide P _) (stepR_end rfl))) hs, hfn, hl⟩
  | ret =>
    obtain ⟨todo, hs₀⟩ := harr.1 rfl
    obtain ⟨e', w'', fr', hR, hs, hfn, hl⟩ := leaves_stepsInM a'.defers .returning w' { b.atR a' todo with mode := .returning } cs rfl rfl rfl hf rfl trivial hr hq
    exact ⟨e', w'', fr', hR, ComesIn.of_steps hs₀ hs, hfn, hl⟩
  | panic chain =>
    obtain ⟨todo, hs₀⟩ := harr
    obtain ⟨e', w'', fr', hR, hs, hfn, hl⟩ := leaves_stepsInM a'.defers (.panicking chain) w' { b.atR a' todo with mode := .panicking chain } cs rfl rfl rfl hf rfl trivial hr hq
    exact ⟨e', w'', fr', hR, ComesIn.of_steps hs₀ hs, hfn, hl⟩
  | exit id => exact hq.elim
  | goto l => exact hq.elim
  | outgrown => exact ⟨.outgrown, w', b, hq, harr.resolve_left (by simp [b]), rfl, trivial⟩

/-- The record, in a round. -/
def busy (r : Loop) : Loop := { r with state := .busy }
/-- What a round must achieve: it ends off its end, or panics. -/
def roundQ (L : Nat) (r0 : Loop) (R : Ending → World → Prop) : Exit → Act → World → Prop
  | .normal, _, w' => w'.heap[L]? = some (.loop (busy r0)) ∧ R (.returned (.bool true)) (w'.putObj L (.loop r0))
  | .panic ch, a', w' => a'.defers = [] ∧ R (.panicked ch) w'
  | _, _, _ => False
/-- ONE ROUND, which may panic. -/
theorem round_yield {L m : Nat} {r0 : Loop} {args : Array Value} {R : Ending → World → Prop} (hf : ∃ fn, P.funcs[r0.fn]? = some fn) (hl : w.heap[L]? = some (.loop r0)) (hst : r0.state = .ready) (hpe : r0.pending = none) (hps : args.size = r0.params.size)
    (h : r0.assign.wpIn (Fence.wide.inRound L) m P (Exit.then (fun a₁ w₁ => w₁.heap[L]? = some (.loop r0) ∧ r0.body.wpIn (Fence.wide.inRound L) m P (roundQ L r0 R) a₁ (w₁.putObj L (.loop (busy r0)))) (fun _ _ _ => False))
      { tmps := (r0.params.zip args).foldl (fun tmps (t, a) => tmps.setIfInBounds t a) r0.tmps, defers := [] } w) : YieldAt Fence.wide m P L args w R := by
  refine ⟨_, _, _, _, run_yield hl hps, trivial, fun c cs hr => ?_⟩
  let b : Frame := { (default : Frame) with fn := r0.fn, kind := .normal, roundOf := some L }
  have hb0 : Frame.round L r0.fn ((r0.params.zip args).foldl (fun tmps (t, a) => tmps.setIfInBounds t a) r0.tmps) r0.assign r0.body .normal = b.atR { tmps := (r0.params.zip args).foldl (fun tmps (t, a) => tmps.setIfInBounds t a) r0.tmps, defers := [] } [.code r0.assign, .beginRound, .code r0.body] := by
    simp [Frame.round, Frame.atR, b]
  have hr' : (Fence.wide.inRound L).room ((c :: cs).length + 1 + m) := hr
  obtain ⟨e, a₁, w₁, hq, harr⟩ := h b [.beginRound, .code r0.body] (c :: cs) rfl trivial hr'
  rw [← hb0] at harr
  have wide : ∀ (m : Machine), m.fenced P (Fence.wide.inRound L) := fun m => fenced_wide P m
  cases e with
  | normal =>
    obtain ⟨hl1, hbody⟩ := hq
    have hbr := run_beginRound (P := P) hl1 hst
    have s1 : StepsIn (Machine.fenced P (Fence.wide.inRound L)) P (lone (b.atR a₁ [.beginRound, .code r0.body]) (c :: cs) w₁) (lone (b.atR a₁ [.code r0.body]) (c :: cs) (w₁.putObj L (.loop (busy r0)))) :=
      .one (wide _) (stepR_beginRound rfl hbr)
    obtain ⟨e₂, a₂, w₃, hq₂, harr₂⟩ := hbody b [] (c :: cs) rfl trivial hr'
    cases e₂ with
    | normal =>
      obtain ⟨hl3, hR⟩ := hq₂
      have hend := run_endRound (P := P) none hl3
      unfold busy at hend
      have e0 : ({ ({ r0 with state := .busy } : Loop) with state := if (none : Option Code).isNone then .ready else .done, pending := none } : Loop) = r0 := by
        obtain ⟨st, pe, x1, x2, x3, x4, x5, x6⟩ := r0
        simp at hst hpe
        subst hst; subst hpe; rfl
      rw [e0] at hend
      exact ⟨.returned (.bool true), _, hR, (StepsIn.trans harr s1).trans (StepsIn.trans harr₂ (.one (wide _) (stepR_round_end rfl rfl hend)))⟩
    | panic ch =>
      obtain ⟨hd, hR⟩ := hq₂
      obtain ⟨todo, hs⟩ := harr₂
      exact ⟨.panicked ch, w₃, hR, (StepsIn.trans harr s1).trans (StepsIn.trans hs (.one (wide _) (step_leave_panicked ⟨rfl, hd, hf⟩)))⟩
    | ret => exact hq₂.elim
    | exit id => exact hq₂.elim
    | goto t => exact hq₂.elim
    | outgrown => exact hq₂.elim
  | exit id => exact hq.elim
  | goto t => exact hq.elim
  | ret => exact hq.elim
  | panic chain => exact hq.elim
  | outgrown => exact hq.elim

/-- THE STATEMENT. -/
theorem wpB_range {g : Operand} {ps : Array Tmp} {assign body : Code} {gf : Nat} {lb : Array Value} (hg : a.eval g = .func (.func gf) #[] lb) (eg : ∀ args w, (callFunc gf args).run P w = .ok (.enter gf args) w)
    (h : ∀ (D L : Nat) (r0 : Loop) (W1 : World), D = w.heap.size → L = D + 1 → r0 = { state := .ready, pending := none, fn := f, tmps := a.tmps, params := ps, assign, body, defers := D } → W1 = (w.alloc (.deferred (some []))).alloc (.loop r0) →
      CallsIn Fence.wide 0 P gf (#[.func (.yield L) #[] #[]] ++ lb) W1 (fun
        | .returned _, W2 => W2.heap[L]? = some (.loop r0) ∧ Q .normal { a with defers := { target := .collected D, args := #[] } :: a.defers } (W2.putObj L (.loop { r0 with state := .exhausted }))
        | .panicked ch, W2 => Q (.panic ch) { a with defers := { target := .collected D, args := #[] } :: a.defers } W2
        | .outgrown, _ => False)) :
    wpB P f (Code.rangeFunc g ps assign body) Q a w := by
  intro b k cs hro hb
  obtain ⟨r0, hr0⟩ : ∃ r0 : Loop, r0 = { state := .ready, pending := none, fn := f, tmps := a.tmps, params := ps, assign, body, defers := w.heap.size } := ⟨_, rfl⟩
  have hc := h _ _ r0 _ rfl rfl hr0 rfl
  have he := run_enterLoop_outer (P := P) (w := w) f a.tmps ps assign body
  rw [← hr0] at he
  have hres : (resolve a.eval (rangeCall g (w.heap.size + 1)) 0).run P ((w.alloc (.deferred (some []))).alloc (.loop r0)) = .ok { target := .fn (.func gf) lb, args := #[.func (.yield (w.heap.size + 1)) #[] #[]] } ((w.alloc (.deferred (some []))).alloc (.loop r0)) := by
    simp only [resolve, hg]; simp [go_sem]
  have hinv : (invoke (.fn (.func gf) lb) #[.func (.yield (w.heap.size + 1)) #[] #[]]).run P ((w.alloc (.deferred (some []))).alloc (.loop r0)) = .ok (.enter gf (#[.func (.yield (w.heap.size + 1)) #[] #[]] ++ lb)) ((w.alloc (.deferred (some []))).alloc (.loop r0)) := by
    simp [invoke, go_sem, eg]
  subst hb
  rw [← hro] at he
  have h0 : (lone (b.atR a (.code (.rangeFunc g ps assign body) :: k)) cs w).fenced P Fence.wide := fenced_wide P _
  have henter := stepR_rangeFunc (P := P) (b := b) (a := a) (k := k) (cs := cs) (w := w) he hres hinv
  obtain ⟨e, w₃, fr, hR, hsteps, hfn, hleave⟩ := hc.2 (b.atR { a with defers := { target := .collected w.heap.size, args := #[] } :: a.defers } (.inRangeFunc (w.heap.size + 1) :: k) :: cs) (room_wide _)
  cases e with
  | outgrown => exact hR.elim
  | returned v =>
    obtain ⟨hl, hq⟩ := hR
    have hend := run_endLoop (P := P) hl (by rw [hr0]; simp)
    have hpe : r0.pending = none := by rw [hr0]
    replace hend : (Instr.endLoop (w.heap.size + 1)).run P w₃ = .ok none (w₃.putObj (w.heap.size + 1) (.loop { r0 with state := .exhausted })) := hend.trans (by rw [hpe])
    refine ⟨.normal, _, _, hq, ?_⟩
    refine .head h0 henter (StepsIn.trans hsteps (.head (fenced_wide P _) ?_ (.one (fenced_wide P _) (stepR_endRangeFunc hend))))
    rw [← finish_atR_inRangeFunc (w.heap.size + 1) v]; exact step_leave_returned hleave
  | panicked chain =>
    refine ⟨.panic chain, _, w₃, hR, .inRangeFunc (w.heap.size + 1) :: k, .head h0 henter (StepsIn.trans hsteps (.one (fenced_wide P _) ?_))⟩
    rw [← Frame.raise_atR]; exact step_leave_panicked hleave
end
end Go.Proofs.Ytjffclcjijpmiaa.LG
