/-
  Layer 12: what the iterator of each kind gives. Layer 12: each: the iterator over all places: walk. Layer 12: All: walks.
-/
import Derived.Test.YtiohlmccnllklaaGreatDoorH26
import Derived.Test.YtiohlmccnllklaaGreatDoorH04
import Derived.Deep.LoopGhost
import Derived.Test.YtiohlmccnllklaaGreatDoorH22
set_option linter.unusedVariables false
set_option linter.unusedSimpArgs false
namespace Go.Proofs.YtiohlmccnllklaaGreatDoor
open Go.RowKit Go.Shelf
attribute [local go_sem] Oper.semAt_some
set_option maxHeartbeats 8000000
set_option maxRecDepth 100000
set_option linter.unusedVariables false
set_option linter.unusedSimpArgs false

theorem Gives.of3 {α : Type} {P : Program} {g : Nat} {lb : Array Value} {encs : α → Array Value} {M : Nat → Prop} {full : List α} {w : World} (h : L3.Gives P g lb encs M full w) : Gives P g lb encs M full w := h
theorem Gives.map {α β : Type} {P : Program} {g : Nat} {lb : Array Value} {encs : α → Array Value} {encs' : β → Array Value} {f : α → β} {M : Nat → Prop} {full : List α} {w : World} (h : Gives P g lb encs M full w) (he : ∀ x, encs x = encs' (f x)) : Gives P g lb encs' M (full.map f) w := by
  intro n l J Jx W hb hJ hJx hY h0
  refine (h n l (fun pre => J (pre.map f)) (fun pre => Jx (pre.map f)) W hb (fun s => hJ (s.map f)) (fun s => hJx (s.map f)) (fun m pre x rest W1 hf hj => ?_) h0).mono ?_
  · have := hY m (pre.map f) (f x) (rest.map f) W1 (by rw [hf]; simp) hj
    rw [he]
    simpa using this
  · rintro e W' ⟨he, hj | ⟨pre, rest, hf, hj⟩⟩
    · exact ⟨he, .inl hj⟩
    · exact ⟨he, .inr ⟨pre.map f, rest.map f, by rw [hf]; simp, hj⟩⟩
/-- A function value that hands on these, whatever a round turns of what lay ahead of w0, but for what is own. -/
def SeqP (w0 : World) (own : Nat → Prop) (ys : List (Int × Int)) (v : Value) (w' : World) : Prop := ∃ fn lb, v = .func (.func fn) #[] lb ∧ (∀ args W, (callFunc fn args).run Tryz.prog W = .ok (.enter fn args) W) ∧ ∀ Mm : Nat → Prop, (∀ i, Mm i → i < w0.heap.size) → (∀ i, own i → ¬ Mm i) → Gives Tryz.prog fn lb kEnc Mm ys w'
theorem may_few {fr se : Int} {ps : List T.Pr} (h : ∀ x ∈ ps, T.may fr se x.1 = true) {k : Nat} (hk : T.fewK k = true) : ∀ x ∈ ps, x.1.1 = (k : Int) → 0 ≤ x.1.2 ∧ x.1.2 < mst k := fun x hx e => by
  have := T.may_iff.1 (h x hx)
  rw [e, (most_few hk fr se).1] at this
  omega
theorem may_cnt {fr se : Int} {ps : List T.Pr} (hr : T.Ris ps) (h : ∀ x ∈ ps, T.may fr se x.1 = true) {k : Nat} (hk : T.cntK k = true) : ∀ y ∈ T.kd (k : Int) ps, I64 y.1 := fun y hy => by
  obtain ⟨h1, h2⟩ := (T.kd_mem hr).1 hy
  obtain ⟨x, hx, e, _⟩ := T.get_ne (l := ps) (p := ((k : Int), y.1)) (by rw [h2]; exact h1)
  have := T.may_iff.1 (h x hx)
  rw [e, most_cnt hk fr se] at this
  exact ⟨by simp at this; omega, by simp at this; omega⟩
section
variable {w : World} {P M D : Nat} {C : Nat → Nat} {fr se : Int} {ps : List T.Pr} {FM FD : Nat → Prop}
theorem fall_any (h : PlIs w P M D C fr se ps FM FD) {k : Nat} (hk : T.fewK k = true) : Calls Tryz.prog 176 #[.slice (some ⟨P, 2 + 8 * k, none⟩) (mst k) 8] w fun e w' => ∃ v, e = .returned v ∧ SeqP w (plB P C FM FD) (T.kd (k : Int) ps) v w' ∧ Below w.heap.size w w' := by
  have hmf : ∀ (fn : Fn) (first cap : Array Value) (w : World), (Instr.makeFunc fn first cap).run Tryz.prog w = .ok (.func fn first cap) w := fun _ _ _ _ => rfl
  have HF : Hid (∀ W, Below w.heap.size w W → ∀ B, Blk W B #[.slice (some ⟨P, 2 + 8 * k, none⟩) (mst k) 8] 187 → ∀ Mm : Nat → Prop, ¬ Mm P → Gives Tryz.prog 180 #[.pointer (some ⟨B, 0, none⟩)] kEnc Mm (T.kd (k : Int) ps) W) := fun W hb B hB Mm hM => by
    rw [← fewL_kd h.ris hk (most_few hk fr se).2 (may_few h.may hk)]
    exact few1_gives (by have := cls_few hk; omega) (most_few hk fr se).2 hB (h.below hb).blk Mm hM
  clear h
  go_enter Tryz.func176, Tryz.ntmps176
  go_wp2
  go_ret
  refine ⟨_, rfl, ⟨_, _, rfl, enters_of Tryz.func180 (by kernel_rfl) rfl, fun Mm h1 h2 => HF.out _ (bel1 w _) _ (blk_new w _ _) Mm (h2 P (.inl rfl))⟩, bel1 w _⟩
theorem call_any (h : PlIs w P M D C fr se ps FM FD) {k : Nat} (hk : T.cntK k = true) : Calls Tryz.prog 151 #[.map (some (C k))] w fun e w' => ∃ v, e = .returned v ∧ SeqP w (plB P C FM FD) (T.kd (k : Int) ps) v w' ∧ Below w.heap.size w w' := by
  have hmf : ∀ (fn : Fn) (first cap : Array Value) (w : World), (Instr.makeFunc fn first cap).run Tryz.prog w = .ok (.func fn first cap) w := fun _ _ _ _ => rfl
  have HF : Hid (∀ W, Below w.heap.size w W → ∀ B, w.heap.size ≤ B → Blk W B #[.map (some (C k))] 83 → ∀ Mm : Nat → Prop, (∀ i, Mm i → i < w.heap.size) → ¬ Mm (C k) → Gives Tryz.prog 155 #[.pointer (some ⟨B, 0, none⟩)] kEnc Mm (T.kd (k : Int) ps) W) := fun W hb B hz hB Mm h1 h2 =>
    call1_gives h.ris h.small (may_cnt h.ris h.may hk) hB ((h.below hb).cnt k hk) Mm (fun i hi => by have := h1 i hi; have := hb.size; omega) (fun e => by have := h1 B e; omega) h2
  clear h
  go_enter Tryz.func151, Tryz.ntmps151
  go_wp2
  go_ret
  refine ⟨_, rfl, ⟨_, _, rfl, enters_of Tryz.func155 (by kernel_rfl) rfl, fun Mm h1 h2 => HF.out _ (bel1 w _) _ (Nat.le_refl _) (blk_new w _ _) Mm h1 (h2 _ (.inr (.inr (.inr ⟨k, hk, rfl⟩))))⟩, bel1 w _⟩
end
theorem sall_any {w : World} {S m : Nat} {k : Int} {ps : List T.Pr} {F : Nat → Prop} (own : Nat → Prop) (hr : T.Ris ps) (hm : ∀ x ∈ ps, x.1.1 = k → 0 ≤ x.1.2 ∧ x.1.2 < 64 * (m : Int)) (h : L3.Sh w S m (T.row ps k (64 * m)) F) : Calls Tryz.prog 181 #[.agg #[.pointer (some ⟨S, 0, none⟩)]] w fun e w' => ∃ v, e = .returned v ∧ SeqP w own (T.kd k ps) v w' ∧ Below w.heap.size w w' := by
  have hb := bel1 w (.cells #[.pointer (some ⟨S, 0, none⟩)] 189)
  have HB := Lib.hid hb
  have HA := Lib.hid (L3.All_any (h.below hb))
  have HK := Lib.hid (T.kd_els (k := k) (m := 64 * m) hr (fun x hx e => by have := hm x hx e; omega))
  clear h hb hm hr
  go_enter Tryz.func181, Tryz.ntmps181
  go_wp2_with (go_at_call 185; refine HA.out.mono ?_; rintro e w1 ⟨v, rfl, hv⟩)
  go_ret
  obtain ⟨B, S', F', rfl, hB, hS, hF, hBl, hb1⟩ := hv
  refine ⟨_, rfl, ⟨_, _, rfl, enters_of Tryz.func189 (by kernel_rfl) rfl, fun Mm h1 h2 => ?_⟩, HB.out.trans (hb1.mono HB.out.size)⟩
  have hz := hb1.size
  simp at hz
  rw [← HK.out]
  exact (Gives.of3 (L3.All1_gives hS B hB Mm (fun i hi => by have := h1 i hi; omega) (fun i hi e => by have a := hF i hi; have b := h1 i e; simp at a; omega))).map (fun i => rfl)
/-- Which function, over what. -/
def kF (k : Nat) : Nat := if k = 10 then 181 else if k = 12 then 181 else if T.cntK k = true then 151 else 176
def kA (P M D : Nat) (C : Nat → Nat) (k : Nat) : Value := if k = 10 then .agg #[.pointer (some ⟨M, 0, none⟩)] else if k = 12 then .agg #[.pointer (some ⟨D, 0, none⟩)] else if T.cntK k = true then .map (some (C k)) else .slice (some ⟨P, 2 + 8 * k, none⟩) (mst k) 8
theorem kall_any {w : World} {P M D : Nat} {C : Nat → Nat} {fr se : Int} {ps : List T.Pr} {FM FD : Nat → Prop} (h : PlIs w P M D C fr se ps FM FD) (k : Nat) (h1 : 1 ≤ k) (h2 : k ≤ 17) : Calls Tryz.prog (kF k) #[kA P M D C k] w fun e w' => ∃ v, e = .returned v ∧ SeqP w (plB P C FM FD) (T.kd (k : Int) ps) v w' ∧ Below w.heap.size w w' := by
  rcases cls h1 h2 with hk | rfl | rfl | hk
  · have h' := hk
    unfold T.fewK at h'; simp only [decide_eq_true_eq] at h'
    have e : ¬ T.cntK k = true := by unfold T.cntK; simp only [decide_eq_true_eq]; omega
    unfold kF kA
    rw [if_neg (by omega), if_neg (by omega), if_neg e, if_neg (by omega), if_neg (by omega), if_neg e]
    exact fall_any h hk
  · exact sall_any (k := 10) _ h.ris (may_mem h.may h.bd) h.mem
  · exact sall_any (k := 12) _ h.ris (may_dsk h.may h.bd) h.disk
  · have h' := hk
    unfold T.cntK at h'; simp only [decide_eq_true_eq] at h'
    unfold kF kA
    rw [if_neg (by omega), if_neg (by omega), if_pos hk, if_neg (by omega), if_neg (by omega), if_pos hk]
    exact call_any h hk
end Go.Proofs.YtiohlmccnllklaaGreatDoor
namespace Go.Proofs.YtiohlmccnllklaaGreatDoor
open Go.RowKit Go.Shelf
attribute [local go_sem] Oper.semAt_some
set_option maxHeartbeats 8000000
set_option maxRecDepth 100000
set_option linter.unusedVariables false
set_option linter.unusedSimpArgs false

theorem PlIs.noPls {w : World} {P M D : Nat} {C : Nat → Nat} {fr se : Int} {ps : List T.Pr} {FM FD : Nat → Prop} (h : PlIs w P M D C fr se ps FM FD) {i : Nat} (hi : plB P C FM FD i) : ¬ L3.Pls w i := by
  rcases hi with rfl | hi | hi | ⟨k, hk, rfl⟩
  · exact L3.Pls.not h.blk (by decide)
  · obtain ⟨mb, G, E, rfl, hs⟩ := h.mem; exact hs.noPls hi
  · obtain ⟨mb, G, E, rfl, hs⟩ := h.disk; exact hs.noPls hi
  · exact (h.cnt k hk).noPls
/-- What an iterator hands on. -/
abbrev pEnc (x : T.Pr) : Array Value := #[.agg #[.int .i64 x.1.1, .int .i64 x.1.2], .int .u32 x.2]
def mkD (D : Nat) : Deferred := { target := .collected D, args := #[] }
/-- A round of each: all of the kinds below k have been handed on. -/
structure EaS (J : List T.Pr → World → Prop) (z B ll P M D : Nat) (C : Nat → Nat) (fr se : Int) (ps : List T.Pr) (FM FD : Nat → Prop) (k b3 : Nat) (Ds : List Nat) (W : World) : Prop where
  j : J (T.upto ps (k : Int)) W
  pl : PlIs W P M D C fr se ps FM FD
  xB : Blk W B #[.pointer (some ⟨P, 0, none⟩)] 81
  x2 : Blk W z #[.func (.yield ll) #[] #[]] 151
  x3 : Blk W b3 #[.int .i64 (k : Int)] 40
  lo : z < b3 ∧ z ≤ W.heap.size
  ds : ∀ i ∈ Ds, z ≤ i ∧ W.heap[i]? = some (.deferred (some []))
  nd : Ds.Nodup
theorem EaS.below {J : List T.Pr → World → Prop} {z z0 B ll P M D : Nat} {C : Nat → Nat} {fr se : Int} {ps : List T.Pr} {FM FD : Nat → Prop} {k b3 : Nat} {Ds : List Nat} {W W' : World} (h : EaS J z B ll P M D C fr se ps FM FD k b3 Ds W) (hJ : OwnFrom z0 J) (hb : Below W.heap.size W W') : EaS J z B ll P M D C fr se ps FM FD k b3 Ds W' :=
  ⟨own_below hJ h.j hb, h.pl.below hb, h.xB.below hb, h.x2.below hb, h.x3.below hb, ⟨h.lo.1, Nat.le_trans h.lo.2 hb.size⟩, fun i hi => ⟨(h.ds i hi).1, (hb.block i (Array.getElem?_eq_some_iff.1 (h.ds i hi).2).1).trans (h.ds i hi).2⟩, h.nd⟩
/-- The blocks that a round must leave as they are. -/
def EaK (z B P : Nat) (C : Nat → Nat) (FM FD : Nat → Prop) (b3 : Nat) (Ds : List Nat) (i : Nat) : Prop := plB P C FM FD i ∨ i = B ∨ i = z ∨ i = b3 ∨ i ∈ Ds
/-- The next round, behind the range. -/
theorem EaS.next {J : List T.Pr → World → Prop} {z B ll P M D : Nat} {C : Nat → Nat} {fr se : Int} {ps : List T.Pr} {FM FD : Nat → Prop} {k b3 : Nat} {Ds : List Nat} {W W' : World} (h : EaS J z B ll P M D C fr se ps FM FD k b3 Ds W) (hJ : OwnFrom z J) (hj : J (T.upto ps ((k : Int) + 1)) W') (hL : L3.Lies (EaK z B P C FM FD b3 Ds) W W') (hsz : W.heap.size ≤ W'.heap.size) {D0 : Nat} (hD : W.heap.size ≤ D0) (hD0 : W'.heap[D0]? = some (.deferred (some []))) :
    EaS J z B ll P M D C fr se ps FM FD (k + 1) W'.heap.size (D0 :: Ds) (W'.alloc (.cells #[.int .i64 ((k : Int) + 1)] 40)) := by
  have hb := bel1 W' (.cells #[.int .i64 ((k : Int) + 1)] 40)
  have hz := h.lo.2
  refine ⟨own_below hJ (by rw [show ((k + 1 : Nat) : Int) = (k : Int) + 1 by omega]; exact hj) hb, (h.pl.keep fun i hi => hL i (.inl hi)).below hb, (h.xB.keep (hL _ (.inr (.inl rfl)))).below hb, (h.x2.keep (hL _ (.inr (.inr (.inl rfl))))).below hb, by rw [show ((k + 1 : Nat) : Int) = (k : Int) + 1 by omega]; exact blk_new _ _ _, ⟨by have := h.lo.1; have := h.x3.lt; omega, by have := hb.size; omega⟩, fun i hi => ?_, List.nodup_cons.2 ⟨fun e => ?_, h.nd⟩⟩
  · rcases List.mem_cons.1 hi with rfl | hi
    · exact ⟨by omega, (hb.block i (Array.getElem?_eq_some_iff.1 hD0).1).trans hD0⟩
    · have h1 := (hL i (.inr (.inr (.inr (.inr hi))))).trans (h.ds i hi).2
      exact ⟨(h.ds i hi).1, (hb.block i (Array.getElem?_eq_some_iff.1 h1).1).trans h1⟩
  · have := (Array.getElem?_eq_some_iff.1 (h.ds D0 e).2).1
    omega
/-- The function is left: each mark is taken over. -/
theorem leaves_marks {n : Nat} {fn : Func} (hfn : fn.results = #[]) {tmps : Array Value} {z : Nat} {S : World → Prop} {R : Ending → World → Prop} (hS : OwnFrom z (fun (_ : Unit) => S)) (hR : ∀ v W, S W → R (.returned v) W) : ∀ (Ds : List Nat) (W : World), Ds.Nodup → (∀ i ∈ Ds, z ≤ i ∧ W.heap[i]? = some (.deferred (some []))) → S W → LeavesInM Fence.wide n Tryz.prog fn tmps R (Ds.map mkD) .returning W
  | [], W, _, _, hs => ⟨_, results_none hfn _ _ _, hR _ _ hs⟩
  | D :: Ds, W, hn, hd, hs => by
    obtain ⟨h1, h2⟩ := List.nodup_cons.1 hn
    have hD := hd D (by simp)
    refine ⟨by simp, .inl ⟨D, _, rfl, run_takeDeferred hD.2, leaves_marks hfn hS hR Ds _ h2 (fun i hi => ⟨(hd i (by simp [hi])).1, ?_⟩) (hS.putObj (s := ()) _ hs hD.1 hD.2 rfl)⟩⟩
    exact (World.putObj_heap_other (fun e => h1 (by subst e; exact hi))).trans (hd i (by simp [hi])).2
theorem upto_part {ps : List T.Pr} (h : T.Ris ps) (k : Int) : ∀ d : Nat, ∃ r, T.upto ps (k + d) = T.upto ps k ++ r
  | 0 => ⟨[], by simp⟩
  | d + 1 => by
    obtain ⟨r, hr⟩ := upto_part h k d
    rw [show k + ((d + 1 : Nat) : Int) = (k + d) + 1 by omega, T.upto_succ h, hr]
    exact ⟨_, by rw [List.append_assoc]⟩
theorem kind_in {w : World} {P M D : Nat} {C : Nat → Nat} {fr se : Int} {ps : List T.Pr} {FM FD : Nat → Prop} (h : PlIs w P M D C fr se ps FM FD) {x : T.Pr} (hx : x ∈ ps) : 1 ≤ x.1.1 ∧ x.1.1 ≤ 17 := by
  have := T.may_iff.1 (h.may x hx)
  by_cases e : x.1.1 < 1 ∨ 17 < x.1.1
  · rw [most_out e] at this; omega
  · omega
theorem kind_lo {w : World} {P M D : Nat} {C : Nat → Nat} {fr se : Int} {ps : List T.Pr} {FM FD : Nat → Prop} (h : PlIs w P M D C fr se ps FM FD) {x : T.Pr} (hx : x ∈ ps) : 1 ≤ x.1.1 := (kind_in h hx).1
theorem run_inv {P M D : Nat} {C : Nat → Nat} {k : Nat} (h1 : 1 ≤ k) (h2 : k ≤ 17) {op : Oper} {ev : Operand → Value} {x : Operand} {W : World} (ho : op.op = .call { callee := .invoke x "pomander/flow.all", args := #[], argTypes := #[] }) (hx : ev x = ofV P M D C k) :
    (execOp ev op).run Tryz.prog W = .ok (.enter (kF k) #[kA P M D C k]) W := by
  unfold execOp
  simp only [ho]
  rcases cls h1 h2 with hk | rfl | rfl | hk
  · have h' := hk
    unfold T.fewK at h'; simp only [decide_eq_true_eq] at h'
    have e : ¬ T.cntK k = true := by unfold T.cntK; simp only [decide_eq_true_eq]; omega
    rw [ofV_few hk] at hx
    have e1 : kF k = 176 := by unfold kF; rw [if_neg (by omega), if_neg (by omega), if_neg e]
    have e2 : kA P M D C k = .slice (some ⟨P, 2 + 8 * k, none⟩) (mst k) 8 := by unfold kA; rw [if_neg (by omega), if_neg (by omega), if_neg e]
    rw [e1, e2]
    clear e1 e2 e h' hk h1 h2
    go_simp
    rfl
  · rw [ofV_mem rfl] at hx
    show _ = Result.ok (Next.enter 181 #[.agg #[.pointer (some ⟨M, 0, none⟩)]]) W
    go_simp
    rfl
  · rw [ofV_dsk rfl] at hx
    show _ = Result.ok (Next.enter 181 #[.agg #[.pointer (some ⟨D, 0, none⟩)]]) W
    go_simp
    rfl
  · have h' := hk
    unfold T.cntK at h'; simp only [decide_eq_true_eq] at h'
    rw [ofV_cnt hk] at hx
    have e1 : kF k = 151 := by unfold kF; rw [if_neg (by omega), if_neg (by omega), if_pos hk]
    have e2 : kA P M D C k = .map (some (C k)) := by unfold kA; rw [if_neg (by omega), if_neg (by omega), if_pos hk]
    rw [e1, e2]
    clear e1 e2 h' hk h1 h2
    go_simp
    rfl
theorem wp_inv {ops : Array Oper} {rest : List Oper} {a : Act} {w : World} {Q : Exit → Act → World → Prop} {d : Option Tmp} {x : Operand} {ty2 : TypeId} {pos : String} {af : Array Edge} {P M D : Nat} {C : Nat → Nat} {k : Nat} {R : Value → World → Prop} (h1 : 1 ≤ k ∧ k ≤ 17)
    (hc : Calls Tryz.prog (kF k) #[kA P M D C k] w fun e w' => ∃ v, e = .returned v ∧ R v w') (hx : a.eval x = ofV P M D C k) (h : ∀ v w', R v w' → wpList Tryz.prog ops Q rest (a.put d v) w') :
    wpList Tryz.prog ops Q ({ dst := d, op := .call { callee := .invoke x "pomander/flow.all", args := #[], argTypes := #[] }, type := ty2, pos := pos, after := af, guard := none } :: rest) a w :=
  wpList_plain rfl fun K hK => o_call (run_inv h1.1 h1.2 rfl hx) (hc.mono fun e w' ⟨v, e1, hq⟩ => ⟨v, e1, hK _ _ (h v w' hq)⟩)
def EaL (J : List T.Pr → World → Prop) (z B ll P M D : Nat) (C : Nat → Nat) (fr se : Int) (ps : List T.Pr) (FM FD : Nat → Prop) (m : Nat) (a : Act) (wr : World) : Prop :=
  ∃ (k b3 : Nat) (u4 u5 u6 u7 u8 u9 u10 u11 u12 u13 u14 u15 u16 u17 u18 u19 u20 u21 u22 u23 : Value) (Ds : List Nat), m = 18 - k ∧ 1 ≤ k ∧ k ≤ 18 ∧ a = { tmps := #[.func (.yield ll) #[] #[], .pointer (some ⟨B, 0, none⟩), .pointer (some ⟨z, 0, none⟩), .pointer (some ⟨b3, 0, none⟩), u4, u5, u6, u7, u8, u9, u10, u11, u12, u13, u14, u15, u16, u17, u18, u19, u20, u21, u22, u23], defers := Ds.map mkD } ∧ Hid (EaS J z B ll P M D C fr se ps FM FD k b3 Ds wr)
theorem each1_gives {w : World} {B P M D : Nat} {C : Nat → Nat} {fr se : Int} {ps : List T.Pr} {FM FD : Nat → Prop} (h : PlIs w P M D C fr se ps FM FD) (hB : Blk w B #[.pointer (some ⟨P, 0, none⟩)] 81) (Mm : Nat → Prop) (hMl : ∀ i, Mm i → i < w.heap.size) (hMB : ¬ Mm B) (hMo : ∀ i, plB P C FM FD i → ¬ Mm i) :
    Gives Tryz.prog 77 #[.pointer (some ⟨B, 0, none⟩)] pEnc Mm ps w := fun n ll J Jx W hW hJ hJx hY h0 => by
  refine callsIn_of_wp_marks Tryz.func77 rfl trivial ?_ rfl
  refine wpIn_wide.2 ?_
  simp only [Tryz.ntmps77, List.size_toArray, List.length_cons, List.length_nil, Nat.reduceAdd, Nat.reduceSub, Array.replicate_succ, Array.replicate_zero, List.push_toArray, List.append_toArray, List.nil_append, List.cons_append]
  have HB := Lib.hid hB
  have HH := Lib.hid h
  have c1 := (boxed (hB.below hW)).1
  go_wp2
  have HI : Hid (EaS J W.heap.size B ll P M D C fr se ps FM FD 1 (W.heap.size + 1) [] ((W.alloc (.cells #[.func (.yield ll) #[] #[]] 151)).alloc (.cells #[.int .i64 1] 40))) := by
    have b2 := bel2 W (.cells #[.func (.yield ll) #[] #[]] 151) (.cells #[.int .i64 1] 40)
    refine ⟨?_, (h.below hW).below b2, (hB.below hW).below b2, (blk_new W _ _).alloc _, ?_, ⟨by omega, b2.size⟩, fun i hi => (by cases hi), List.nodup_nil⟩
    · rw [show ((1 : Nat) : Int) = 1 from rfl, T.upto_none (fun x hx => kind_lo h hx)]
      exact own_below hJ h0 b2
    · have := blk_new (W.alloc (.cells #[.func (.yield ll) #[] #[]] 151)) #[.int .i64 1] 40
      rw [World.size_alloc] at this
      exact this
  clear h hB h0 c1
  refine wp_loop_ghost (EaL J W.heap.size B ll P M D C fr se ps FM FD) 17 ⟨1, W.heap.size + 1, _, _, _, _, _, _, _, _, _, _, _, _, _, _, _, _, _, _, _, _, [], rfl, by omega, by omega, rfl, HI.out⟩ ?_
  rintro m a wr ⟨k, b3, u4, u5, u6, u7, u8, u9, u10, u11, u12, u13, u14, u15, u16, u17, u18, u19, u20, u21, u22, u23, Ds, rfl, hk1, hk2, rfl, HS⟩
  clear HI
  have cB := (boxed HS.out.xB).1
  have c2 := (boxed HS.out.x2).1
  have c3 := (boxed HS.out.x3).1
  by_cases hlt : k < 18
  · have hi : (k : Int) < 18 := by omega
    have HO := Lib.hid (of_any (ofis HS.out.pl.blk) k hk1 (by omega))
    have HR := Lib.hid (And.intro hk1 (show k ≤ 17 by omega))
    have HKa := Lib.hid (fun W' (hb : Below wr.heap.size wr W') => kall_any (HS.out.pl.below hb) k hk1 (by omega))
    go_wp2_with (first | (go_at_call 53; refine HO.out.mono ?_; rintro e w1 ⟨rfl, hb1⟩; have HB1 := Lib.hid hb1; clear hb1) | ((with_reducible refine wp_inv HR.out (HKa.out _ HB1.out) ?_ ?_); (rfl); rintro v W2 ⟨⟨fn, lb, rfl, heg, hgv⟩, hb2⟩))
    have hB2 : Below wr.heap.size wr W2 := HB1.out.trans (hb2.mono HB1.out.size)
    have HS2 := Lib.hid (HS.out.below hJ hB2)
    obtain ⟨M', hM'⟩ : ∃ M' : Nat → Prop, M' = fun i => Mm i ∨ (w.heap.size ≤ i ∧ i < W.heap.size) := ⟨_, rfl⟩
    have hWz := hW.size
    have hz2 := HS2.out.lo
    have hMlt : ∀ i, M' i → i < W.heap.size := by rw [hM']; rintro i (hm | hm); (have := hMl i hm; omega); omega
    have hown : ∀ i, plB P C FM FD i → ¬ M' i := by
      rw [hM']; rintro i hi (hm | hm)
      · exact hMo i hi hm
      · have := HH.out.lt i hi; omega
    have hseq := hgv M' (fun i hi => by have := hMlt i hi; have := HS.out.lo; have := HB1.out.size; omega) hown
    have hKlt : ∀ i, EaK W.heap.size B P C FM FD b3 Ds i → i < W2.heap.size := by
      rintro i (hi | rfl | rfl | rfl | hi)
      · exact HS2.out.pl.lt i hi
      · exact HS2.out.xB.lt
      · exact HS2.out.x2.lt
      · exact HS2.out.x3.lt
      · exact (Array.getElem?_eq_some_iff.1 (HS2.out.ds i hi).2).1
    have hKM : ∀ i, EaK W.heap.size B P C FM FD b3 Ds i → ¬ M' i := by
      rintro i (hi | rfl | rfl | rfl | hi) hm
      · exact hown i hi hm
      · rw [hM'] at hm
        rcases hm with hm | hm
        · exact hMB hm
        · have := HB.out.lt; omega
      · have := hMlt _ hm; omega
      · have := hMlt _ hm; omega
      · have := hMlt _ hm; have := (HS2.out.ds i hi).1; omega
    have hsp : ∀ pre (y : Int × Int) rest, T.kd (k : Int) ps = pre ++ y :: rest → ∃ r, ps = (T.upto ps (k : Int) ++ pre.map (fun y => ((((k : Int), y.1), y.2) : T.Pr))) ++ ((((k : Int), y.1), y.2) : T.Pr) :: r := fun pre y rest hf => by
      obtain ⟨r, hr⟩ := upto_part HH.out.ris ((k : Int) + 1) (17 - k)
      rw [show (k : Int) + 1 + ((17 - k : Nat) : Int) = 18 by omega, T.upto_all (fun x hx => by have := (kind_in HH.out hx).2; omega), T.upto_succ HH.out.ris, hf] at hr
      exact ⟨rest.map (fun y => ((((k : Int), y.1), y.2) : T.Pr)) ++ r, hr.trans (by simp)⟩
    have hYM : ∀ m pre x rest W1, ps = pre ++ x :: rest → J pre W1 → YieldAt Fence.wide m Tryz.prog ll (pEnc x) W1 fun e W' =>
        ((e = .returned (.bool true) ∧ J (pre ++ [x]) W') ∨ (e = .returned (.bool false) ∧ Jx (pre ++ [x]) W')) ∧ KeptBut M' W1 W' := by rw [hM']; exact hY
    have HKT : Hid (∀ i, EaK W.heap.size B P C FM FD b3 Ds i → ¬ L3.Pls W2 i) := Lib.hid (by
      rintro i (hi | rfl | rfl | rfl | hi)
      · exact HS2.out.pl.noPls hi
      · exact L3.Pls.not HS2.out.xB (by decide)
      · exact L3.Pls.not HS2.out.x2 (by decide)
      · exact L3.Pls.not HS2.out.x3 (by decide)
      · exact L3.Pls.notO (HS2.out.ds i hi).2 rfl)
    have HSp := Lib.hid hsp
    have HYM := Lib.hid hYM
    have HKl := Lib.hid hKlt
    have HKM := Lib.hid hKM
    have HMl := Lib.hid hMlt
    have HSe := Lib.hid hseq
    clear hY hgv hseq hsp hYM hKlt hKM hMlt hown hM' cB c2 c3 hb2
    go_wp2
    refine (wpIn_wide (n := n)).1 (wp_over (gf := fn) (lb := lb) rfl heg HSe.out (fun i hi => by have := HMl.out i hi; omega) (fun _ => rfl)
      (fun pre W1 => J (T.upto ps (k : Int) ++ pre.map (fun y => ((((k : Int), y.1), y.2) : T.Pr))) W1 ∧ L3.Lies (EaK W.heap.size B P C FM FD b3 Ds) W2 W1) (fun c pre W1 => (c = .ret ∧ ∃ q r, ps = q ++ r ∧ Jx q W1) ∧ L3.Lies (EaK W.heap.size B P C FM FD b3 Ds) W2 W1)
      (OwnFrom.and (fun pre A B' row hs hg hr => hJ _ A B' row hs hg (fun r e => ⟨by have := (hr r e).1; omega, (hr r e).2⟩)) (L3.lies_own HKl.out (Nat.le_refl _)))
      (fun c => OwnFrom.and (fun pre A B' row hs hg hr => by obtain ⟨e, q, r, h1, h2⟩ := hs; exact ⟨e, q, r, h1, hJx q A B' row h2 hg (fun r e => ⟨by have := (hr r e).1; omega, (hr r e).2⟩)⟩) (L3.lies_own HKl.out (Nat.le_refl _)))
      ⟨by simpa using HS2.out.j, fun _ _ => rfl⟩
      (fun y => { tmps := #[.func (.yield ll) #[] #[], .pointer (some ⟨B, 0, none⟩), .pointer (some ⟨W.heap.size, 0, none⟩), .pointer (some ⟨b3, 0, none⟩), .int .i64 y.1, .int .u32 y.2, .int .i64 (k : Int), .bool true, u8, u9, .pointer (some ⟨P, 0, none⟩), .int .i64 (k : Int), ofV P M D C k, .func (.func fn) #[] lb, .int .i64 y.1, .int .u32 y.2, u16, u17, u18, u19, u20, u21, u22, u23], defers := [] }) ?assign ?body ?done ?stop)
    case assign =>
      intro l3 mm x W1 K hK
      gi_wp2
      exact hK
    case body =>
      rintro l3 mm pre y rest W1 hf ⟨hJ1, hL1⟩
      have c2 := (boxed (HS2.out.x2.keep (hL1 _ (.inr (.inr (.inl rfl)))))).1
      have c3 := (boxed (HS2.out.x3.keep (hL1 _ (.inr (.inr (.inr (.inl rfl))))))).1
      obtain ⟨r, hr⟩ := HSp.out pre y rest hf
      obtain ⟨y1, y2⟩ := y
      obtain ⟨f0, t0, a0, b0, hy0, hR0⟩ := HYM.out 0 _ _ r W1 hr hJ1
      have HRa := Lib.hid (fun m' : Nat => (show RoundIn Fence.wide m' Tryz.prog ll f0 t0 a0 b0 W1 _ from ⟨hR0.1, fun c cs _ => hR0.2 c cs (room_wide _)⟩))
      have HRr := Lib.hid hr
      have HL1 := Lib.hid hL1
      clear hR0 hr hf hJ1 hL1
      gi_wp2
      refine ⟨fun hd => (by cases hd), (HRa.out _).mono ?_⟩
      rintro e W0 ⟨(⟨rfl, hj0⟩ | ⟨rfl, hx0⟩), hk0⟩
      · have HL0 : Hid (L3.Lies (EaK W.heap.size B P C FM FD b3 Ds) W2 W0) := fun i hi => (hk0.2 i (HL1.out.lt hi (HKl.out i hi)) (HKM.out i hi) (fun e => HKT.out i hi (e.eq (HL1.out i hi)))).trans (HL1.out i hi)
        gi_wp2
        exact ⟨hk0, by simpa using hj0, HL0.out⟩
      · have HL0 : Hid (L3.Lies (EaK W.heap.size B P C FM FD b3 Ds) W2 W0) := fun i hi => (hk0.2 i (HL1.out.lt hi (HKl.out i hi)) (HKM.out i hi) (fun e => HKT.out i hi (e.eq (HL1.out i hi)))).trans (HL1.out i hi)
        gi_wp2
        exact ⟨hk0, ⟨rfl, _, r, by rw [List.append_assoc]; exact HRr.out, hx0⟩, HL0.out⟩
    case done =>
      rintro D0 W1 hD0 ⟨hI, hL⟩ hK
      have c3 := (boxed (HS2.out.x3.keep (hL _ (.inr (.inr (.inr (.inl rfl))))))).1
      have HNx := Lib.hid (HS2.out.next hJ (by rw [T.upto_succ HH.out.ris]; exact hI) hL (by have := (Array.getElem?_eq_some_iff.1 hK).1; omega) hD0 hK)
      clear hI hL hK
      go_wp2
      refine ⟨18 - (k + 1), by omega, k + 1, W1.heap.size, _, _, _, _, _, _, _, _, _, _, _, _, _, _, _, _, _, _, _, _, D0 :: Ds, rfl, by omega, by omega, rfl, HNx.out⟩
    case stop =>
      rintro D0 c pre rest W1 hD0 hf ⟨⟨rfl, q, r, hq, hx⟩, hL⟩ hK
      have HX := Lib.hid hx
      have HQ := Lib.hid hq
      have HD : Hid ((D0 :: Ds).Nodup ∧ ∀ i ∈ D0 :: Ds, W.heap.size ≤ i ∧ W1.heap[i]? = some (.deferred (some []))) := by
        refine ⟨List.nodup_cons.2 ⟨fun e => ?_, HS2.out.nd⟩, fun i hi => ?_⟩
        · have := (Array.getElem?_eq_some_iff.1 (HS2.out.ds D0 e).2).1
          omega
        · rcases List.mem_cons.1 hi with rfl | hi
          · exact ⟨by omega, hK⟩
          · exact ⟨(HS2.out.ds i hi).1, (hL i (.inr (.inr (.inr (.inr hi))))).trans (HS2.out.ds i hi).2⟩
      clear hx hq hK hL hf
      refine wpIn_wide.2 ?_
      go_wp2
      exact leaves_marks (z := W.heap.size) (S := Jx q) rfl (fun _ A B' row hs hg hr => hJx q A B' row hs hg hr) (fun v W' hs => ⟨⟨_, rfl⟩, .inr ⟨q, r, HQ.out, hs⟩⟩) (D0 :: Ds) W1 HD.out.1 HD.out.2 HX.out
  · obtain rfl : k = 18 := by omega
    have e18 : T.upto ps ((18 : Nat) : Int) = ps := T.upto_all (fun x hx => by have := (kind_in HH.out hx).2; omega)
    have hj := HS.out.j
    rw [e18] at hj
    have HJ := Lib.hid hj
    clear hj e18
    go_wp2
    exact leaves_marks (z := W.heap.size) (S := J ps) rfl (fun _ A B' row hs hg hr => hJ ps A B' row hs hg hr) (fun v W' hs => ⟨⟨_, rfl⟩, .inl hs⟩) Ds wr HS.out.nd HS.out.ds HJ.out
end Go.Proofs.YtiohlmccnllklaaGreatDoor
namespace Go.Proofs.YtiohlmccnllklaaGreatDoor
open Go.RowKit Go.Shelf
attribute [local go_sem] Oper.semAt_some
set_option maxHeartbeats 8000000
set_option maxRecDepth 100000
set_option linter.unusedVariables false
set_option linter.unusedSimpArgs false

theorem each_any (P : Nat) (w : World) : Calls Tryz.prog 61 #[.pointer (some ⟨P, 0, none⟩)] w fun e w' => e = .returned (.func (.func 77) #[] #[.pointer (some ⟨w.heap.size, 0, none⟩)]) ∧ w' = w.alloc (.cells #[.pointer (some ⟨P, 0, none⟩)] 81) := by
  have hmf : ∀ (fn : Fn) (first cap : Array Value) (w : World), (Instr.makeFunc fn first cap).run Tryz.prog w = .ok (.func fn first cap) w := fun _ _ _ _ => rfl
  go_enter Tryz.func61, Tryz.ntmps61
  go_wp2
  go_ret
  exact ⟨rfl, rfl⟩
/-- What All gives: a function that hands on the pairs. -/
def AllP (w : World) (ps : List T.Pr) (v : Value) (w' : World) : Prop := ∃ fn lb, v = .func (.func fn) #[] lb ∧ (∀ args W, (callFunc fn args).run Tryz.prog W = .ok (.enter fn args) W) ∧ (∀ M : Nat → Prop, (∀ k, M k → k < w.heap.size) → ∀ W, Below w'.heap.size w' W → Gives Tryz.prog fn lb pEnc M ps W) ∧ Below w.heap.size w w'
theorem All_any {w : World} {S : Nat} {f : T.Fl} {F : Nat → Prop} (h : At w S f F) : Calls Tryz.prog 35 #[.pointer (some ⟨S, 0, none⟩)] w fun e w' => ∃ v, e = .returned v ∧ AllP w f.ps v w' := by
  obtain ⟨Tb, P, m, FT, M, D, C, FM, FD, rfl, hf⟩ := h
  have HNo := Lib.hid (none_some S Tb _ hf.s0)
  have HA := Lib.hid (anew_any hf.pl)
  have s1 := hf.s1
  clear hf
  go_enter Tryz.func35, Tryz.ntmps35
  go_wp2_with (first | (go_at_call 48; refine HNo.out.mono ?_; rintro e w' ⟨rfl, rfl⟩) | (go_at_call 60; refine HA.out.mono ?_; rintro e w1 ⟨P', M', D', C', FM', FD', rfl, hp, hpo, hpb⟩; have HP := Lib.hid hp; have HPo := Lib.hid hpo; have HPb := Lib.hid hpb; clear hp hpo hpb) | (go_at_call 61; refine (each_any _ _).mono ?_; rintro e w2 ⟨rfl, rfl⟩))
  go_ret
  have hb := bel1 w1 (.cells #[.pointer (some ⟨P', 0, none⟩)] 81)
  have hz := HPb.out.size
  refine ⟨_, rfl, ⟨_, _, rfl, enters_of Tryz.func77 (by kernel_rfl) rfl, fun Mm hM W hW => ?_, HPb.out.trans (hb.mono hz)⟩⟩
  refine each1_gives ((HP.out.below hb).below hW) ((blk_new w1 _ _).below hW) Mm (fun i hi => by have := hM i hi; have := hW.size; have := hb.size; omega) (fun e => by have := hM _ e; omega) (fun i hi e => by have := HPo.out i hi; have := hM i e; omega)
theorem AllNone_gives (w : World) (Mm : Nat → Prop) : Gives Tryz.prog 59 #[] pEnc Mm [] w := fun n ll J Jx W hW hJ hJx hY h0 => by
  refine callsIn_of_wp Tryz.func59 rfl trivial ?_ rfl
  simp only [Tryz.ntmps59, List.size_toArray, List.length_cons, List.length_nil, Nat.reduceAdd, Nat.reduceSub, Array.replicate_succ, Array.replicate_zero, List.push_toArray, List.append_toArray, List.nil_append, List.cons_append]
  gi_wp2
  go_end0
  exact ⟨⟨_, rfl⟩, .inl h0⟩
theorem All_none (p : Option Addr) (w : World) (hn : Calls Tryz.prog 48 #[.pointer p] w fun e w' => e = .returned (.bool true) ∧ w = w') : Calls Tryz.prog 35 #[.pointer p] w fun e w' => ∃ v, e = .returned v ∧ AllP w [] v w' := by
  have HNo := Lib.hid hn
  clear hn
  go_enter Tryz.func35, Tryz.ntmps35
  go_wp2_with (go_at_call 48; refine HNo.out.mono ?_; rintro e w' ⟨rfl, rfl⟩)
  go_ret
  exact ⟨_, rfl, _, _, rfl, enters_of Tryz.func59 (by kernel_rfl) rfl, fun Mm hM W hW => AllNone_gives W Mm, Below.refl _ _⟩
end Go.Proofs.YtiohlmccnllklaaGreatDoor
