/-
  A region that draws its order, whose operations read until ONE call that may write, and only hand its answer on behind it. One walk: the reads in the order of the text, the call, the rest. No program.
-/
import Derived.WalkKit
import Derived.Test.YtafkjokbidkkhaaTab
import Derived.StillTailTactics
import Derived.StillTail
import Derived.StillTactics
import Derived.Deep.Quiet
import Derived.Deep.QuietTactic
import Derived.BigQuiet
namespace Go.Proofs.Ytafkjokbidkkhaa
open Go.RowKit

/-- Whatever stands behind number n waits for something from n on that stands ahead of it. -/
def rootedB (md : Region.Mode) (ops : Array Oper) (n : Nat) : Bool :=
  (List.range ops.size).all fun t => decide (t ≤ n) || (List.range t).any fun s => decide (n ≤ s) && Region.waitsFor md ops t s

section
variable {P : Program} {ops : Array Oper} {md : Region.Mode} {w : World}

/-- While the head is not through, nothing from n on comes up. -/
def HeadFirst (md : Region.Mode) (ops : Array Oper) (n : Nat) : Prop :=
  ∀ listed, HeadInv md ops n listed → ∀ i, i < n → listed.getD i true = false → ∀ t, n ≤ t → t ∉ Region.ready md ops listed

theorem headFirst {n : Nat} (hs : Region.sinkB md ops n = true) (hr : rootedB md ops n = true) (hn : n < ops.size) : HeadFirst md ops n := by
  intro listed inv
  have main : ∀ (d i : Nat), n - i = d → i < n → listed.getD i true = false → n ∉ Region.ready md ops listed := by
    intro d
    induction d using Nat.strongRecOn with
    | _ d ih =>
      intro i hd hi hun hrd
      obtain ⟨_, on, hon, hall⟩ := mem_ready.1 hrd
      obtain ⟨j, hj, hj2⟩ := List.any_eq_true.1 (List.all_eq_true.1 hs i (List.mem_range.2 hi))
      simp only [Bool.and_eq_true, decide_eq_true_eq] at hj2
      have hjn : j < n + 1 := List.mem_range.1 hj
      obtain ⟨oj, hoj, e, he, hb, heq⟩ := Region.waitsFor_spec hj2.2
      have hno : ∀ o, ops[j]? = some o → j = n → False := fun o ho hjn' => by
        subst hjn'
        have : oj = on := Option.some.inj (hoj.symm.trans hon)
        subst this
        have h2 := hall e he hb
        rw [heq, getD_both hun] at h2
        cases h2
      rcases Nat.lt_or_ge j n with hlt | hge
      · cases hl : listed.getD j false with
        | true =>
          have h2 := inv.closed j oj hoj hl e he hb
          rw [heq, getD_both hun] at h2
          cases h2
        | false => exact ih (n - j) (by omega) j rfl hlt (getD_in (by rw [inv.size]; omega) hl) hrd
      · exact hno oj hoj (by omega)
  intro i hi hun t ht hrd
  by_cases htn : t = n
  · subst htn; exact main _ i rfl hi hun hrd
  · obtain ⟨_, ot, hot, hall⟩ := mem_ready.1 hrd
    have htlt : t < ops.size := (Array.getElem?_eq_some_iff.1 hot).1
    have h1 := List.all_eq_true.1 hr t (List.mem_range.2 htlt)
    simp only [Bool.or_eq_true, decide_eq_true_eq] at h1
    rcases h1 with h1 | h1
    · omega
    · obtain ⟨s, hs1, hs2⟩ := List.any_eq_true.1 h1
      simp only [Bool.and_eq_true, decide_eq_true_eq] at hs2
      obtain ⟨o', ho', e, he, hb, heq⟩ := Region.waitsFor_spec hs2.2
      have : o' = ot := Option.some.inj (ho'.symm.trans hot)
      subst this
      have hst : s < t := List.mem_range.1 hs1
      have h2 := hall e he hb
      rw [heq, getD_both (inv.tail s hs2.1 (by omega))] at h2
      cases h2

/-- In the head an operation that comes up and yields may be taken first. -/
theorem head_take {n i : Nat} {oi : Oper} {v : Value} {L : Array Bool → Act → Prop} (hi : ops[i]? = some oi) (hsel : ∀ (j : Nat) (o : Oper) cs b, ops[j]? = some o → o.op ≠ .select cs b)
    (hf : HeadFirst md ops n) (hin : i < n) (hdone : ∀ listed a, L listed a → ∀ j ∈ Region.ready md ops listed, n ≤ j) :
    ∀ (f : Nat) (listed : Array Bool) (a : Act), HeadInv md ops n listed →
      (∀ j oj, ops[j]? = some oj → j ≠ i → listed.getD j true = false → (∀ e ∈ oj.after, Region.binds md e = true → e.on ≠ i) → oi.apart ops oj = true) →
      i ∈ Region.ready md ops listed → YieldsAt P ops w oi v a →
      wpAnyL P md ops w n L f (listed.setIfInBounds i true) (a.put oi.dst v) → wpAnyL P md ops w n L (f + 1) listed a
  | f, listed, a, inv, hfree, hr, hy, H => by
    have hun := (mem_ready.1 hr).1
    have low : ∀ j ∈ Region.ready md ops listed, j < n := fun j hj => by
      rcases Nat.lt_or_ge j n with h | h
      · exact h
      · exact absurd hj (hf listed inv i hin hun j h)
    refine ⟨fun h => (by rw [h] at hr; cases hr), fun j hj => ⟨low j hj, ?_⟩⟩
    by_cases hji : j = i
    · subst hji; exact hy.stOp hi H
    · cases f with
      | zero =>
        have := hdone _ _ H j (ready_mono hj hji)
        have := low j hj
        omega
      | succ f =>
        obtain ⟨hjun, oj, hoj, hall⟩ := mem_ready.1 hj
        have hnot : ∀ e ∈ oj.after, Region.binds md e = true → e.on ≠ i := fun e he hb heq => by
          have h1 := hall e he hb
          rw [heq, getD_both hun] at h1
          cases h1
        have h2 := stOp_put hoj (hfree j oj hoj hji hjun hnot) (fun cs b => hsel i oi cs b hi) (fun cs b => hsel j oj cs b hoj) hy (H.2 j (ready_mono hj hji)).2
        refine stOp_mono (fun a' h3 => head_take hi hsel hf hin hdone f (listed.setIfInBounds j true) a' (inv.set hj (low j hj)) (fun k ok hk hki hkun hno => ?_) (ready_mono hr (Ne.symm hji)) h3.1 ?_) h2
        · refine hfree k ok hk hki ?_ hno
          by_cases hjk : j = k
          · subst hjk; exact hjun
          · rw [getD_set_ne true hjk] at hkun; exact hkun
        · rw [Array.setIfInBounds_comm _ _ hji]; exact h3.2

/-- The head, in the order of the text; T: what is said of those that are through. -/
def headB (md : Region.Mode) (ops : Array Oper) (T : Array Bool → Bool) : Nat → Nat → Array Bool → Bool
  | 0, _, listed => T listed
  | f + 1, k, listed => (Region.ready md ops listed).contains k && Region.free md ops listed k && headB md ops T f (k + 1) (listed.setIfInBounds k true)

theorem head_lex {n : Nat} {T : Array Bool → Bool} {Lq : Act → Prop} (hsel : Region.noSelect ops = true) (hf : HeadFirst md ops n) (hT : ∀ listed, T listed = true → ∀ j ∈ Region.ready md ops listed, n ≤ j) :
    ∀ (l : List Oper) (k : Nat) (listed : Array Bool) (a : Act), (∀ j, j < l.length → l[j]? = ops[k + j]?) → k + l.length = n → HeadInv md ops n listed →
    headB md ops T l.length k listed = true → wpStill P ops w Lq l a →
    wpAnyL P md ops w n (fun listed' a' => T listed' = true ∧ Lq a') l.length listed a
  | [], k, listed, a, _, _, _, hB, h => ⟨hB, h⟩
  | o :: l, k, listed, a, hl, hk, inv, hB, h => by
    have h0 : ops[k]? = some o := by simpa using (hl 0 (by simp)).symm
    simp only [List.length_cons, headB, Bool.and_eq_true] at hB
    obtain ⟨⟨hr, hfr⟩, hB'⟩ := hB
    have hkn : k < n := by simp only [List.length_cons] at hk; omega
    have hr' : k ∈ Region.ready md ops listed := by simpa using hr
    have hst : stOp P ops w k (wpStill P ops w Lq l) a := by unfold stOp; simp only [h0]; exact h
    obtain ⟨v, hy, hK⟩ := yieldsAt_of_stOp h0 hst
    exact head_take h0 (Region.noSelect_spec hsel) hf hkn (fun listed' a' hL => hT _ hL.1) l.length listed a inv (Region.free_spec h0 hfr) hr' hy
      (head_lex hsel hf hT l (k + 1) _ _ (fun j hj => by have := hl (j + 1) (by simp; omega); simpa [Nat.add_assoc, Nat.add_comm 1 j] using this) (by simp only [List.length_cons] at hk; omega) (inv.set hr' hkn) hB' hK)

/-- Number n alone comes up; behind it the rest may go in the order of the text. -/
def callB (md : Region.Mode) (ops : Array Oper) (n : Nat) (listed : Array Bool) : Bool :=
  decide (Region.ready md ops listed = [n]) && Region.lexFrom md ops (ops.size - (n + 1)) (n + 1) (listed.setIfInBounds n true)
/-- The closed question to the region. -/
def oneCallB (md : Region.Mode) (ops : Array Oper) (n : Nat) : Bool :=
  Region.noSelect ops && decide (n < ops.size) && Region.sinkB md ops n && rootedB md ops n && headB md ops (callB md ops n) n 0 (Array.replicate ops.size false)

/-- What is asked behind the call: the rest, in whatever world the call has left, each operation handing on. -/
def Rest (P : Program) (ops : Array Oper) (Q : Exit → Act → World → Prop) (l : List Oper) : Exit → Act → World → Prop
  | .normal, a, w => wpQuiet P ops (fun w' => ∃ n, w' = w.drewN n) (fun a' => ∀ w', (∃ n, w' = w.drewN n) → Q .normal a' w') l a
  | e, a, w => Q e a w

theorem wp_region_one_call {id : Nat} {Q : Exit → Act → World → Prop} {a : Act} {w : World} {l : List Oper} {o : Oper} (n : Nat) (hm : P.follows .mixedOrders = true) (ho : l[n]? = some o) (hB : oneCallB .any l.toArray n = true)
    (h : wpStill P l.toArray w.drew (fun a' => wpList P l.toArray (Rest P l.toArray Q (l.drop (n + 1))) [o] a' w.drew) (l.take n) a) : (Code.region id l.toArray true).wp P Q a w := by
  simp only [oneCallB, Bool.and_eq_true, decide_eq_true_eq] at hB
  obtain ⟨⟨⟨⟨hsel, hn⟩, hs⟩, hr⟩, hh⟩ := hB
  have hn' : n < l.length := by simpa using hn
  have htl : (l.take n).length = n := by simp; omega
  have inv0 : HeadInv .any l.toArray n (Array.replicate l.toArray.size false) :=
    ⟨by simp, fun j oj _ hl => (by rw [getD_replicate_false] at hl; cases hl), fun t _ ht => getD_in (by simpa using ht) (getD_replicate_false _ _)⟩
  have hT : ∀ listed, callB .any l.toArray n listed = true → ∀ j ∈ Region.ready .any l.toArray listed, n ≤ j := fun listed hb j hj => by
    simp only [callB, Bool.and_eq_true, decide_eq_true_eq] at hb
    rw [hb.1] at hj
    have : j = n := by simpa using hj
    omega
  have H := head_lex (md := .any) hsel (headFirst hs hr hn) hT (l.take n) 0 _ a (fun j hj => by
    have hj' : j < n := by rw [htl] at hj; exact hj
    simp [hj']) (by simpa using htl) inv0 (by rw [htl]; exact hh) h
  refine wp_region_any hm ?_
  have := wpAny_of_head (Q' := Q) (g := l.length - n) (fun lst a' hL => ?_) _ _ _ H
  · rw [htl, show n + (l.length - n) = l.toArray.size by simp; omega] at this
    exact this
  · obtain ⟨hb, hL⟩ := hL
    simp only [callB, Bool.and_eq_true, decide_eq_true_eq] at hb
    obtain ⟨hrd, hlx⟩ := hb
    rw [show l.length - n = (l.length - (n + 1)) + 1 by omega]
    refine ⟨fun h0 => (by rw [hrd] at h0; cases h0), fun i hi => ?_⟩
    rw [hrd] at hi
    obtain rfl : i = n := by simpa using hi
    have ho' : l.toArray[i]? = some o := by simpa using ho
    have hw : wpOp P l.toArray (Rest P l.toArray Q (l.drop (i + 1))) i (wpList P l.toArray (Rest P l.toArray Q (l.drop (i + 1))) []) a' w.drew := by
      unfold wpOp; simp only [ho']; exact hL
    have hw2 : wpOp P l.toArray Q i (wpList P l.toArray (Rest P l.toArray Q (l.drop (i + 1))) []) a' w.drew := by
      revert hw
      unfold wpOp
      simp only [ho']
      intro hw
      exact hw
    refine wpOp_mono (fun a2 w2 h2 => ?_) hw2
    have h3 : wpQuiet P l.toArray (fun w' => ∃ n, w' = w2.drewN n) (fun a' => ∀ w', (∃ n, w' = w2.drewN n) → Q .normal a' w') (l.drop (i + 1)) a2 := h2
    have hdl : (l.drop (i + 1)).length = l.toArray.size - (i + 1) := by simp
    have h4 := wpAnyQ_lex (md := .any) hsel (l.drop (i + 1)) (i + 1) (lst.setIfInBounds i true) a2 (fun j => by simp [List.getElem?_drop]) (by rw [hdl]; exact hlx) h3
    rw [hdl] at h4
    have h5 := wpAny_of_quiet (Q' := Q) (Q := fun a' => ∀ w', (∃ n, w' = w2.drewN n) → Q .normal a' w') (fun _ w' hw' h => h w' hw') _ _ _ w2 ⟨0, rfl⟩ h4
    simpa using h5
end
section
variable {P : Program}
def callB2 (md : Region.Mode) (ops : Array Oper) (n : Nat) (tgt : Array Bool) (listed : Array Bool) : Bool :=
  decide (Region.ready md ops listed = [n]) && decide (listed = tgt)
def oneCallB2 (md : Region.Mode) (ops : Array Oper) (n : Nat) (tgt : Array Bool) : Bool :=
  Region.noSelect ops && decide (n < ops.size) && Region.sinkB md ops n && rootedB md ops n && headB md ops (callB2 md ops n tgt) n 0 (Array.replicate ops.size false)
/-- What is asked behind the call: each order of what is left. -/
def RestAny (P : Program) (ops : Array Oper) (Q : Exit → Act → World → Prop) (fuel : Nat) (listed : Array Bool) : Exit → Act → World → Prop
  | .normal, a, w => wpAny P .any ops Q fuel listed a w
  | e, a, w => Q e a w
theorem wp_region_call_rest {id : Nat} {Q : Exit → Act → World → Prop} {a : Act} {w : World} {l : List Oper} {o : Oper} (n : Nat) (tgt : Array Bool) (hm : P.follows .mixedOrders = true) (ho : l[n]? = some o) (hB : oneCallB2 .any l.toArray n tgt = true)
    (h : wpStill P l.toArray w.drew (fun a' => wpList P l.toArray (RestAny P l.toArray Q (l.length - (n + 1)) (tgt.setIfInBounds n true)) [o] a' w.drew) (l.take n) a) : (Code.region id l.toArray true).wp P Q a w := by
  simp only [oneCallB2, Bool.and_eq_true, decide_eq_true_eq] at hB
  obtain ⟨⟨⟨⟨hsel, hn⟩, hs⟩, hr⟩, hh⟩ := hB
  have hn' : n < l.length := by simpa using hn
  have htl : (l.take n).length = n := by simp; omega
  have inv0 : HeadInv .any l.toArray n (Array.replicate l.toArray.size false) :=
    ⟨by simp, fun j oj _ hl => (by rw [getD_replicate_false] at hl; cases hl), fun t _ ht => getD_in (by simpa using ht) (getD_replicate_false _ _)⟩
  have hT : ∀ listed, callB2 .any l.toArray n tgt listed = true → ∀ j ∈ Region.ready .any l.toArray listed, n ≤ j := fun listed hb j hj => by
    simp only [callB2, Bool.and_eq_true, decide_eq_true_eq] at hb
    rw [hb.1] at hj
    have : j = n := by simpa using hj
    omega
  have H := head_lex (md := .any) hsel (headFirst hs hr hn) hT (l.take n) 0 _ a (fun j hj => by
    have hj' : j < n := by rw [htl] at hj; exact hj
    simp [hj']) (by simpa using htl) inv0 (by rw [htl]; exact hh) h
  refine wp_region_any hm ?_
  have := wpAny_of_head (Q' := Q) (g := l.length - n) (fun lst a' hL => ?_) _ _ _ H
  · rw [htl, show n + (l.length - n) = l.toArray.size by simp; omega] at this
    exact this
  · obtain ⟨hb, hL⟩ := hL
    simp only [callB2, Bool.and_eq_true, decide_eq_true_eq] at hb
    obtain ⟨hrd, hlst⟩ := hb
    subst hlst
    rw [show l.length - n = (l.length - (n + 1)) + 1 by omega]
    refine ⟨fun h0 => (by rw [hrd] at h0; cases h0), fun i hi => ?_⟩
    rw [hrd] at hi
    obtain rfl : i = n := by simpa using hi
    have ho' : l.toArray[i]? = some o := by simpa using ho
    have hw : wpOp P l.toArray (RestAny P l.toArray Q (l.length - (i + 1)) (lst.setIfInBounds i true)) i (wpList P l.toArray (RestAny P l.toArray Q (l.length - (i + 1)) (lst.setIfInBounds i true)) []) a' w.drew := by
      unfold wpOp; simp only [ho']; exact hL
    have hw2 : wpOp P l.toArray Q i (wpList P l.toArray (RestAny P l.toArray Q (l.length - (i + 1)) (lst.setIfInBounds i true)) []) a' w.drew := by
      revert hw
      unfold wpOp
      simp only [ho']
      intro hw
      exact hw
    exact wpOp_mono (fun a2 w2 h2 => h2) hw2
end
/-! ### the document's table read whole in such a head; an entry -/
section
variable {ops : Array Oper} {rest : List Oper} {a : Act} {w : World} {Q : Act → Prop} {d : Option Tmp} {x : Operand} {ty : TypeId} {pos : String} {af : Array Edge}
theorem st_load_R {R : Nat} {t : Tl} (hr : Rf w R t) (hx : a.eval x = .pointer (some ⟨R, 0, none⟩)) (h : wpStill Try.prog ops w Q rest (a.put d (.agg (rc t)))) :
    wpStill Try.prog ops w Q ({ dst := d, op := .load 30 x, type := ty, pos := pos, after := af, guard := none } :: rest) a := by
  refine wpStill_step fun K hK => ?_
  rw [if_pos (by rfl)]
  unfold Oper.still execOp
  simp only [hx, Instr.loadAt, Instr.sureAddr, Sem.run_bind, Sem.run_pure, Result.andThen_ok, run_loadVar_row w R 30 30 (rc t) (0, 0) _ hr Try.underlying30 rfl infoR]
  rw [Oper.stillUpon_value]
  exact hK _ h
theorem st_load_E {b o : Nat} {e : Ent} (hr : w.rangeAt b o (cE e)) (hx : a.eval x = .pointer (some ⟨b, o, none⟩)) (h : wpStill Try.prog ops w Q rest (a.put d (.agg #[.bool e.th, .int .u32 e.pg, .int .u32 e.fr, .bool e.wr]))) :
    wpStill Try.prog ops w Q ({ dst := d, op := .load 27 x, type := ty, pos := pos, after := af, guard := none } :: rest) a := by
  refine wpStill_step fun K hK => ?_
  rw [if_pos (by rfl)]
  unfold Oper.still execOp
  simp only [hx, Instr.loadAt, Instr.sureAddr, Sem.run_bind, Sem.run_pure, Result.andThen_ok, run_loadVar_mid w b o 27 (cE e) _ hr Try.underlying27 rfl infoE]
  rw [Oper.stillUpon_value]
  exact hK _ h
end
theorem wp_tail {P : Program} {id : Nat} {Q : Exit → Act → World → Prop} {a : Act} {w : World} {l : List Oper} (n : Nat) (hm : P.follows .mixedOrders = true) (hB : Region.lexTailB .any l.toArray n = true)
    (h : wpStill P l.toArray w.drew (fun a' => wpList P l.toArray Q (l.drop n) a' w.drew) (l.take n) a) : (Code.region id l.toArray true).wp P Q a w := wp_region_still_tail n hm hB h
end Go.Proofs.Ytafkjokbidkkhaa
