/-
  A region that draws its order: reads ahead of ONE call, and behind it whatever there is, in each of its orders. No program.
-/
import Derived.Test.YtafnclkkncokpaaDoorRegion
import Derived.Test.YtafnclkkncokpaaDoorRound
namespace Go.Proofs.YtafnclkkncokpaaDoor
open Go.RowKit
section
variable {P : Program}
def callB2 (md : Region.Mode) (ops : Array Oper) (n : Nat) (tgt : Array Bool) (listed : Array Bool) : Bool :=
  decide (Region.ready md ops listed = [n]) && decide (listed = tgt)
def oneCallB2 (md : Region.Mode) (ops : Array Oper) (n : Nat) (tgt : Array Bool) : Bool :=
  Region.noSelect ops && decide (n < ops.size) && Region.sinkB md ops n && rootedB md ops n && headB md ops (callB2 md ops n tgt) n 0 (Array.replicate ops.size false)
/-- What is asked behind the call: each order of what is left. -/
def RestAny (P : Program) (ops : Array Oper) (Q : Exit → Act → World → Prop) (fuel : Nat) (listed : Array Bool) : Exit → Act → World → Prop
  | .normal, a, w => wpAny P .any ops Q fuel listed a w
  | e, a, w => Q e a w
theorem wp_region_call_rest {id : Nat} {Q : Exit → Act → World → Prop} {a : Act} {w : World} {l : List Oper} {o : Oper} (n : Nat) (tgt : Array Bool) (hm : P.follows .mixedOrders = true) (ho : l[n]? = some o) (hB : oneCallB2 .any l.toArray n tgt = true)
    (h : wpStill P l.toArray w.drew (fun a' => wpList P l.toArray (RestAny P l.toArray Q (l.length - (n + 1)) (tgt.setIfInBounds n true)) [o] a' w.drew) (l.take n) a) : (Code.region id l.toArray true).wp P Q a w := by
  simp only [oneCallB2, Bool.and_eq_true, decide_eq_true_eq] at hB
  obtain ⟨⟨⟨⟨hsel, hn⟩, hs⟩, hr⟩, hh⟩ := hB
  have hn' : n < l.length := by simpa using hn
  have htl : (l.take n).length = n := by simp; omega
  have inv0 : HeadInv .any l.toArray n (Array.replicate l.toArray.size false) :=
    ⟨by simp, fun j oj _ hl => (by rw [getD_replicate_false] at hl; cases hl), fun t _ ht => getD_in (by simpa using ht) (getD_replicate_false _ _)⟩
  have hT : ∀ listed, callB2 .any l.toArray n tgt listed = true → ∀ j ∈ Region.ready .any l.toArray listed, n ≤ j := fun listed hb j hj => by
    simp only [callB2, Bool.and_eq_true, decide_eq_true_eq] at hb
    rw [hb.1] at hj
    have : j = n := by simpa using hj
    omega
  have H := head_lex (md := .any) hsel (headFirst hs hr hn) hT (l.take n) 0 _ a (fun j hj => by
    have hj' : j < n := by rw [htl] at hj; exact hj
    simp [hj']) (by simpa using htl) inv0 (by rw [htl]; exact hh) h
  refine wp_region_any hm ?_
  have := wpAny_of_head (Q' := Q) (g := l.length - n) (fun lst a' hL => ?_) _ _ _ H
  · rw [htl, show n + (l.length - n) = l.toArray.size by simp; omega] at this
    exact this
  · obtain ⟨hb, hL⟩ := hL
    simp only [callB2, Bool.and_eq_true, decide_eq_true_eq] at hb
    obtain ⟨hrd, hlst⟩ := hb
    subst hlst
    rw [show l.length - n = (l.length - (n + 1)) + 1 by omega]
    refine ⟨fun h0 => (by rw [hrd] at h0; cases h0), fun i hi => ?_⟩
    rw [hrd] at hi
    obtain rfl : i = n := by simpa using hi
    have ho' : l.toArray[i]? = some o := by simpa using ho
    have hw : wpOp P l.toArray (RestAny P l.toArray Q (l.length - (i + 1)) (lst.setIfInBounds i true)) i (wpList P l.toArray (RestAny P l.toArray Q (l.length - (i + 1)) (lst.setIfInBounds i true)) []) a' w.drew := by
      unfold wpOp; simp only [ho']; exact hL
    have hw2 : wpOp P l.toArray Q i (wpList P l.toArray (RestAny P l.toArray Q (l.length - (i + 1)) (lst.setIfInBounds i true)) []) a' w.drew := by
      revert hw
      unfold wpOp
      simp only [ho']
      intro hw
      exact hw
    exact wpOp_mono (fun a2 w2 h2 => h2) hw2
end
end Go.Proofs.YtafnclkkncokpaaDoor
