/-
  Layer 5: drawn regions: what holds at each world of one; an operation taken first; the condition made stronger behind a call.
-/
import Derived.Test.YthcipnmcmcihgaaLaws1
import Derived.Deep.RegionHeld
namespace Go.Proofs.Ythcipnmcmcihgaa
open Go.RowKit
set_option linter.unusedVariables false

/-- An operation of a drawn region is taken first, its slot named. -/
theorem take_d {P : Program} {md : Region.Mode} {ops : Array Oper} {Q : Exit → Act → World → Prop} {S : World → Prop} {i : Nat} {oi : Oper} {d : Option Tmp} {v : Value} {fuel : Nat} {listed : Array Bool} {a : Act} {w : World} (hi : ops[i]? = some oi) (hd : oi.dst = d)
    (hs : Region.noSelect ops = true) (hf : Region.free md ops listed i = true) (hr : (Region.ready md ops listed).contains i = true)
    (hQ : ∀ c a w, Q (.panic c) (a.put oi.dst v) w → Q (.panic c) a w) (hy : YieldsIf P ops S oi v a) (hS : S w)
    (h : wpAnyH P md ops Q S fuel (listed.setIfInBounds i true) (a.put d v) w) : wpAnyH P md ops Q S (fuel + 1) listed a w := by
  subst hd
  exact wpAnyH_take hi hs hf hr hQ hy hS h
/-- From here on more holds at each world. -/
theorem anyH_more {P : Program} {md : Region.Mode} {ops : Array Oper} {Q : Exit → Act → World → Prop} {S S' : World → Prop} (hm : ∀ w, S' w → S w) : ∀ (fuel : Nat) (listed : Array Bool) (a : Act) (w : World), wpAnyH P md ops Q S' fuel listed a w → wpAnyH P md ops Q S fuel listed a w
  | 0, _, _, _, h => h
  | fuel + 1, _, _, _, h => ⟨h.1, fun i hi => wpOp_mono (fun a' w' h' => ⟨hm _ h'.1, anyH_more hm fuel _ a' w' h'.2⟩) (h.2 i hi)⟩

/-- Slices that read so. -/
def Reads (L : List (Value × List Int)) (W : World) : Prop := ∀ p ∈ L, NumsIn .u8 W p.1 p.2
theorem Reads.below {L : List (Value × List Int)} {W W' : World} (h : Reads L W) (hb : Below W.heap.size W W') : Reads L W' := fun p hp => (h p hp).below hb
theorem Reads.nil (W : World) : Reads [] W := fun p hp => by cases hp
theorem Reads.cons {L : List (Value × List Int)} {W : World} (h : Reads L W) {v : Value} {l : List Int} (hn : NumsIn .u8 W v l) : Reads ((v, l) :: L) W := fun p hp => by
  rcases List.mem_cons.1 hp with rfl | hp
  · exact hn
  · exact h p hp
theorem Reads.tail {L : List (Value × List Int)} {W : World} {p : Value × List Int} (h : Reads (p :: L) W) : Reads L W := fun q hq => h q (List.mem_cons_of_mem _ hq)
theorem Reads.conv {L : List (Value × List Int)} {W : World} (h : Reads L W) (v : Value) (l : List Int) (hm : (v, l) ∈ L) : (convert 22 9 v).run Try.prog W = .ok (.string (strOfNums l)) W := str_conv (h (v, l) hm)
/-- What holds at each world of the last regions: what was, the frames, the slices made since. -/
structure Held (w : World) (o : Obj) (l : List Int) (g c : Nat) (w1 : World) (S : Nat) (l' : List Int) (L : List (Value × List Int)) (W : World) : Prop where
  was : Was w o l g c W
  at_ : At w1 S l' W
  reads : Reads L W
section
variable {w : World} {o : Obj} {l : List Int} {g c : Nat} {w1 : World} {S : Nat} {l' : List Int} {L : List (Value × List Int)} {W W' : World}
theorem Held.after (h : Held w o l g c w1 S l' L W) (hb : Below W.heap.size W W') : Held w o l g c w1 S l' L W' := ⟨h.was.kept hb, h.at_.below hb, h.reads.below hb⟩
theorem Held.cons (h : Held w o l g c w1 S l' L W) {v : Value} {x : List Int} (hn : NumsIn .u8 W v x) : Held w o l g c w1 S l' ((v, x) :: L) W := ⟨h.was, h.at_, h.reads.cons hn⟩
theorem Held.tail {p : Value × List Int} (h : Held w o l g c w1 S l' (p :: L) W) : Held w o l g c w1 S l' L W := ⟨h.was, h.at_, h.reads.tail⟩
theorem Held.drew (h : Held w o l g c w1 S l' L W) : Held w o l g c w1 S l' L W.drew := h.after (Below.refl _ _).drew
theorem anyH_held {P : Program} {md : Region.Mode} {ops : Array Oper} {Q : Exit → Act → World → Prop} {p : Value × List Int} {w0 : World} (_h : Held w o l g c w1 S l' (p :: L) w0) {fuel : Nat} {listed : Array Bool} {a : Act}
    (h : wpAnyH P md ops Q (Held w o l g c w1 S l' (p :: L)) fuel listed a W) : wpAnyH P md ops Q (Held w o l g c w1 S l' L) fuel listed a W := anyH_more (fun _ h => h.tail) _ _ _ _ h
end
end Go.Proofs.Ythcipnmcmcihgaa
