/-
  Layer 6: drawn regions: an operation taken first; the condition made stronger; loads of tables and entries in one.
-/
import Derived.Test.YtafkjokbidkkhaaMake
import Derived.Deep.RegionHeld3
namespace Go.Proofs.Ytafkjokbidkkhaa
open Go.RowKit
set_option linter.unusedVariables false

/-- An operation of a drawn region is taken first, its slot named. -/
theorem take_d {P : Program} {md : Region.Mode} {ops : Array Oper} {Q : Exit → Act → World → Prop} {S : World → Prop} {i : Nat} {oi : Oper} {d : Option Tmp} {v : Value} {fuel : Nat} {listed : Array Bool} {a : Act} {w : World} (hi : ops[i]? = some oi) (hd : oi.dst = d)
    (hs : Region.noSelect ops = true) (hf : Region.free md ops listed i = true) (hr : (Region.ready md ops listed).contains i = true)
    (hQ : ∀ c a w, Q (.panic c) (a.put oi.dst v) w → Q (.panic c) a w) (hy : YieldsIf P ops S oi v a) (hS : S w)
    (h : wpAnyH P md ops Q S fuel (listed.setIfInBounds i true) (a.put d v) w) : wpAnyH P md ops Q S (fuel + 1) listed a w := by
  subst hd
  exact wpAnyH_take hi hs hf hr hQ hy hS h
/-- From here on more holds at each world. -/
theorem anyH_more {P : Program} {md : Region.Mode} {ops : Array Oper} {Q : Exit → Act → World → Prop} {S S' : World → Prop} (hm : ∀ w, S' w → S w) : ∀ (fuel : Nat) (listed : Array Bool) (a : Act) (w : World), wpAnyH P md ops Q S' fuel listed a w → wpAnyH P md ops Q S fuel listed a w
  | 0, _, _, _, h => h
  | fuel + 1, _, _, _, h => ⟨h.1, fun i hi => wpOp_mono (fun a' w' h' => ⟨hm _ h'.1, anyH_more hm fuel _ a' w' h'.2⟩) (h.2 i hi)⟩
section
variable {ops : Array Oper} {S : World → Prop} {op : Oper} {a : Act} {x : Operand}
theorem y_R {R : Nat} {t : Tl} (hw : Region.wanted op (yielded ops a.tmps) = true) (ho : op.op = .load 30 x) (hx : a.eval x = .pointer (some ⟨R, 0, none⟩)) (hS : ∀ W, S W → Rf W R t) : YieldsIf Try.prog ops S op (.agg (rc t)) a :=
  yieldsIf_load_mid hw 30 x ho R 0 hx (rc t).toList _ (fun W hW => Blk.range (hS W hW) 0 _ (List.take_of_length_le (by simp))) Try.underlying30 rfl infoR
theorem y_Es {b o : Nat} {t : Tl} (hw : Region.wanted op (yielded ops a.tmps) = true) (ho : op.op = .load 28 x) (hx : a.eval x = .pointer (some ⟨b, o, none⟩)) (hS : ∀ W, S W → W.rangeAt b o (es t)) : YieldsIf Try.prog ops S op (.agg (es t).toArray) a :=
  yieldsIf_load_mid hw 28 x ho b o hx (es t) _ hS Try.underlying28 rfl infoEs
theorem y_E {b o : Nat} {e : Ent} (hw : Region.wanted op (yielded ops a.tmps) = true) (ho : op.op = .load 27 x) (hx : a.eval x = .pointer (some ⟨b, o, none⟩)) (hS : ∀ W, S W → W.rangeAt b o (cE e)) : YieldsIf Try.prog ops S op (.agg #[.bool e.th, .int .u32 e.pg, .int .u32 e.fr, .bool e.wr]) a :=
  yieldsIf_load_mid hw 27 x ho b o hx (cE e) _ hS Try.underlying27 rfl infoE
end
/-- A whole table is stored, at the operation. -/
theorem o_store_R {op : Oper} {a : Act} {w : World} {K : Act → World → Prop} {Q : Exit → Act → World → Prop} {x y : Operand} {R : Nat} {t' : Tl} (t : Tl) (hr : Rf w R t') (ho : op.op = .store 30 x y) (hx : a.eval x = .pointer (some ⟨R, 0, none⟩)) (hy : a.eval y = .agg (rc t))
    (h : K (a.put op.dst undef) (w.setRow R (rc t))) : op.wp Try.prog a w K Q := by
  unfold Oper.wp execOp
  simp only [ho, hx, hy, Instr.storeAt, Instr.sureAddr, Sem.run_bind, Sem.run_pure, Result.andThen_ok, run_storeVar_row w R 30 30 (rc t') (rc t) hr infoR rfl (one_rc t)]
  exact h
end Go.Proofs.Ytafkjokbidkkhaa
