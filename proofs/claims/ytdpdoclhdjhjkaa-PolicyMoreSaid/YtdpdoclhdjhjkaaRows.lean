/-
  No cell of these rows narrows 'for every input' (looked for: loops, veiled, ifaces, maps, wideKeys, modest, calm, conditions, laid).
  DERIVED. THE GIVEN ROWS OF THIS SEAT. 3 by the template 'for every input the law returns true; each argument reads behind the call as it read before'; 0 by the template 'total and deterministic' (their statements: YtdpdoclhdjhjkaaTotals.lean).
  GIVEN WITH THE SEED: the statements are not yours to turn. If you find one false, say at which input.
  Laid BY PROGRAM, IN A SANDBOX (cutbox-rows.mjs): the forced cells as the released guide's own fill.sh prints them over the translation 1717f7ed946b49d8… (all of the seat's roots in one cut). By AI agents, Wed Nov 11 2026. No macro, syntax, notation, axiom, sorry.
-/
import Derived.Test.YtdpdoclhdjhjkaaChecked
import GoSem.Claim
import GoSem.ClaimJoined
import GoSem.ClaimMapViews
import Derived.JoinedTies
import Derived.KernelRfl
namespace Go.Proofs.Ytdpdoclhdjhjkaa
/- THE CELL 'sum', in the pinned program and in every row, IS THE sha256 OF THE DUMP (.gsa) THAT YtdpdoclhdjhjkaaProg.lean LOADS. Nothing in Lean hashes anything: it is a label: what it is worth is what the hold of that sum in a sandbox is worth. -/
noncomputable def Try.pinned : Pinned := { name := "ytdpdoclhdjhjkaa", sum := "1717f7ed946b49d8f0b4bfdda88e8d743f1400d84b97b0f50dd29e97f1e52fd1", checked := Try.checked }
namespace Rows
def none {H : Type} : Left H := { results := [], args := [] }

/-- 'pomanderlaw13.PolicyPlay': WHATEVER THE INPUT: true; the input reads as it did. -/
def policyPlaySpec : ChangeSpec := { name := "policyPlay", fn := fun _ => fun
  | [d1, d2] => { results := [.lit (.bool true)], args := [d1, d2] }
  | _ => none }
def policyPlayRow : OpenClaim := { program := "ytdpdoclhdjhjkaa", sum := "1717f7ed946b49d8f0b4bfdda88e8d743f1400d84b97b0f50dd29e97f1e52fd1", func := "pomander/pomanderlaw13.PolicyPlay", spec := "policyPlay", unfollowed := true, recurses := true, plainKeys := false, apart := false }
def PolicyPlaySaid : Prop := policyPlayRow.holds Try.pinned (OpenSpec.ofChange policyPlaySpec)

/-- ITS FALSE NEIGHBOUR: 'it returns false'. Refute it at one input. -/
def policyPlayWrong : ChangeSpec := { name := "policyPlay", fn := fun _ => fun
  | [d1, d2] => { results := [.lit (.bool false)], args := [d1, d2] }
  | _ => none }
def PolicyPlayWrongFalsely : Prop := policyPlayRow.holds Try.pinned (OpenSpec.ofChange policyPlayWrong)

/-- 'pomanderlaw13.PolicyMore': WHATEVER THE INPUT: true; the input reads as it did. -/
def policyMoreSpec : ChangeSpec := { name := "policyMore", fn := fun _ => fun
  | [d1, d2, d3] => { results := [.lit (.bool true)], args := [d1, d2, d3] }
  | _ => none }
def policyMoreRow : OpenClaim := { program := "ytdpdoclhdjhjkaa", sum := "1717f7ed946b49d8f0b4bfdda88e8d743f1400d84b97b0f50dd29e97f1e52fd1", func := "pomander/pomanderlaw13.PolicyMore", spec := "policyMore", unfollowed := true, recurses := true, plainKeys := false, apart := false }
def PolicyMoreSaid : Prop := policyMoreRow.holds Try.pinned (OpenSpec.ofChange policyMoreSpec)

/-- ITS FALSE NEIGHBOUR: 'it returns false'. Refute it at one input. -/
def policyMoreWrong : ChangeSpec := { name := "policyMore", fn := fun _ => fun
  | [d1, d2, d3] => { results := [.lit (.bool false)], args := [d1, d2, d3] }
  | _ => none }
def PolicyMoreWrongFalsely : Prop := policyMoreRow.holds Try.pinned (OpenSpec.ofChange policyMoreWrong)

/-- 'pomanderlaw13.PolicyNil': WHATEVER THE INPUT: true; the input reads as it did. -/
def policyNilSpec : ChangeSpec := { name := "policyNil", fn := fun _ => fun
  | [d1, d2] => { results := [.lit (.bool true)], args := [d1, d2] }
  | _ => none }
def policyNilRow : OpenClaim := { program := "ytdpdoclhdjhjkaa", sum := "1717f7ed946b49d8f0b4bfdda88e8d743f1400d84b97b0f50dd29e97f1e52fd1", func := "pomander/pomanderlaw13.PolicyNil", spec := "policyNil", unfollowed := true, recurses := true, plainKeys := false, apart := false }
def PolicyNilSaid : Prop := policyNilRow.holds Try.pinned (OpenSpec.ofChange policyNilSpec)

/-- ITS FALSE NEIGHBOUR: 'it returns false'. Refute it at one input. -/
def policyNilWrong : ChangeSpec := { name := "policyNil", fn := fun _ => fun
  | [d1, d2] => { results := [.lit (.bool false)], args := [d1, d2] }
  | _ => none }
def PolicyNilWrongFalsely : Prop := policyNilRow.holds Try.pinned (OpenSpec.ofChange policyNilWrong)

/- THE SECOND FORM. 'bulk': how many values and letters a reading holds, each counted each time it is reached (what is shared counts as often as it is met; a slice's spare places count too). A statement '..UptoSaid' is the law's where the arguments, and the package variables that the reading takes, are together of bulk at most 1048576: NARROWER than '..Said'. Prove '..Said' where nothing that the law and all that it calls make is longer than what came in: it says more and counts as full. Else prove '..UptoSaid'. A law counts once. -/
mutual
def uptoBulk {H : Type} : DataW H → Nat
  | .lit (.string bytes) => bytes.length + 1
  | .lit _ => 1
  | .nil => 1
  | .ptr d => uptoBulk d + 1
  | .slice elems spare => uptoBulkAll elems + uptoBulkAll spare + 1
  | .agg parts => uptoBulkAll parts + 1
  | .iface _ d => uptoBulk d + 1
  | .map entries => uptoBulkEntries entries + 1
  | .held _ => 1
def uptoBulkAll {H : Type} : List (DataW H) → Nat
  | [] => 0
  | d :: r => uptoBulk d + uptoBulkAll r
def uptoBulkEntries {H : Type} : List (Lit × DataW H) → Nat
  | [] => 0
  | x :: r => uptoBulkEntry x + uptoBulkEntries r
def uptoBulkEntry {H : Type} : Lit × DataW H → Nat
  | (.string bytes, d) => bytes.length + uptoBulk d + 1
  | (_, d) => uptoBulk d + 1
 end
def uptoSmall : (H : Type) → List (DataW H) → Bool := fun _ ds => decide (uptoBulkAll ds ≤ 1048576)
def OpenSpec.upto (s : _root_.Go.ChangeSpec) : _root_.Go.OpenSpec := { _root_.Go.OpenSpec.ofChange s with cond := some uptoSmall }

/-- 'pomanderlaw13.PolicyPlay', WHERE WHAT IT READS IS OF BULK AT MOST 1048576: true; the input reads as it did. -/
def policyPlayUptoRow : OpenClaim := { program := "ytdpdoclhdjhjkaa", sum := "1717f7ed946b49d8f0b4bfdda88e8d743f1400d84b97b0f50dd29e97f1e52fd1", func := "pomander/pomanderlaw13.PolicyPlay", spec := "policyPlay", unfollowed := true, recurses := true, plainKeys := false, apart := false, narrowed := true }
def PolicyPlayUptoSaid : Prop := policyPlayUptoRow.holds Try.pinned (OpenSpec.upto policyPlaySpec)

/-- 'pomanderlaw13.PolicyMore', WHERE WHAT IT READS IS OF BULK AT MOST 1048576: true; the input reads as it did. -/
def policyMoreUptoRow : OpenClaim := { program := "ytdpdoclhdjhjkaa", sum := "1717f7ed946b49d8f0b4bfdda88e8d743f1400d84b97b0f50dd29e97f1e52fd1", func := "pomander/pomanderlaw13.PolicyMore", spec := "policyMore", unfollowed := true, recurses := true, plainKeys := false, apart := false, narrowed := true }
def PolicyMoreUptoSaid : Prop := policyMoreUptoRow.holds Try.pinned (OpenSpec.upto policyMoreSpec)

/-- 'pomanderlaw13.PolicyNil', WHERE WHAT IT READS IS OF BULK AT MOST 1048576: true; the input reads as it did. -/
def policyNilUptoRow : OpenClaim := { program := "ytdpdoclhdjhjkaa", sum := "1717f7ed946b49d8f0b4bfdda88e8d743f1400d84b97b0f50dd29e97f1e52fd1", func := "pomander/pomanderlaw13.PolicyNil", spec := "policyNil", unfollowed := true, recurses := true, plainKeys := false, apart := false, narrowed := true }
def PolicyNilUptoSaid : Prop := policyNilUptoRow.holds Try.pinned (OpenSpec.upto policyNilSpec)

end Rows
end Go.Proofs.Ytdpdoclhdjhjkaa
