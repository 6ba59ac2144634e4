/-
  No cell of these rows narrows 'for every input' (looked for: loops, veiled, ifaces, maps, wideKeys, modest, calm, conditions, laid).
  DERIVED. THE GIVEN ROWS OF THIS SEAT. 5 by the template 'for every input the law returns true; each argument reads behind the call as it read before'; 0 by the template 'total and deterministic' (their statements: YtdpdoclhdjhjkaaGreatTotals.lean).
  GIVEN WITH THE SEED: the statements are not yours to turn. If you find one false, say at which input.
  Laid BY PROGRAM, IN A SANDBOX (cutbox-rows.mjs): the forced cells as the released guide's own fill.sh prints them over the translation fd56db2dddb203fe… (all of the seat's roots in one cut). By AI agents, Wed Nov 11 2026. No macro, syntax, notation, axiom, sorry.
-/
import Derived.Test.YtdpdoclhdjhjkaaGreatChecked
import GoSem.Claim
import GoSem.ClaimJoined
import GoSem.ClaimMapViews
import Derived.JoinedTies
import Derived.KernelRfl
namespace Go.Proofs.YtdpdoclhdjhjkaaGreat
/- THE CELL 'sum', in the pinned program and in every row, IS THE sha256 OF THE DUMP (.gsa) THAT YtdpdoclhdjhjkaaGreatProg.lean LOADS. Nothing in Lean hashes anything: it is a label: what it is worth is what the hold of that sum in a sandbox is worth. -/
noncomputable def Tryz.pinned : Pinned := { name := "ytdpdoclhdjhjkaagreat", sum := "fd56db2dddb203fe659a500a3a7b81750fcf6c4ffd12e20a89ff6ebc6f13dc82", checked := Tryz.checked }
namespace Rows
def none {H : Type} : Left H := { results := [], args := [] }

/-- 'pomanderlaw12.FlowLess': WHATEVER THE INPUT: true; the input reads as it did. -/
def flowLessSpec : ChangeSpec := { name := "flowLess", fn := fun _ => fun
  | [d1, d2] => { results := [.lit (.bool true)], args := [d1, d2] }
  | _ => none }
def flowLessRow : OpenClaim := { program := "ytdpdoclhdjhjkaagreat", sum := "fd56db2dddb203fe659a500a3a7b81750fcf6c4ffd12e20a89ff6ebc6f13dc82", func := "pomander/pomanderlaw12.FlowLess", spec := "flowLess", inPlace := ["maps.clone"], unfollowed := true, recurses := true, plainKeys := false, apart := false }
def FlowLessSaid : Prop := flowLessRow.holds Tryz.pinned (OpenSpec.ofChange flowLessSpec)

/-- ITS FALSE NEIGHBOUR: 'it returns false'. Refute it at one input. -/
def flowLessWrong : ChangeSpec := { name := "flowLess", fn := fun _ => fun
  | [d1, d2] => { results := [.lit (.bool false)], args := [d1, d2] }
  | _ => none }
def FlowLessWrongFalsely : Prop := flowLessRow.holds Tryz.pinned (OpenSpec.ofChange flowLessWrong)

/-- 'pomanderlaw12.FlowFull': WHATEVER THE INPUT: true; the input reads as it did. -/
def flowFullSpec : ChangeSpec := { name := "flowFull", fn := fun _ => fun
  | [d1, d2] => { results := [.lit (.bool true)], args := [d1, d2] }
  | _ => none }
def flowFullRow : OpenClaim := { program := "ytdpdoclhdjhjkaagreat", sum := "fd56db2dddb203fe659a500a3a7b81750fcf6c4ffd12e20a89ff6ebc6f13dc82", func := "pomander/pomanderlaw12.FlowFull", spec := "flowFull", inPlace := ["maps.clone"], unfollowed := true, recurses := true, plainKeys := false, apart := false }
def FlowFullSaid : Prop := flowFullRow.holds Tryz.pinned (OpenSpec.ofChange flowFullSpec)

/-- ITS FALSE NEIGHBOUR: 'it returns false'. Refute it at one input. -/
def flowFullWrong : ChangeSpec := { name := "flowFull", fn := fun _ => fun
  | [d1, d2] => { results := [.lit (.bool false)], args := [d1, d2] }
  | _ => none }
def FlowFullWrongFalsely : Prop := flowFullRow.holds Tryz.pinned (OpenSpec.ofChange flowFullWrong)

/-- 'pomanderlaw12.FlowCopies': WHATEVER THE INPUT: true; the input reads as it did. -/
def flowCopiesSpec : ChangeSpec := { name := "flowCopies", fn := fun _ => fun
  | [d1, d2, d3] => { results := [.lit (.bool true)], args := [d1, d2, d3] }
  | _ => none }
def flowCopiesRow : OpenClaim := { program := "ytdpdoclhdjhjkaagreat", sum := "fd56db2dddb203fe659a500a3a7b81750fcf6c4ffd12e20a89ff6ebc6f13dc82", func := "pomander/pomanderlaw12.FlowCopies", spec := "flowCopies", inPlace := ["maps.clone"], unfollowed := true, recurses := true, plainKeys := false, apart := false }
def FlowCopiesSaid : Prop := flowCopiesRow.holds Tryz.pinned (OpenSpec.ofChange flowCopiesSpec)

/-- ITS FALSE NEIGHBOUR: 'it returns false'. Refute it at one input. -/
def flowCopiesWrong : ChangeSpec := { name := "flowCopies", fn := fun _ => fun
  | [d1, d2, d3] => { results := [.lit (.bool false)], args := [d1, d2, d3] }
  | _ => none }
def FlowCopiesWrongFalsely : Prop := flowCopiesRow.holds Tryz.pinned (OpenSpec.ofChange flowCopiesWrong)

/-- 'pomanderlaw13.PolicyJudges': WHATEVER THE INPUT: true; the input reads as it did. -/
def policyJudgesSpec : ChangeSpec := { name := "policyJudges", fn := fun _ => fun
  | [d1, d2, d3] => { results := [.lit (.bool true)], args := [d1, d2, d3] }
  | _ => none }
def policyJudgesRow : OpenClaim := { program := "ytdpdoclhdjhjkaagreat", sum := "fd56db2dddb203fe659a500a3a7b81750fcf6c4ffd12e20a89ff6ebc6f13dc82", func := "pomander/pomanderlaw13.PolicyJudges", spec := "policyJudges", inPlace := ["maps.clone"], unfollowed := true, recurses := true, plainKeys := false, apart := false }
def PolicyJudgesSaid : Prop := policyJudgesRow.holds Tryz.pinned (OpenSpec.ofChange policyJudgesSpec)

/-- ITS FALSE NEIGHBOUR: 'it returns false'. Refute it at one input. -/
def policyJudgesWrong : ChangeSpec := { name := "policyJudges", fn := fun _ => fun
  | [d1, d2, d3] => { results := [.lit (.bool false)], args := [d1, d2, d3] }
  | _ => none }
def PolicyJudgesWrongFalsely : Prop := policyJudgesRow.holds Tryz.pinned (OpenSpec.ofChange policyJudgesWrong)

/-- 'pomanderlaw13.PolicySinks': WHATEVER THE INPUT: true; the input reads as it did. -/
def policySinksSpec : ChangeSpec := { name := "policySinks", fn := fun _ => fun
  | [d1, d2, d3] => { results := [.lit (.bool true)], args := [d1, d2, d3] }
  | _ => none }
def policySinksRow : OpenClaim := { program := "ytdpdoclhdjhjkaagreat", sum := "fd56db2dddb203fe659a500a3a7b81750fcf6c4ffd12e20a89ff6ebc6f13dc82", func := "pomander/pomanderlaw13.PolicySinks", spec := "policySinks", inPlace := ["maps.clone"], unfollowed := true, recurses := true, plainKeys := false, apart := false }
def PolicySinksSaid : Prop := policySinksRow.holds Tryz.pinned (OpenSpec.ofChange policySinksSpec)

/-- ITS FALSE NEIGHBOUR: 'it returns false'. Refute it at one input. -/
def policySinksWrong : ChangeSpec := { name := "policySinks", fn := fun _ => fun
  | [d1, d2, d3] => { results := [.lit (.bool false)], args := [d1, d2, d3] }
  | _ => none }
def PolicySinksWrongFalsely : Prop := policySinksRow.holds Tryz.pinned (OpenSpec.ofChange policySinksWrong)

/- THE SECOND FORM. 'bulk': how many values and letters a reading holds, each counted each time it is reached (what is shared counts as often as it is met; a slice's spare places count too). A statement '..UptoSaid' is the law's where the arguments, and the package variables that the reading takes, are together of bulk at most 1048576: NARROWER than '..Said'. Prove '..Said' where nothing that the law and all that it calls make is longer than what came in: it says more and counts as full. Else prove '..UptoSaid'. A law counts once. -/
mutual
def uptoBulk {H : Type} : DataW H → Nat
  | .lit (.string bytes) => bytes.length + 1
  | .lit _ => 1
  | .nil => 1
  | .ptr d => uptoBulk d + 1
  | .slice elems spare => uptoBulkAll elems + uptoBulkAll spare + 1
  | .agg parts => uptoBulkAll parts + 1
  | .iface _ d => uptoBulk d + 1
  | .map entries => uptoBulkEntries entries + 1
  | .held _ => 1
def uptoBulkAll {H : Type} : List (DataW H) → Nat
  | [] => 0
  | d :: r => uptoBulk d + uptoBulkAll r
def uptoBulkEntries {H : Type} : List (Lit × DataW H) → Nat
  | [] => 0
  | x :: r => uptoBulkEntry x + uptoBulkEntries r
def uptoBulkEntry {H : Type} : Lit × DataW H → Nat
  | (.string bytes, d) => bytes.length + uptoBulk d + 1
  | (_, d) => uptoBulk d + 1
 end
def uptoSmall : (H : Type) → List (DataW H) → Bool := fun _ ds => decide (uptoBulkAll ds ≤ 1048576)
def OpenSpec.upto (s : _root_.Go.ChangeSpec) : _root_.Go.OpenSpec := { _root_.Go.OpenSpec.ofChange s with cond := some uptoSmall }

/-- 'pomanderlaw12.FlowLess', WHERE WHAT IT READS IS OF BULK AT MOST 1048576: true; the input reads as it did. -/
def flowLessUptoRow : OpenClaim := { program := "ytdpdoclhdjhjkaagreat", sum := "fd56db2dddb203fe659a500a3a7b81750fcf6c4ffd12e20a89ff6ebc6f13dc82", func := "pomander/pomanderlaw12.FlowLess", spec := "flowLess", inPlace := ["maps.clone"], unfollowed := true, recurses := true, plainKeys := false, apart := false, narrowed := true }
def FlowLessUptoSaid : Prop := flowLessUptoRow.holds Tryz.pinned (OpenSpec.upto flowLessSpec)

/-- 'pomanderlaw12.FlowFull', WHERE WHAT IT READS IS OF BULK AT MOST 1048576: true; the input reads as it did. -/
def flowFullUptoRow : OpenClaim := { program := "ytdpdoclhdjhjkaagreat", sum := "fd56db2dddb203fe659a500a3a7b81750fcf6c4ffd12e20a89ff6ebc6f13dc82", func := "pomander/pomanderlaw12.FlowFull", spec := "flowFull", inPlace := ["maps.clone"], unfollowed := true, recurses := true, plainKeys := false, apart := false, narrowed := true }
def FlowFullUptoSaid : Prop := flowFullUptoRow.holds Tryz.pinned (OpenSpec.upto flowFullSpec)

/-- 'pomanderlaw12.FlowCopies', WHERE WHAT IT READS IS OF BULK AT MOST 1048576: true; the input reads as it did. -/
def flowCopiesUptoRow : OpenClaim := { program := "ytdpdoclhdjhjkaagreat", sum := "fd56db2dddb203fe659a500a3a7b81750fcf6c4ffd12e20a89ff6ebc6f13dc82", func := "pomander/pomanderlaw12.FlowCopies", spec := "flowCopies", inPlace := ["maps.clone"], unfollowed := true, recurses := true, plainKeys := false, apart := false, narrowed := true }
def FlowCopiesUptoSaid : Prop := flowCopiesUptoRow.holds Tryz.pinned (OpenSpec.upto flowCopiesSpec)

/-- 'pomanderlaw13.PolicyJudges', WHERE WHAT IT READS IS OF BULK AT MOST 1048576: true; the input reads as it did. -/
def policyJudgesUptoRow : OpenClaim := { program := "ytdpdoclhdjhjkaagreat", sum := "fd56db2dddb203fe659a500a3a7b81750fcf6c4ffd12e20a89ff6ebc6f13dc82", func := "pomander/pomanderlaw13.PolicyJudges", spec := "policyJudges", inPlace := ["maps.clone"], unfollowed := true, recurses := true, plainKeys := false, apart := false, narrowed := true }
def PolicyJudgesUptoSaid : Prop := policyJudgesUptoRow.holds Tryz.pinned (OpenSpec.upto policyJudgesSpec)

/-- 'pomanderlaw13.PolicySinks', WHERE WHAT IT READS IS OF BULK AT MOST 1048576: true; the input reads as it did. -/
def policySinksUptoRow : OpenClaim := { program := "ytdpdoclhdjhjkaagreat", sum := "fd56db2dddb203fe659a500a3a7b81750fcf6c4ffd12e20a89ff6ebc6f13dc82", func := "pomander/pomanderlaw13.PolicySinks", spec := "policySinks", inPlace := ["maps.clone"], unfollowed := true, recurses := true, plainKeys := false, apart := false, narrowed := true }
def PolicySinksUptoSaid : Prop := policySinksUptoRow.holds Tryz.pinned (OpenSpec.upto policySinksSpec)

end Rows
end Go.Proofs.YtdpdoclhdjhjkaaGreat
