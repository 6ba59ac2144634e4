/-
  NARROWER THAN 'FOR EVERY INPUT', by the rows' own cells (each row's printed sentence says how): CpuWords: laid · CpuRuns: laid · CpuOps: laid · CpuPorts: laid · CpuTraps: laid · CpuTouched: laid · CpuSums: laid · CpuBranches: laid.
  DERIVED. THE GIVEN ROWS OF THIS SEAT. 8 by the template 'for every input the law returns true; each argument reads behind the call as it read before'; 0 by the template 'total and deterministic' (their statements: YthjdfneibogcgaaDoorTotals.lean).
  GIVEN WITH THE SEED: the statements are not yours to turn. If you find one false, say at which input.
  Laid BY PROGRAM, IN A SANDBOX (cutbox-rows.mjs): the forced cells as the released guide's own fill.sh prints them over the translation b52c6a42456e657f… (all of the seat's roots in one cut). By AI agents, Wed Nov 11 2026. No macro, syntax, notation, axiom, sorry.
-/
import Derived.Test.YthjdfneibogcgaaDoorChecked
import GoSem.Claim
import GoSem.ClaimJoined
import GoSem.ClaimMapViews
import Derived.JoinedTies
import Derived.KernelRfl
namespace Go.Proofs.YthjdfneibogcgaaDoor
/- THE CELL 'sum', in the pinned program and in every row, IS THE sha256 OF THE DUMP (.gsa) THAT YthjdfneibogcgaaDoorProg.lean LOADS. Nothing in Lean hashes anything: it is a label: what it is worth is what the hold of that sum in a sandbox is worth. -/
noncomputable def Tryd.pinned : Pinned := { name := "ythjdfneibogcgaadoor", sum := "b52c6a42456e657f88dcf1cd987318dae89b5fd49e50b9f190645bfcdbfdaa6e", checked := Tryd.checked }
namespace Rows
def none {H : Type} : Left H := { results := [], args := [] }

/- WHAT THE LISTED PACKAGE-LEVEL VARIABLES READ AS WHEN THE CALL BEGINS. Each datum BY PROGRAM (the guide's laid-datum.mjs) off the statement by which the dump's own 'gosem.cut.vars' lays the variable. In a bare row this is a premise. The card (YthjdfneibogcgaaDoorCards.lean) ties it to the program's text. -/
def laid_pomander_isa_ops {H : Type} : DataW H := .agg [.agg [.lit (.string []), .lit (.int .i64 0)], .agg [.lit (.string [104, 97, 108, 116]), .lit (.int .i64 0)], .agg [.lit (.string [108, 117, 105]), .lit (.int .i64 5)], .agg [.lit (.string [97, 100, 100, 105]), .lit (.int .i64 7)], .agg [.lit (.string [97, 100, 100]), .lit (.int .i64 3)], .agg [.lit (.string [115, 117, 98]), .lit (.int .i64 3)], .agg [.lit (.string [109, 117, 108]), .lit (.int .i64 3)], .agg [.lit (.string [97, 110, 100]), .lit (.int .i64 3)], .agg [.lit (.string [111, 114]), .lit (.int .i64 3)], .agg [.lit (.string [120, 111, 114]), .lit (.int .i64 3)], .agg [.lit (.string [115, 104, 108]), .lit (.int .i64 3)], .agg [.lit (.string [115, 104, 114]), .lit (.int .i64 3)], .agg [.lit (.string [115, 108, 116]), .lit (.int .i64 3)], .agg [.lit (.string [108, 119]), .lit (.int .i64 7)], .agg [.lit (.string [115, 119]), .lit (.int .i64 7)], .agg [.lit (.string [108, 98]), .lit (.int .i64 7)], .agg [.lit (.string [115, 98]), .lit (.int .i64 7)], .agg [.lit (.string [98, 101, 113]), .lit (.int .i64 7)], .agg [.lit (.string [98, 110, 101]), .lit (.int .i64 7)], .agg [.lit (.string [98, 108, 116]), .lit (.int .i64 7)], .agg [.lit (.string [106, 97, 108]), .lit (.int .i64 5)], .agg [.lit (.string [106, 97, 108, 114]), .lit (.int .i64 3)], .agg [.lit (.string [105, 110]), .lit (.int .i64 5)], .agg [.lit (.string [111, 117, 116]), .lit (.int .i64 5)], .agg [.lit (.string [99, 97, 108, 108]), .lit (.int .i64 0)], .agg [.lit (.string [98, 97, 99, 107]), .lit (.int .i64 0)], .agg [.lit (.string [103, 101, 116]), .lit (.int .i64 5)], .agg [.lit (.string [115, 101, 116]), .lit (.int .i64 5)], .agg [.lit (.string [102, 108, 117, 115, 104]), .lit (.int .i64 0)]]
def laid_pomander_cpu_named {H : Type} : DataW H := .agg [.lit (.int .i64 3), .lit (.int .i64 4), .lit (.int .i64 5), .lit (.int .i64 6), .lit (.int .i64 7), .lit (.int .i64 2)]

/-- 'pomanderlaw10.CpuWords': WHATEVER THE INPUT: true; the input reads as it did. -/
def cpuWordsSpec : ChangeSpec := { name := "cpuWords", fn := fun _ => fun
  | [d1, d2] => { results := [.lit (.bool true)], args := [d1, d2] }
  | _ => none }
def cpuWordsRow : OpenClaim := { program := "ythjdfneibogcgaadoor", sum := "b52c6a42456e657f88dcf1cd987318dae89b5fd49e50b9f190645bfcdbfdaa6e", func := "pomander/pomanderlaw10.CpuWords", spec := "cpuWords", unfollowed := true, recurses := true, named := ["pomander/isa.ops", "pomander/cpu.named"], apart := false, laid := [("pomander/isa.ops", laid_pomander_isa_ops), ("pomander/cpu.named", laid_pomander_cpu_named)] }
def CpuWordsSaid : Prop := cpuWordsRow.holds Tryd.pinned (OpenSpec.ofChange cpuWordsSpec)

/-- ITS FALSE NEIGHBOUR: 'it returns false'. Refute it at one input. -/
def cpuWordsWrong : ChangeSpec := { name := "cpuWords", fn := fun _ => fun
  | [d1, d2] => { results := [.lit (.bool false)], args := [d1, d2] }
  | _ => none }
def CpuWordsWrongFalsely : Prop := cpuWordsRow.holds Tryd.pinned (OpenSpec.ofChange cpuWordsWrong)

/-- 'pomanderlaw10.CpuRuns': WHATEVER THE INPUT: true; the input reads as it did. -/
def cpuRunsSpec : ChangeSpec := { name := "cpuRuns", fn := fun _ => fun
  | [d1, d2] => { results := [.lit (.bool true)], args := [d1, d2] }
  | _ => none }
def cpuRunsRow : OpenClaim := { program := "ythjdfneibogcgaadoor", sum := "b52c6a42456e657f88dcf1cd987318dae89b5fd49e50b9f190645bfcdbfdaa6e", func := "pomander/pomanderlaw10.CpuRuns", spec := "cpuRuns", unfollowed := true, recurses := true, named := ["pomander/isa.ops", "pomander/cpu.named"], apart := false, laid := [("pomander/isa.ops", laid_pomander_isa_ops), ("pomander/cpu.named", laid_pomander_cpu_named)] }
def CpuRunsSaid : Prop := cpuRunsRow.holds Tryd.pinned (OpenSpec.ofChange cpuRunsSpec)

/-- ITS FALSE NEIGHBOUR: 'it returns false'. Refute it at one input. -/
def cpuRunsWrong : ChangeSpec := { name := "cpuRuns", fn := fun _ => fun
  | [d1, d2] => { results := [.lit (.bool false)], args := [d1, d2] }
  | _ => none }
def CpuRunsWrongFalsely : Prop := cpuRunsRow.holds Tryd.pinned (OpenSpec.ofChange cpuRunsWrong)

/-- 'pomanderlaw10.CpuOps': WHATEVER THE INPUT: true; the input reads as it did. -/
def cpuOpsSpec : ChangeSpec := { name := "cpuOps", fn := fun _ => fun
  | [d1, d2, d3] => { results := [.lit (.bool true)], args := [d1, d2, d3] }
  | _ => none }
def cpuOpsRow : OpenClaim := { program := "ythjdfneibogcgaadoor", sum := "b52c6a42456e657f88dcf1cd987318dae89b5fd49e50b9f190645bfcdbfdaa6e", func := "pomander/pomanderlaw10.CpuOps", spec := "cpuOps", unfollowed := true, recurses := true, named := ["pomander/isa.ops", "pomander/cpu.named"], apart := false, laid := [("pomander/isa.ops", laid_pomander_isa_ops), ("pomander/cpu.named", laid_pomander_cpu_named)] }
def CpuOpsSaid : Prop := cpuOpsRow.holds Tryd.pinned (OpenSpec.ofChange cpuOpsSpec)

/-- ITS FALSE NEIGHBOUR: 'it returns false'. Refute it at one input. -/
def cpuOpsWrong : ChangeSpec := { name := "cpuOps", fn := fun _ => fun
  | [d1, d2, d3] => { results := [.lit (.bool false)], args := [d1, d2, d3] }
  | _ => none }
def CpuOpsWrongFalsely : Prop := cpuOpsRow.holds Tryd.pinned (OpenSpec.ofChange cpuOpsWrong)

/-- 'pomanderlaw10.CpuPorts': WHATEVER THE INPUT: true; the input reads as it did. -/
def cpuPortsSpec : ChangeSpec := { name := "cpuPorts", fn := fun _ => fun
  | [d1, d2] => { results := [.lit (.bool true)], args := [d1, d2] }
  | _ => none }
def cpuPortsRow : OpenClaim := { program := "ythjdfneibogcgaadoor", sum := "b52c6a42456e657f88dcf1cd987318dae89b5fd49e50b9f190645bfcdbfdaa6e", func := "pomander/pomanderlaw10.CpuPorts", spec := "cpuPorts", unfollowed := true, recurses := true, named := ["pomander/isa.ops", "pomander/cpu.named"], apart := false, laid := [("pomander/isa.ops", laid_pomander_isa_ops), ("pomander/cpu.named", laid_pomander_cpu_named)] }
def CpuPortsSaid : Prop := cpuPortsRow.holds Tryd.pinned (OpenSpec.ofChange cpuPortsSpec)

/-- ITS FALSE NEIGHBOUR: 'it returns false'. Refute it at one input. -/
def cpuPortsWrong : ChangeSpec := { name := "cpuPorts", fn := fun _ => fun
  | [d1, d2] => { results := [.lit (.bool false)], args := [d1, d2] }
  | _ => none }
def CpuPortsWrongFalsely : Prop := cpuPortsRow.holds Tryd.pinned (OpenSpec.ofChange cpuPortsWrong)

/-- 'pomanderlaw10.CpuTraps': WHATEVER THE INPUT: true; the input reads as it did. -/
def cpuTrapsSpec : ChangeSpec := { name := "cpuTraps", fn := fun _ => fun
  | [d1, d2] => { results := [.lit (.bool true)], args := [d1, d2] }
  | _ => none }
def cpuTrapsRow : OpenClaim := { program := "ythjdfneibogcgaadoor", sum := "b52c6a42456e657f88dcf1cd987318dae89b5fd49e50b9f190645bfcdbfdaa6e", func := "pomander/pomanderlaw10.CpuTraps", spec := "cpuTraps", unfollowed := true, recurses := true, named := ["pomander/isa.ops"], apart := false, laid := [("pomander/isa.ops", laid_pomander_isa_ops)] }
def CpuTrapsSaid : Prop := cpuTrapsRow.holds Tryd.pinned (OpenSpec.ofChange cpuTrapsSpec)

/-- ITS FALSE NEIGHBOUR: 'it returns false'. Refute it at one input. -/
def cpuTrapsWrong : ChangeSpec := { name := "cpuTraps", fn := fun _ => fun
  | [d1, d2] => { results := [.lit (.bool false)], args := [d1, d2] }
  | _ => none }
def CpuTrapsWrongFalsely : Prop := cpuTrapsRow.holds Tryd.pinned (OpenSpec.ofChange cpuTrapsWrong)

/-- 'pomanderlaw10.CpuTouched': WHATEVER THE INPUT: true; the input reads as it did. -/
def cpuTouchedSpec : ChangeSpec := { name := "cpuTouched", fn := fun _ => fun
  | [d1, d2] => { results := [.lit (.bool true)], args := [d1, d2] }
  | _ => none }
def cpuTouchedRow : OpenClaim := { program := "ythjdfneibogcgaadoor", sum := "b52c6a42456e657f88dcf1cd987318dae89b5fd49e50b9f190645bfcdbfdaa6e", func := "pomander/pomanderlaw10.CpuTouched", spec := "cpuTouched", unfollowed := true, recurses := true, named := ["pomander/isa.ops", "pomander/cpu.named"], apart := false, laid := [("pomander/isa.ops", laid_pomander_isa_ops), ("pomander/cpu.named", laid_pomander_cpu_named)] }
def CpuTouchedSaid : Prop := cpuTouchedRow.holds Tryd.pinned (OpenSpec.ofChange cpuTouchedSpec)

/-- ITS FALSE NEIGHBOUR: 'it returns false'. Refute it at one input. -/
def cpuTouchedWrong : ChangeSpec := { name := "cpuTouched", fn := fun _ => fun
  | [d1, d2] => { results := [.lit (.bool false)], args := [d1, d2] }
  | _ => none }
def CpuTouchedWrongFalsely : Prop := cpuTouchedRow.holds Tryd.pinned (OpenSpec.ofChange cpuTouchedWrong)

/-- 'pomanderlaw10.CpuSums': WHATEVER THE INPUT: true; the input reads as it did. -/
def cpuSumsSpec : ChangeSpec := { name := "cpuSums", fn := fun _ => fun
  | [d1, d2, d3] => { results := [.lit (.bool true)], args := [d1, d2, d3] }
  | _ => none }
def cpuSumsRow : OpenClaim := { program := "ythjdfneibogcgaadoor", sum := "b52c6a42456e657f88dcf1cd987318dae89b5fd49e50b9f190645bfcdbfdaa6e", func := "pomander/pomanderlaw10.CpuSums", spec := "cpuSums", unfollowed := true, recurses := true, named := ["pomander/isa.ops", "pomander/cpu.named"], apart := false, laid := [("pomander/isa.ops", laid_pomander_isa_ops), ("pomander/cpu.named", laid_pomander_cpu_named)] }
def CpuSumsSaid : Prop := cpuSumsRow.holds Tryd.pinned (OpenSpec.ofChange cpuSumsSpec)

/-- ITS FALSE NEIGHBOUR: 'it returns false'. Refute it at one input. -/
def cpuSumsWrong : ChangeSpec := { name := "cpuSums", fn := fun _ => fun
  | [d1, d2, d3] => { results := [.lit (.bool false)], args := [d1, d2, d3] }
  | _ => none }
def CpuSumsWrongFalsely : Prop := cpuSumsRow.holds Tryd.pinned (OpenSpec.ofChange cpuSumsWrong)

/-- 'pomanderlaw10.CpuBranches': WHATEVER THE INPUT: true; the input reads as it did. -/
def cpuBranchesSpec : ChangeSpec := { name := "cpuBranches", fn := fun _ => fun
  | [d1, d2, d3] => { results := [.lit (.bool true)], args := [d1, d2, d3] }
  | _ => none }
def cpuBranchesRow : OpenClaim := { program := "ythjdfneibogcgaadoor", sum := "b52c6a42456e657f88dcf1cd987318dae89b5fd49e50b9f190645bfcdbfdaa6e", func := "pomander/pomanderlaw10.CpuBranches", spec := "cpuBranches", unfollowed := true, recurses := true, named := ["pomander/isa.ops", "pomander/cpu.named"], apart := false, laid := [("pomander/isa.ops", laid_pomander_isa_ops), ("pomander/cpu.named", laid_pomander_cpu_named)] }
def CpuBranchesSaid : Prop := cpuBranchesRow.holds Tryd.pinned (OpenSpec.ofChange cpuBranchesSpec)

/-- ITS FALSE NEIGHBOUR: 'it returns false'. Refute it at one input. -/
def cpuBranchesWrong : ChangeSpec := { name := "cpuBranches", fn := fun _ => fun
  | [d1, d2, d3] => { results := [.lit (.bool false)], args := [d1, d2, d3] }
  | _ => none }
def CpuBranchesWrongFalsely : Prop := cpuBranchesRow.holds Tryd.pinned (OpenSpec.ofChange cpuBranchesWrong)

/- THE SECOND FORM. 'bulk': how many values and letters a reading holds, each counted each time it is reached (what is shared counts as often as it is met; a slice's spare places count too). A statement '..UptoSaid' is the law's where the arguments, and the package variables that the reading takes, are together of bulk at most 1048576: NARROWER than '..Said'. Prove '..Said' where nothing that the law and all that it calls make is longer than what came in: it says more and counts as full. Else prove '..UptoSaid'. A law counts once. -/
mutual
def uptoBulk {H : Type} : DataW H → Nat
  | .lit (.string bytes) => bytes.length + 1
  | .lit _ => 1
  | .nil => 1
  | .ptr d => uptoBulk d + 1
  | .slice elems spare => uptoBulkAll elems + uptoBulkAll spare + 1
  | .agg parts => uptoBulkAll parts + 1
  | .iface _ d => uptoBulk d + 1
  | .map entries => uptoBulkEntries entries + 1
  | .held _ => 1
def uptoBulkAll {H : Type} : List (DataW H) → Nat
  | [] => 0
  | d :: r => uptoBulk d + uptoBulkAll r
def uptoBulkEntries {H : Type} : List (Lit × DataW H) → Nat
  | [] => 0
  | x :: r => uptoBulkEntry x + uptoBulkEntries r
def uptoBulkEntry {H : Type} : Lit × DataW H → Nat
  | (.string bytes, d) => bytes.length + uptoBulk d + 1
  | (_, d) => uptoBulk d + 1
 end
def uptoSmall : (H : Type) → List (DataW H) → Bool := fun _ ds => decide (uptoBulkAll ds ≤ 1048576)
def OpenSpec.upto (s : _root_.Go.ChangeSpec) : _root_.Go.OpenSpec := { _root_.Go.OpenSpec.ofChange s with cond := some uptoSmall }

/-- 'pomanderlaw10.CpuWords', WHERE WHAT IT READS IS OF BULK AT MOST 1048576: true; the input reads as it did. -/
def cpuWordsUptoRow : OpenClaim := { program := "ythjdfneibogcgaadoor", sum := "b52c6a42456e657f88dcf1cd987318dae89b5fd49e50b9f190645bfcdbfdaa6e", func := "pomander/pomanderlaw10.CpuWords", spec := "cpuWords", unfollowed := true, recurses := true, named := ["pomander/isa.ops", "pomander/cpu.named"], apart := false, laid := [("pomander/isa.ops", laid_pomander_isa_ops), ("pomander/cpu.named", laid_pomander_cpu_named)], narrowed := true }
def CpuWordsUptoSaid : Prop := cpuWordsUptoRow.holds Tryd.pinned (OpenSpec.upto cpuWordsSpec)

/-- 'pomanderlaw10.CpuRuns', WHERE WHAT IT READS IS OF BULK AT MOST 1048576: true; the input reads as it did. -/
def cpuRunsUptoRow : OpenClaim := { program := "ythjdfneibogcgaadoor", sum := "b52c6a42456e657f88dcf1cd987318dae89b5fd49e50b9f190645bfcdbfdaa6e", func := "pomander/pomanderlaw10.CpuRuns", spec := "cpuRuns", unfollowed := true, recurses := true, named := ["pomander/isa.ops", "pomander/cpu.named"], apart := false, laid := [("pomander/isa.ops", laid_pomander_isa_ops), ("pomander/cpu.named", laid_pomander_cpu_named)], narrowed := true }
def CpuRunsUptoSaid : Prop := cpuRunsUptoRow.holds Tryd.pinned (OpenSpec.upto cpuRunsSpec)

/-- 'pomanderlaw10.CpuOps', WHERE WHAT IT READS IS OF BULK AT MOST 1048576: true; the input reads as it did. -/
def cpuOpsUptoRow : OpenClaim := { program := "ythjdfneibogcgaadoor", sum := "b52c6a42456e657f88dcf1cd987318dae89b5fd49e50b9f190645bfcdbfdaa6e", func := "pomander/pomanderlaw10.CpuOps", spec := "cpuOps", unfollowed := true, recurses := true, named := ["pomander/isa.ops", "pomander/cpu.named"], apart := false, laid := [("pomander/isa.ops", laid_pomander_isa_ops), ("pomander/cpu.named", laid_pomander_cpu_named)], narrowed := true }
def CpuOpsUptoSaid : Prop := cpuOpsUptoRow.holds Tryd.pinned (OpenSpec.upto cpuOpsSpec)

/-- 'pomanderlaw10.CpuPorts', WHERE WHAT IT READS IS OF BULK AT MOST 1048576: true; the input reads as it did. -/
def cpuPortsUptoRow : OpenClaim := { program := "ythjdfneibogcgaadoor", sum := "b52c6a42456e657f88dcf1cd987318dae89b5fd49e50b9f190645bfcdbfdaa6e", func := "pomander/pomanderlaw10.CpuPorts", spec := "cpuPorts", unfollowed := true, recurses := true, named := ["pomander/isa.ops", "pomander/cpu.named"], apart := false, laid := [("pomander/isa.ops", laid_pomander_isa_ops), ("pomander/cpu.named", laid_pomander_cpu_named)], narrowed := true }
def CpuPortsUptoSaid : Prop := cpuPortsUptoRow.holds Tryd.pinned (OpenSpec.upto cpuPortsSpec)

/-- 'pomanderlaw10.CpuTraps', WHERE WHAT IT READS IS OF BULK AT MOST 1048576: true; the input reads as it did. -/
def cpuTrapsUptoRow : OpenClaim := { program := "ythjdfneibogcgaadoor", sum := "b52c6a42456e657f88dcf1cd987318dae89b5fd49e50b9f190645bfcdbfdaa6e", func := "pomander/pomanderlaw10.CpuTraps", spec := "cpuTraps", unfollowed := true, recurses := true, named := ["pomander/isa.ops"], apart := false, laid := [("pomander/isa.ops", laid_pomander_isa_ops)], narrowed := true }
def CpuTrapsUptoSaid : Prop := cpuTrapsUptoRow.holds Tryd.pinned (OpenSpec.upto cpuTrapsSpec)

/-- 'pomanderlaw10.CpuTouched', WHERE WHAT IT READS IS OF BULK AT MOST 1048576: true; the input reads as it did. -/
def cpuTouchedUptoRow : OpenClaim := { program := "ythjdfneibogcgaadoor", sum := "b52c6a42456e657f88dcf1cd987318dae89b5fd49e50b9f190645bfcdbfdaa6e", func := "pomander/pomanderlaw10.CpuTouched", spec := "cpuTouched", unfollowed := true, recurses := true, named := ["pomander/isa.ops", "pomander/cpu.named"], apart := false, laid := [("pomander/isa.ops", laid_pomander_isa_ops), ("pomander/cpu.named", laid_pomander_cpu_named)], narrowed := true }
def CpuTouchedUptoSaid : Prop := cpuTouchedUptoRow.holds Tryd.pinned (OpenSpec.upto cpuTouchedSpec)

/-- 'pomanderlaw10.CpuSums', WHERE WHAT IT READS IS OF BULK AT MOST 1048576: true; the input reads as it did. -/
def cpuSumsUptoRow : OpenClaim := { program := "ythjdfneibogcgaadoor", sum := "b52c6a42456e657f88dcf1cd987318dae89b5fd49e50b9f190645bfcdbfdaa6e", func := "pomander/pomanderlaw10.CpuSums", spec := "cpuSums", unfollowed := true, recurses := true, named := ["pomander/isa.ops", "pomander/cpu.named"], apart := false, laid := [("pomander/isa.ops", laid_pomander_isa_ops), ("pomander/cpu.named", laid_pomander_cpu_named)], narrowed := true }
def CpuSumsUptoSaid : Prop := cpuSumsUptoRow.holds Tryd.pinned (OpenSpec.upto cpuSumsSpec)

/-- 'pomanderlaw10.CpuBranches', WHERE WHAT IT READS IS OF BULK AT MOST 1048576: true; the input reads as it did. -/
def cpuBranchesUptoRow : OpenClaim := { program := "ythjdfneibogcgaadoor", sum := "b52c6a42456e657f88dcf1cd987318dae89b5fd49e50b9f190645bfcdbfdaa6e", func := "pomander/pomanderlaw10.CpuBranches", spec := "cpuBranches", unfollowed := true, recurses := true, named := ["pomander/isa.ops", "pomander/cpu.named"], apart := false, laid := [("pomander/isa.ops", laid_pomander_isa_ops), ("pomander/cpu.named", laid_pomander_cpu_named)], narrowed := true }
def CpuBranchesUptoSaid : Prop := cpuBranchesUptoRow.holds Tryd.pinned (OpenSpec.upto cpuBranchesSpec)

end Rows
end Go.Proofs.YthjdfneibogcgaaDoor
