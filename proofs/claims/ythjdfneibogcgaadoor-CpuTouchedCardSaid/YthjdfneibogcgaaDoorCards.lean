/-
  DERIVED. GIVEN WITH THE SEED: THE CARDS: each row of YthjdfneibogcgaaDoorRows.lean that lists a variable, with what it lists TIED to the program's text (the seventh form; the later family's looks); each row that meets fmt, with fmt's text TOLD by the authors' own Lean function (tested against real Go, not proved from fmt's source: count such statements apart). THE CARD IS WHAT COUNTS. Prove the row's statement (the work); the ties are given (YthjdfneibogcgaaDoorTie.lean); close each card by the builder's one call (the guide's Derived/Test/ToyasCard.lean, 'card_holds'). Laid BY PROGRAM, IN A SANDBOX (cutbox-door.mjs). By AI agents, Wed Nov 11 2026. No macro, syntax, notation, axiom, sorry.
-/
import Derived.Test.YthjdfneibogcgaaDoorRows
import GoSem.ClaimSeven
namespace Go.Proofs.YthjdfneibogcgaaDoor
namespace Rows

/-- THE TIED CARD OF 'pomanderlaw10.CpuWords'. -/
def cpuWordsCard : Claim7 := { stood := { row := cpuWordsRow, standIns := [], harness := (true, "4333b369a9c2806fdbfd082ab87098c0004a6150be2f48a2c5d2ed2f21b15f46"), looks := false }, kinds := [], alts := [], laidByText := true, laidKinds := [.data, .data], laidTests := true, laidLooks := .later }
def CpuWordsCardSaid : Prop := Claim7.holds Tryd.pinned (.plain (OpenSpec.ofChange cpuWordsSpec)) cpuWordsCard

/-- THE TIED CARD OF 'pomanderlaw10.CpuRuns'. -/
def cpuRunsCard : Claim7 := { stood := { row := cpuRunsRow, standIns := [], harness := (true, "4333b369a9c2806fdbfd082ab87098c0004a6150be2f48a2c5d2ed2f21b15f46"), looks := false }, kinds := [], alts := [], laidByText := true, laidKinds := [.data, .data], laidTests := true, laidLooks := .later }
def CpuRunsCardSaid : Prop := Claim7.holds Tryd.pinned (.plain (OpenSpec.ofChange cpuRunsSpec)) cpuRunsCard

/-- THE TIED CARD OF 'pomanderlaw10.CpuOps'. -/
def cpuOpsCard : Claim7 := { stood := { row := cpuOpsRow, standIns := [], harness := (true, "4333b369a9c2806fdbfd082ab87098c0004a6150be2f48a2c5d2ed2f21b15f46"), looks := false }, kinds := [], alts := [], laidByText := true, laidKinds := [.data, .data], laidTests := true, laidLooks := .later }
def CpuOpsCardSaid : Prop := Claim7.holds Tryd.pinned (.plain (OpenSpec.ofChange cpuOpsSpec)) cpuOpsCard

/-- THE TIED CARD OF 'pomanderlaw10.CpuPorts'. -/
def cpuPortsCard : Claim7 := { stood := { row := cpuPortsRow, standIns := [], harness := (true, "4333b369a9c2806fdbfd082ab87098c0004a6150be2f48a2c5d2ed2f21b15f46"), looks := false }, kinds := [], alts := [], laidByText := true, laidKinds := [.data, .data], laidTests := true, laidLooks := .later }
def CpuPortsCardSaid : Prop := Claim7.holds Tryd.pinned (.plain (OpenSpec.ofChange cpuPortsSpec)) cpuPortsCard

/-- THE TIED CARD OF 'pomanderlaw10.CpuTraps'. -/
def cpuTrapsCard : Claim7 := { stood := { row := cpuTrapsRow, standIns := [], harness := (true, "4333b369a9c2806fdbfd082ab87098c0004a6150be2f48a2c5d2ed2f21b15f46"), looks := false }, kinds := [], alts := [], laidByText := true, laidKinds := [.data], laidTests := true, laidLooks := .later }
def CpuTrapsCardSaid : Prop := Claim7.holds Tryd.pinned (.plain (OpenSpec.ofChange cpuTrapsSpec)) cpuTrapsCard

/-- THE TIED CARD OF 'pomanderlaw10.CpuTouched'. -/
def cpuTouchedCard : Claim7 := { stood := { row := cpuTouchedRow, standIns := [], harness := (true, "4333b369a9c2806fdbfd082ab87098c0004a6150be2f48a2c5d2ed2f21b15f46"), looks := false }, kinds := [], alts := [], laidByText := true, laidKinds := [.data, .data], laidTests := true, laidLooks := .later }
def CpuTouchedCardSaid : Prop := Claim7.holds Tryd.pinned (.plain (OpenSpec.ofChange cpuTouchedSpec)) cpuTouchedCard

/-- THE TIED CARD OF 'pomanderlaw10.CpuSums'. -/
def cpuSumsCard : Claim7 := { stood := { row := cpuSumsRow, standIns := [], harness := (true, "4333b369a9c2806fdbfd082ab87098c0004a6150be2f48a2c5d2ed2f21b15f46"), looks := false }, kinds := [], alts := [], laidByText := true, laidKinds := [.data, .data], laidTests := true, laidLooks := .later }
def CpuSumsCardSaid : Prop := Claim7.holds Tryd.pinned (.plain (OpenSpec.ofChange cpuSumsSpec)) cpuSumsCard

/-- THE TIED CARD OF 'pomanderlaw10.CpuBranches'. -/
def cpuBranchesCard : Claim7 := { stood := { row := cpuBranchesRow, standIns := [], harness := (true, "4333b369a9c2806fdbfd082ab87098c0004a6150be2f48a2c5d2ed2f21b15f46"), looks := false }, kinds := [], alts := [], laidByText := true, laidKinds := [.data, .data], laidTests := true, laidLooks := .later }
def CpuBranchesCardSaid : Prop := Claim7.holds Tryd.pinned (.plain (OpenSpec.ofChange cpuBranchesSpec)) cpuBranchesCard

/-- THE SECOND FORM's CARD OF 'pomanderlaw10.CpuWords'. -/
def cpuWordsUptoCard : Claim7 := { stood := { row := cpuWordsUptoRow, standIns := [], harness := (true, "4333b369a9c2806fdbfd082ab87098c0004a6150be2f48a2c5d2ed2f21b15f46"), looks := false }, kinds := [], alts := [], laidByText := true, laidKinds := [.data, .data], laidTests := true, laidLooks := .later }
def CpuWordsUptoCardSaid : Prop := Claim7.holds Tryd.pinned (.plain (OpenSpec.upto cpuWordsSpec)) cpuWordsUptoCard

/-- THE SECOND FORM's CARD OF 'pomanderlaw10.CpuRuns'. -/
def cpuRunsUptoCard : Claim7 := { stood := { row := cpuRunsUptoRow, standIns := [], harness := (true, "4333b369a9c2806fdbfd082ab87098c0004a6150be2f48a2c5d2ed2f21b15f46"), looks := false }, kinds := [], alts := [], laidByText := true, laidKinds := [.data, .data], laidTests := true, laidLooks := .later }
def CpuRunsUptoCardSaid : Prop := Claim7.holds Tryd.pinned (.plain (OpenSpec.upto cpuRunsSpec)) cpuRunsUptoCard

/-- THE SECOND FORM's CARD OF 'pomanderlaw10.CpuOps'. -/
def cpuOpsUptoCard : Claim7 := { stood := { row := cpuOpsUptoRow, standIns := [], harness := (true, "4333b369a9c2806fdbfd082ab87098c0004a6150be2f48a2c5d2ed2f21b15f46"), looks := false }, kinds := [], alts := [], laidByText := true, laidKinds := [.data, .data], laidTests := true, laidLooks := .later }
def CpuOpsUptoCardSaid : Prop := Claim7.holds Tryd.pinned (.plain (OpenSpec.upto cpuOpsSpec)) cpuOpsUptoCard

/-- THE SECOND FORM's CARD OF 'pomanderlaw10.CpuPorts'. -/
def cpuPortsUptoCard : Claim7 := { stood := { row := cpuPortsUptoRow, standIns := [], harness := (true, "4333b369a9c2806fdbfd082ab87098c0004a6150be2f48a2c5d2ed2f21b15f46"), looks := false }, kinds := [], alts := [], laidByText := true, laidKinds := [.data, .data], laidTests := true, laidLooks := .later }
def CpuPortsUptoCardSaid : Prop := Claim7.holds Tryd.pinned (.plain (OpenSpec.upto cpuPortsSpec)) cpuPortsUptoCard

/-- THE SECOND FORM's CARD OF 'pomanderlaw10.CpuTraps'. -/
def cpuTrapsUptoCard : Claim7 := { stood := { row := cpuTrapsUptoRow, standIns := [], harness := (true, "4333b369a9c2806fdbfd082ab87098c0004a6150be2f48a2c5d2ed2f21b15f46"), looks := false }, kinds := [], alts := [], laidByText := true, laidKinds := [.data], laidTests := true, laidLooks := .later }
def CpuTrapsUptoCardSaid : Prop := Claim7.holds Tryd.pinned (.plain (OpenSpec.upto cpuTrapsSpec)) cpuTrapsUptoCard

/-- THE SECOND FORM's CARD OF 'pomanderlaw10.CpuTouched'. -/
def cpuTouchedUptoCard : Claim7 := { stood := { row := cpuTouchedUptoRow, standIns := [], harness := (true, "4333b369a9c2806fdbfd082ab87098c0004a6150be2f48a2c5d2ed2f21b15f46"), looks := false }, kinds := [], alts := [], laidByText := true, laidKinds := [.data, .data], laidTests := true, laidLooks := .later }
def CpuTouchedUptoCardSaid : Prop := Claim7.holds Tryd.pinned (.plain (OpenSpec.upto cpuTouchedSpec)) cpuTouchedUptoCard

/-- THE SECOND FORM's CARD OF 'pomanderlaw10.CpuSums'. -/
def cpuSumsUptoCard : Claim7 := { stood := { row := cpuSumsUptoRow, standIns := [], harness := (true, "4333b369a9c2806fdbfd082ab87098c0004a6150be2f48a2c5d2ed2f21b15f46"), looks := false }, kinds := [], alts := [], laidByText := true, laidKinds := [.data, .data], laidTests := true, laidLooks := .later }
def CpuSumsUptoCardSaid : Prop := Claim7.holds Tryd.pinned (.plain (OpenSpec.upto cpuSumsSpec)) cpuSumsUptoCard

/-- THE SECOND FORM's CARD OF 'pomanderlaw10.CpuBranches'. -/
def cpuBranchesUptoCard : Claim7 := { stood := { row := cpuBranchesUptoRow, standIns := [], harness := (true, "4333b369a9c2806fdbfd082ab87098c0004a6150be2f48a2c5d2ed2f21b15f46"), looks := false }, kinds := [], alts := [], laidByText := true, laidKinds := [.data, .data], laidTests := true, laidLooks := .later }
def CpuBranchesUptoCardSaid : Prop := Claim7.holds Tryd.pinned (.plain (OpenSpec.upto cpuBranchesSpec)) cpuBranchesUptoCard
end Rows
end Go.Proofs.YthjdfneibogcgaaDoor
