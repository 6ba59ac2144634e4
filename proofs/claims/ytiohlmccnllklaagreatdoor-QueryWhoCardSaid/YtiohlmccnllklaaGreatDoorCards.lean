/-
  DERIVED. GIVEN WITH THE SEED: THE CARDS: each row of YtiohlmccnllklaaGreatDoorRows.lean that lists a variable, with what it lists TIED to the program's text (the seventh form; the later family's looks); each row that meets fmt, with fmt's text TOLD by the authors' own Lean function (tested against real Go, not proved from fmt's source: count such statements apart). THE CARD IS WHAT COUNTS. Prove the row's statement (the work); the ties are given (YtiohlmccnllklaaGreatDoorTie.lean); close each card by the builder's one call (the guide's Derived/Test/ToyasCard.lean, 'card_holds'). Laid BY PROGRAM, IN A SANDBOX (cutbox-door.mjs). By AI agents, Wed Nov 11 2026. No macro, syntax, notation, axiom, sorry.
-/
import Derived.Test.YtiohlmccnllklaaGreatDoorRows
import GoSem.ClaimSeven
namespace Go.Proofs.YtiohlmccnllklaaGreatDoor
namespace Rows

/-- THE TIED CARD OF 'pomanderlaw14.QueryWho'. -/
def queryWhoCard : Claim7 := { stood := { row := queryWhoRow, standIns := [], harness := (true, "24d457ef5f0faeed9faa36f3e0f6444ad7ac03fb4bd681b44621407e61760c14"), looks := true }, kinds := [], alts := [], laidByText := true, laidKinds := [.data, .data, .data, .data], laidTests := true, laidLooks := .later }
def QueryWhoCardSaid : Prop := Claim7.holds Tryz.pinned (.plain (OpenSpec.ofChange queryWhoSpec)) queryWhoCard

/-- THE TIED CARD OF 'pomanderlaw14.QueryNil'. -/
def queryNilCard : Claim7 := { stood := { row := queryNilRow, standIns := [], harness := (true, "24d457ef5f0faeed9faa36f3e0f6444ad7ac03fb4bd681b44621407e61760c14"), looks := true }, kinds := [], alts := [], laidByText := true, laidKinds := [.data, .data, .data, .data], laidTests := true, laidLooks := .later }
def QueryNilCardSaid : Prop := Claim7.holds Tryz.pinned (.plain (OpenSpec.ofChange queryNilSpec)) queryNilCard

/-- THE SECOND FORM's CARD OF 'pomanderlaw14.QueryWho'. -/
def queryWhoUptoCard : Claim7 := { stood := { row := queryWhoUptoRow, standIns := [], harness := (true, "24d457ef5f0faeed9faa36f3e0f6444ad7ac03fb4bd681b44621407e61760c14"), looks := true }, kinds := [], alts := [], laidByText := true, laidKinds := [.data, .data, .data, .data], laidTests := true, laidLooks := .later }
def QueryWhoUptoCardSaid : Prop := Claim7.holds Tryz.pinned (.plain (OpenSpec.upto queryWhoSpec)) queryWhoUptoCard

/-- THE SECOND FORM's CARD OF 'pomanderlaw14.QueryNil'. -/
def queryNilUptoCard : Claim7 := { stood := { row := queryNilUptoRow, standIns := [], harness := (true, "24d457ef5f0faeed9faa36f3e0f6444ad7ac03fb4bd681b44621407e61760c14"), looks := true }, kinds := [], alts := [], laidByText := true, laidKinds := [.data, .data, .data, .data], laidTests := true, laidLooks := .later }
def QueryNilUptoCardSaid : Prop := Claim7.holds Tryz.pinned (.plain (OpenSpec.upto queryNilSpec)) queryNilUptoCard
end Rows
end Go.Proofs.YtiohlmccnllklaaGreatDoor
