/-
  DERIVED. GIVEN WITH THE SEED: THE CARDS: each row of YtiohlmccnllklaaDoorRows.lean that lists a variable, with what it lists TIED to the program's text (the seventh form; the later family's looks); each row that meets fmt, with fmt's text TOLD by the authors' own Lean function (tested against real Go, not proved from fmt's source: count such statements apart). THE CARD IS WHAT COUNTS. Prove the row's statement (the work); the ties are given (YtiohlmccnllklaaDoorTie.lean); close each card by the builder's one call (the guide's Derived/Test/ToyasCard.lean, 'card_holds'). Laid BY PROGRAM, IN A SANDBOX (cutbox-door.mjs). By AI agents, Wed Nov 11 2026. No macro, syntax, notation, axiom, sorry.
-/
import Derived.Test.YtiohlmccnllklaaDoorRows
import GoSem.ClaimSeven
namespace Go.Proofs.YtiohlmccnllklaaDoor
namespace Rows

/-- THE TIED CARD OF 'pomanderlaw14.QueryNotes'. -/
def queryNotesCard : Claim7 := { stood := { row := queryNotesRow, standIns := [], harness := (true, "7114690935c663a32885d68d7c9a23e3d655c9995c86dc54e25630b0f1c92261"), looks := false }, kinds := [], alts := [], laidByText := true, laidKinds := [.data, .data, .data, .data], laidTests := true, laidLooks := .later }
def QueryNotesCardSaid : Prop := Claim7.holds Tryd.pinned (.plain (OpenSpec.ofChange queryNotesSpec)) queryNotesCard

/-- THE TIED CARD OF 'pomanderlaw14.QueryRoots'. -/
def queryRootsCard : Claim7 := { stood := { row := queryRootsRow, standIns := [], harness := (true, "7114690935c663a32885d68d7c9a23e3d655c9995c86dc54e25630b0f1c92261"), looks := false }, kinds := [], alts := [], laidByText := true, laidKinds := [.data, .data, .data, .data], laidTests := true, laidLooks := .later }
def QueryRootsCardSaid : Prop := Claim7.holds Tryd.pinned (.plain (OpenSpec.ofChange queryRootsSpec)) queryRootsCard

/-- THE TIED CARD OF 'pomanderlaw14.QueryLater'. -/
def queryLaterCard : Claim7 := { stood := { row := queryLaterRow, standIns := [], harness := (true, "7114690935c663a32885d68d7c9a23e3d655c9995c86dc54e25630b0f1c92261"), looks := false }, kinds := [], alts := [], laidByText := true, laidKinds := [.data, .data, .data, .data], laidTests := true, laidLooks := .later }
def QueryLaterCardSaid : Prop := Claim7.holds Tryd.pinned (.plain (OpenSpec.ofChange queryLaterSpec)) queryLaterCard

/-- THE TIED CARD OF 'pomanderlaw14.QueryChain'. -/
def queryChainCard : Claim7 := { stood := { row := queryChainRow, standIns := [], harness := (true, "7114690935c663a32885d68d7c9a23e3d655c9995c86dc54e25630b0f1c92261"), looks := false }, kinds := [], alts := [], laidByText := true, laidKinds := [.data, .data, .data, .data], laidTests := true, laidLooks := .later }
def QueryChainCardSaid : Prop := Claim7.holds Tryd.pinned (.plain (OpenSpec.ofChange queryChainSpec)) queryChainCard

/-- THE SECOND FORM's CARD OF 'pomanderlaw14.QueryNotes'. -/
def queryNotesUptoCard : Claim7 := { stood := { row := queryNotesUptoRow, standIns := [], harness := (true, "7114690935c663a32885d68d7c9a23e3d655c9995c86dc54e25630b0f1c92261"), looks := false }, kinds := [], alts := [], laidByText := true, laidKinds := [.data, .data, .data, .data], laidTests := true, laidLooks := .later }
def QueryNotesUptoCardSaid : Prop := Claim7.holds Tryd.pinned (.plain (OpenSpec.upto queryNotesSpec)) queryNotesUptoCard

/-- THE SECOND FORM's CARD OF 'pomanderlaw14.QueryRoots'. -/
def queryRootsUptoCard : Claim7 := { stood := { row := queryRootsUptoRow, standIns := [], harness := (true, "7114690935c663a32885d68d7c9a23e3d655c9995c86dc54e25630b0f1c92261"), looks := false }, kinds := [], alts := [], laidByText := true, laidKinds := [.data, .data, .data, .data], laidTests := true, laidLooks := .later }
def QueryRootsUptoCardSaid : Prop := Claim7.holds Tryd.pinned (.plain (OpenSpec.upto queryRootsSpec)) queryRootsUptoCard

/-- THE SECOND FORM's CARD OF 'pomanderlaw14.QueryLater'. -/
def queryLaterUptoCard : Claim7 := { stood := { row := queryLaterUptoRow, standIns := [], harness := (true, "7114690935c663a32885d68d7c9a23e3d655c9995c86dc54e25630b0f1c92261"), looks := false }, kinds := [], alts := [], laidByText := true, laidKinds := [.data, .data, .data, .data], laidTests := true, laidLooks := .later }
def QueryLaterUptoCardSaid : Prop := Claim7.holds Tryd.pinned (.plain (OpenSpec.upto queryLaterSpec)) queryLaterUptoCard

/-- THE SECOND FORM's CARD OF 'pomanderlaw14.QueryChain'. -/
def queryChainUptoCard : Claim7 := { stood := { row := queryChainUptoRow, standIns := [], harness := (true, "7114690935c663a32885d68d7c9a23e3d655c9995c86dc54e25630b0f1c92261"), looks := false }, kinds := [], alts := [], laidByText := true, laidKinds := [.data, .data, .data, .data], laidTests := true, laidLooks := .later }
def QueryChainUptoCardSaid : Prop := Claim7.holds Tryd.pinned (.plain (OpenSpec.upto queryChainSpec)) queryChainUptoCard
end Rows
end Go.Proofs.YtiohlmccnllklaaDoor
