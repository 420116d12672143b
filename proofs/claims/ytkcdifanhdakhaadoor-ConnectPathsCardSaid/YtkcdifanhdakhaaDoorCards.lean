/-
  DERIVED. GIVEN WITH THE SEED: THE CARDS: each row of YtkcdifanhdakhaaDoorRows.lean that lists a variable, with what it lists TIED to the program's text (the seventh form; the later family's looks); each row that meets fmt, with fmt's text TOLD by the authors' own Lean function (tested against real Go, not proved from fmt's source: count such statements apart). THE CARD IS WHAT COUNTS. Prove the row's statement (the work); the ties are given (YtkcdifanhdakhaaDoorTie.lean); close each card by the builder's one call (the guide's Derived/Test/ToyasCard.lean, 'card_holds'). Laid BY PROGRAM, IN A SANDBOX (cutbox-door.mjs). By AI agents, Wed Nov 11 2026. No macro, syntax, notation, axiom, sorry.
-/
import Derived.Test.YtkcdifanhdakhaaDoorRows
import GoSem.ClaimSeven
namespace Go.Proofs.YtkcdifanhdakhaaDoor
namespace Rows

/-- THE TIED CARD OF 'airlinelaw11.ConnectPaths'. -/
def connectPathsCard : Claim7 := { stood := { row := connectPathsRow, standIns := [], harness := (true, "e71bdf451f860c0b7d4dedff9a9f6fed2511241e7de65f0978d6d264113e28d9"), looks := false }, kinds := [], alts := [], laidByText := true, laidKinds := [.data, .data, .data], laidTests := true, laidLooks := .later }
def ConnectPathsCardSaid : Prop := Claim7.holds Tryd.pinned (.plain (OpenSpec.ofChange connectPathsSpec)) connectPathsCard

/-- THE TIED CARD OF 'airlinelaw11.ConnectFollows'. -/
def connectFollowsCard : Claim7 := { stood := { row := connectFollowsRow, standIns := [], harness := (true, "e71bdf451f860c0b7d4dedff9a9f6fed2511241e7de65f0978d6d264113e28d9"), looks := false }, kinds := [], alts := [], laidByText := true, laidKinds := [.data, .data, .data], laidTests := true, laidLooks := .later }
def ConnectFollowsCardSaid : Prop := Claim7.holds Tryd.pinned (.plain (OpenSpec.ofChange connectFollowsSpec)) connectFollowsCard

/-- THE SECOND FORM's CARD OF 'airlinelaw11.ConnectPaths'. -/
def connectPathsUptoCard : Claim7 := { stood := { row := connectPathsUptoRow, standIns := [], harness := (true, "e71bdf451f860c0b7d4dedff9a9f6fed2511241e7de65f0978d6d264113e28d9"), looks := false }, kinds := [], alts := [], laidByText := true, laidKinds := [.data, .data, .data], laidTests := true, laidLooks := .later }
def ConnectPathsUptoCardSaid : Prop := Claim7.holds Tryd.pinned (.plain (OpenSpec.upto connectPathsSpec)) connectPathsUptoCard

/-- THE SECOND FORM's CARD OF 'airlinelaw11.ConnectFollows'. -/
def connectFollowsUptoCard : Claim7 := { stood := { row := connectFollowsUptoRow, standIns := [], harness := (true, "e71bdf451f860c0b7d4dedff9a9f6fed2511241e7de65f0978d6d264113e28d9"), looks := false }, kinds := [], alts := [], laidByText := true, laidKinds := [.data, .data, .data], laidTests := true, laidLooks := .later }
def ConnectFollowsUptoCardSaid : Prop := Claim7.holds Tryd.pinned (.plain (OpenSpec.upto connectFollowsSpec)) connectFollowsUptoCard
end Rows
end Go.Proofs.YtkcdifanhdakhaaDoor
