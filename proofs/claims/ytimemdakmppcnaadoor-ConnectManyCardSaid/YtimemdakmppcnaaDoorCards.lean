/-
  DERIVED. GIVEN WITH THE SEED: THE CARDS: each row of YtimemdakmppcnaaDoorRows.lean that lists a variable, with what it lists TIED to the program's text (the seventh form; the later family's looks); each row that meets fmt, with fmt's text TOLD by the authors' own Lean function (tested against real Go, not proved from fmt's source: count such statements apart). THE CARD IS WHAT COUNTS. Prove the row's statement (the work); the ties are given (YtimemdakmppcnaaDoorTie.lean); close each card by the builder's one call (the guide's Derived/Test/ToyasCard.lean, 'card_holds'). Laid BY PROGRAM, IN A SANDBOX (cutbox-door.mjs). By AI agents, Wed Nov 11 2026. No macro, syntax, notation, axiom, sorry.
-/
import Derived.Test.YtimemdakmppcnaaDoorRows
import GoSem.ClaimSeven
namespace Go.Proofs.YtimemdakmppcnaaDoor
namespace Rows

/-- THE TIED CARD OF 'airlinelaw11.ConnectTimes'. -/
def connectTimesCard : Claim7 := { stood := { row := connectTimesRow, standIns := [], harness := (true, "40180ecb4303da1e198698957ea56f5952701fbfbdfce1e86ce3ac53c76c44d4"), looks := false }, kinds := [], alts := [], laidByText := true, laidKinds := [.data, .data, .data], laidTests := true, laidLooks := .later }
def ConnectTimesCardSaid : Prop := Claim7.holds Tryd.pinned (.plain (OpenSpec.ofChange connectTimesSpec)) connectTimesCard

/-- THE TIED CARD OF 'airlinelaw11.ConnectValid'. -/
def connectValidCard : Claim7 := { stood := { row := connectValidRow, standIns := [], harness := (true, "40180ecb4303da1e198698957ea56f5952701fbfbdfce1e86ce3ac53c76c44d4"), looks := false }, kinds := [], alts := [], laidByText := true, laidKinds := [.data, .data, .data], laidTests := true, laidLooks := .later }
def ConnectValidCardSaid : Prop := Claim7.holds Tryd.pinned (.plain (OpenSpec.ofChange connectValidSpec)) connectValidCard

/-- THE TIED CARD OF 'airlinelaw11.ConnectPaths'. -/
def connectPathsCard : Claim7 := { stood := { row := connectPathsRow, standIns := [], harness := (true, "40180ecb4303da1e198698957ea56f5952701fbfbdfce1e86ce3ac53c76c44d4"), looks := false }, kinds := [], alts := [], laidByText := true, laidKinds := [.data, .data, .data], laidTests := true, laidLooks := .later }
def ConnectPathsCardSaid : Prop := Claim7.holds Tryd.pinned (.plain (OpenSpec.ofChange connectPathsSpec)) connectPathsCard

/-- THE TIED CARD OF 'airlinelaw11.ConnectMany'. -/
def connectManyCard : Claim7 := { stood := { row := connectManyRow, standIns := [], harness := (true, "40180ecb4303da1e198698957ea56f5952701fbfbdfce1e86ce3ac53c76c44d4"), looks := false }, kinds := [], alts := [], laidByText := true, laidKinds := [.data, .data, .data], laidTests := true, laidLooks := .later }
def ConnectManyCardSaid : Prop := Claim7.holds Tryd.pinned (.plain (OpenSpec.ofChange connectManySpec)) connectManyCard

/-- THE TIED CARD OF 'airlinelaw11.ConnectFollows'. -/
def connectFollowsCard : Claim7 := { stood := { row := connectFollowsRow, standIns := [], harness := (true, "40180ecb4303da1e198698957ea56f5952701fbfbdfce1e86ce3ac53c76c44d4"), looks := false }, kinds := [], alts := [], laidByText := true, laidKinds := [.data, .data, .data], laidTests := true, laidLooks := .later }
def ConnectFollowsCardSaid : Prop := Claim7.holds Tryd.pinned (.plain (OpenSpec.ofChange connectFollowsSpec)) connectFollowsCard

/-- THE SECOND FORM's CARD OF 'airlinelaw11.ConnectTimes'. -/
def connectTimesUptoCard : Claim7 := { stood := { row := connectTimesUptoRow, standIns := [], harness := (true, "40180ecb4303da1e198698957ea56f5952701fbfbdfce1e86ce3ac53c76c44d4"), looks := false }, kinds := [], alts := [], laidByText := true, laidKinds := [.data, .data, .data], laidTests := true, laidLooks := .later }
def ConnectTimesUptoCardSaid : Prop := Claim7.holds Tryd.pinned (.plain (OpenSpec.upto connectTimesSpec)) connectTimesUptoCard

/-- THE SECOND FORM's CARD OF 'airlinelaw11.ConnectValid'. -/
def connectValidUptoCard : Claim7 := { stood := { row := connectValidUptoRow, standIns := [], harness := (true, "40180ecb4303da1e198698957ea56f5952701fbfbdfce1e86ce3ac53c76c44d4"), looks := false }, kinds := [], alts := [], laidByText := true, laidKinds := [.data, .data, .data], laidTests := true, laidLooks := .later }
def ConnectValidUptoCardSaid : Prop := Claim7.holds Tryd.pinned (.plain (OpenSpec.upto connectValidSpec)) connectValidUptoCard

/-- THE SECOND FORM's CARD OF 'airlinelaw11.ConnectPaths'. -/
def connectPathsUptoCard : Claim7 := { stood := { row := connectPathsUptoRow, standIns := [], harness := (true, "40180ecb4303da1e198698957ea56f5952701fbfbdfce1e86ce3ac53c76c44d4"), looks := false }, kinds := [], alts := [], laidByText := true, laidKinds := [.data, .data, .data], laidTests := true, laidLooks := .later }
def ConnectPathsUptoCardSaid : Prop := Claim7.holds Tryd.pinned (.plain (OpenSpec.upto connectPathsSpec)) connectPathsUptoCard

/-- THE SECOND FORM's CARD OF 'airlinelaw11.ConnectMany'. -/
def connectManyUptoCard : Claim7 := { stood := { row := connectManyUptoRow, standIns := [], harness := (true, "40180ecb4303da1e198698957ea56f5952701fbfbdfce1e86ce3ac53c76c44d4"), looks := false }, kinds := [], alts := [], laidByText := true, laidKinds := [.data, .data, .data], laidTests := true, laidLooks := .later }
def ConnectManyUptoCardSaid : Prop := Claim7.holds Tryd.pinned (.plain (OpenSpec.upto connectManySpec)) connectManyUptoCard

/-- THE SECOND FORM's CARD OF 'airlinelaw11.ConnectFollows'. -/
def connectFollowsUptoCard : Claim7 := { stood := { row := connectFollowsUptoRow, standIns := [], harness := (true, "40180ecb4303da1e198698957ea56f5952701fbfbdfce1e86ce3ac53c76c44d4"), looks := false }, kinds := [], alts := [], laidByText := true, laidKinds := [.data, .data, .data], laidTests := true, laidLooks := .later }
def ConnectFollowsUptoCardSaid : Prop := Claim7.holds Tryd.pinned (.plain (OpenSpec.upto connectFollowsSpec)) connectFollowsUptoCard
end Rows
end Go.Proofs.YtimemdakmppcnaaDoor
