/-
  DERIVED. GIVEN WITH THE SEED: THE CARDS: each row of YtjokpfeiganigaaDoorRows.lean that lists a variable, with what it lists TIED to the program's text (the seventh form; the later family's looks); each row that meets fmt, with fmt's text TOLD by the authors' own Lean function (tested against real Go, not proved from fmt's source: count such statements apart). THE CARD IS WHAT COUNTS. Prove the row's statement (the work); the ties are given (YtjokpfeiganigaaDoorTie.lean); close each card by the builder's one call (the guide's Derived/Test/ToyasCard.lean, 'card_holds'). Laid BY PROGRAM, IN A SANDBOX (cutbox-door.mjs). By AI agents, Wed Nov 11 2026. No macro, syntax, notation, axiom, sorry.
-/
import Derived.Test.YtjokpfeiganigaaDoorRows
import GoSem.ClaimSeven
namespace Go.Proofs.YtjokpfeiganigaaDoor
namespace Rows

/-- THE TIED CARD OF 'airlinelaw06.PlacesChecks'. -/
def placesChecksCard : Claim7 := { stood := { row := placesChecksRow, standIns := [], harness := (true, "d8a83625668b6cf31b25f371b2b30bde63ba42c425fed24afac8657a8e519f6d"), looks := true }, kinds := [], alts := [], laidByText := true, laidKinds := [.data, .data, .data], laidTests := true, laidLooks := .later }
def PlacesChecksCardSaid : Prop := Claim7.holds Tryd.pinned (.plain (OpenSpec.ofChange placesChecksSpec)) placesChecksCard

/-- THE TIED CARD OF 'airlinelaw06.PlacesFinds'. -/
def placesFindsCard : Claim7 := { stood := { row := placesFindsRow, standIns := [], harness := (true, "d8a83625668b6cf31b25f371b2b30bde63ba42c425fed24afac8657a8e519f6d"), looks := true }, kinds := [], alts := [], laidByText := true, laidKinds := [.data, .data, .data], laidTests := true, laidLooks := .later }
def PlacesFindsCardSaid : Prop := Claim7.holds Tryd.pinned (.plain (OpenSpec.ofChange placesFindsSpec)) placesFindsCard

/-- THE TIED CARD OF 'airlinelaw06.PlacesMiles'. -/
def placesMilesCard : Claim7 := { stood := { row := placesMilesRow, standIns := [], harness := (true, "d8a83625668b6cf31b25f371b2b30bde63ba42c425fed24afac8657a8e519f6d"), looks := true }, kinds := [], alts := [], laidByText := true, laidKinds := [.data, .data, .data], laidTests := true, laidLooks := .later }
def PlacesMilesCardSaid : Prop := Claim7.holds Tryd.pinned (.plain (OpenSpec.ofChange placesMilesSpec)) placesMilesCard

/-- THE TIED CARD OF 'airlinelaw06.PlacesTriangle'. -/
def placesTriangleCard : Claim7 := { stood := { row := placesTriangleRow, standIns := [], harness := (true, "d8a83625668b6cf31b25f371b2b30bde63ba42c425fed24afac8657a8e519f6d"), looks := true }, kinds := [], alts := [], laidByText := true, laidKinds := [.data, .data, .data], laidTests := true, laidLooks := .later }
def PlacesTriangleCardSaid : Prop := Claim7.holds Tryd.pinned (.plain (OpenSpec.ofChange placesTriangleSpec)) placesTriangleCard

/-- THE TIED CARD OF 'airlinelaw06.PlacesWays'. -/
def placesWaysCard : Claim7 := { stood := { row := placesWaysRow, standIns := [], harness := (true, "d8a83625668b6cf31b25f371b2b30bde63ba42c425fed24afac8657a8e519f6d"), looks := true }, kinds := [], alts := [], laidByText := true, laidKinds := [.data, .data, .data], laidTests := true, laidLooks := .later }
def PlacesWaysCardSaid : Prop := Claim7.holds Tryd.pinned (.plain (OpenSpec.ofChange placesWaysSpec)) placesWaysCard

/-- THE TIED CARD OF 'airlinelaw07.FlightOrder'. -/
def flightOrderCard : Claim7 := { stood := { row := flightOrderRow, standIns := [], harness := (true, "d8a83625668b6cf31b25f371b2b30bde63ba42c425fed24afac8657a8e519f6d"), looks := true }, kinds := [], alts := [], laidByText := true, laidKinds := [.data, .data, .data], laidTests := true, laidLooks := .later }
def FlightOrderCardSaid : Prop := Claim7.holds Tryd.pinned (.plain (OpenSpec.ofChange flightOrderSpec)) flightOrderCard

/-- THE TIED CARD OF 'airlinelaw07.FlightSames'. -/
def flightSamesCard : Claim7 := { stood := { row := flightSamesRow, standIns := [], harness := (true, "d8a83625668b6cf31b25f371b2b30bde63ba42c425fed24afac8657a8e519f6d"), looks := true }, kinds := [], alts := [], laidByText := true, laidKinds := [.data, .data, .data], laidTests := true, laidLooks := .later }
def FlightSamesCardSaid : Prop := Claim7.holds Tryd.pinned (.plain (OpenSpec.ofChange flightSamesSpec)) flightSamesCard

/-- THE SECOND FORM's CARD OF 'airlinelaw06.PlacesChecks'. -/
def placesChecksUptoCard : Claim7 := { stood := { row := placesChecksUptoRow, standIns := [], harness := (true, "d8a83625668b6cf31b25f371b2b30bde63ba42c425fed24afac8657a8e519f6d"), looks := true }, kinds := [], alts := [], laidByText := true, laidKinds := [.data, .data, .data], laidTests := true, laidLooks := .later }
def PlacesChecksUptoCardSaid : Prop := Claim7.holds Tryd.pinned (.plain (OpenSpec.upto placesChecksSpec)) placesChecksUptoCard

/-- THE SECOND FORM's CARD OF 'airlinelaw06.PlacesFinds'. -/
def placesFindsUptoCard : Claim7 := { stood := { row := placesFindsUptoRow, standIns := [], harness := (true, "d8a83625668b6cf31b25f371b2b30bde63ba42c425fed24afac8657a8e519f6d"), looks := true }, kinds := [], alts := [], laidByText := true, laidKinds := [.data, .data, .data], laidTests := true, laidLooks := .later }
def PlacesFindsUptoCardSaid : Prop := Claim7.holds Tryd.pinned (.plain (OpenSpec.upto placesFindsSpec)) placesFindsUptoCard

/-- THE SECOND FORM's CARD OF 'airlinelaw06.PlacesMiles'. -/
def placesMilesUptoCard : Claim7 := { stood := { row := placesMilesUptoRow, standIns := [], harness := (true, "d8a83625668b6cf31b25f371b2b30bde63ba42c425fed24afac8657a8e519f6d"), looks := true }, kinds := [], alts := [], laidByText := true, laidKinds := [.data, .data, .data], laidTests := true, laidLooks := .later }
def PlacesMilesUptoCardSaid : Prop := Claim7.holds Tryd.pinned (.plain (OpenSpec.upto placesMilesSpec)) placesMilesUptoCard

/-- THE SECOND FORM's CARD OF 'airlinelaw06.PlacesTriangle'. -/
def placesTriangleUptoCard : Claim7 := { stood := { row := placesTriangleUptoRow, standIns := [], harness := (true, "d8a83625668b6cf31b25f371b2b30bde63ba42c425fed24afac8657a8e519f6d"), looks := true }, kinds := [], alts := [], laidByText := true, laidKinds := [.data, .data, .data], laidTests := true, laidLooks := .later }
def PlacesTriangleUptoCardSaid : Prop := Claim7.holds Tryd.pinned (.plain (OpenSpec.upto placesTriangleSpec)) placesTriangleUptoCard

/-- THE SECOND FORM's CARD OF 'airlinelaw06.PlacesWays'. -/
def placesWaysUptoCard : Claim7 := { stood := { row := placesWaysUptoRow, standIns := [], harness := (true, "d8a83625668b6cf31b25f371b2b30bde63ba42c425fed24afac8657a8e519f6d"), looks := true }, kinds := [], alts := [], laidByText := true, laidKinds := [.data, .data, .data], laidTests := true, laidLooks := .later }
def PlacesWaysUptoCardSaid : Prop := Claim7.holds Tryd.pinned (.plain (OpenSpec.upto placesWaysSpec)) placesWaysUptoCard

/-- THE SECOND FORM's CARD OF 'airlinelaw07.FlightOrder'. -/
def flightOrderUptoCard : Claim7 := { stood := { row := flightOrderUptoRow, standIns := [], harness := (true, "d8a83625668b6cf31b25f371b2b30bde63ba42c425fed24afac8657a8e519f6d"), looks := true }, kinds := [], alts := [], laidByText := true, laidKinds := [.data, .data, .data], laidTests := true, laidLooks := .later }
def FlightOrderUptoCardSaid : Prop := Claim7.holds Tryd.pinned (.plain (OpenSpec.upto flightOrderSpec)) flightOrderUptoCard

/-- THE SECOND FORM's CARD OF 'airlinelaw07.FlightSames'. -/
def flightSamesUptoCard : Claim7 := { stood := { row := flightSamesUptoRow, standIns := [], harness := (true, "d8a83625668b6cf31b25f371b2b30bde63ba42c425fed24afac8657a8e519f6d"), looks := true }, kinds := [], alts := [], laidByText := true, laidKinds := [.data, .data, .data], laidTests := true, laidLooks := .later }
def FlightSamesUptoCardSaid : Prop := Claim7.holds Tryd.pinned (.plain (OpenSpec.upto flightSamesSpec)) flightSamesUptoCard
end Rows
end Go.Proofs.YtjokpfeiganigaaDoor
