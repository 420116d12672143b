/-
  DERIVED. GIVEN WITH THE SEED: THE CARDS: each row of YtfgmlbmjjihhfaaDoorRows.lean that lists a variable, with what it lists TIED to the program's text (the seventh form; the later family's looks); each row that meets fmt, with fmt's text TOLD by the authors' own Lean function (tested against real Go, not proved from fmt's source: count such statements apart). THE CARD IS WHAT COUNTS. Prove the row's statement (the work); the ties are given (YtfgmlbmjjihhfaaDoorTie.lean); close each card by the builder's one call (the guide's Derived/Test/ToyasCard.lean, 'card_holds'). Laid BY PROGRAM, IN A SANDBOX (cutbox-door.mjs). By AI agents, Wed Nov 11 2026. No macro, syntax, notation, axiom, sorry.
-/
import Derived.Test.YtfgmlbmjjihhfaaDoorRows
import GoSem.ClaimSeven
namespace Go.Proofs.YtfgmlbmjjihhfaaDoor
namespace Rows

/-- THE TIED CARD OF 'airlinelaw07.FlightOrder'. -/
def flightOrderCard : Claim7 := { stood := { row := flightOrderRow, standIns := [], harness := (true, "73aa17423f803d404795b9fde5e70918c52531b0a335385a1a0efb53061ac7fe"), looks := false }, kinds := [], alts := [], laidByText := true, laidKinds := [.data, .data, .data], laidTests := true, laidLooks := .later }
def FlightOrderCardSaid : Prop := Claim7.holds Tryd.pinned (.plain (OpenSpec.ofChange flightOrderSpec)) flightOrderCard

/-- THE TIED CARD OF 'airlinelaw07.FlightSames'. -/
def flightSamesCard : Claim7 := { stood := { row := flightSamesRow, standIns := [], harness := (true, "73aa17423f803d404795b9fde5e70918c52531b0a335385a1a0efb53061ac7fe"), looks := false }, kinds := [], alts := [], laidByText := true, laidKinds := [.data, .data, .data], laidTests := true, laidLooks := .later }
def FlightSamesCardSaid : Prop := Claim7.holds Tryd.pinned (.plain (OpenSpec.ofChange flightSamesSpec)) flightSamesCard

/-- THE SECOND FORM's CARD OF 'airlinelaw07.FlightOrder'. -/
def flightOrderUptoCard : Claim7 := { stood := { row := flightOrderUptoRow, standIns := [], harness := (true, "73aa17423f803d404795b9fde5e70918c52531b0a335385a1a0efb53061ac7fe"), looks := false }, kinds := [], alts := [], laidByText := true, laidKinds := [.data, .data, .data], laidTests := true, laidLooks := .later }
def FlightOrderUptoCardSaid : Prop := Claim7.holds Tryd.pinned (.plain (OpenSpec.upto flightOrderSpec)) flightOrderUptoCard

/-- THE SECOND FORM's CARD OF 'airlinelaw07.FlightSames'. -/
def flightSamesUptoCard : Claim7 := { stood := { row := flightSamesUptoRow, standIns := [], harness := (true, "73aa17423f803d404795b9fde5e70918c52531b0a335385a1a0efb53061ac7fe"), looks := false }, kinds := [], alts := [], laidByText := true, laidKinds := [.data, .data, .data], laidTests := true, laidLooks := .later }
def FlightSamesUptoCardSaid : Prop := Claim7.holds Tryd.pinned (.plain (OpenSpec.upto flightSamesSpec)) flightSamesUptoCard
end Rows
end Go.Proofs.YtfgmlbmjjihhfaaDoor
