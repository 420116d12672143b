/-
  DERIVED. GIVEN WITH THE SEED: THE CARDS: each row of YtfgmlbmjjihhfaaGreatDoorRows.lean that lists a variable, with what it lists TIED to the program's text (the seventh form; the later family's looks); each row that meets fmt, with fmt's text TOLD by the authors' own Lean function (tested against real Go, not proved from fmt's source: count such statements apart). THE CARD IS WHAT COUNTS. Prove the row's statement (the work); the ties are given (YtfgmlbmjjihhfaaGreatDoorTie.lean); close each card by the builder's one call (the guide's Derived/Test/ToyasCard.lean, 'card_holds'). Laid BY PROGRAM, IN A SANDBOX (cutbox-door.mjs). By AI agents, Wed Nov 11 2026. No macro, syntax, notation, axiom, sorry.
-/
import Derived.Test.YtfgmlbmjjihhfaaGreatDoorRows
import GoSem.ClaimSeven
namespace Go.Proofs.YtfgmlbmjjihhfaaGreatDoor
namespace Rows

/-- THE TIED CARD OF 'airlinelaw07.FlightChecks'. -/
def flightChecksCard : Claim7 := { stood := { row := flightChecksRow, standIns := [], harness := (true, "01b2493c4bb81448db5de1cef8e5767c4ef7bcf96136b0165f7973b2f97b2286"), looks := true }, kinds := [], alts := [], laidByText := true, laidKinds := [.data, .data, .data], laidTests := true, laidLooks := .later }
def FlightChecksCardSaid : Prop := Claim7.holds Tryz.pinned (.plain (OpenSpec.ofChange flightChecksSpec)) flightChecksCard

/-- THE TIED CARD OF 'airlinelaw07.FlightLegs'. -/
def flightLegsCard : Claim7 := { stood := { row := flightLegsRow, standIns := [], harness := (true, "01b2493c4bb81448db5de1cef8e5767c4ef7bcf96136b0165f7973b2f97b2286"), looks := true }, kinds := [], alts := [], laidByText := true, laidKinds := [.data, .data, .data], laidTests := true, laidLooks := .later }
def FlightLegsCardSaid : Prop := Claim7.holds Tryz.pinned (.plain (OpenSpec.ofChange flightLegsSpec)) flightLegsCard

/-- THE TIED CARD OF 'airlinelaw07.FlightPaths'. -/
def flightPathsCard : Claim7 := { stood := { row := flightPathsRow, standIns := [], harness := (true, "01b2493c4bb81448db5de1cef8e5767c4ef7bcf96136b0165f7973b2f97b2286"), looks := true }, kinds := [], alts := [], laidByText := true, laidKinds := [.data, .data, .data], laidTests := true, laidLooks := .later }
def FlightPathsCardSaid : Prop := Claim7.holds Tryz.pinned (.plain (OpenSpec.ofChange flightPathsSpec)) flightPathsCard

/-- THE TIED CARD OF 'airlinelaw07.FlightCovers'. -/
def flightCoversCard : Claim7 := { stood := { row := flightCoversRow, standIns := [], harness := (true, "01b2493c4bb81448db5de1cef8e5767c4ef7bcf96136b0165f7973b2f97b2286"), looks := true }, kinds := [], alts := [], laidByText := true, laidKinds := [.data, .data, .data], laidTests := true, laidLooks := .later }
def FlightCoversCardSaid : Prop := Claim7.holds Tryz.pinned (.plain (OpenSpec.ofChange flightCoversSpec)) flightCoversCard

/-- THE TIED CARD OF 'airlinelaw07.FlightTexts'. -/
def flightTextsCard : Claim7 := { stood := { row := flightTextsRow, standIns := [], harness := (true, "01b2493c4bb81448db5de1cef8e5767c4ef7bcf96136b0165f7973b2f97b2286"), looks := true }, kinds := [], alts := [], laidByText := true, laidKinds := [.data, .data, .data, .data, .sentinel, .sentinel, .pinned], laidTests := true, laidLooks := .later }
def FlightTextsCardSaid : Prop := Claim7.holds Tryz.pinned (.plain (OpenSpec.ofChange flightTextsSpec)) flightTextsCard

/-- THE TIED CARD OF 'airlinelaw08.ScheduleChecks'. -/
def scheduleChecksCard : Claim7 := { stood := { row := scheduleChecksRow, standIns := [], harness := (true, "01b2493c4bb81448db5de1cef8e5767c4ef7bcf96136b0165f7973b2f97b2286"), looks := true }, kinds := [], alts := [], laidByText := true, laidKinds := [.data, .data, .data], laidTests := true, laidLooks := .later }
def ScheduleChecksCardSaid : Prop := Claim7.holds Tryz.pinned (.plain (OpenSpec.ofChange scheduleChecksSpec)) scheduleChecksCard

/-- THE TIED CARD OF 'airlinelaw08.ScheduleFinds'. -/
def scheduleFindsCard : Claim7 := { stood := { row := scheduleFindsRow, standIns := [], harness := (true, "01b2493c4bb81448db5de1cef8e5767c4ef7bcf96136b0165f7973b2f97b2286"), looks := true }, kinds := [], alts := [], laidByText := true, laidKinds := [.data, .data, .data], laidTests := true, laidLooks := .later }
def ScheduleFindsCardSaid : Prop := Claim7.holds Tryz.pinned (.plain (OpenSpec.ofChange scheduleFindsSpec)) scheduleFindsCard

/-- THE TIED CARD OF 'airlinelaw08.ScheduleSegs'. -/
def scheduleSegsCard : Claim7 := { stood := { row := scheduleSegsRow, standIns := [], harness := (true, "01b2493c4bb81448db5de1cef8e5767c4ef7bcf96136b0165f7973b2f97b2286"), looks := true }, kinds := [], alts := [], laidByText := true, laidKinds := [.data, .data, .data], laidTests := true, laidLooks := .later }
def ScheduleSegsCardSaid : Prop := Claim7.holds Tryz.pinned (.plain (OpenSpec.ofChange scheduleSegsSpec)) scheduleSegsCard

/-- THE TIED CARD OF 'airlinelaw08.ScheduleDays'. -/
def scheduleDaysCard : Claim7 := { stood := { row := scheduleDaysRow, standIns := [], harness := (true, "01b2493c4bb81448db5de1cef8e5767c4ef7bcf96136b0165f7973b2f97b2286"), looks := true }, kinds := [], alts := [], laidByText := true, laidKinds := [.data, .data, .data], laidTests := true, laidLooks := .later }
def ScheduleDaysCardSaid : Prop := Claim7.holds Tryz.pinned (.plain (OpenSpec.ofChange scheduleDaysSpec)) scheduleDaysCard

/-- THE TIED CARD OF 'airlinelaw08.ScheduleDiffers'. -/
def scheduleDiffersCard : Claim7 := { stood := { row := scheduleDiffersRow, standIns := [], harness := (true, "01b2493c4bb81448db5de1cef8e5767c4ef7bcf96136b0165f7973b2f97b2286"), looks := true }, kinds := [], alts := [], laidByText := true, laidKinds := [.data, .data, .data], laidTests := true, laidLooks := .later }
def ScheduleDiffersCardSaid : Prop := Claim7.holds Tryz.pinned (.plain (OpenSpec.ofChange scheduleDiffersSpec)) scheduleDiffersCard

/-- THE SECOND FORM's CARD OF 'airlinelaw07.FlightChecks'. -/
def flightChecksUptoCard : Claim7 := { stood := { row := flightChecksUptoRow, standIns := [], harness := (true, "01b2493c4bb81448db5de1cef8e5767c4ef7bcf96136b0165f7973b2f97b2286"), looks := true }, kinds := [], alts := [], laidByText := true, laidKinds := [.data, .data, .data], laidTests := true, laidLooks := .later }
def FlightChecksUptoCardSaid : Prop := Claim7.holds Tryz.pinned (.plain (OpenSpec.upto flightChecksSpec)) flightChecksUptoCard

/-- THE SECOND FORM's CARD OF 'airlinelaw07.FlightLegs'. -/
def flightLegsUptoCard : Claim7 := { stood := { row := flightLegsUptoRow, standIns := [], harness := (true, "01b2493c4bb81448db5de1cef8e5767c4ef7bcf96136b0165f7973b2f97b2286"), looks := true }, kinds := [], alts := [], laidByText := true, laidKinds := [.data, .data, .data], laidTests := true, laidLooks := .later }
def FlightLegsUptoCardSaid : Prop := Claim7.holds Tryz.pinned (.plain (OpenSpec.upto flightLegsSpec)) flightLegsUptoCard

/-- THE SECOND FORM's CARD OF 'airlinelaw07.FlightPaths'. -/
def flightPathsUptoCard : Claim7 := { stood := { row := flightPathsUptoRow, standIns := [], harness := (true, "01b2493c4bb81448db5de1cef8e5767c4ef7bcf96136b0165f7973b2f97b2286"), looks := true }, kinds := [], alts := [], laidByText := true, laidKinds := [.data, .data, .data], laidTests := true, laidLooks := .later }
def FlightPathsUptoCardSaid : Prop := Claim7.holds Tryz.pinned (.plain (OpenSpec.upto flightPathsSpec)) flightPathsUptoCard

/-- THE SECOND FORM's CARD OF 'airlinelaw07.FlightCovers'. -/
def flightCoversUptoCard : Claim7 := { stood := { row := flightCoversUptoRow, standIns := [], harness := (true, "01b2493c4bb81448db5de1cef8e5767c4ef7bcf96136b0165f7973b2f97b2286"), looks := true }, kinds := [], alts := [], laidByText := true, laidKinds := [.data, .data, .data], laidTests := true, laidLooks := .later }
def FlightCoversUptoCardSaid : Prop := Claim7.holds Tryz.pinned (.plain (OpenSpec.upto flightCoversSpec)) flightCoversUptoCard

/-- THE SECOND FORM's CARD OF 'airlinelaw07.FlightTexts'. -/
def flightTextsUptoCard : Claim7 := { stood := { row := flightTextsUptoRow, standIns := [], harness := (true, "01b2493c4bb81448db5de1cef8e5767c4ef7bcf96136b0165f7973b2f97b2286"), looks := true }, kinds := [], alts := [], laidByText := true, laidKinds := [.data, .data, .data, .data, .sentinel, .sentinel, .pinned], laidTests := true, laidLooks := .later }
def FlightTextsUptoCardSaid : Prop := Claim7.holds Tryz.pinned (.plain (OpenSpec.upto flightTextsSpec)) flightTextsUptoCard

/-- THE SECOND FORM's CARD OF 'airlinelaw08.ScheduleChecks'. -/
def scheduleChecksUptoCard : Claim7 := { stood := { row := scheduleChecksUptoRow, standIns := [], harness := (true, "01b2493c4bb81448db5de1cef8e5767c4ef7bcf96136b0165f7973b2f97b2286"), looks := true }, kinds := [], alts := [], laidByText := true, laidKinds := [.data, .data, .data], laidTests := true, laidLooks := .later }
def ScheduleChecksUptoCardSaid : Prop := Claim7.holds Tryz.pinned (.plain (OpenSpec.upto scheduleChecksSpec)) scheduleChecksUptoCard

/-- THE SECOND FORM's CARD OF 'airlinelaw08.ScheduleFinds'. -/
def scheduleFindsUptoCard : Claim7 := { stood := { row := scheduleFindsUptoRow, standIns := [], harness := (true, "01b2493c4bb81448db5de1cef8e5767c4ef7bcf96136b0165f7973b2f97b2286"), looks := true }, kinds := [], alts := [], laidByText := true, laidKinds := [.data, .data, .data], laidTests := true, laidLooks := .later }
def ScheduleFindsUptoCardSaid : Prop := Claim7.holds Tryz.pinned (.plain (OpenSpec.upto scheduleFindsSpec)) scheduleFindsUptoCard

/-- THE SECOND FORM's CARD OF 'airlinelaw08.ScheduleSegs'. -/
def scheduleSegsUptoCard : Claim7 := { stood := { row := scheduleSegsUptoRow, standIns := [], harness := (true, "01b2493c4bb81448db5de1cef8e5767c4ef7bcf96136b0165f7973b2f97b2286"), looks := true }, kinds := [], alts := [], laidByText := true, laidKinds := [.data, .data, .data], laidTests := true, laidLooks := .later }
def ScheduleSegsUptoCardSaid : Prop := Claim7.holds Tryz.pinned (.plain (OpenSpec.upto scheduleSegsSpec)) scheduleSegsUptoCard

/-- THE SECOND FORM's CARD OF 'airlinelaw08.ScheduleDays'. -/
def scheduleDaysUptoCard : Claim7 := { stood := { row := scheduleDaysUptoRow, standIns := [], harness := (true, "01b2493c4bb81448db5de1cef8e5767c4ef7bcf96136b0165f7973b2f97b2286"), looks := true }, kinds := [], alts := [], laidByText := true, laidKinds := [.data, .data, .data], laidTests := true, laidLooks := .later }
def ScheduleDaysUptoCardSaid : Prop := Claim7.holds Tryz.pinned (.plain (OpenSpec.upto scheduleDaysSpec)) scheduleDaysUptoCard

/-- THE SECOND FORM's CARD OF 'airlinelaw08.ScheduleDiffers'. -/
def scheduleDiffersUptoCard : Claim7 := { stood := { row := scheduleDiffersUptoRow, standIns := [], harness := (true, "01b2493c4bb81448db5de1cef8e5767c4ef7bcf96136b0165f7973b2f97b2286"), looks := true }, kinds := [], alts := [], laidByText := true, laidKinds := [.data, .data, .data], laidTests := true, laidLooks := .later }
def ScheduleDiffersUptoCardSaid : Prop := Claim7.holds Tryz.pinned (.plain (OpenSpec.upto scheduleDiffersSpec)) scheduleDiffersUptoCard
end Rows
end Go.Proofs.YtfgmlbmjjihhfaaGreatDoor
