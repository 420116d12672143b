/-
  DERIVED. GIVEN WITH THE SEED: THE CARDS: each row of YtldillnjnjkkgaaGreatDoorRows.lean that lists a variable, with what it lists TIED to the program's text (the seventh form; the later family's looks); each row that meets fmt, with fmt's text TOLD by the authors' own Lean function (tested against real Go, not proved from fmt's source: count such statements apart). THE CARD IS WHAT COUNTS. Prove the row's statement (the work); the ties are given (YtldillnjnjkkgaaGreatDoorTie.lean); close each card by the builder's one call (the guide's Derived/Test/ToyasCard.lean, 'card_holds'). Laid BY PROGRAM, IN A SANDBOX (cutbox-door.mjs). By AI agents, Wed Nov 11 2026. No macro, syntax, notation, axiom, sorry.
-/
import Derived.Test.YtldillnjnjkkgaaGreatDoorRows
import GoSem.ClaimSeven
namespace Go.Proofs.YtldillnjnjkkgaaGreatDoor
namespace Rows

/-- THE TIED CARD OF 'airlinelaw07.FlightTexts'. -/
def flightTextsCard : Claim7 := { stood := { row := flightTextsRow, standIns := [], harness := (true, "11dc270519971bde838deb98070f37240206c5748c46f8128cb53dd554cceb6d"), looks := true }, kinds := [], alts := [], laidByText := true, laidKinds := [.data, .data, .data, .data, .sentinel, .sentinel, .pinned], laidTests := true, laidLooks := .later }
def FlightTextsCardSaid : Prop := Claim7.holds Tryz.pinned (.plain (OpenSpec.ofChange flightTextsSpec)) flightTextsCard

/-- THE TIED CARD OF 'airlinelaw08.ScheduleChecks'. -/
def scheduleChecksCard : Claim7 := { stood := { row := scheduleChecksRow, standIns := [], harness := (true, "11dc270519971bde838deb98070f37240206c5748c46f8128cb53dd554cceb6d"), looks := true }, kinds := [], alts := [], laidByText := true, laidKinds := [.data, .data, .data], laidTests := true, laidLooks := .later }
def ScheduleChecksCardSaid : Prop := Claim7.holds Tryz.pinned (.plain (OpenSpec.ofChange scheduleChecksSpec)) scheduleChecksCard

/-- THE TIED CARD OF 'airlinelaw08.ScheduleFinds'. -/
def scheduleFindsCard : Claim7 := { stood := { row := scheduleFindsRow, standIns := [], harness := (true, "11dc270519971bde838deb98070f37240206c5748c46f8128cb53dd554cceb6d"), looks := true }, kinds := [], alts := [], laidByText := true, laidKinds := [.data, .data, .data], laidTests := true, laidLooks := .later }
def ScheduleFindsCardSaid : Prop := Claim7.holds Tryz.pinned (.plain (OpenSpec.ofChange scheduleFindsSpec)) scheduleFindsCard

/-- THE TIED CARD OF 'airlinelaw08.ScheduleSegs'. -/
def scheduleSegsCard : Claim7 := { stood := { row := scheduleSegsRow, standIns := [], harness := (true, "11dc270519971bde838deb98070f37240206c5748c46f8128cb53dd554cceb6d"), looks := true }, kinds := [], alts := [], laidByText := true, laidKinds := [.data, .data, .data], laidTests := true, laidLooks := .later }
def ScheduleSegsCardSaid : Prop := Claim7.holds Tryz.pinned (.plain (OpenSpec.ofChange scheduleSegsSpec)) scheduleSegsCard

/-- THE TIED CARD OF 'airlinelaw08.ScheduleDays'. -/
def scheduleDaysCard : Claim7 := { stood := { row := scheduleDaysRow, standIns := [], harness := (true, "11dc270519971bde838deb98070f37240206c5748c46f8128cb53dd554cceb6d"), looks := true }, kinds := [], alts := [], laidByText := true, laidKinds := [.data, .data, .data], laidTests := true, laidLooks := .later }
def ScheduleDaysCardSaid : Prop := Claim7.holds Tryz.pinned (.plain (OpenSpec.ofChange scheduleDaysSpec)) scheduleDaysCard

/-- THE TIED CARD OF 'airlinelaw08.ScheduleDiffers'. -/
def scheduleDiffersCard : Claim7 := { stood := { row := scheduleDiffersRow, standIns := [], harness := (true, "11dc270519971bde838deb98070f37240206c5748c46f8128cb53dd554cceb6d"), looks := true }, kinds := [], alts := [], laidByText := true, laidKinds := [.data, .data, .data], laidTests := true, laidLooks := .later }
def ScheduleDiffersCardSaid : Prop := Claim7.holds Tryz.pinned (.plain (OpenSpec.ofChange scheduleDiffersSpec)) scheduleDiffersCard

/-- THE TIED CARD OF 'airlinelaw09.CodeshareChecks'. -/
def codeshareChecksCard : Claim7 := { stood := { row := codeshareChecksRow, standIns := [], harness := (true, "11dc270519971bde838deb98070f37240206c5748c46f8128cb53dd554cceb6d"), looks := true }, kinds := [], alts := [], laidByText := true, laidKinds := [.data, .data, .data], laidTests := true, laidLooks := .later }
def CodeshareChecksCardSaid : Prop := Claim7.holds Tryz.pinned (.plain (OpenSpec.ofChange codeshareChecksSpec)) codeshareChecksCard

/-- THE TIED CARD OF 'airlinelaw09.CodeshareFinds'. -/
def codeshareFindsCard : Claim7 := { stood := { row := codeshareFindsRow, standIns := [], harness := (true, "11dc270519971bde838deb98070f37240206c5748c46f8128cb53dd554cceb6d"), looks := true }, kinds := [], alts := [], laidByText := true, laidKinds := [.data, .data, .data], laidTests := true, laidLooks := .later }
def CodeshareFindsCardSaid : Prop := Claim7.holds Tryz.pinned (.plain (OpenSpec.ofChange codeshareFindsSpec)) codeshareFindsCard

/-- THE TIED CARD OF 'airlinelaw09.CodeshareSold'. -/
def codeshareSoldCard : Claim7 := { stood := { row := codeshareSoldRow, standIns := [], harness := (true, "11dc270519971bde838deb98070f37240206c5748c46f8128cb53dd554cceb6d"), looks := true }, kinds := [], alts := [], laidByText := true, laidKinds := [.data, .data, .data], laidTests := true, laidLooks := .later }
def CodeshareSoldCardSaid : Prop := Claim7.holds Tryz.pinned (.plain (OpenSpec.ofChange codeshareSoldSpec)) codeshareSoldCard

/-- THE TIED CARD OF 'airlinelaw09.CodeshareCovers'. -/
def codeshareCoversCard : Claim7 := { stood := { row := codeshareCoversRow, standIns := [], harness := (true, "11dc270519971bde838deb98070f37240206c5748c46f8128cb53dd554cceb6d"), looks := true }, kinds := [], alts := [], laidByText := true, laidKinds := [.data, .data, .data], laidTests := true, laidLooks := .later }
def CodeshareCoversCardSaid : Prop := Claim7.holds Tryz.pinned (.plain (OpenSpec.ofChange codeshareCoversSpec)) codeshareCoversCard

/-- THE TIED CARD OF 'airlinelaw09.CodeshareSame'. -/
def codeshareSameCard : Claim7 := { stood := { row := codeshareSameRow, standIns := [], harness := (true, "11dc270519971bde838deb98070f37240206c5748c46f8128cb53dd554cceb6d"), looks := true }, kinds := [], alts := [], laidByText := true, laidKinds := [.data, .data, .data], laidTests := true, laidLooks := .later }
def CodeshareSameCardSaid : Prop := Claim7.holds Tryz.pinned (.plain (OpenSpec.ofChange codeshareSameSpec)) codeshareSameCard

/-- THE SECOND FORM's CARD OF 'airlinelaw07.FlightTexts'. -/
def flightTextsUptoCard : Claim7 := { stood := { row := flightTextsUptoRow, standIns := [], harness := (true, "11dc270519971bde838deb98070f37240206c5748c46f8128cb53dd554cceb6d"), looks := true }, kinds := [], alts := [], laidByText := true, laidKinds := [.data, .data, .data, .data, .sentinel, .sentinel, .pinned], laidTests := true, laidLooks := .later }
def FlightTextsUptoCardSaid : Prop := Claim7.holds Tryz.pinned (.plain (OpenSpec.upto flightTextsSpec)) flightTextsUptoCard

/-- THE SECOND FORM's CARD OF 'airlinelaw08.ScheduleChecks'. -/
def scheduleChecksUptoCard : Claim7 := { stood := { row := scheduleChecksUptoRow, standIns := [], harness := (true, "11dc270519971bde838deb98070f37240206c5748c46f8128cb53dd554cceb6d"), looks := true }, kinds := [], alts := [], laidByText := true, laidKinds := [.data, .data, .data], laidTests := true, laidLooks := .later }
def ScheduleChecksUptoCardSaid : Prop := Claim7.holds Tryz.pinned (.plain (OpenSpec.upto scheduleChecksSpec)) scheduleChecksUptoCard

/-- THE SECOND FORM's CARD OF 'airlinelaw08.ScheduleFinds'. -/
def scheduleFindsUptoCard : Claim7 := { stood := { row := scheduleFindsUptoRow, standIns := [], harness := (true, "11dc270519971bde838deb98070f37240206c5748c46f8128cb53dd554cceb6d"), looks := true }, kinds := [], alts := [], laidByText := true, laidKinds := [.data, .data, .data], laidTests := true, laidLooks := .later }
def ScheduleFindsUptoCardSaid : Prop := Claim7.holds Tryz.pinned (.plain (OpenSpec.upto scheduleFindsSpec)) scheduleFindsUptoCard

/-- THE SECOND FORM's CARD OF 'airlinelaw08.ScheduleSegs'. -/
def scheduleSegsUptoCard : Claim7 := { stood := { row := scheduleSegsUptoRow, standIns := [], harness := (true, "11dc270519971bde838deb98070f37240206c5748c46f8128cb53dd554cceb6d"), looks := true }, kinds := [], alts := [], laidByText := true, laidKinds := [.data, .data, .data], laidTests := true, laidLooks := .later }
def ScheduleSegsUptoCardSaid : Prop := Claim7.holds Tryz.pinned (.plain (OpenSpec.upto scheduleSegsSpec)) scheduleSegsUptoCard

/-- THE SECOND FORM's CARD OF 'airlinelaw08.ScheduleDays'. -/
def scheduleDaysUptoCard : Claim7 := { stood := { row := scheduleDaysUptoRow, standIns := [], harness := (true, "11dc270519971bde838deb98070f37240206c5748c46f8128cb53dd554cceb6d"), looks := true }, kinds := [], alts := [], laidByText := true, laidKinds := [.data, .data, .data], laidTests := true, laidLooks := .later }
def ScheduleDaysUptoCardSaid : Prop := Claim7.holds Tryz.pinned (.plain (OpenSpec.upto scheduleDaysSpec)) scheduleDaysUptoCard

/-- THE SECOND FORM's CARD OF 'airlinelaw08.ScheduleDiffers'. -/
def scheduleDiffersUptoCard : Claim7 := { stood := { row := scheduleDiffersUptoRow, standIns := [], harness := (true, "11dc270519971bde838deb98070f37240206c5748c46f8128cb53dd554cceb6d"), looks := true }, kinds := [], alts := [], laidByText := true, laidKinds := [.data, .data, .data], laidTests := true, laidLooks := .later }
def ScheduleDiffersUptoCardSaid : Prop := Claim7.holds Tryz.pinned (.plain (OpenSpec.upto scheduleDiffersSpec)) scheduleDiffersUptoCard

/-- THE SECOND FORM's CARD OF 'airlinelaw09.CodeshareChecks'. -/
def codeshareChecksUptoCard : Claim7 := { stood := { row := codeshareChecksUptoRow, standIns := [], harness := (true, "11dc270519971bde838deb98070f37240206c5748c46f8128cb53dd554cceb6d"), looks := true }, kinds := [], alts := [], laidByText := true, laidKinds := [.data, .data, .data], laidTests := true, laidLooks := .later }
def CodeshareChecksUptoCardSaid : Prop := Claim7.holds Tryz.pinned (.plain (OpenSpec.upto codeshareChecksSpec)) codeshareChecksUptoCard

/-- THE SECOND FORM's CARD OF 'airlinelaw09.CodeshareFinds'. -/
def codeshareFindsUptoCard : Claim7 := { stood := { row := codeshareFindsUptoRow, standIns := [], harness := (true, "11dc270519971bde838deb98070f37240206c5748c46f8128cb53dd554cceb6d"), looks := true }, kinds := [], alts := [], laidByText := true, laidKinds := [.data, .data, .data], laidTests := true, laidLooks := .later }
def CodeshareFindsUptoCardSaid : Prop := Claim7.holds Tryz.pinned (.plain (OpenSpec.upto codeshareFindsSpec)) codeshareFindsUptoCard

/-- THE SECOND FORM's CARD OF 'airlinelaw09.CodeshareSold'. -/
def codeshareSoldUptoCard : Claim7 := { stood := { row := codeshareSoldUptoRow, standIns := [], harness := (true, "11dc270519971bde838deb98070f37240206c5748c46f8128cb53dd554cceb6d"), looks := true }, kinds := [], alts := [], laidByText := true, laidKinds := [.data, .data, .data], laidTests := true, laidLooks := .later }
def CodeshareSoldUptoCardSaid : Prop := Claim7.holds Tryz.pinned (.plain (OpenSpec.upto codeshareSoldSpec)) codeshareSoldUptoCard

/-- THE SECOND FORM's CARD OF 'airlinelaw09.CodeshareCovers'. -/
def codeshareCoversUptoCard : Claim7 := { stood := { row := codeshareCoversUptoRow, standIns := [], harness := (true, "11dc270519971bde838deb98070f37240206c5748c46f8128cb53dd554cceb6d"), looks := true }, kinds := [], alts := [], laidByText := true, laidKinds := [.data, .data, .data], laidTests := true, laidLooks := .later }
def CodeshareCoversUptoCardSaid : Prop := Claim7.holds Tryz.pinned (.plain (OpenSpec.upto codeshareCoversSpec)) codeshareCoversUptoCard

/-- THE SECOND FORM's CARD OF 'airlinelaw09.CodeshareSame'. -/
def codeshareSameUptoCard : Claim7 := { stood := { row := codeshareSameUptoRow, standIns := [], harness := (true, "11dc270519971bde838deb98070f37240206c5748c46f8128cb53dd554cceb6d"), looks := true }, kinds := [], alts := [], laidByText := true, laidKinds := [.data, .data, .data], laidTests := true, laidLooks := .later }
def CodeshareSameUptoCardSaid : Prop := Claim7.holds Tryz.pinned (.plain (OpenSpec.upto codeshareSameSpec)) codeshareSameUptoCard
end Rows
end Go.Proofs.YtldillnjnjkkgaaGreatDoor
