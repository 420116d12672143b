/-
  DERIVED. GIVEN WITH THE SEED: THE CARDS: each row of YtdpcjafkahhecaaGreatDoorRows.lean that lists a variable, with what it lists TIED to the program's text (the seventh form; the later family's looks); each row that meets fmt, with fmt's text TOLD by the authors' own Lean function (tested against real Go, not proved from fmt's source: count such statements apart). THE CARD IS WHAT COUNTS. Prove the row's statement (the work); the ties are given (YtdpcjafkahhecaaGreatDoorTie.lean); close each card by the builder's one call (the guide's Derived/Test/ToyasCard.lean, 'card_holds'). Laid BY PROGRAM, IN A SANDBOX (cutbox-door.mjs). By AI agents, Wed Nov 11 2026. No macro, syntax, notation, axiom, sorry.
-/
import Derived.Test.YtdpcjafkahhecaaGreatDoorRows
import GoSem.ClaimSeven
namespace Go.Proofs.YtdpcjafkahhecaaGreatDoor
namespace Rows

/-- THE TIED CARD OF 'airlinelaw09.CodeshareChecks'. -/
def codeshareChecksCard : Claim7 := { stood := { row := codeshareChecksRow, standIns := [], harness := (true, "0b03299d1365b38e76f8edcd15facce401f5b5d3a28c1c2f4a5abce08ef7a289"), looks := false }, kinds := [], alts := [], laidByText := true, laidKinds := [.data, .data, .data], laidTests := true, laidLooks := .later }
def CodeshareChecksCardSaid : Prop := Claim7.holds Tryz.pinned (.plain (OpenSpec.ofChange codeshareChecksSpec)) codeshareChecksCard

/-- THE TIED CARD OF 'airlinelaw09.CodeshareFinds'. -/
def codeshareFindsCard : Claim7 := { stood := { row := codeshareFindsRow, standIns := [], harness := (true, "0b03299d1365b38e76f8edcd15facce401f5b5d3a28c1c2f4a5abce08ef7a289"), looks := false }, kinds := [], alts := [], laidByText := true, laidKinds := [.data, .data, .data], laidTests := true, laidLooks := .later }
def CodeshareFindsCardSaid : Prop := Claim7.holds Tryz.pinned (.plain (OpenSpec.ofChange codeshareFindsSpec)) codeshareFindsCard

/-- THE TIED CARD OF 'airlinelaw09.CodeshareSold'. -/
def codeshareSoldCard : Claim7 := { stood := { row := codeshareSoldRow, standIns := [], harness := (true, "0b03299d1365b38e76f8edcd15facce401f5b5d3a28c1c2f4a5abce08ef7a289"), looks := false }, kinds := [], alts := [], laidByText := true, laidKinds := [.data, .data, .data], laidTests := true, laidLooks := .later }
def CodeshareSoldCardSaid : Prop := Claim7.holds Tryz.pinned (.plain (OpenSpec.ofChange codeshareSoldSpec)) codeshareSoldCard

/-- THE TIED CARD OF 'airlinelaw09.CodeshareCovers'. -/
def codeshareCoversCard : Claim7 := { stood := { row := codeshareCoversRow, standIns := [], harness := (true, "0b03299d1365b38e76f8edcd15facce401f5b5d3a28c1c2f4a5abce08ef7a289"), looks := false }, kinds := [], alts := [], laidByText := true, laidKinds := [.data, .data, .data], laidTests := true, laidLooks := .later }
def CodeshareCoversCardSaid : Prop := Claim7.holds Tryz.pinned (.plain (OpenSpec.ofChange codeshareCoversSpec)) codeshareCoversCard

/-- THE TIED CARD OF 'airlinelaw09.CodeshareSame'. -/
def codeshareSameCard : Claim7 := { stood := { row := codeshareSameRow, standIns := [], harness := (true, "0b03299d1365b38e76f8edcd15facce401f5b5d3a28c1c2f4a5abce08ef7a289"), looks := false }, kinds := [], alts := [], laidByText := true, laidKinds := [.data, .data, .data], laidTests := true, laidLooks := .later }
def CodeshareSameCardSaid : Prop := Claim7.holds Tryz.pinned (.plain (OpenSpec.ofChange codeshareSameSpec)) codeshareSameCard

/-- THE SECOND FORM's CARD OF 'airlinelaw09.CodeshareChecks'. -/
def codeshareChecksUptoCard : Claim7 := { stood := { row := codeshareChecksUptoRow, standIns := [], harness := (true, "0b03299d1365b38e76f8edcd15facce401f5b5d3a28c1c2f4a5abce08ef7a289"), looks := false }, kinds := [], alts := [], laidByText := true, laidKinds := [.data, .data, .data], laidTests := true, laidLooks := .later }
def CodeshareChecksUptoCardSaid : Prop := Claim7.holds Tryz.pinned (.plain (OpenSpec.upto codeshareChecksSpec)) codeshareChecksUptoCard

/-- THE SECOND FORM's CARD OF 'airlinelaw09.CodeshareFinds'. -/
def codeshareFindsUptoCard : Claim7 := { stood := { row := codeshareFindsUptoRow, standIns := [], harness := (true, "0b03299d1365b38e76f8edcd15facce401f5b5d3a28c1c2f4a5abce08ef7a289"), looks := false }, kinds := [], alts := [], laidByText := true, laidKinds := [.data, .data, .data], laidTests := true, laidLooks := .later }
def CodeshareFindsUptoCardSaid : Prop := Claim7.holds Tryz.pinned (.plain (OpenSpec.upto codeshareFindsSpec)) codeshareFindsUptoCard

/-- THE SECOND FORM's CARD OF 'airlinelaw09.CodeshareSold'. -/
def codeshareSoldUptoCard : Claim7 := { stood := { row := codeshareSoldUptoRow, standIns := [], harness := (true, "0b03299d1365b38e76f8edcd15facce401f5b5d3a28c1c2f4a5abce08ef7a289"), looks := false }, kinds := [], alts := [], laidByText := true, laidKinds := [.data, .data, .data], laidTests := true, laidLooks := .later }
def CodeshareSoldUptoCardSaid : Prop := Claim7.holds Tryz.pinned (.plain (OpenSpec.upto codeshareSoldSpec)) codeshareSoldUptoCard

/-- THE SECOND FORM's CARD OF 'airlinelaw09.CodeshareCovers'. -/
def codeshareCoversUptoCard : Claim7 := { stood := { row := codeshareCoversUptoRow, standIns := [], harness := (true, "0b03299d1365b38e76f8edcd15facce401f5b5d3a28c1c2f4a5abce08ef7a289"), looks := false }, kinds := [], alts := [], laidByText := true, laidKinds := [.data, .data, .data], laidTests := true, laidLooks := .later }
def CodeshareCoversUptoCardSaid : Prop := Claim7.holds Tryz.pinned (.plain (OpenSpec.upto codeshareCoversSpec)) codeshareCoversUptoCard

/-- THE SECOND FORM's CARD OF 'airlinelaw09.CodeshareSame'. -/
def codeshareSameUptoCard : Claim7 := { stood := { row := codeshareSameUptoRow, standIns := [], harness := (true, "0b03299d1365b38e76f8edcd15facce401f5b5d3a28c1c2f4a5abce08ef7a289"), looks := false }, kinds := [], alts := [], laidByText := true, laidKinds := [.data, .data, .data], laidTests := true, laidLooks := .later }
def CodeshareSameUptoCardSaid : Prop := Claim7.holds Tryz.pinned (.plain (OpenSpec.upto codeshareSameSpec)) codeshareSameUptoCard
end Rows
end Go.Proofs.YtdpcjafkahhecaaGreatDoor
