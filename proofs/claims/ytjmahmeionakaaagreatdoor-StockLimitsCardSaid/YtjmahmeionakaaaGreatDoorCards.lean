/-
  DERIVED. GIVEN WITH THE SEED: THE CARDS: each row of YtjmahmeionakaaaGreatDoorRows.lean that lists a variable, with what it lists TIED to the program's text (the seventh form; the later family's looks); each row that meets fmt, with fmt's text TOLD by the authors' own Lean function (tested against real Go, not proved from fmt's source: count such statements apart). THE CARD IS WHAT COUNTS. Prove the row's statement (the work); the ties are given (YtjmahmeionakaaaGreatDoorTie.lean); close each card by the builder's one call (the guide's Derived/Test/ToyasCard.lean, 'card_holds'). Laid BY PROGRAM, IN A SANDBOX (cutbox-door.mjs). By AI agents, Wed Nov 11 2026. No macro, syntax, notation, axiom, sorry.
-/
import Derived.Test.YtjmahmeionakaaaGreatDoorRows
import GoSem.ClaimSeven
namespace Go.Proofs.YtjmahmeionakaaaGreatDoor
namespace Rows

/-- THE TIED CARD OF 'airlinelaw15.StockActs'. -/
def stockActsCard : Claim7 := { stood := { row := stockActsRow, standIns := [], harness := (true, "69f5b95781f55ddec7bfab132126c94b5880d079babebe8fd9d54c6d21c889bc"), looks := false }, kinds := [], alts := [], laidByText := true, laidKinds := [.data, .data, .data], laidTests := true, laidLooks := .later }
def StockActsCardSaid : Prop := Claim7.holds Tryz.pinned (.plain (OpenSpec.ofChange stockActsSpec)) stockActsCard

/-- THE TIED CARD OF 'airlinelaw15.StockLimits'. -/
def stockLimitsCard : Claim7 := { stood := { row := stockLimitsRow, standIns := [], harness := (true, "69f5b95781f55ddec7bfab132126c94b5880d079babebe8fd9d54c6d21c889bc"), looks := false }, kinds := [], alts := [], laidByText := true, laidKinds := [.data, .data, .data], laidTests := true, laidLooks := .later }
def StockLimitsCardSaid : Prop := Claim7.holds Tryz.pinned (.plain (OpenSpec.ofChange stockLimitsSpec)) stockLimitsCard

/-- THE TIED CARD OF 'airlinelaw15.StockExact'. -/
def stockExactCard : Claim7 := { stood := { row := stockExactRow, standIns := [], harness := (true, "69f5b95781f55ddec7bfab132126c94b5880d079babebe8fd9d54c6d21c889bc"), looks := false }, kinds := [], alts := [], laidByText := true, laidKinds := [.data, .data, .data], laidTests := true, laidLooks := .later }
def StockExactCardSaid : Prop := Claim7.holds Tryz.pinned (.plain (OpenSpec.ofChange stockExactSpec)) stockExactCard

/-- THE TIED CARD OF 'airlinelaw15.StockTogether'. -/
def stockTogetherCard : Claim7 := { stood := { row := stockTogetherRow, standIns := [], harness := (true, "69f5b95781f55ddec7bfab132126c94b5880d079babebe8fd9d54c6d21c889bc"), looks := false }, kinds := [], alts := [], laidByText := true, laidKinds := [.data, .data, .data], laidTests := true, laidLooks := .later }
def StockTogetherCardSaid : Prop := Claim7.holds Tryz.pinned (.plain (OpenSpec.ofChange stockTogetherSpec)) stockTogetherCard

/-- THE TIED CARD OF 'airlinelaw15.StockResizes'. -/
def stockResizesCard : Claim7 := { stood := { row := stockResizesRow, standIns := [], harness := (true, "69f5b95781f55ddec7bfab132126c94b5880d079babebe8fd9d54c6d21c889bc"), looks := false }, kinds := [], alts := [], laidByText := true, laidKinds := [.data, .data, .data], laidTests := true, laidLooks := .later }
def StockResizesCardSaid : Prop := Claim7.holds Tryz.pinned (.plain (OpenSpec.ofChange stockResizesSpec)) stockResizesCard

/-- THE TIED CARD OF 'airlinelaw15.StockCopies'. -/
def stockCopiesCard : Claim7 := { stood := { row := stockCopiesRow, standIns := [], harness := (true, "69f5b95781f55ddec7bfab132126c94b5880d079babebe8fd9d54c6d21c889bc"), looks := false }, kinds := [], alts := [], laidByText := true, laidKinds := [.data, .data, .data], laidTests := true, laidLooks := .later }
def StockCopiesCardSaid : Prop := Claim7.holds Tryz.pinned (.plain (OpenSpec.ofChange stockCopiesSpec)) stockCopiesCard

/-- THE TIED CARD OF 'airlinelaw15.StockNone'. -/
def stockNoneCard : Claim7 := { stood := { row := stockNoneRow, standIns := [], harness := (true, "69f5b95781f55ddec7bfab132126c94b5880d079babebe8fd9d54c6d21c889bc"), looks := false }, kinds := [], alts := [], laidByText := true, laidKinds := [.data, .data, .data], laidTests := true, laidLooks := .later }
def StockNoneCardSaid : Prop := Claim7.holds Tryz.pinned (.plain (OpenSpec.ofChange stockNoneSpec)) stockNoneCard

/-- THE SECOND FORM's CARD OF 'airlinelaw15.StockActs'. -/
def stockActsUptoCard : Claim7 := { stood := { row := stockActsUptoRow, standIns := [], harness := (true, "69f5b95781f55ddec7bfab132126c94b5880d079babebe8fd9d54c6d21c889bc"), looks := false }, kinds := [], alts := [], laidByText := true, laidKinds := [.data, .data, .data], laidTests := true, laidLooks := .later }
def StockActsUptoCardSaid : Prop := Claim7.holds Tryz.pinned (.plain (OpenSpec.upto stockActsSpec)) stockActsUptoCard

/-- THE SECOND FORM's CARD OF 'airlinelaw15.StockLimits'. -/
def stockLimitsUptoCard : Claim7 := { stood := { row := stockLimitsUptoRow, standIns := [], harness := (true, "69f5b95781f55ddec7bfab132126c94b5880d079babebe8fd9d54c6d21c889bc"), looks := false }, kinds := [], alts := [], laidByText := true, laidKinds := [.data, .data, .data], laidTests := true, laidLooks := .later }
def StockLimitsUptoCardSaid : Prop := Claim7.holds Tryz.pinned (.plain (OpenSpec.upto stockLimitsSpec)) stockLimitsUptoCard

/-- THE SECOND FORM's CARD OF 'airlinelaw15.StockExact'. -/
def stockExactUptoCard : Claim7 := { stood := { row := stockExactUptoRow, standIns := [], harness := (true, "69f5b95781f55ddec7bfab132126c94b5880d079babebe8fd9d54c6d21c889bc"), looks := false }, kinds := [], alts := [], laidByText := true, laidKinds := [.data, .data, .data], laidTests := true, laidLooks := .later }
def StockExactUptoCardSaid : Prop := Claim7.holds Tryz.pinned (.plain (OpenSpec.upto stockExactSpec)) stockExactUptoCard

/-- THE SECOND FORM's CARD OF 'airlinelaw15.StockTogether'. -/
def stockTogetherUptoCard : Claim7 := { stood := { row := stockTogetherUptoRow, standIns := [], harness := (true, "69f5b95781f55ddec7bfab132126c94b5880d079babebe8fd9d54c6d21c889bc"), looks := false }, kinds := [], alts := [], laidByText := true, laidKinds := [.data, .data, .data], laidTests := true, laidLooks := .later }
def StockTogetherUptoCardSaid : Prop := Claim7.holds Tryz.pinned (.plain (OpenSpec.upto stockTogetherSpec)) stockTogetherUptoCard

/-- THE SECOND FORM's CARD OF 'airlinelaw15.StockResizes'. -/
def stockResizesUptoCard : Claim7 := { stood := { row := stockResizesUptoRow, standIns := [], harness := (true, "69f5b95781f55ddec7bfab132126c94b5880d079babebe8fd9d54c6d21c889bc"), looks := false }, kinds := [], alts := [], laidByText := true, laidKinds := [.data, .data, .data], laidTests := true, laidLooks := .later }
def StockResizesUptoCardSaid : Prop := Claim7.holds Tryz.pinned (.plain (OpenSpec.upto stockResizesSpec)) stockResizesUptoCard

/-- THE SECOND FORM's CARD OF 'airlinelaw15.StockCopies'. -/
def stockCopiesUptoCard : Claim7 := { stood := { row := stockCopiesUptoRow, standIns := [], harness := (true, "69f5b95781f55ddec7bfab132126c94b5880d079babebe8fd9d54c6d21c889bc"), looks := false }, kinds := [], alts := [], laidByText := true, laidKinds := [.data, .data, .data], laidTests := true, laidLooks := .later }
def StockCopiesUptoCardSaid : Prop := Claim7.holds Tryz.pinned (.plain (OpenSpec.upto stockCopiesSpec)) stockCopiesUptoCard

/-- THE SECOND FORM's CARD OF 'airlinelaw15.StockNone'. -/
def stockNoneUptoCard : Claim7 := { stood := { row := stockNoneUptoRow, standIns := [], harness := (true, "69f5b95781f55ddec7bfab132126c94b5880d079babebe8fd9d54c6d21c889bc"), looks := false }, kinds := [], alts := [], laidByText := true, laidKinds := [.data, .data, .data], laidTests := true, laidLooks := .later }
def StockNoneUptoCardSaid : Prop := Claim7.holds Tryz.pinned (.plain (OpenSpec.upto stockNoneSpec)) stockNoneUptoCard
end Rows
end Go.Proofs.YtjmahmeionakaaaGreatDoor
