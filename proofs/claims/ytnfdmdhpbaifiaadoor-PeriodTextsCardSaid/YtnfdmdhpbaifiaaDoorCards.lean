/-
  DERIVED. GIVEN WITH THE SEED: THE CARDS: each row of YtnfdmdhpbaifiaaDoorRows.lean that lists a variable, with what it lists TIED to the program's text (the seventh form; the later family's looks); each row that meets fmt, with fmt's text TOLD by the authors' own Lean function (tested against real Go, not proved from fmt's source: count such statements apart). THE CARD IS WHAT COUNTS. Prove the row's statement (the work); the ties are given (YtnfdmdhpbaifiaaDoorTie.lean); close each card by the builder's one call (the guide's Derived/Test/ToyasCard.lean, 'card_holds'). Laid BY PROGRAM, IN A SANDBOX (cutbox-door.mjs). By AI agents, Wed Nov 11 2026. No macro, syntax, notation, axiom, sorry.
-/
import Derived.Test.YtnfdmdhpbaifiaaDoorRows
import GoSem.ClaimSeven
namespace Go.Proofs.YtnfdmdhpbaifiaaDoor
namespace Rows

/-- THE TIED CARD OF 'airlinelaw04.PeriodTexts'. -/
def periodTextsCard : Claim7 := { stood := { row := periodTextsRow, standIns := [], harness := (true, "dc1799ee6b44d6066cfa9ab8b3d1303579d0d685e96e90f0e5b9c3df6518139c"), looks := false }, kinds := [], alts := [], laidByText := true, laidKinds := [.data, .pinned], laidTests := true, laidLooks := .later }
def PeriodTextsCardSaid : Prop := Claim7.holds Tryd.pinned (.plain (OpenSpec.ofChange periodTextsSpec)) periodTextsCard

/-- THE SECOND FORM's CARD OF 'airlinelaw04.PeriodTexts'. -/
def periodTextsUptoCard : Claim7 := { stood := { row := periodTextsUptoRow, standIns := [], harness := (true, "dc1799ee6b44d6066cfa9ab8b3d1303579d0d685e96e90f0e5b9c3df6518139c"), looks := false }, kinds := [], alts := [], laidByText := true, laidKinds := [.data, .pinned], laidTests := true, laidLooks := .later }
def PeriodTextsUptoCardSaid : Prop := Claim7.holds Tryd.pinned (.plain (OpenSpec.upto periodTextsSpec)) periodTextsUptoCard
end Rows
end Go.Proofs.YtnfdmdhpbaifiaaDoor
