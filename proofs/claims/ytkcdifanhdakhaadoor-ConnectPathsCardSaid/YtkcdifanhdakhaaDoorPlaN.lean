/- Walk of neighbours. -/
import Derived.Test.YtkcdifanhdakhaaDoorPlaJ3
namespace Go.Proofs.YtkcdifanhdakhaaDoor
open Go.RowKit Go.Shelf
set_option linter.unusedSimpArgs false
set_option linter.unusedVariables false

abbrev nilS : Value := .slice none 0 0
end Go.Proofs.YtkcdifanhdakhaaDoor
