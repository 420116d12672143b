/- Walk of the reference's City. -/
import Derived.Test.YtkcdifanhdakhaaDoorPlaR
namespace Go.Proofs.YtkcdifanhdakhaaDoor
open Go.RowKit Go.Shelf
set_option linter.unusedSimpArgs false
set_option linter.unusedVariables false

end Go.Proofs.YtkcdifanhdakhaaDoor
