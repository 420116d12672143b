/- Walks of container/heap: up. -/
import Derived.Test.YtkcdifanhdakhaaDoorPlaJ0
namespace Go.Proofs.YtkcdifanhdakhaaDoor
open Go.RowKit Go.Shelf
set_option linter.unusedSimpArgs false
set_option linter.unusedVariables false

end Go.Proofs.YtkcdifanhdakhaaDoor
