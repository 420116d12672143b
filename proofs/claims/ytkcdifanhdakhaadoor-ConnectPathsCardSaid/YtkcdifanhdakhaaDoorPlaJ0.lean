/- Walks of container/heap over the queue. -/
import Derived.Test.YtkcdifanhdakhaaDoorPlaI
namespace Go.Proofs.YtkcdifanhdakhaaDoor
open Go.RowKit Go.Shelf
set_option linter.unusedSimpArgs false
set_option linter.unusedVariables false

end Go.Proofs.YtkcdifanhdakhaaDoor
