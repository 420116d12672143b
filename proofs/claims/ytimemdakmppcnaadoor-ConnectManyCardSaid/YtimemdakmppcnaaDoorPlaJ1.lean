/- Walks of container/heap: up. -/
import Derived.Test.YtimemdakmppcnaaDoorPlaJ0
namespace Go.Proofs.YtimemdakmppcnaaDoor
open Go.RowKit Go.Shelf
set_option linter.unusedSimpArgs false
set_option linter.unusedVariables false

end Go.Proofs.YtimemdakmppcnaaDoor
