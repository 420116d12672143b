/- Walks of container/heap over the queue. -/
import Derived.Test.YtimemdakmppcnaaDoorPlaI
namespace Go.Proofs.YtimemdakmppcnaaDoor
open Go.RowKit Go.Shelf
set_option linter.unusedSimpArgs false
set_option linter.unusedVariables false

end Go.Proofs.YtimemdakmppcnaaDoor
