/- Walks of container/heap: down, Push, Pop. -/
import Derived.Test.YtkcdifanhdakhaaDoorPlaJ1
namespace Go.Proofs.YtkcdifanhdakhaaDoor
open Go.RowKit Go.Shelf
set_option linter.unusedSimpArgs false
set_option linter.unusedVariables false

theorem But.drewr (w : World) (r : Nat) : But w w.drew (fun k => k = r) := But.of_below (Below.refl _ _).drew

end Go.Proofs.YtkcdifanhdakhaaDoor
