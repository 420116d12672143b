/- Walks of the queue's Pop and Push. -/
import Derived.Test.YtkcdifanhdakhaaDoorPlaH
import Derived.Deep.RegionLaw
namespace Go.Proofs.YtkcdifanhdakhaaDoor
open Go.RowKit Go.Shelf
set_option linter.unusedSimpArgs false
set_option linter.unusedVariables false

theorem bel_buf (w : World) (o : Obj) : Below w.heap.size w (w.drew.alloc o) := ((Below.refl _ _).drew).alloc (Nat.le_refl _) o

end Go.Proofs.YtkcdifanhdakhaaDoor
