/- Walks of the difference of periods: the reference's parts. -/
import Derived.Test.YtnfdmdhpbaifiaaDoorPerI
namespace Go.Proofs.YtnfdmdhpbaifiaaDoor
open Go.RowKit
set_option linter.unusedSimpArgs false
set_option linter.unusedVariables false

theorem partQ_short (l : List Int) (x y : Int) (b : Per) : (partQ l x y b).length ≤ l.length := List.length_filter_le _ _
end Go.Proofs.YtnfdmdhpbaifiaaDoor
