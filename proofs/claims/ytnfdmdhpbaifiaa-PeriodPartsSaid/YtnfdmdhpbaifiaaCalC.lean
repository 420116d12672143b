/- Walks of the reference's Length, Day and Date. -/
import Derived.Test.YtnfdmdhpbaifiaaCalA
import Derived.BigQuiet
import Derived.Deep.QuietTactic
namespace Go.Proofs.Ytnfdmdhpbaifiaa
open Go.RowKit
set_option linter.unusedSimpArgs false
set_option linter.unusedVariables false

end Go.Proofs.Ytnfdmdhpbaifiaa
