/- Walk of the law on canonical periods. -/
import Derived.Test.YtnfdmdhpbaifiaaPerVB
import Derived.Test.YtnfdmdhpbaifiaaPerVC
import Derived.Test.YtnfdmdhpbaifiaaPerVD
import Derived.Test.YtnfdmdhpbaifiaaPerVE
import Derived.Test.YtnfdmdhpbaifiaaPerVF
namespace Go.Proofs.Ytnfdmdhpbaifiaa
open Go.RowKit
set_option linter.unusedSimpArgs false
set_option linter.unusedVariables false

theorem periodCanonical_walk (a b : Per) (w : World) (ha : b643 a) (hb : b643 b) :
    Calls Try.prog 6 #[encQ a, encQ b] w fun e w' => e = .returned (.bool true) ∧ Below w.heap.size w w' := by
  by_cases he : daysQ a = daysQ b
  · exact canon_eq a b w ha hb he
  · rcases ofQ_ne he with hne | ⟨hz, hne⟩
    · cases h1 : (ofQ (daysQ a)).2 <;> cases h2 : (ofQ (daysQ b)).2
      · exact absurd (h1.trans h2.symm) hne
      · exact canon_ft a b w ha hb he h1 h2
      · exact canon_tf a b w ha hb he h1 h2
      · exact absurd (h1.trans h2.symm) hne
    · rcases per_ne hne with e1 | ⟨e1, e2⟩ | ⟨e1, e2, e3⟩
      · exact canon_d1 a b w ha hb he hz e1
      · exact canon_d2 a b w ha hb he hz e1 e2
      · exact canon_d3 a b w ha hb he hz e1 e2 e3

end Go.Proofs.Ytnfdmdhpbaifiaa
