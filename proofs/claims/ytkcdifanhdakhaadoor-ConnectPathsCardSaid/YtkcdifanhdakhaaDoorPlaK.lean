/- Walks of hasCodes and, where there is nothing to report, of report. -/
import Derived.Test.YtkcdifanhdakhaaDoorPlaM
namespace Go.Proofs.YtkcdifanhdakhaaDoor
open Go.RowKit Go.Shelf
set_option linter.unusedSimpArgs false
set_option linter.unusedVariables false

theorem airp_any (s : ByteArray) (w : World) (hs : s.size ≤ maxLen) : Calls Tryd.prog 54 #[.string s] w fun e w' => e = .returned (.bool (capsB s 3)) ∧ w = w' := by
  go_enter Tryd.func54, Tryd.ntmps54
  go_wp2_with (go_at_call 74; refine (capitals_any _ _ _ hs).mono ?_; rintro e w' ⟨rfl, rfl⟩)
  go_ret
  exact ⟨rfl, rfl⟩
def codesB (a : Air) : Bool := capsB a.code 3 && capsB a.city 3 && capsB a.land 2
end Go.Proofs.YtkcdifanhdakhaaDoor
