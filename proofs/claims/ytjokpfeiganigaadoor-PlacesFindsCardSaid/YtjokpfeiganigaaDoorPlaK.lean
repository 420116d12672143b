/- Walks of hasCodes and, where there is nothing to report, of report. -/
import Derived.Test.YtjokpfeiganigaaDoorPlaM
namespace Go.Proofs.YtjokpfeiganigaaDoor
open Go.RowKit Go.Shelf
set_option linter.unusedSimpArgs false
set_option linter.unusedVariables false

theorem airp_any (s : ByteArray) (w : World) (hs : s.size ≤ maxLen) : Calls Tryd.prog 94 #[.string s] w fun e w' => e = .returned (.bool (capsB s 3)) ∧ w = w' := by
  go_enter Tryd.func94, Tryd.ntmps94
  go_wp2_with (go_at_call 119; refine (capitals_any _ _ _ hs).mono ?_; rintro e w' ⟨rfl, rfl⟩)
  go_ret
  exact ⟨rfl, rfl⟩
theorem land_any (s : ByteArray) (w : World) (hs : s.size ≤ maxLen) : Calls Tryd.prog 95 #[.string s] w fun e w' => e = .returned (.bool (capsB s 2)) ∧ w = w' := by
  go_enter Tryd.func95, Tryd.ntmps95
  go_wp2_with (go_at_call 119; refine (capitals_any _ _ _ hs).mono ?_; rintro e w' ⟨rfl, rfl⟩)
  go_ret
  exact ⟨rfl, rfl⟩
def codesB (a : Air) : Bool := capsB a.code 3 && capsB a.city 3 && capsB a.land 2
set_option maxHeartbeats 1000000 in
theorem codes_any (a : Air) (w : World) (h1 : a.code.size ≤ maxLen) (h2 : a.city.size ≤ maxLen) (h3 : a.land.size ≤ maxLen) : Calls Tryd.prog 65 #[encA a] w fun e w' => e = .returned (.bool (codesB a)) ∧ Below w.heap.size w w' := by
  have C1 := Lib.hid (fun w => airp_any a.code w h1)
  have C2 := Lib.hid (fun w => airp_any a.city w h2)
  have C3 := Lib.hid (fun w => land_any a.land w h3)
  have HB : Hid (codesB a = (capsB a.code 3 && capsB a.city 3 && capsB a.land 2)) := Lib.hid rfl
  cases b1 : capsB a.code 3
  · rw [b1] at C1 HB
    go_enter Tryd.func65, Tryd.ntmps65
    go_wp2_with (go_at_call 94; refine (C1.out _).mono ?_; rintro e w' ⟨rfl, rfl⟩)
    go_ret
    exact ⟨ret_bool (by rw [HB.out]; rfl), bel_alloc _ _⟩
  rw [b1] at C1 HB
  cases b2 : capsB a.city 3
  · rw [b2] at C2 HB
    go_enter Tryd.func65, Tryd.ntmps65
    go_wp2_with (first | (go_at_call 94; with_reducible refine (C1.out _).mono ?_; rintro e w' ⟨rfl, rfl⟩) | (go_at_call 94; with_reducible refine (C2.out _).mono ?_; rintro e w' ⟨rfl, rfl⟩))
    all_goals
      go_ret
      exact ⟨ret_bool (by rw [HB.out]; rfl), bel_alloc _ _⟩
  rw [b2] at C2 HB
  cases b3 : capsB a.land 2 <;> rw [b3] at C3 HB <;>
  · go_enter Tryd.func65, Tryd.ntmps65
    go_wp2_with (first | (go_at_call 95; refine (C3.out _).mono ?_; rintro e w' ⟨rfl, rfl⟩) | (go_at_call 94; with_reducible refine (C1.out _).mono ?_; rintro e w' ⟨rfl, rfl⟩) | (go_at_call 94; with_reducible refine (C2.out _).mono ?_; rintro e w' ⟨rfl, rfl⟩))
    go_ret
    exact ⟨ret_bool (by rw [HB.out]; rfl), bel_alloc _ _⟩

end Go.Proofs.YtjokpfeiganigaaDoor
