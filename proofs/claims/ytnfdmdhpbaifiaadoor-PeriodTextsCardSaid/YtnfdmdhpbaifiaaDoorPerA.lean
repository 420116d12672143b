/- Walks of the small functions of package period, beside the reference's: Check, the weekday's bit, between. -/
import Derived.Test.YtnfdmdhpbaifiaaDoorRows
import Derived.Test.YtnfdmdhpbaifiaaDoorMem
import Derived.Test.YtnfdmdhpbaifiaaDoorCalD
import Derived.Test.YtnfdmdhpbaifiaaDoorPerP
import Derived.OwnWalk
import Derived.IntWalk
import Derived.Deep.QuietTactic
import Derived.BigQuiet
namespace Go.Proofs.YtnfdmdhpbaifiaaDoor
open Go.RowKit
set_option linter.unusedSimpArgs false
set_option linter.unusedVariables false

abbrev encQ (p : Per) : Value := .agg #[.int .i64 p.1, .int .i64 p.2.1, .int .i64 p.2.2]
theorem bel_alloc (w : World) (o : Obj) : Below w.heap.size w (w.alloc o) := (Below.refl _ w).alloc (Nat.le_refl _) o
theorem err_first {f t d : Int} (h : f < 0 ∨ t < f ∨ 36525 ≤ t) : errQ (f, t, d) = 12 := by rw [errQ, if_pos h]
theorem err_second {f t d : Int} (h : ¬ (f < 0 ∨ t < f ∨ 36525 ≤ t)) (h2 : 800 ≤ t - f) : errQ (f, t, d) = 4 := by rw [errQ, if_neg h, if_pos h2]
theorem err_third {f t d : Int} (h : ¬ (f < 0 ∨ t < f ∨ 36525 ≤ t)) (h2 : ¬ 800 ≤ t - f) (h3 : d < 1 ∨ 127 < d) : errQ (f, t, d) = 2 := by rw [errQ, if_neg h, if_neg h2, if_pos h3]
theorem err_none {f t d : Int} (h : ¬ (f < 0 ∨ t < f ∨ 36525 ≤ t)) (h2 : ¬ 800 ≤ t - f) (h3 : ¬ (d < 1 ∨ 127 < d)) : errQ (f, t, d) = 0 := by rw [errQ, if_neg h, if_neg h2, if_neg h3]

set_option maxHeartbeats 1000000 in
theorem check_any (f t d : Int) (w : World) : Calls Tryd.prog 15 #[encQ (f, t, d)] w fun e w' => e = .returned (.int .i64 (errQ (f, t, d))) ∧ Below w.heap.size w w' := by
  by_cases h1 : f < 0
  · have HR := Lib.hid (err_first (d := d) (.inl h1) (t := t))
    go_enter Tryd.func15, Tryd.ntmps15
    go_wp2
    go_ret
    exact ⟨by rw [HR.out]; rfl, bel_alloc _ _⟩
  by_cases h2 : t < f
  · have HR := Lib.hid (err_first (d := d) (.inr (.inl h2)))
    go_enter Tryd.func15, Tryd.ntmps15
    go_wp2
    go_ret
    exact ⟨by rw [HR.out]; rfl, bel_alloc _ _⟩
  by_cases h3 : 36525 ≤ t
  · have HR := Lib.hid (err_first (f := f) (d := d) (.inr (.inr h3)))
    go_enter Tryd.func15, Tryd.ntmps15
    go_wp2
    go_ret
    exact ⟨by rw [HR.out]; rfl, bel_alloc _ _⟩
  have ha : ¬ (f < 0 ∨ t < f ∨ 36525 ≤ t) := by omega
  by_cases h4 : 800 ≤ t - f
  · have HR := Lib.hid (err_second (d := d) ha h4)
    clear ha
    go_enter Tryd.func15, Tryd.ntmps15
    go_wp2
    go_ret
    exact ⟨by rw [HR.out]; rfl, bel_alloc _ _⟩
  by_cases h5 : d < 1
  · have HR := Lib.hid (err_third ha h4 (.inl h5))
    clear ha
    go_enter Tryd.func15, Tryd.ntmps15
    go_wp2
    go_ret
    exact ⟨by rw [HR.out]; rfl, bel_alloc _ _⟩
  by_cases h6 : 127 < d
  · have HR := Lib.hid (err_third ha h4 (.inr h6))
    clear ha
    go_enter Tryd.func15, Tryd.ntmps15
    go_wp2
    go_ret
    exact ⟨by rw [HR.out]; rfl, bel_alloc _ _⟩
  · have HR := Lib.hid (err_none ha h4 (d := d) (by omega))
    clear ha
    go_enter Tryd.func15, Tryd.ntmps15
    go_wp2
    go_ret
    exact ⟨by rw [HR.out]; rfl, bel_alloc _ _⟩

set_option maxHeartbeats 1000000 in
theorem rcheck_any (f t d : Int) (w : World) : Calls Tryd.prog 9 #[encQ (f, t, d)] w fun e w' => e = .returned (.int .i64 (errQ (f, t, d))) ∧ Below w.heap.size w w' := by
  by_cases h1 : f < 0
  · have HR := Lib.hid (err_first (d := d) (.inl h1) (t := t))
    go_enter Tryd.func9, Tryd.ntmps9
    go_wp2
    go_ret
    exact ⟨by rw [HR.out]; rfl, bel_alloc _ _⟩
  by_cases h2 : t < f
  · have HR := Lib.hid (err_first (d := d) (.inr (.inl h2)))
    go_enter Tryd.func9, Tryd.ntmps9
    go_wp2
    go_ret
    exact ⟨by rw [HR.out]; rfl, bel_alloc _ _⟩
  by_cases h3 : 36525 ≤ t
  · have HR := Lib.hid (err_first (f := f) (d := d) (.inr (.inr h3)))
    go_enter Tryd.func9, Tryd.ntmps9
    go_wp2
    go_ret
    exact ⟨by rw [HR.out]; rfl, bel_alloc _ _⟩
  have ha : ¬ (f < 0 ∨ t < f ∨ 36525 ≤ t) := by omega
  by_cases h4 : 800 ≤ t - f
  · have HR := Lib.hid (err_second (d := d) ha h4)
    clear ha
    go_enter Tryd.func9, Tryd.ntmps9
    go_wp2
    go_ret
    exact ⟨by rw [HR.out]; rfl, bel_alloc _ _⟩
  by_cases h5 : d < 1
  · have HR := Lib.hid (err_third ha h4 (.inl h5))
    clear ha
    go_enter Tryd.func9, Tryd.ntmps9
    go_wp2
    go_ret
    exact ⟨by rw [HR.out]; rfl, bel_alloc _ _⟩
  by_cases h6 : 127 < d
  · have HR := Lib.hid (err_third ha h4 (.inr h6))
    clear ha
    go_enter Tryd.func9, Tryd.ntmps9
    go_wp2
    go_ret
    exact ⟨by rw [HR.out]; rfl, bel_alloc _ _⟩
  · have HR := Lib.hid (err_none ha h4 (d := d) (by omega))
    clear ha
    go_enter Tryd.func9, Tryd.ntmps9
    go_wp2
    go_ret
    exact ⟨by rw [HR.out]; rfl, bel_alloc _ _⟩

end Go.Proofs.YtnfdmdhpbaifiaaDoor
