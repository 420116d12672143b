/- Walks of the small functions of package calendar, beside the reference's. -/
import Derived.Test.YtjokpfeiganigaaDoorRows
import Derived.Test.YtjokpfeiganigaaDoorMem
import Derived.Test.YtjokpfeiganigaaDoorCalP
import Derived.OwnWalk
namespace Go.Proofs.YtjokpfeiganigaaDoor
open Go.RowKit
set_option linter.unusedSimpArgs false
set_option linter.unusedVariables false

theorem ret_pair {k j : IntKind} {a b c d : Int} (h : a = b) (h2 : c = d) : Ending.returned (.tuple #[.int k a, .int j c]) = .returned (.tuple #[.int k b, .int j d]) := by rw [h, h2]

/-- how the program's own division rounds -/
theorem tdiv_pos (a b : Int) (h : 0 ≤ a) : a.tdiv b = a / b := Int.tdiv_eq_ediv_of_nonneg h
theorem tmod_pos (a b : Int) (h : 0 ≤ a) : a.tmod b = a % b := Int.tmod_eq_emod_of_nonneg h

set_option maxHeartbeats 400000 in
theorem isDay_any (a : Int) (w : World) : Calls Tryd.prog 106 #[.int .i64 a] w fun e w' => e = .returned (.bool (isDayB a)) ∧ w = w' := by
  by_cases h1 : (0 : Int) ≤ a
  · go_enter Tryd.func106, Tryd.ntmps106
    go_wp2
    go_ret
    exact ⟨ret_bool (by simp [isDayB]; omega), rfl⟩
  · go_enter Tryd.func106, Tryd.ntmps106
    go_wp2
    go_ret
    exact ⟨ret_bool (by simp [isDayB]; omega), rfl⟩
set_option maxHeartbeats 400000 in
theorem yearStart_any (y : Int) (w : World) (h0 : 2000 ≤ y) (h1 : y ≤ 2100) : Calls Tryd.prog 124 #[.int .i64 y] w fun e w' => e = .returned (.int .i64 (ysP y)) ∧ w = w' := by
  go_enter Tryd.func124, Tryd.ntmps124
  go_wp2
  go_ret
  exact ⟨ret_int (by rfl), rfl⟩
/-- the days of the months, as the program lays them -/
def lensA (y : Int) : Array Value := #[.int .i64 31, .int .i64 (28 + lp y), .int .i64 31, .int .i64 30, .int .i64 31, .int .i64 30, .int .i64 31, .int .i64 31, .int .i64 30, .int .i64 31, .int .i64 30, .int .i64 31]
theorem lensA_at (y : Int) (i : Nat) (h : i < 12) : (lensA y)[i]? = some (.int .i64 (lenP y ((i : Int) + 1))) := by
  have : i = 0 ∨ i = 1 ∨ i = 2 ∨ i = 3 ∨ i = 4 ∨ i = 5 ∨ i = 6 ∨ i = 7 ∨ i = 8 ∨ i = 9 ∨ i = 10 ∨ i = 11 := by omega
  rw [len_lp]
  rcases this with rfl | rfl | rfl | rfl | rfl | rfl | rfl | rfl | rfl | rfl | rfl | rfl <;> rfl
theorem lensA_size (y : Int) : (lensA y).size = 12 := rfl
set_option maxHeartbeats 400000 in
theorem months_any (y : Int) (w : World) (h0 : 2000 ≤ y) (h1 : y ≤ 2100) :
    Calls Tryd.prog 125 #[.int .i64 y] w fun e w' => e = .returned (.agg (lensA y)) ∧ w' = (w.alloc (.cells (lensA y) 167)).alloc (.cells (lensA y) 167) := by
  by_cases h : y % 4 = 0
  · have hl : lp y = 1 := by simp [lp, h]
    have ha : Hid (lensA y = #[.int .i64 31, .int .i64 29, .int .i64 31, .int .i64 30, .int .i64 31, .int .i64 30, .int .i64 31, .int .i64 31, .int .i64 30, .int .i64 31, .int .i64 30, .int .i64 31]) := Lib.hid (by simp [lensA, hl])
    clear hl
    go_enter Tryd.func125, Tryd.ntmps125
    go_wp2
    refine bodyPost_ret (v := .agg (lensA y)) ?_ rfl ⟨rfl, ?_⟩
    · rw [ha.out]; simp [results, Tryd.results125, go_sem]
    · rw [ha.out]
  · have hl : lp y = 0 := by simp [lp, h]
    have ha : Hid (lensA y = #[.int .i64 31, .int .i64 28, .int .i64 31, .int .i64 30, .int .i64 31, .int .i64 30, .int .i64 31, .int .i64 31, .int .i64 30, .int .i64 31, .int .i64 30, .int .i64 31]) := Lib.hid (by simp [lensA, hl])
    clear hl
    go_enter Tryd.func125, Tryd.ntmps125
    go_wp2
    refine bodyPost_ret (v := .agg (lensA y)) ?_ rfl ⟨rfl, ?_⟩
    · rw [ha.out]; simp [results, Tryd.results125, go_sem]
    · rw [ha.out]

end Go.Proofs.YtjokpfeiganigaaDoor
