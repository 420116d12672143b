/- Walks of divide, Split, Weekday, of two digits, beside the reference's. -/
import Derived.Test.YtjokpfeiganigaaDoorCalA
import Derived.Test.YtjokpfeiganigaaDoorCalQ
import Derived.Deep.WholeRow
import Derived.BigQuiet
import Derived.Deep.QuietTactic
namespace Go.Proofs.YtjokpfeiganigaaDoor
open Go.RowKit
set_option linter.unusedSimpArgs false
set_option linter.unusedVariables false

/-- how the program's own division lies beside the floor -/
theorem tdiv_bounds (a b : Int) (hb : 2 ≤ b) (h0 : -9223372036854775808 ≤ a) (h1 : a ≤ 9223372036854775807) : -4611686018427387904 ≤ a.tdiv b ∧ a.tdiv b ≤ 4611686018427387904 := by
  have h := Int.natAbs_tdiv a b
  have h2 : a.natAbs / b.natAbs ≤ a.natAbs / 2 := Nat.div_le_div_left (by omega) (by omega)
  have h3 : (a.tdiv b).natAbs ≤ a.natAbs / 2 := by rw [h]; exact h2
  generalize a.tdiv b = q at h3
  omega
theorem tmod_bounds (a b : Int) (hb : 2 ≤ b) : -b < a.tmod b ∧ a.tmod b < b := ⟨Int.lt_tmod_of_pos a (by omega), Int.tmod_lt_of_pos a (by omega)⟩
theorem floor_low (a b : Int) (hb : 2 ≤ b) (h : a.tmod b < 0) : a / b = a.tdiv b - 1 ∧ a % b = a.tmod b + b := by
  have h1 := Int.mul_tdiv_add_tmod a b
  have h2 := tmod_bounds a b hb
  refine (Int.ediv_emod_unique (by omega)).2 ⟨?_, by omega, by omega⟩
  rw [Int.mul_sub, Int.mul_one]
  omega
theorem floor_up (a b : Int) (hb : 2 ≤ b) (h : 0 ≤ a.tmod b) : a / b = a.tdiv b ∧ a % b = a.tmod b := by
  have h1 := Int.mul_tdiv_add_tmod a b
  have h2 := tmod_bounds a b hb
  exact (Int.ediv_emod_unique (by omega)).2 ⟨by omega, by omega, by omega⟩

set_option maxHeartbeats 1000000 in
theorem divide_any (a b : Int) (w : World) (h0 : -9223372036854775808 ≤ a) (h1 : a ≤ 9223372036854775807) (hb : b = 7 ∨ b = 1440) : Calls Tryd.prog 115 #[.int .i64 a, .int .i64 b] w fun e w' => e = .returned (.tuple #[.int .i64 (a / b), .int .i64 (a % b)]) ∧ Below w.heap.size w w' := by
  have b1 := tdiv_bounds a b (by omega) h0 h1
  have b2 := tmod_bounds a b (by omega)
  by_cases h : a.tmod b < 0
  · have HF := Lib.hid (floor_low a b (by omega) h)
    rcases hb with rfl | rfl
    all_goals
      go_enter Tryd.func115, Tryd.ntmps115
      go_wp2
      go_quiet (fail)
      go_wp2
      go_ret2
      exact ⟨by rw [HF.out.1, HF.out.2]; rfl, below_drewN (Below.refl _ _) _⟩
  · have HF := Lib.hid (floor_up a b (by omega) (by omega))
    rcases hb with rfl | rfl
    all_goals
      go_enter Tryd.func115, Tryd.ntmps115
      go_wp2
      go_quiet (fail)
      go_wp2
      go_ret2
      exact ⟨by rw [HF.out.1, HF.out.2]; rfl, below_drewN (Below.refl _ _) _⟩
set_option maxHeartbeats 1000000 in
theorem split_any (a : Int) (w : World) (h0 : -9223372036854775808 ≤ a) (h1 : a ≤ 9223372036854775807) : Calls Tryd.prog 120 #[.int .i64 a] w fun e w' => e = .returned (.tuple #[.int .i64 (a / 1440), .int .i64 (a % 1440)]) ∧ Below w.heap.size w w' := by
  have CD := Lib.hid (fun w => divide_any a 1440 w h0 h1 (.inr rfl))
  go_enter Tryd.func120, Tryd.ntmps120
  go_wp2_with (go_at_call 115; refine (CD.out _).mono ?_; rintro e w' ⟨rfl, hb⟩)
  go_ret2
  exact ⟨rfl, hb⟩
/-- the weekday of any number -/
def weekP (n : Int) : Int := (n + 5) % 7
theorem week_of (n : Int) : (n.tmod 7 + 5) % 7 = weekP n := by
  have h1 := Int.mul_tdiv_add_tmod n 7
  unfold weekP
  omega
set_option maxHeartbeats 1000000 in
theorem weekday_any (n : Int) (w : World) (h0 : -9223372036854775808 ≤ n) (h1 : n ≤ 9223372036854775807) : Calls Tryd.prog 92 #[.int .i64 n] w fun e w' => e = .returned (.int .i64 (weekP n)) ∧ Below w.heap.size w w' := by
  have b2 := tmod_bounds n 7 (by omega)
  have CD := Lib.hid (fun w => divide_any (n.tmod 7 + 5) 7 w (by omega) (by omega) (.inl rfl))
  have HW := Lib.hid (week_of n)
  go_enter Tryd.func92, Tryd.ntmps92
  go_wp2_with (go_at_call 115; refine (CD.out _).mono ?_; rintro e w' ⟨rfl, hb⟩)
  go_ret
  exact ⟨by rw [← HW.out]; rfl, hb⟩
theorem two_text (n : Int) (h0 : 0 ≤ n) (h1 : n ≤ 99) (w : World) :
    (convert 151 9 (.slice (some ⟨w.heap.size, 0, none⟩) 2 2)).run Tryd.prog (w.alloc (.cells #[.int .u8 (48 + n / 10), .int .u8 (48 + n % 10)] 5)) = .ok (.string ⟨#[d1 n, d2 n]⟩) (w.alloc (.cells #[.int .u8 (48 + n / 10), .int .u8 (48 + n % 10)] 5)) := by
  have h := run_convert_bytes_back (P := Tryd.prog) (w.alloc (.cells #[.int .u8 (48 + n / 10), .int .u8 (48 + n % 10)] 5)) 151 9 5 ⟨w.heap.size, 0, none⟩ 2 (twoL n) Tryd.underlying151 Tryd.underlying5 Tryd.underlying9 ?_
  · exact h
  · intro j hj
    have hadd : (⟨w.heap.size, 0, none⟩ : Addr).add j = ⟨w.heap.size, j, none⟩ := by unfold Addr.add; split <;> simp_all
    rw [hadd, cell_of_row _ _ j _ _ (0, 0) (heap_alloc_last w _), ← d1_nat n h0 h1, ← d2_nat n h0 h1]
    have hj2 : j = 0 ∨ j = 1 := by have : (twoL n).length = 2 := rfl; omega
    rcases hj2 with rfl | rfl <;> rfl
set_option maxHeartbeats 1000000 in
theorem two_any (n : Int) (w : World) (h0 : 0 ≤ n) (h1 : n ≤ 99) : Calls Tryd.prog 108 #[.int .i64 n] w fun e w' => e = .returned (.string ⟨(twoL n).toArray⟩) ∧ Below w.heap.size w w' := by
  have HT := two_text n h0 h1
  go_enter Tryd.func108, Tryd.ntmps108
  go_wp2
  go_ret
  exact ⟨rfl, (Below.refl _ _).alloc (Nat.le_refl _) _⟩
end Go.Proofs.YtjokpfeiganigaaDoor
