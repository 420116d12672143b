/- Walks of divide, Split, Weekday, of two digits, beside the reference's. -/
import Derived.Test.YtkcdifanhdakhaaDoorCalA
import Derived.Test.YtkcdifanhdakhaaDoorCalQ
import Derived.Deep.WholeRow
import Derived.BigQuiet
import Derived.Deep.QuietTactic
namespace Go.Proofs.YtkcdifanhdakhaaDoor
open Go.RowKit
set_option linter.unusedSimpArgs false
set_option linter.unusedVariables false

/-- how the program's own division lies beside the floor -/
theorem tdiv_bounds (a b : Int) (hb : 2 ≤ b) (h0 : -9223372036854775808 ≤ a) (h1 : a ≤ 9223372036854775807) : -4611686018427387904 ≤ a.tdiv b ∧ a.tdiv b ≤ 4611686018427387904 := by
  have h := Int.natAbs_tdiv a b
  have h2 : a.natAbs / b.natAbs ≤ a.natAbs / 2 := Nat.div_le_div_left (by omega) (by omega)
  have h3 : (a.tdiv b).natAbs ≤ a.natAbs / 2 := by rw [h]; exact h2
  generalize a.tdiv b = q at h3
  omega
theorem tmod_bounds (a b : Int) (hb : 2 ≤ b) : -b < a.tmod b ∧ a.tmod b < b := ⟨Int.lt_tmod_of_pos a (by omega), Int.tmod_lt_of_pos a (by omega)⟩
theorem floor_low (a b : Int) (hb : 2 ≤ b) (h : a.tmod b < 0) : a / b = a.tdiv b - 1 ∧ a % b = a.tmod b + b := by
  have h1 := Int.mul_tdiv_add_tmod a b
  have h2 := tmod_bounds a b hb
  refine (Int.ediv_emod_unique (by omega)).2 ⟨?_, by omega, by omega⟩
  rw [Int.mul_sub, Int.mul_one]
  omega
theorem floor_up (a b : Int) (hb : 2 ≤ b) (h : 0 ≤ a.tmod b) : a / b = a.tdiv b ∧ a % b = a.tmod b := by
  have h1 := Int.mul_tdiv_add_tmod a b
  have h2 := tmod_bounds a b hb
  exact (Int.ediv_emod_unique (by omega)).2 ⟨by omega, by omega, by omega⟩

/-- the weekday of any number -/
def weekP (n : Int) : Int := (n + 5) % 7
theorem week_of (n : Int) : (n.tmod 7 + 5) % 7 = weekP n := by
  have h1 := Int.mul_tdiv_add_tmod n 7
  unfold weekP
  omega
theorem two_text (n : Int) (h0 : 0 ≤ n) (h1 : n ≤ 99) (w : World) :
    (convert 134 9 (.slice (some ⟨w.heap.size, 0, none⟩) 2 2)).run Tryd.prog (w.alloc (.cells #[.int .u8 (48 + n / 10), .int .u8 (48 + n % 10)] 5)) = .ok (.string ⟨#[d1 n, d2 n]⟩) (w.alloc (.cells #[.int .u8 (48 + n / 10), .int .u8 (48 + n % 10)] 5)) := by
  have h := run_convert_bytes_back (P := Tryd.prog) (w.alloc (.cells #[.int .u8 (48 + n / 10), .int .u8 (48 + n % 10)] 5)) 134 9 5 ⟨w.heap.size, 0, none⟩ 2 (twoL n) Tryd.underlying134 Tryd.underlying5 Tryd.underlying9 ?_
  · exact h
  · intro j hj
    have hadd : (⟨w.heap.size, 0, none⟩ : Addr).add j = ⟨w.heap.size, j, none⟩ := by unfold Addr.add; split <;> simp_all
    rw [hadd, cell_of_row _ _ j _ _ (0, 0) (heap_alloc_last w _), ← d1_nat n h0 h1, ← d2_nat n h0 h1]
    have hj2 : j = 0 ∨ j = 1 := by have : (twoL n).length = 2 := rfl; omega
    rcases hj2 with rfl | rfl <;> rfl
end Go.Proofs.YtkcdifanhdakhaaDoor
