/- Plain contracts of the loops over an iterator; equal lists; the reference's Days, Count. -/
import Derived.Test.YtnfdmdhpbaifiaaDoorPerF
namespace Go.Proofs.YtnfdmdhpbaifiaaDoor
open Go.RowKit
set_option linter.unusedSimpArgs false
set_option linter.unusedVariables false

theorem normal_any (p : Per) (w : World) : Calls Tryd.prog 10 #[encQ p] w fun e W' => e = .returned (.tuple #[encQ (ofQ (daysQ p)).1, .bool (ofQ (daysQ p)).2]) ∧ Below w.heap.size w W' := callsIn_wide.1 (normal_in p w)

/-! ### equal lists -/
theorem take_stepI (a b : List Int) (k : Nat) (h1 : k < a.length) (h2 : k < b.length) (h : a.take k = b.take k) (he : a[k] = b[k]) : a.take (k + 1) = b.take (k + 1) := by
  rw [List.take_succ_eq_append_getElem h1, List.take_succ_eq_append_getElem h2, h, he]
theorem not_sameI (a b : List Int) (k : Nat) (h1 : k < a.length) (h2 : k < b.length) (he : a[k] ≠ b[k]) : a ≠ b := by
  rintro rfl; exact he rfl
def sameI (a b : List Int) : Bool := decide (a = b)
/-! ### the reference's Days -/
theorem Box3.more1 {w : World} {p : Per} {W W' : World} (h : Box3 w w.heap.size p W) (hb : Below (w.heap.size + 1) W W') : Box3 w w.heap.size p W' :=
  ⟨(hb.cell (p := ⟨w.heap.size, 0, none⟩) (by simp)).trans h.1, (hb.cell (p := ⟨w.heap.size, 1, none⟩) (by simp)).trans h.2.1, (hb.cell (p := ⟨w.heap.size, 2, none⟩) (by simp)).trans h.2.2.1, h.2.2.2.trans (hb.mono (by omega))⟩
end Go.Proofs.YtnfdmdhpbaifiaaDoor
