/- Walks of the difference of periods, beside the reference's. -/
import Derived.Test.YtnfdmdhpbaifiaaDoorPerJ
namespace Go.Proofs.YtnfdmdhpbaifiaaDoor
open Go.RowKit
set_option linter.unusedSimpArgs false
set_option linter.unusedVariables false

theorem heap_second (w : World) (o o' : Obj) : ((w.alloc o).alloc o').heap[w.heap.size + 1]? = some o' := by
  have h := heap_alloc_new (w.alloc o) o'
  rw [World.size_alloc] at h
  exact h
/-- rows of lists of numbers, one slice a cell, from cell 0 of block P on -/
def RowsL (w : World) (P : Nat) (Ls : List (List Int)) : Prop := P < w.heap.size ∧ ∀ i (h : i < Ls.length), ∃ v, w.cell? ⟨P, i, none⟩ = some v ∧ IntL w v Ls[i]
theorem RowsL.more {w w' : World} {P : Nat} {Ls : List (List Int)} (h : RowsL w P Ls) (hb : Below w.heap.size w w') : RowsL w' P Ls :=
  ⟨Nat.lt_of_lt_of_le h.1 hb.size, fun i hi => let ⟨v, h1, h2⟩ := h.2 i hi; ⟨v, (hb.cell (p := ⟨P, i, none⟩) h.1).trans h1, h2.more hb⟩⟩
/-- the canonical periods of lists, those without days omitted -/
def normsL (Ls : List (List Int)) : List Per := (Ls.filter fun x => decide (x ≠ [])).map accQ
theorem normsL_map (l : List Per) : normsL (l.map daysQ) = normsQ l := rfl
theorem normsL_step (Ls : List (List Int)) (k : Nat) (h : k < Ls.length) : normsL (Ls.take (k + 1)) = if Ls[k] = [] then normsL (Ls.take k) else normsL (Ls.take k) ++ [accQ Ls[k]] := by
  rw [List.take_succ_eq_append_getElem h]
  unfold normsL
  rw [List.filter_append, List.map_append]
  by_cases h0 : Ls[k] = []
  · rw [if_pos h0, h0]; simp
  · rw [if_neg h0]; simp [h0]
theorem normsL_short (Ls : List (List Int)) : (normsL Ls).length ≤ Ls.length := by
  unfold normsL; rw [List.length_map]; exact List.length_filter_le _ _
/-- a box and the growth since w1 -/
def BB (w1 : World) (B : Nat) (b : Per) (W : World) : Prop := W.cell? ⟨B, 0, none⟩ = some (.int .i64 b.1) ∧ W.cell? ⟨B, 1, none⟩ = some (.int .i64 b.2.1) ∧ W.cell? ⟨B, 2, none⟩ = some (.int .i64 b.2.2) ∧ Below w1.heap.size w1 W
theorem BB.of {w1 : World} {B : Nat} {b : Per} (h : BoxAt w1 B b) {W : World} (hb : Below w1.heap.size w1 W) : BB w1 B b W := ⟨(h.more hb).cell.1, (h.more hb).cell.2.1, (h.more hb).cell.2.2, hb⟩
end Go.Proofs.YtnfdmdhpbaifiaaDoor
