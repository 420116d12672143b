/- Walks of container/heap: Push, Pop. -/
import Derived.Test.YtkcdifanhdakhaaDoorPlaJ2
namespace Go.Proofs.YtkcdifanhdakhaaDoor
open Go.RowKit Go.Shelf
set_option linter.unusedSimpArgs false
set_option linter.unusedVariables false

theorem But.weak {w w' : World} {X Y : Nat → Prop} (h : But w w' X) (hx : ∀ k, X k → Y k) : But w w' Y := ⟨h.os, h.tape, h.output, h.size, fun k hk hn => h.block k hk fun hy => hn (hx k hy)⟩
theorem heap_take {l : List Stp} {n : Nat} (h : HeapB l n) (hn : n ≤ l.length) : HeapB (l.take n) (l.take n).length := by
  have hl : (l.take n).length = n := by rw [List.length_take]; omega
  have K : ∀ i, i < n → key (l.take n) i = key l i := fun i hi => by
    unfold key el
    rw [List.getD_eq_getElem?_getD, List.getD_eq_getElem?_getD, List.getElem?_take_of_lt hi]
  intro i h0 hi
  rw [hl] at hi
  rw [K _ (by omega), K _ hi]
  exact h i h0 hi

end Go.Proofs.YtkcdifanhdakhaaDoor
