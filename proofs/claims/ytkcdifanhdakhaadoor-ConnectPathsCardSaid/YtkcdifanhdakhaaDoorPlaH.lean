/- Walks of the queue's methods. -/
import Derived.Test.YtkcdifanhdakhaaDoorPlaM
import Derived.Test.YtkcdifanhdakhaaDoorPlaQ
import Derived.Deep.RegionHeld3
namespace Go.Proofs.YtkcdifanhdakhaaDoor
open Go.RowKit Go.Shelf
set_option linter.unusedSimpArgs false
set_option linter.unusedVariables false

def cellsS (l : List Stp) : List Value := l.flatMap fun x => [.string x.1, .int .i64 (x.2 : Int)]
theorem cellsS_len (l : List Stp) : (cellsS l).length = l.length * 2 := by
  induction l with
  | nil => rfl
  | cons x r ih => simp only [cellsS, List.flatMap_cons, List.length_append, List.length_cons, List.length_nil] at ih ⊢; omega
theorem cellsS_app (l m : List Stp) : cellsS (l ++ m) = cellsS l ++ cellsS m := by simp [cellsS]
theorem cellsS_at : ∀ (l : List Stp) (i : Nat) (h : i < l.length), (cellsS l)[i * 2]? = some (.string (el l i).1) ∧ (cellsS l)[i * 2 + 1]? = some (.int .i64 ((el l i).2 : Int))
  | [], i, h => by simp at h
  | x :: r, 0, h => by simp [cellsS, el]
  | x :: r, i + 1, h => by
    have ih := cellsS_at r i (by simpa using h)
    have e : cellsS (x :: r) = .string x.1 :: .int .i64 (x.2 : Int) :: cellsS r := by simp [cellsS]
    have e2 : el (x :: r) (i + 1) = el r i := by simp [el]
    rw [e, e2, show (i + 1) * 2 = i * 2 + 1 + 1 by omega, show i * 2 + 1 + 1 + 1 = (i * 2 + 1) + 1 + 1 by omega]
    simp only [List.getElem?_cons_succ]
    exact ih
/-- of the blocks that are there, none has turned but those of which X holds -/
structure But (w w' : World) (X : Nat → Prop) : Prop where
  os : w'.os = w.os
  tape : w'.tape = w.tape
  output : w'.output = w.output
  size : w.heap.size ≤ w'.heap.size
  block : ∀ k, k < w.heap.size → ¬ X k → w'.heap[k]? = w.heap[k]?
theorem But.refl (w : World) (X : Nat → Prop) : But w w X := ⟨rfl, rfl, rfl, Nat.le_refl _, fun _ _ _ => rfl⟩
theorem But.trans {w w' w'' : World} {X Y : Nat → Prop} (h : But w w' X) (h' : But w' w'' Y) (hx : ∀ k, k < w.heap.size → Y k → X k) : But w w'' X :=
  ⟨h'.os.trans h.os, h'.tape.trans h.tape, h'.output.trans h.output, Nat.le_trans h.size h'.size, fun k hk hn => (h'.block k (Nat.lt_of_lt_of_le hk h.size) fun hy => hn (hx k hk hy)).trans (h.block k hk hn)⟩
theorem But.of_below {w w' : World} {X : Nat → Prop} (h : Below w.heap.size w w') : But w w' X := ⟨h.os, h.tape, h.output, h.size, fun k hk _ => h.block k hk⟩
theorem But.below {w w' : World} {X : Nat → Prop} (h : But w w' X) {B : Nat} (hB : B ≤ w.heap.size) (hx : ∀ k, k < B → ¬ X k) : Below B w w' := ⟨h.os, h.tape, h.output, h.size, fun k hk => h.block k (Nat.lt_of_lt_of_le hk hB) (hx k hk)⟩
theorem But.setCell (w : World) (r j : Nat) (v : Value) : But w (w.setCell ⟨r, j, none⟩ v) (fun k => k = r) := by
  refine ⟨?_, ?_, ?_, ?_, fun k _ hk => heap_setCell_other w _ k v hk⟩ <;> simp [World.setCell] <;> (try split) <;> simp
theorem cells_ext {n : Nat} {L M : List Value} (hL : L.length = n * 2) (hM : M.length = n * 2) (h : ∀ m, m < n → L[m * 2]? = M[m * 2]? ∧ L[m * 2 + 1]? = M[m * 2 + 1]?) : L = M := by
  refine List.ext_getElem? fun k => ?_
  by_cases hk : k < n * 2
  · obtain ⟨m, hm⟩ : ∃ m, k = m * 2 ∨ k = m * 2 + 1 := ⟨k / 2, by omega⟩
    rcases hm with rfl | rfl
    · exact (h m (by omega)).1
    · exact (h m (by omega)).2
  · rw [List.getElem?_eq_none (by omega), List.getElem?_eq_none (by omega)]
theorem take_swap {L : List Value} {l : List Stp} (i j : Nat) (hi : i < l.length) (hj : j < l.length) (hL : l.length * 2 ≤ L.length) (ht : L.take (l.length * 2) = cellsS l) :
    ((((L.set (i * 2) (.string (el l j).1)).set (i * 2 + 1) (.int .i64 ((el l j).2 : Int))).set (j * 2) (.string (el l i).1)).set (j * 2 + 1) (.int .i64 ((el l i).2 : Int))).take (l.length * 2) = cellsS (swapL l i j) := by
  refine cells_ext (n := l.length) (by simp; omega) (by rw [cellsS_len, swapL_len]) fun m hm => ?_
  have hc := cellsS_at (swapL l i j) m (by rw [swapL_len]; exact hm)
  have ho := cellsS_at l m hm
  rw [← ht, List.getElem?_take_of_lt (by omega), List.getElem?_take_of_lt (by omega)] at ho
  rw [hc.1, hc.2, List.getElem?_take_of_lt (by omega), List.getElem?_take_of_lt (by omega)]
  simp only [List.getElem?_set, List.length_set]
  by_cases h1 : m = j
  · have hx : el (swapL l i j) m = el l i := by rw [el_swap l i j hi hj, if_pos h1]
    rw [hx]
    subst h1
    constructor
    · rw [if_neg (by omega), if_pos rfl, if_pos (by omega)]
    · rw [if_pos rfl, if_pos (by omega)]
  · by_cases h2 : m = i
    · have hx : el (swapL l i j) m = el l j := by rw [el_swap l i j hi hj, if_neg h1, if_pos h2]
      rw [hx]
      subst h2
      constructor
      · rw [if_neg (by omega), if_neg (by omega), if_neg (by omega), if_pos rfl, if_pos (by omega)]
      · rw [if_neg (by omega), if_neg (by omega), if_pos rfl, if_pos (by omega)]
    · have hx : el (swapL l i j) m = el l m := by rw [el_swap l i j hi hj, if_neg h1, if_neg h2]
      rw [hx]
      constructor
      · rw [if_neg (by omega), if_neg (by omega), if_neg (by omega), if_neg (by omega)]
        exact ho.1
      · rw [if_neg (by omega), if_neg (by omega), if_neg (by omega), if_neg (by omega)]
        exact ho.2
/-- the world behind a swap -/
def W4 (w : World) (r i j : Nat) (a b : Stp) : World :=
  (((w.setCell ⟨r, i * 2, none⟩ (.string b.1)).setCell ⟨r, i * 2 + 1, none⟩ (.int .i64 (b.2 : Int))).setCell ⟨r, j * 2, none⟩ (.string a.1)).setCell ⟨r, j * 2 + 1, none⟩ (.int .i64 (a.2 : Int))
end Go.Proofs.YtkcdifanhdakhaaDoor
