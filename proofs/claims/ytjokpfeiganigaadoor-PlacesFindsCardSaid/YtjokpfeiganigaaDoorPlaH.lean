/- Walks of the queue's methods. -/
import Derived.Test.YtjokpfeiganigaaDoorPlaM
import Derived.Test.YtjokpfeiganigaaDoorPlaQ
import Derived.Deep.RegionHeld3
namespace Go.Proofs.YtjokpfeiganigaaDoor
open Go.RowKit Go.Shelf
set_option linter.unusedSimpArgs false
set_option linter.unusedVariables false

abbrev stopT : TypeId := 118
abbrev queueT : TypeId := 120
def cellsS (l : List Stp) : List Value := l.flatMap fun x => [.string x.1, .int .i64 (x.2 : Int)]
theorem cellsS_len (l : List Stp) : (cellsS l).length = l.length * 2 := by
  induction l with
  | nil => rfl
  | cons x r ih => simp only [cellsS, List.flatMap_cons, List.length_append, List.length_cons, List.length_nil] at ih ⊢; omega
theorem cellsS_app (l m : List Stp) : cellsS (l ++ m) = cellsS l ++ cellsS m := by simp [cellsS]
theorem cellsS_at : ∀ (l : List Stp) (i : Nat) (h : i < l.length), (cellsS l)[i * 2]? = some (.string (el l i).1) ∧ (cellsS l)[i * 2 + 1]? = some (.int .i64 ((el l i).2 : Int))
  | [], i, h => by simp at h
  | x :: r, 0, h => by simp [cellsS, el]
  | x :: r, i + 1, h => by
    have ih := cellsS_at r i (by simpa using h)
    have e : cellsS (x :: r) = .string x.1 :: .int .i64 (x.2 : Int) :: cellsS r := by simp [cellsS]
    have e2 : el (x :: r) (i + 1) = el r i := by simp [el]
    rw [e, e2, show (i + 1) * 2 = i * 2 + 1 + 1 by omega, show i * 2 + 1 + 1 + 1 = (i * 2 + 1) + 1 + 1 by omega]
    simp only [List.getElem?_cons_succ]
    exact ih
/-- the queue's variable lies in block Q, its elements l in block r -/
structure HQ (w : World) (Q r cap : Nat) (cur : Array Value) (l : List Stp) : Prop where
  box : w.heap[Q]? = some (.cells #[.slice (some ⟨r, 0, none⟩) l.length cap] queueT (0, 0))
  row : w.heap[r]? = some (.cells cur stopT (0, 0))
  le : l.length ≤ cap
  max : cap ≤ maxLen
  size : cur.size = cap * 2
  take : cur.toList.take (l.length * 2) = cellsS l
  ne : Q ≠ r
theorem HQ.cells {w : World} {Q r cap : Nat} {cur : Array Value} {l : List Stp} (h : HQ w Q r cap cur l) (i : Nat) (hi : i < l.length) :
    w.cell? ⟨r, i * 2, none⟩ = some (.string (el l i).1) ∧ w.cell? ⟨r, i * 2 + 1, none⟩ = some (.int .i64 ((el l i).2 : Int)) := by
  have hc := cellsS_at l i hi
  have hle := h.le
  have hs := h.size
  rw [← h.take] at hc
  rw [List.getElem?_take_of_lt (by omega), List.getElem?_take_of_lt (by omega)] at hc
  exact ⟨(cell_of_row w r (i * 2) cur stopT (0, 0) h.row).trans (by simpa using hc.1), (cell_of_row w r (i * 2 + 1) cur stopT (0, 0) h.row).trans (by simpa using hc.2)⟩

set_option maxHeartbeats 400000 in
theorem qlen_any (A : Option Addr) (n c : Nat) (w : World) : Calls Tryd.prog 76 #[.slice A n c] w fun e w' => e = .returned (.int .i64 (n : Int)) ∧ w = w' := by
  go_enter Tryd.func76, Tryd.ntmps76
  go_wp2
  go_ret
  exact ⟨rfl, rfl⟩
set_option maxHeartbeats 2000000 in
theorem less_any (Q r cap : Nat) (cur : Array Value) (l : List Stp) (i j : Nat) (w : World) (h : HQ w Q r cap cur l) (hi : i < l.length) (hj : j < l.length) :
    Calls Tryd.prog 162 #[.slice (some ⟨r, 0, none⟩) l.length cap, .int .i64 i, .int .i64 j] w fun e w' => e = .returned (.bool (decide (key l i < key l j))) ∧ w' = w.drew := by
  have c1 := (h.cells i hi).2
  have c2 := (h.cells j hj).2
  have i1 : (i : Int) < (l.length : Int) := by omega
  have i2 : (j : Int) < (l.length : Int) := by omega
  have HR : Hid (decide (key l i < key l j) = decide (((el l i).2 : Int) < ((el l j).2 : Int))) := Lib.hid (decide_eq_decide.2 (by unfold key; omega))
  rw [HR.out]
  clear h hi hj HR
  generalize ((el l i).2 : Int) = x at *
  generalize ((el l j).2 : Int) = y at *
  generalize l.length = n at *
  go_enter Tryd.func162, Tryd.ntmps162
  go_wp2
  go_region
  all_goals
    go_wp2
    go_ret
    exact ⟨rfl, rfl⟩
/-- of the blocks that are there, none has turned but those of which X holds -/
structure But (w w' : World) (X : Nat → Prop) : Prop where
  os : w'.os = w.os
  tape : w'.tape = w.tape
  output : w'.output = w.output
  size : w.heap.size ≤ w'.heap.size
  block : ∀ k, k < w.heap.size → ¬ X k → w'.heap[k]? = w.heap[k]?
theorem But.refl (w : World) (X : Nat → Prop) : But w w X := ⟨rfl, rfl, rfl, Nat.le_refl _, fun _ _ _ => rfl⟩
theorem But.trans {w w' w'' : World} {X Y : Nat → Prop} (h : But w w' X) (h' : But w' w'' Y) (hx : ∀ k, k < w.heap.size → Y k → X k) : But w w'' X :=
  ⟨h'.os.trans h.os, h'.tape.trans h.tape, h'.output.trans h.output, Nat.le_trans h.size h'.size, fun k hk hn => (h'.block k (Nat.lt_of_lt_of_le hk h.size) fun hy => hn (hx k hk hy)).trans (h.block k hk hn)⟩
theorem But.of_below {w w' : World} {X : Nat → Prop} (h : Below w.heap.size w w') : But w w' X := ⟨h.os, h.tape, h.output, h.size, fun k hk _ => h.block k hk⟩
theorem But.below {w w' : World} {X : Nat → Prop} (h : But w w' X) {B : Nat} (hB : B ≤ w.heap.size) (hx : ∀ k, k < B → ¬ X k) : Below B w w' := ⟨h.os, h.tape, h.output, h.size, fun k hk => h.block k (Nat.lt_of_lt_of_le hk hB) (hx k hk)⟩
theorem But.setCell (w : World) (r j : Nat) (v : Value) : But w (w.setCell ⟨r, j, none⟩ v) (fun k => k = r) := by
  refine ⟨?_, ?_, ?_, ?_, fun k _ hk => heap_setCell_other w _ k v hk⟩ <;> simp [World.setCell] <;> (try split) <;> simp
theorem cells_ext {n : Nat} {L M : List Value} (hL : L.length = n * 2) (hM : M.length = n * 2) (h : ∀ m, m < n → L[m * 2]? = M[m * 2]? ∧ L[m * 2 + 1]? = M[m * 2 + 1]?) : L = M := by
  refine List.ext_getElem? fun k => ?_
  by_cases hk : k < n * 2
  · obtain ⟨m, hm⟩ : ∃ m, k = m * 2 ∨ k = m * 2 + 1 := ⟨k / 2, by omega⟩
    rcases hm with rfl | rfl
    · exact (h m (by omega)).1
    · exact (h m (by omega)).2
  · rw [List.getElem?_eq_none (by omega), List.getElem?_eq_none (by omega)]
theorem take_swap {L : List Value} {l : List Stp} (i j : Nat) (hi : i < l.length) (hj : j < l.length) (hL : l.length * 2 ≤ L.length) (ht : L.take (l.length * 2) = cellsS l) :
    ((((L.set (i * 2) (.string (el l j).1)).set (i * 2 + 1) (.int .i64 ((el l j).2 : Int))).set (j * 2) (.string (el l i).1)).set (j * 2 + 1) (.int .i64 ((el l i).2 : Int))).take (l.length * 2) = cellsS (swapL l i j) := by
  refine cells_ext (n := l.length) (by simp; omega) (by rw [cellsS_len, swapL_len]) fun m hm => ?_
  have hc := cellsS_at (swapL l i j) m (by rw [swapL_len]; exact hm)
  have ho := cellsS_at l m hm
  rw [← ht, List.getElem?_take_of_lt (by omega), List.getElem?_take_of_lt (by omega)] at ho
  rw [hc.1, hc.2, List.getElem?_take_of_lt (by omega), List.getElem?_take_of_lt (by omega)]
  simp only [List.getElem?_set, List.length_set]
  by_cases h1 : m = j
  · have hx : el (swapL l i j) m = el l i := by rw [el_swap l i j hi hj, if_pos h1]
    rw [hx]
    subst h1
    constructor
    · rw [if_neg (by omega), if_pos rfl, if_pos (by omega)]
    · rw [if_pos rfl, if_pos (by omega)]
  · by_cases h2 : m = i
    · have hx : el (swapL l i j) m = el l j := by rw [el_swap l i j hi hj, if_neg h1, if_pos h2]
      rw [hx]
      subst h2
      constructor
      · rw [if_neg (by omega), if_neg (by omega), if_neg (by omega), if_pos rfl, if_pos (by omega)]
      · rw [if_neg (by omega), if_neg (by omega), if_pos rfl, if_pos (by omega)]
    · have hx : el (swapL l i j) m = el l m := by rw [el_swap l i j hi hj, if_neg h1, if_neg h2]
      rw [hx]
      constructor
      · rw [if_neg (by omega), if_neg (by omega), if_neg (by omega), if_neg (by omega)]
        exact ho.1
      · rw [if_neg (by omega), if_neg (by omega), if_neg (by omega), if_neg (by omega)]
        exact ho.2
/-- the world behind a swap -/
def W4 (w : World) (r i j : Nat) (a b : Stp) : World :=
  (((w.setCell ⟨r, i * 2, none⟩ (.string b.1)).setCell ⟨r, i * 2 + 1, none⟩ (.int .i64 (b.2 : Int))).setCell ⟨r, j * 2, none⟩ (.string a.1)).setCell ⟨r, j * 2 + 1, none⟩ (.int .i64 (a.2 : Int))
theorem HQ.swapped {w : World} {Q r cap : Nat} {cur : Array Value} {l : List Stp} (h : HQ w Q r cap cur l) (i j : Nat) (hi : i < l.length) (hj : j < l.length) :
    (∃ cur', HQ (W4 w r i j (el l i) (el l j)) Q r cap cur' (swapL l i j)) ∧ But w (W4 w r i j (el l i) (el l j)) (fun k => k = r) := by
  have e1 := heap_setCell_same w r (i * 2) cur stopT (.string (el l j).1) h.row
  have e2 := heap_setCell_same _ r (i * 2 + 1) _ stopT (.int .i64 ((el l j).2 : Int)) e1
  have e3 := heap_setCell_same _ r (j * 2) _ stopT (.string (el l i).1) e2
  have e4 := heap_setCell_same _ r (j * 2 + 1) _ stopT (.int .i64 ((el l i).2 : Int)) e3
  have hb : But w (W4 w r i j (el l i) (el l j)) (fun k => k = r) :=
    (((But.setCell w r _ _).trans (But.setCell _ r _ _) (fun _ _ h => h)).trans (But.setCell _ r _ _) (fun _ _ h => h)).trans (But.setCell _ r _ _) (fun _ _ h => h)
  have hQ : Q < w.heap.size := (Array.getElem?_eq_some_iff.1 h.box).1
  have hs := h.size
  have hle := h.le
  refine ⟨⟨_, ⟨?_, e4, ?_, h.max, ?_, ?_, h.ne⟩⟩, hb⟩
  · rw [swapL_len]
    exact (hb.block Q hQ h.ne).trans h.box
  · rw [swapL_len]; exact hle
  · simp [hs]
  · rw [swapL_len]
    simp only [Array.toList_setIfInBounds]
    exact take_swap i j hi hj (by simp; omega) h.take

set_option maxRecDepth 100000 in
set_option maxHeartbeats 2000000 in
theorem swap_any (Q r cap : Nat) (cur : Array Value) (l : List Stp) (i j : Nat) (w : World) (h : HQ w Q r cap cur l) (hi : i < l.length) (hj : j < l.length) :
    Calls Tryd.prog 165 #[.slice (some ⟨r, 0, none⟩) l.length cap, .int .i64 i, .int .i64 j] w fun e w' => e = .returned (.tuple #[]) ∧ w' = (W4 w r i j (el l i) (el l j)).drew := by
  obtain ⟨c3, c4⟩ := (h.cells i hi)
  obtain ⟨c5, c6⟩ := (h.cells j hj)
  have i1 : (i : Int) < (l.length : Int) := by omega
  have i2 : (j : Int) < (l.length : Int) := by omega
  have f1 := frozen_of_row w r (i * 2) _ _ h.row
  have f2 := frozen_of_row w r (i * 2 + 1) _ _ h.row
  have f3 := frozen_of_row w r (j * 2) _ _ h.row
  have f4 := frozen_of_row w r (j * 2 + 1) _ _ h.row
  clear h hi hj
  unfold W4
  by_cases hij : i = j
  · subst hij
    generalize (el l i).1 = si at *
    generalize ((el l i).2 : Int) = mi at *
    generalize l.length = n at *
    have d1 : (w.setCell ⟨r, i * 2, none⟩ (.string si)).cell? ⟨r, i * 2 + 1, none⟩ = some (.int .i64 mi) := (World.cell?_setCell_other _ _ _ _ (by simp)).trans c4
    have d2 : ((w.setCell ⟨r, i * 2, none⟩ (.string si)).setCell ⟨r, i * 2 + 1, none⟩ (.int .i64 mi)).cell? ⟨r, i * 2, none⟩ = some (.string si) := (World.cell?_setCell_other _ _ _ _ (by simp)).trans (World.cell?_setCell_same _ _ _ c3)
    have d3 : (((w.setCell ⟨r, i * 2, none⟩ (.string si)).setCell ⟨r, i * 2 + 1, none⟩ (.int .i64 mi)).setCell ⟨r, i * 2, none⟩ (.string si)).cell? ⟨r, i * 2 + 1, none⟩ = some (.int .i64 mi) := (World.cell?_setCell_other _ _ _ _ (by simp)).trans (World.cell?_setCell_same _ _ _ d1)
    go_enter Tryd.func165, Tryd.ntmps165
    go_wp2
    go_region
    all_goals
      go_wp2
      exact bodyPost_end (results_none rfl _ _ _) rfl ⟨rfl, rfl⟩
  · generalize (el l i).1 = si at *
    generalize (el l j).1 = sj at *
    generalize ((el l i).2 : Int) = mi at *
    generalize ((el l j).2 : Int) = mj at *
    generalize l.length = n at *
    have d1 : (w.setCell ⟨r, i * 2, none⟩ (.string sj)).cell? ⟨r, i * 2 + 1, none⟩ = some (.int .i64 mi) := (World.cell?_setCell_other _ _ _ _ (by simp)).trans c4
    have n1 : (⟨r, i * 2, none⟩ : Addr) ≠ ⟨r, j * 2, none⟩ := by (simp; try omega)
    have n2 : (⟨r, i * 2 + 1, none⟩ : Addr) ≠ ⟨r, j * 2, none⟩ := by (simp; try omega)
    have n3 : (⟨r, i * 2, none⟩ : Addr) ≠ ⟨r, j * 2 + 1, none⟩ := by (simp; try omega)
    have n4 : (⟨r, i * 2 + 1, none⟩ : Addr) ≠ ⟨r, j * 2 + 1, none⟩ := by (simp; try omega)
    have d2 : ((w.setCell ⟨r, i * 2, none⟩ (.string sj)).setCell ⟨r, i * 2 + 1, none⟩ (.int .i64 mj)).cell? ⟨r, j * 2, none⟩ = some (.string sj) := (World.cell?_setCell_other _ _ _ _ n2).trans ((World.cell?_setCell_other _ _ _ _ n1).trans c5)
    have d3 : (((w.setCell ⟨r, i * 2, none⟩ (.string sj)).setCell ⟨r, i * 2 + 1, none⟩ (.int .i64 mj)).setCell ⟨r, j * 2, none⟩ (.string si)).cell? ⟨r, j * 2 + 1, none⟩ = some (.int .i64 mj) :=
      (World.cell?_setCell_other _ _ _ _ (by simp)).trans ((World.cell?_setCell_other _ _ _ _ n4).trans ((World.cell?_setCell_other _ _ _ _ n3).trans c6))
    go_enter Tryd.func165, Tryd.ntmps165
    go_wp2
    go_region
    all_goals
      go_wp2
      exact bodyPost_end (results_none rfl _ _ _) rfl ⟨rfl, rfl⟩

end Go.Proofs.YtjokpfeiganigaaDoor
