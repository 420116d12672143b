/- Walk of Parse. -/
import Derived.Test.YtnfdmdhpbaifiaaDoorPerL
import Derived.Test.YtnfdmdhpbaifiaaDoorPerI
import Derived.Test.YtnfdmdhpbaifiaaDoorCalG
import Derived.Test.YtnfdmdhpbaifiaaDoorShelf
namespace Go.Proofs.YtnfdmdhpbaifiaaDoor
open Go.RowKit
set_option linter.unusedSimpArgs false
set_option linter.unusedVariables false

/-- what the library's search asks of the world: its first variable is a number -/
def Env0 (w : World) : Prop := 0 < w.heap.size ∧ ∃ m : Int, w.cell? ⟨0, 0, none⟩ = some (.int .i64 m)
theorem Env0.more {w w' : World} (h : Env0 w) (hb : Below w.heap.size w w') : Env0 w' := by
  obtain ⟨h0, m, hm⟩ := h
  exact ⟨Nat.lt_of_lt_of_le h0 hb.size, m, (hb.cell (p := ⟨0, 0, none⟩) h0).trans hm⟩
theorem cut_part_le (l : List UInt8) : ∀ p ∈ cutL l, p.length ≤ l.length := by
  induction l with
  | nil => intro p hp; simp [cutL] at hp; subst hp; simp
  | cons c r ih =>
    intro p hp
    by_cases h : c = 47
    · subst h
      rw [cut_hit] at hp
      rcases List.mem_cons.1 hp with rfl | hp
      · simp
      · have := ih p hp; simp; omega
    · rw [cut_miss h] at hp
      cases hc : cutL r with
      | nil => exact absurd hc (cutL_ne r)
      | cons a t =>
        rw [hc] at hp ih
        rcases List.mem_cons.1 hp with rfl | hp
        · have := ih a (by simp); simp; omega
        · have := ih p (by simp [hp]); simp; omega
abbrev mk (x : List UInt8) : ByteArray := ⟨x.toArray⟩
theorem lists_three {ss : List ByteArray} {x y z : List UInt8} (h : [x, y, z] = listsOf ss) : ss = [mk x, mk y, mk z] := by
  match ss, h with
  | [a, b, c], h =>
    simp only [List.map_cons, List.map_nil, List.cons.injEq, and_true] at h
    obtain ⟨rfl, rfl, rfl⟩ := h
    rfl
/-- three texts in a row -/
structure Parts3 (w : World) (b o : Nat) (x y z : ByteArray) : Prop where
  lt : b < w.heap.size
  c0 : w.cell? ⟨b, o, none⟩ = some (.string x)
  c1 : w.cell? ⟨b, o + 1, none⟩ = some (.string y)
  c2 : w.cell? ⟨b, o + 2, none⟩ = some (.string z)
theorem Parts3.more {w w' : World} {b o : Nat} {x y z : ByteArray} (h : Parts3 w b o x y z) (hb : Below w.heap.size w w') : Parts3 w' b o x y z :=
  ⟨Nat.lt_of_lt_of_le h.lt hb.size, (hb.cell (p := ⟨b, o, none⟩) h.lt).trans h.c0, (hb.cell (p := ⟨b, o + 1, none⟩) h.lt).trans h.c1, (hb.cell (p := ⟨b, o + 2, none⟩) h.lt).trans h.c2⟩
theorem StrL.three {w : World} {v : Value} {x y z : ByteArray} (h : StrL w v [x, y, z]) : ∃ b o c, v = .slice (some ⟨b, o, none⟩) 3 c ∧ Parts3 w b o x y z := by
  obtain ⟨A, c, rfl, h⟩ := h
  rcases h with h | ⟨b, o, rfl, hlt, hc⟩
  · cases h
  · exact ⟨b, o, c, rfl, hlt, hc 0 (by simp), hc 1 (by simp), hc 2 (by simp)⟩
theorem StrL.form {w : World} {v : Value} {ss : List ByteArray} (h : StrL w v ss) : ∃ A c, v = .slice A ss.length c := by
  obtain ⟨A, c, rfl, _⟩ := h
  exact ⟨A, c, rfl⟩
theorem cells_at (L : List ByteArray) (N i : Nat) (h : i < L.length) : (Lib.cellsOf L N)[i]? = some (.string L[i]) := by
  rw [Lib.cellsOf, List.getElem?_toArray, List.getElem?_append_left (by simpa using h)]
  simp [h]
theorem splitn_any (s : ByteArray) (w : World) (hs : s.size ≤ 1000) (hE : Env0 w) : Calls Tryd.prog 12 #[.string s, .string ⟨#[47]⟩, .int .i64 4] w fun e w' => ∃ v ss, e = .returned v ∧ StrL w' v ss ∧ ((cutL s.data.toList).length ≠ 3 → ss.length ≠ 3) ∧ ((cutL s.data.toList).length = 3 → cutL s.data.toList = listsOf ss) ∧ Below w.heap.size w w' := by
  obtain ⟨h0, m, hm⟩ := hE
  refine (Tryd.strings_SplitN s ⟨#[47]⟩ 4 m w (by omega) hm (by decide) (by omega) (by omega)).mono ?_
  obtain ⟨L, hL⟩ : ∃ L, L = Lib.splitB ⟨#[47]⟩ 0 (min 4 (s.size + 1) - 1) s := ⟨_, rfl⟩
  obtain ⟨h1, h2⟩ := split_four s L hL
  rw [← hL]
  rintro e w' ⟨rfl, rfl⟩
  refine ⟨_, L, rfl, ⟨_, _, rfl, ?_⟩, h1, fun h => (h2 h).symm, bel_alloc _ _⟩
  right
  refine ⟨w.heap.size, 0, rfl, by simp, fun i hi => ?_⟩
  rw [cell_of_row _ w.heap.size (0 + i) (Lib.cellsOf L (min 4 (s.size + 1))) _ (0, 0) (heap_alloc_new _ _), Nat.zero_add, cells_at L _ i hi]

end Go.Proofs.YtnfdmdhpbaifiaaDoor
