/- Walks of the reference's canonical periods: of, Normal, Meet. -/
import Derived.Test.YtnfdmdhpbaifiaaDoorPerG
namespace Go.Proofs.YtnfdmdhpbaifiaaDoor
open Go.RowKit
set_option linter.unusedSimpArgs false
set_option linter.unusedVariables false

theorem IntL.cells {w : World} {A : Option Addr} {n c : Nat} {l : List Int} (h : IntL w (.slice A n c) l) (hp : 0 < l.length) :
    ∃ b o, A = some ⟨b, o, none⟩ ∧ n = l.length ∧ b < w.heap.size ∧ ∀ i (h : i < l.length), w.cell? ⟨b, o + i, none⟩ = some (.int .i64 l[i]) := by
  obtain ⟨A', c', e, h⟩ := h
  cases e
  rcases h with h | ⟨b, o, h1, h2, h3⟩
  · rw [h] at hp; simp at hp
  · exact ⟨b, o, h1, rfl, h2, h3⟩
theorem headD_at (l : List Int) (h : 0 < l.length) : l.headD 0 = l[0] := by cases l with
  | nil => simp at h
  | cons x r => rfl
theorem lastD_at (l : List Int) (h : 0 < l.length) : l.getLastD 0 = l[l.length - 1] := by
  rw [List.getLastD_eq_getLast?, List.getLast?_eq_getElem?, List.getElem?_eq_getElem (by omega)]; rfl
theorem maskN_take (l : List Int) (k : Nat) (h : k < l.length) : maskN (l.take (k + 1)) = (maskN (l.take k) ||| 2 ^ wkN l[k]) := by
  rw [List.take_succ_eq_append_getElem h, maskN_snoc]
theorem quo_zero (m k : Nat) (hm : m < 128) (hk : k < 7) : ((m : Int) / ((2 ^ k : Nat) : Int) % 2 == 0) = decide (m / 2 ^ k % 2 = 0) := by
  have e : ((m : Int) / ((2 ^ k : Nat) : Int)) = ((m / 2 ^ k : Nat) : Int) := by simp
  rw [e]
  generalize m / 2 ^ k = z
  by_cases h : z % 2 = 0
  · have h2 : ((z : Int) % 2) = 0 := by omega
    rw [h2]; simp [h]
  · have h2 : ((z : Int) % 2) = 1 := by omega
    rw [h2]; simp [h]

/-- the box of the second block laid -/
theorem box_second (w : World) (o : Obj) (p : Per) : BoxAt ((w.alloc o).alloc (.cells #[.int .i64 p.1, .int .i64 p.2.1, .int .i64 p.2.2] perT)) (w.heap.size + 1) p := by
  have h := heap_alloc_new (w.alloc o) (.cells #[.int .i64 p.1, .int .i64 p.2.1, .int .i64 p.2.2] perT)
  rw [World.size_alloc] at h
  exact h
/-- a result in a box of its own: what lies behind its three stores -/
theorem BoxAt.result {w W : World} {B : Nat} {p : Per} (h : BoxAt W B p) (q : Per) (hB : w.heap.size ≤ B) (hb : Below w.heap.size w W) :
    let W' := ((W.setCell ⟨B, 0, none⟩ (.int .i64 q.1)).setCell ⟨B, 1, none⟩ (.int .i64 q.2.1)).setCell ⟨B, 2, none⟩ (.int .i64 q.2.2)
    BoxAt W' B q ∧ Below w.heap.size w W' :=
  ⟨((h.set0 q.1).set1 q.2.1).set2 q.2.2, ((hb.setCell (p := ⟨B, 0, none⟩) hB _).setCell (p := ⟨B, 1, none⟩) hB _).setCell (p := ⟨B, 2, none⟩) hB _⟩
end Go.Proofs.YtnfdmdhpbaifiaaDoor
