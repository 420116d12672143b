/- Walks of Meet, beside the reference's. -/
import Derived.Test.YtnfdmdhpbaifiaaDoorPerH
namespace Go.Proofs.YtnfdmdhpbaifiaaDoor
open Go.RowKit
set_option linter.unusedSimpArgs false
set_option linter.unusedVariables false

abbrev b64 (x : Int) : Prop := -9223372036854775808 ≤ x ∧ x ≤ 9223372036854775807
abbrev b643 (p : Per) : Prop := b64 p.1 ∧ b64 p.2.1 ∧ b64 p.2.2
theorem mt_no1 {a b : Per} (h : okQ a = false) : mtQ a b = [] := by simp [mtQ, h]
theorem mt_no2 {a b : Per} (h : okQ b = false) : mtQ a b = [] := by simp [mtQ, h]
theorem mt_yes {a b : Per} (h : okQ a = true) (h2 : okQ b = true) : mtQ a b = daysQ (meetQ a b) := by simp [mtQ, h, h2]
theorem and_meet {a b : Per} (h : okQ a = true) (h2 : okQ b = true) : bits .and .i64 a.2.2 b.2.2 = (meetQ a b).2.2 := by
  have h := okQ_yes h
  have h2 := okQ_yes h2
  have e1 : ((a.2.2.toNat : Nat) : Int) = a.2.2 := by omega
  have e2 : ((b.2.2.toNat : Nat) : Int) = b.2.2 := by omega
  have h3 := and7 a.2.2.toNat b.2.2.toNat (by omega) (by omega)
  rw [e1, e2] at h3
  exact h3
theorem andNot_dur {a b : Per} (h : okQ a = true) (h2 : okQ b = true) : bits .andNot .i64 a.2.2 b.2.2 = (durQ a b).2.2 := by
  have h := okQ_yes h
  have h2 := okQ_yes h2
  have e1 : ((a.2.2.toNat : Nat) : Int) = a.2.2 := by omega
  have e2 : ((b.2.2.toNat : Nat) : Int) = b.2.2 := by omega
  have h3 := not7 a.2.2.toNat b.2.2.toNat (by omega) (by omega)
  rw [e1, e2] at h3
  exact h3
theorem box_first (w : World) (p : Per) (o : Obj) : BoxAt ((w.alloc (.cells #[.int .i64 p.1, .int .i64 p.2.1, .int .i64 p.2.2] perT)).alloc o) w.heap.size p :=
  BoxAt.more (heap_alloc_new w _) (bel_alloc _ _)
theorem box_third (w : World) (o o' : Obj) (p : Per) : BoxAt (((w.alloc o).alloc o').alloc (.cells #[.int .i64 p.1, .int .i64 p.2.1, .int .i64 p.2.2] perT)) (w.heap.size + 1 + 1) p := by
  have h := heap_alloc_new ((w.alloc o).alloc o') (.cells #[.int .i64 p.1, .int .i64 p.2.1, .int .i64 p.2.2] perT)
  rw [World.size_alloc, World.size_alloc] at h
  exact h

/-! ### the reference's -/
theorem filter_take (l : List Int) (q : Int → Bool) (k : Nat) (h : k < l.length) : (l.take (k + 1)).filter q = if q l[k] then (l.take k).filter q ++ [l[k]] else (l.take k).filter q := by
  rw [List.take_succ_eq_append_getElem h, List.filter_append]
  cases hq : q l[k] <;> simp [hq]
theorem filter_short (l : List Int) (q : Int → Bool) (k : Nat) : ((l.take k).filter q).length ≤ l.length := Nat.le_trans (List.length_filter_le _ _) (by simp; omega)
end Go.Proofs.YtnfdmdhpbaifiaaDoor
