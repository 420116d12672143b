/- The order of texts and of numbers; cmp.Compare; worlds that have only drawn and grown. -/
import Derived.Test.YtkghpapbifijcaaGreatDoorStkD
import Derived.Test.YtkghpapbifijcaaGreatDoorShelf
import Derived.Shelf.SlSortCmp.WholeK
namespace Go.Proofs.YtkghpapbifijcaaGreatDoor
open Go.RowKit Go.Shelf
set_option linter.unusedSimpArgs false
set_option linter.unusedVariables false

/-! ### the order of texts -/
theorem less_asym : ∀ x y : List UInt8, Op.bytesLess x y = true → Op.bytesLess y x = false
  | _, [], h => by simp [Op.bytesLess] at h
  | [], _ :: _, _ => rfl
  | a :: x, b :: y, h => by
    simp only [Op.bytesLess, Bool.or_eq_true, decide_eq_true_eq, Bool.and_eq_true, beq_iff_eq] at h
    have hlt : ∀ u v : UInt8, u < v ↔ u.toNat < v.toNat := fun u v => UInt8.lt_iff_toNat_lt
    rcases h with h | ⟨rfl, h⟩
    · have h1 : ¬ b < a := by rw [hlt] at h ⊢; omega
      have h2 : ¬ b = a := by rintro rfl; rw [hlt] at h; omega
      simp [Op.bytesLess, h1, h2]
    · have h1 : ¬ a < a := by rw [hlt]; omega
      simp [Op.bytesLess, h1, less_asym x y h]
theorem less_total : ∀ x y : List UInt8, Op.bytesLess x y = false → x ≠ y → Op.bytesLess y x = true
  | [], [], _, h => absurd rfl h
  | _ :: _, [], _, _ => rfl
  | [], _ :: _, h, _ => by simp [Op.bytesLess] at h
  | a :: x, b :: y, h, hne => by
    simp only [Op.bytesLess, Bool.or_eq_false_iff, decide_eq_false_iff_not, Bool.and_eq_false_iff] at h
    have hlt : ∀ u v : UInt8, u < v ↔ u.toNat < v.toNat := fun u v => UInt8.lt_iff_toNat_lt
    by_cases e : a = b
    · subst e
      have h1 : Op.bytesLess x y = false := by rcases h.2 with h | h; exact absurd h (by simp); exact h
      have := less_total x y h1 (fun e => hne (by rw [e]))
      simp [Op.bytesLess, this]
    · have h1 : b < a := by
        have h0 := h.1
        have h2 : a.toNat ≠ b.toNat := fun h => e (UInt8.toNat_inj.1 h)
        rw [hlt] at h0 ⊢
        omega
      simp [Op.bytesLess, h1]
variable {P : Program}
end Go.Proofs.YtkghpapbifijcaaGreatDoor

namespace Go.Proofs.YtkghpapbifijcaaGreatDoor
open Go.RowKit Go.Shelf
set_option linter.unusedSimpArgs false
set_option linter.unusedVariables false

theorem car_eq (a b : ByteArray) : (a.toList == b.toList) = decide (a = b) := by
  by_cases h : a = b
  · subst h; simp
  · have h2 : a.toList ≠ b.toList := toList_ne h
    simp [h, h2]
end Go.Proofs.YtkghpapbifijcaaGreatDoor

namespace Go.Proofs.YtkghpapbifijcaaGreatDoor
open Go.RowKit Go.Shelf Go.Lib Go.Sort
set_option linter.unusedSimpArgs false
set_option linter.unusedVariables false

def LessT (x y : ByteArray) : Prop := Op.bytesLess x.toList y.toList = true
theorem lessT_irrefl (x : ByteArray) : ¬ LessT x x := fun h => by
  have h2 := less_asym _ _ h
  unfold LessT at h
  rw [h] at h2
  cases h2
theorem lessT_trans {x y z : ByteArray} (h1 : LessT x y) (h2 : LessT y z) : LessT x z := by
  unfold LessT at *
  rw [bytesLess_eq, decide_eq_true_eq] at *
  exact List.lt_trans h1 h2
theorem lessT_tri (x y : ByteArray) : LessT x y ∨ x = y ∨ LessT y x := by
  by_cases e : x = y
  · exact .inr (.inl e)
  · cases h : Op.bytesLess x.toList y.toList with
    | true => exact .inl h
    | false => exact .inr (.inr (less_total _ _ h (toList_ne e)))
/-- what the program's comparison of legs returns -/
def cmT (x y : ByteArray) : Int := if Op.bytesLess x.toList y.toList then -1 else if Op.bytesLess y.toList x.toList then 1 else 0
theorem cmp_int (x y : Int) : (x < y ∧ Lib.compareInt x y = -1) ∨ (x = y ∧ Lib.compareInt x y = 0) ∨ (y < x ∧ Lib.compareInt x y = 1) := by
  unfold Lib.compareInt
  by_cases h1 : x < y
  · exact .inl ⟨h1, by rw [if_pos h1]⟩
  · by_cases h2 : y < x
    · exact .inr (.inr ⟨h2, by rw [if_neg h1, if_pos h2]⟩)
    · exact .inr (.inl ⟨by omega, by rw [if_neg h1, if_neg h2]⟩)
theorem cmp_txt (x y : ByteArray) : (LessT x y ∧ cmT x y = -1) ∨ (x = y ∧ cmT x y = 0) ∨ (LessT y x ∧ cmT x y = 1) := by
  unfold cmT
  rcases lessT_tri x y with h | h | h
  · have h1 : Op.bytesLess x.toList y.toList = true := h
    exact .inl ⟨h, by rw [if_pos h1]⟩
  · subst h
    have := lessT_irrefl x
    unfold LessT at this
    exact .inr (.inl ⟨rfl, by rw [if_neg this, if_neg this]⟩)
  · have h2 := less_asym _ _ h
    have h1 : Op.bytesLess y.toList x.toList = true := h
    exact .inr (.inr ⟨h, by rw [if_neg (by rw [h2]; simp), if_pos h1]⟩)
end Go.Proofs.YtkghpapbifijcaaGreatDoor

namespace Go.Proofs.YtkghpapbifijcaaGreatDoor
open Go.RowKit Go.Shelf Go.Lib Go.Sort
set_option linter.unusedSimpArgs false
set_option linter.unusedVariables false

set_option maxRecDepth 100000 in
theorem nanI_any (x : Int) (w : World) : Calls Tryz.prog 141 #[.int .i64 x] w fun e w' => e = .returned (.bool false) ∧ w' = w := by
  have h : (x != x) = false := by simp
  go_enter Tryz.func141, Tryz.ntmps141
  go_wp2
  go_ret
  exact ⟨by first | rfl | (simp), rfl⟩
set_option maxRecDepth 100000 in
theorem nanS_any (x : ByteArray) (w : World) : Calls Tryz.prog 140 #[.string x] w fun e w' => e = .returned (.bool false) ∧ w' = w := by
  have h : (x.toList == x.toList) = true := by simp
  go_enter Tryz.func140, Tryz.ntmps140
  go_wp2
  go_ret
  exact ⟨by first | rfl | (simp), rfl⟩
set_option maxRecDepth 100000 in
set_option maxHeartbeats 4000000 in
theorem cmpI_any (x y : Int) (w : World) : Calls Tryz.prog 121 #[.int .i64 x, .int .i64 y] w fun e w' => e = .returned (.int .i64 (Lib.compareInt x y)) ∧ w' = w := by
  have K1 := Lib.hid (nanI_any x w)
  have K2 := Lib.hid (nanI_any y w)
  rcases cmp_int x y with ⟨h, e⟩ | ⟨h, e⟩ | ⟨h, e⟩ <;> rw [e]
  · go_enter Tryz.func121, Tryz.ntmps121
    go_wp2_with (first | (go_at_call 141; with_reducible refine K1.out.mono ?_; rintro e w' ⟨rfl, rfl⟩) | (go_at_call 141; with_reducible refine K2.out.mono ?_; rintro e w' ⟨rfl, rfl⟩))
    go_ret
    exact ⟨rfl, rfl⟩
  · subst h
    have i1 : ¬ x < x := by omega
    go_enter Tryz.func121, Tryz.ntmps121
    go_wp2_with (first | (go_at_call 141; with_reducible refine K1.out.mono ?_; rintro e w' ⟨rfl, rfl⟩) | (go_at_call 141; with_reducible refine K2.out.mono ?_; rintro e w' ⟨rfl, rfl⟩))
    go_ret
    exact ⟨rfl, rfl⟩
  · have i1 : ¬ x < y := by omega
    go_enter Tryz.func121, Tryz.ntmps121
    go_wp2_with (first | (go_at_call 141; with_reducible refine K1.out.mono ?_; rintro e w' ⟨rfl, rfl⟩) | (go_at_call 141; with_reducible refine K2.out.mono ?_; rintro e w' ⟨rfl, rfl⟩))
    go_ret
    exact ⟨rfl, rfl⟩
set_option maxRecDepth 100000 in
set_option maxHeartbeats 4000000 in
theorem cmpS_any (x y : ByteArray) (w : World) : Calls Tryz.prog 120 #[.string x, .string y] w fun e w' => e = .returned (.int .i64 (cmT x y)) ∧ w' = w := by
  have K1 := Lib.hid (nanS_any x w)
  have K2 := Lib.hid (nanS_any y w)
  rcases cmp_txt x y with ⟨h, e⟩ | ⟨h, e⟩ | ⟨h, e⟩ <;> rw [e] <;> clear e
  · have h1 : Op.bytesLess x.toList y.toList = true := h
    go_enter Tryz.func120, Tryz.ntmps120
    go_wp2_with (first | (go_at_call 140; with_reducible refine K1.out.mono ?_; rintro e w' ⟨rfl, rfl⟩) | (go_at_call 140; with_reducible refine K2.out.mono ?_; rintro e w' ⟨rfl, rfl⟩))
    go_ret
    exact ⟨rfl, rfl⟩
  · subst h
    have h1 : Op.bytesLess x.toList x.toList = false := by simpa [LessT] using lessT_irrefl x
    have h2 : (x.toList == x.toList) = true := by simp
    go_enter Tryz.func120, Tryz.ntmps120
    go_wp2_with (first | (go_at_call 140; with_reducible refine K1.out.mono ?_; rintro e w' ⟨rfl, rfl⟩) | (go_at_call 140; with_reducible refine K2.out.mono ?_; rintro e w' ⟨rfl, rfl⟩))
    go_ret
    exact ⟨rfl, rfl⟩
  · have h1 : Op.bytesLess x.toList y.toList = false := less_asym _ _ h
    have h2 : (x.toList == y.toList) = false := by
      rw [car_eq, decide_eq_false_iff_not]
      rintro rfl
      exact lessT_irrefl _ h
    clear h
    go_enter Tryz.func120, Tryz.ntmps120
    go_wp2_with (first | (go_at_call 140; with_reducible refine K1.out.mono ?_; rintro e w' ⟨rfl, rfl⟩) | (go_at_call 140; with_reducible refine K2.out.mono ?_; rintro e w' ⟨rfl, rfl⟩))
    go_ret
    exact ⟨rfl, rfl⟩
/-- a world that has only drawn and grown -/
structure GR (w W : World) : Prop where
  bel : Below w.heap.size w W
  dr : w.drawn ≤ W.drawn
theorem GR.refl (w : World) : GR w w := ⟨Below.refl _ _, Nat.le_refl _⟩
theorem GR.drew {w W : World} (h : GR w W) : GR w W.drew := ⟨h.bel.drew, Nat.le_trans h.dr (Nat.le_succ _)⟩
theorem GR.alloc {w W : World} (h : GR w W) (o : Obj) : GR w (W.alloc o) := ⟨h.bel.trans ((bel_alloc W o).mono h.bel.size), h.dr⟩
theorem GR.grown {w W : World} (h : GR w W) : ∃ q os, W = grow (w.drewN q) os := by
  obtain ⟨⟨h1, h2, h3, h4, h5⟩, h6⟩ := h
  refine ⟨W.drawn - w.drawn, W.heap.extract w.heap.size W.heap.size, ?_⟩
  obtain ⟨hp, tp, dr, os, out⟩ := W
  obtain ⟨hp', tp', dr', os', out'⟩ := w
  dsimp only at h1 h2 h3 h4 h5 h6
  subst h1 h2 h3
  unfold grow World.drewN
  dsimp only
  congr 1
  · apply Array.ext_getElem?
    intro i
    by_cases hi : i < hp'.size
    · rw [Array.getElem?_append_left hi]; exact h5 i hi
    · rw [Array.getElem?_append_right (by omega), Array.getElem?_extract]
      by_cases hi2 : i < hp.size
      · rw [if_pos (by omega)]; congr 1; omega
      · rw [if_neg (by omega), Array.getElem?_eq_none (by omega)]
  · omega
theorem GR.cells {w W : World} {a : Addr} {v : Value} (h : GR w W) (hc : w.cell? a = some v) : W.cell? a = some v := bel_cell h.bel hc
end Go.Proofs.YtkghpapbifijcaaGreatDoor
