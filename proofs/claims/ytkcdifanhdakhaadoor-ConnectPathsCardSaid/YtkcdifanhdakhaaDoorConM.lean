/- Words for rows of numbers and of journeys; walks of cmp.Compare and cmp.Or at numbers. -/
import Derived.Test.YtkcdifanhdakhaaDoorConA
import Derived.Lib.Small
import Derived.Sort.Grow
namespace Go.Proofs.YtkcdifanhdakhaaDoor.Con
open Go.RowKit Go.Shelf Go.Lib Go.Sort
set_option linter.unusedSimpArgs false
set_option linter.unusedVariables false

abbrev inT : TypeId := 3
abbrev ptT : TypeId := 45
def encN (k : Nat) : List Value := [.int .i64 (k : Int)]
theorem rtN : RT Tryd.prog ptT inT 1 encN where
  ht := Tryd.underlying45
  info := ⟨.int .i64 0, 8, by kernel_rfl, rfl, by omega⟩
  len x := rfl
  one x u hu := by simp [encN] at hu; subst hu; rfl
  pos := by omega
abbrev NmL (w : World) (v : Value) (l : List Nat) : Prop := RowL 1 encN w v l
/-- a journey: where its row lies, and the indices -/
structure Pth where
  b : Nat
  c : Nat
  l : List Nat
def encPt (x : Pth) : List Value := [.slice (some ⟨x.b, 0, none⟩) x.l.length x.c]
theorem rtPt : RT Tryd.prog 28 ptT 1 encPt where
  ht := Tryd.underlying28
  info := ⟨.slice none 0 0, 24, by kernel_rfl, rfl, by omega⟩
  len x := rfl
  one x u hu := by simp [encPt] at hu; subst hu; rfl
  pos := by omega
/-- the row of a journey lies in the world -/
def PthAt (w : World) (x : Pth) : Prop := x.b < w.heap.size ∧ ∀ (i k : Nat), x.l[i]? = some k → w.cell? ⟨x.b, i, none⟩ = some (.int .i64 (k : Int))
theorem pthAt_more {w w' : World} {x : Pth} (h : PthAt w x) (hb : Below w.heap.size w w') : PthAt w' x :=
  ⟨Nat.lt_of_lt_of_le h.1 hb.size, fun i k hk => (hb.cell (p := ⟨x.b, i, none⟩) h.1).trans (h.2 i k hk)⟩
theorem pthAt_row {w : World} {x : Pth} (h : PthAt w x) : NmL w (.slice (some ⟨x.b, 0, none⟩) x.l.length x.c) x.l :=
  ⟨_, _, rfl, .inr ⟨x.b, 0, rfl, h.1, fun i k j u hi hj => by
    cases j with
    | zero => simp [encN] at hj; subst hj; rw [show 0 + i * 1 + 0 = i by omega]; exact h.2 i k hi
    | succ j => simp [encN] at hj⟩⟩
/-- a row of journeys -/
def PthL (w : World) (v : Value) (L : List (List Nat)) : Prop := ∃ ps : List Pth, ps.map (·.l) = L ∧ RowL 1 encPt w v ps ∧ ∀ x ∈ ps, PthAt w x
theorem pthL_more {w w' : World} {v : Value} {L : List (List Nat)} (h : PthL w v L) (hb : Below w.heap.size w w') : PthL w' v L := by
  obtain ⟨ps, h1, h2, h3⟩ := h
  exact ⟨ps, h1, h2.more hb, fun x hx => pthAt_more (h3 x hx) hb⟩

theorem cmp_int (x y : Int) : (x < y ∧ Lib.compareInt x y = -1) ∨ (x = y ∧ Lib.compareInt x y = 0) ∨ (y < x ∧ Lib.compareInt x y = 1) := by
  unfold Lib.compareInt
  by_cases h1 : x < y
  · exact .inl ⟨h1, by rw [if_pos h1]⟩
  · by_cases h2 : y < x
    · exact .inr (.inr ⟨h2, by rw [if_neg h1, if_pos h2]⟩)
    · exact .inr (.inl ⟨by omega, by rw [if_neg h1, if_neg h2]⟩)
set_option maxRecDepth 100000 in
theorem nanI_any (x : Int) (w : World) : Calls Tryd.prog 66 #[.int .i64 x] w fun e w' => e = .returned (.bool false) ∧ w' = w := by
  have h : (x != x) = false := by simp
  go_enter Tryd.func66, Tryd.ntmps66
  go_wp2
  go_ret
  exact ⟨by first | rfl | (simp), rfl⟩
set_option maxRecDepth 100000 in
set_option maxHeartbeats 4000000 in
theorem cmpI_any (x y : Int) (w : World) : Calls Tryd.prog 40 #[.int .i64 x, .int .i64 y] w fun e w' => e = .returned (.int .i64 (Lib.compareInt x y)) ∧ w' = w := by
  have K1 := Lib.hid (nanI_any x w)
  have K2 := Lib.hid (nanI_any y w)
  rcases cmp_int x y with ⟨h, e⟩ | ⟨h, e⟩ | ⟨h, e⟩ <;> rw [e]
  · go_enter Tryd.func40, Tryd.ntmps40
    go_wp2_with (first | (go_at_call 66; with_reducible refine K1.out.mono ?_; rintro e w' ⟨rfl, rfl⟩) | (go_at_call 66; with_reducible refine K2.out.mono ?_; rintro e w' ⟨rfl, rfl⟩))
    go_ret
    exact ⟨rfl, rfl⟩
  · subst h
    have i1 : ¬ x < x := by omega
    go_enter Tryd.func40, Tryd.ntmps40
    go_wp2_with (first | (go_at_call 66; with_reducible refine K1.out.mono ?_; rintro e w' ⟨rfl, rfl⟩) | (go_at_call 66; with_reducible refine K2.out.mono ?_; rintro e w' ⟨rfl, rfl⟩))
    go_ret
    exact ⟨rfl, rfl⟩
  · have i1 : ¬ x < y := by omega
    go_enter Tryd.func40, Tryd.ntmps40
    go_wp2_with (first | (go_at_call 66; with_reducible refine K1.out.mono ?_; rintro e w' ⟨rfl, rfl⟩) | (go_at_call 66; with_reducible refine K2.out.mono ?_; rintro e w' ⟨rfl, rfl⟩))
    go_ret
    exact ⟨rfl, rfl⟩
set_option maxRecDepth 100000 in
set_option maxHeartbeats 4000000 in
theorem or3_any (b : Nat) (x y z : Int) (w : World) (c0 : w.cell? ⟨b, 0, none⟩ = some (.int .i64 x)) (c1 : w.cell? ⟨b, 1, none⟩ = some (.int .i64 y)) (c2 : w.cell? ⟨b, 2, none⟩ = some (.int .i64 z)) :
    Calls Tryd.prog 39 #[.slice (some ⟨b, 0, none⟩) 3 3] w fun e w' => e = .returned (.int .i64 (if x ≠ 0 then x else if y ≠ 0 then y else z)) ∧ w' = w := by
  obtain ⟨R, hR⟩ : ∃ R, R = (if x ≠ 0 then x else if y ≠ 0 then y else z) := ⟨_, rfl⟩
  rw [← hR]
  cases h0 : (x != 0) with
  | true =>
    have HR : Hid (x = R) := Lib.hid (by rw [hR, if_pos (by simpa using h0)])
    clear hR
    go_enter Tryd.func39, Tryd.ntmps39
    go_wp2
    go_loopw [8] (fun vi wr => ∃ k : Nat, k ≤ 0 ∧ vi = .int .i64 k ∧ wr = w) (fun vi _ => 3 - (intOf vi).toNat)
    case atStart => exact ⟨0, Nat.zero_le _, by first | rfl | trivial, by first | rfl | trivial⟩
    case round =>
      obtain ⟨k, hk, rfl, rfl⟩ := hrel
      obtain rfl : k = 0 := by omega
      · clear hk
        go_wp2
        go_ret
        exact ⟨ret_int HR.out, rfl⟩
  | false =>
  cases h1 : (y != 0) with
  | true =>
    have HR : Hid (y = R) := Lib.hid (by rw [hR, if_neg (by simpa using h0), if_pos (by simpa using h1)])
    clear hR
    go_enter Tryd.func39, Tryd.ntmps39
    go_wp2
    go_loopw [8] (fun vi wr => ∃ k : Nat, k ≤ 1 ∧ vi = .int .i64 k ∧ wr = w) (fun vi _ => 3 - (intOf vi).toNat)
    case atStart => exact ⟨0, Nat.zero_le _, by first | rfl | trivial, by first | rfl | trivial⟩
    case round =>
      obtain ⟨k, hk, rfl, rfl⟩ := hrel
      rcases (show k = 0 ∨ k = 1 by omega) with rfl | rfl
      · clear hk
        go_wp2
        go_roundw
        case rel => exact ⟨1, by omega, by first | rfl | trivial, by first | rfl | trivial⟩
        case measure => simp [intOf]
      · clear hk
        go_wp2
        go_ret
        exact ⟨ret_int HR.out, rfl⟩
  | false =>
  cases h2 : (z != 0) with
  | true =>
    have HR : Hid (z = R) := Lib.hid (by rw [hR, if_neg (by simpa using h0), if_neg (by simpa using h1)])
    clear hR
    go_enter Tryd.func39, Tryd.ntmps39
    go_wp2
    go_loopw [8] (fun vi wr => ∃ k : Nat, k ≤ 2 ∧ vi = .int .i64 k ∧ wr = w) (fun vi _ => 3 - (intOf vi).toNat)
    case atStart => exact ⟨0, Nat.zero_le _, by first | rfl | trivial, by first | rfl | trivial⟩
    case round =>
      obtain ⟨k, hk, rfl, rfl⟩ := hrel
      rcases (show k = 0 ∨ k = 1 ∨ k = 2 by omega) with rfl | rfl | rfl
      · clear hk
        go_wp2
        go_roundw
        case rel => exact ⟨1, by omega, by first | rfl | trivial, by first | rfl | trivial⟩
        case measure => simp [intOf]
      · clear hk
        go_wp2
        go_roundw
        case rel => exact ⟨2, by omega, by first | rfl | trivial, by first | rfl | trivial⟩
        case measure => simp [intOf]
      · clear hk
        go_wp2
        go_ret
        exact ⟨ret_int HR.out, rfl⟩
  | false =>
    have HR : Hid (0 = R) := Lib.hid (by rw [hR, if_neg (by simpa using h0), if_neg (by simpa using h1)]; exact (show z = 0 by simpa using h2).symm)
    clear hR
    go_enter Tryd.func39, Tryd.ntmps39
    go_wp2
    go_loopw [8] (fun vi wr => ∃ k : Nat, k ≤ 3 ∧ vi = .int .i64 k ∧ wr = w) (fun vi _ => 3 - (intOf vi).toNat)
    case atStart => exact ⟨0, Nat.zero_le _, by first | rfl | trivial, by first | rfl | trivial⟩
    case round =>
      obtain ⟨k, hk, rfl, rfl⟩ := hrel
      rcases (show k = 0 ∨ k = 1 ∨ k = 2 ∨ k = 3 by omega) with rfl | rfl | rfl | rfl
      · clear hk
        go_wp2
        go_roundw
        case rel => exact ⟨1, by omega, by first | rfl | trivial, by first | rfl | trivial⟩
        case measure => simp [intOf]
      · clear hk
        go_wp2
        go_roundw
        case rel => exact ⟨2, by omega, by first | rfl | trivial, by first | rfl | trivial⟩
        case measure => simp [intOf]
      · clear hk
        go_wp2
        go_roundw
        case rel => exact ⟨3, by omega, by first | rfl | trivial, by first | rfl | trivial⟩
        case measure => simp [intOf]
      · clear hk
        go_wp2
        go_ret
        exact ⟨ret_int HR.out, rfl⟩

/-- a world that has only drawn and grown -/
structure GR (w W : World) : Prop where
  bel : Below w.heap.size w W
  dr : w.drawn ≤ W.drawn
theorem GR.refl (w : World) : GR w w := ⟨Below.refl _ _, Nat.le_refl _⟩
theorem GR.drew {w W : World} (h : GR w W) : GR w W.drew := ⟨h.bel.drew, Nat.le_trans h.dr (Nat.le_succ _)⟩
theorem GR.alloc {w W : World} (h : GR w W) (o : Obj) : GR w (W.alloc o) := ⟨h.bel.trans ((bel_alloc W o).mono h.bel.size), h.dr⟩
theorem GR.grown {w W : World} (h : GR w W) : ∃ q os, W = grow (w.drewN q) os := by
  obtain ⟨⟨h1, h2, h3, h4, h5⟩, h6⟩ := h
  refine ⟨W.drawn - w.drawn, W.heap.extract w.heap.size W.heap.size, ?_⟩
  obtain ⟨hp, tp, dr, os, out⟩ := W
  obtain ⟨hp', tp', dr', os', out'⟩ := w
  dsimp only at h1 h2 h3 h4 h5 h6
  subst h1 h2 h3
  unfold grow World.drewN
  dsimp only
  congr 1
  · apply Array.ext_getElem?
    intro i
    by_cases hi : i < hp'.size
    · rw [Array.getElem?_append_left hi]; exact h5 i hi
    · rw [Array.getElem?_append_right (by omega), Array.getElem?_extract]
      by_cases hi2 : i < hp.size
      · rw [if_pos (by omega)]; congr 1; omega
      · rw [if_neg (by omega), Array.getElem?_eq_none (by omega)]
  · omega
theorem GR.cells {w W : World} {a : Addr} {v : Value} (h : GR w W) (hc : w.cell? a = some v) : W.cell? a = some v := bel_cell h.bel hc

end Go.Proofs.YtkcdifanhdakhaaDoor.Con
