/- Walks of calendar.Day and calendar.Date. -/
import Derived.Test.YtnfdmdhpbaifiaaDoorCalA
import Derived.Deep.WholeRow
import Derived.BigQuiet
import Derived.Deep.QuietTactic
namespace Go.Proofs.YtnfdmdhpbaifiaaDoor
open Go.RowKit
set_option linter.unusedSimpArgs false
set_option linter.unusedVariables false

/-- the array of the days of the months as a value of which only the cells are known -/
theorem months_of (y : Int) (w : World) (h0 : 2000 ≤ y) (h1 : y ≤ 2100) {A : Array Value} (hA : Hid (A = lensA y)) :
    Calls Tryd.prog 46 #[.int .i64 y] w fun e w' => e = .returned (.agg A) ∧ Below w.heap.size w w' :=
  (months_any y w h0 h1).mono (by
    rintro e w' ⟨rfl, rfl⟩
    exact ⟨by rw [hA.out], ((Below.refl _ _).alloc (Nat.le_refl _) _).alloc (by show w.heap.size ≤ (w.heap.push _).size; rw [Array.size_push]; omega) _⟩)
abbrev zeros : Array Value := #[.int .i64 0, .int .i64 0, .int .i64 0, .int .i64 0, .int .i64 0, .int .i64 0, .int .i64 0, .int .i64 0, .int .i64 0, .int .i64 0, .int .i64 0, .int .i64 0]
theorem info_months : (Tryd.prog.info? 65).map (·.size) = some 12 := by kernel_rfl
theorem store_months {y : Int} {A : Array Value} (hA : Hid (A = lensA y)) (w : World) :
    (storeCells ⟨w.heap.size, 0, none⟩ A.toList 0).run Tryd.prog (w.alloc (.cells zeros 65)) = .ok () (w.alloc (.cells A 65)) := by
  have e := hA.out
  subst e
  exact run_storeCells_new w _ zeros (lensA y) info_months rfl (by simp [lensA, Value.oneCell'])
theorem month_at {y : Int} {A : Array Value} (hA : Hid (A = lensA y)) (i : Nat) (h : i < 12) : A[i]? = some (.int .i64 (lenP y ((i : Int) + 1))) := by rw [hA.out]; exact lensA_at y i h
theorem month_size {y : Int} {A : Array Value} (hA : Hid (A = lensA y)) : A.size = 12 := by rw [hA.out]; rfl

set_option maxRecDepth 100000 in
set_option maxHeartbeats 1000000 in
theorem day_any (y m d : Int) (w : World) : Calls Tryd.prog 29 #[.int .i64 y, .int .i64 m, .int .i64 d] w fun e w' => e = .returned (.tuple #[.int .i64 (dayR y m d).1, .int .i64 (dayR y m d).2]) ∧ Below w.heap.size w w' := by
  by_cases hy : 2000 ≤ y ∧ y ≤ 2099 ∧ 1 ≤ m ∧ m ≤ 12
  · obtain ⟨y0, y1, m0, m1⟩ := hy
    obtain ⟨A, hA⟩ : ∃ A, Hid (A = lensA y) := ⟨_, Lib.hid rfl⟩
    have hst := store_months hA
    have hsz := month_size hA
    have hm : A[m.toNat - 1]? = some (.int .i64 (lenP y m)) := by
      have h := month_at hA (m.toNat - 1) (by omega)
      have e : ((m.toNat - 1 : Nat) : Int) + 1 = m := by omega
      rwa [e] at h
    obtain ⟨L, hL⟩ : ∃ L, Hid (L = lenP y m) := ⟨_, Lib.hid rfl⟩
    rw [← hL.out] at hm
    by_cases c5 : d < 1
    · have HR : Hid (dayR y m d = (0, 12)) := Lib.hid (by rw [dayR, if_neg]; rw [ok_not (by omega)]; simp)
      go_enter Tryd.func29, Tryd.ntmps29
      go_wp2_with (go_at_call 46; refine (months_of _ _ (by omega) (by omega) hA).mono ?_; rintro e wl ⟨rfl, hb⟩)
      go_ret2
      exact ⟨by rw [HR.out]; rfl, hb.alloc hb.size _⟩
    by_cases c6 : L < d
    · have HR : Hid (dayR y m d = (0, 12)) := Lib.hid (by have := hL.out; rw [dayR, if_neg]; rw [ok_not (by omega)]; simp)
      go_enter Tryd.func29, Tryd.ntmps29
      go_wp2_with (go_at_call 46; refine (months_of _ _ (by omega) (by omega) hA).mono ?_; rintro e wl ⟨rfl, hb⟩)
      go_ret2
      exact ⟨by rw [HR.out]; rfl, hb.alloc hb.size _⟩
    have HR : Hid (dayR y m d = (ysP y + befP y m + d - 1, 0)) := Lib.hid (by have := hL.out; rw [dayR, if_pos (ok_mk (by omega))]; rfl)
    have hyb : 0 ≤ ysP y ∧ ysP y ≤ 36525 := by
      have e := ys_mono 2000 y y0
      have f := ys_mono y 2100 (by omega)
      rw [ys_first] at e
      rw [ys_last] at f
      exact ⟨e, f⟩
    have hLb : L ≤ 31 := by have := hL.out; have := len_range y m; omega
    go_enter Tryd.func29, Tryd.ntmps29
    go_wp2_with (first | (go_at_call 47; refine (yearStart_any _ _ (by omega) (by omega)).mono ?_; rintro e w' ⟨rfl, rfl⟩) | (go_at_call 46; refine (months_of _ _ (by omega) (by omega) hA).mono ?_; rintro e wl ⟨rfl, hb⟩))
    go_loop [9, 10, 44] (fun n v10 i => ∃ (k : Nat) (acc : Int), k + 1 ≤ m.toNat ∧ i = .int .i64 k ∧ n = .int .i64 acc ∧ 0 ≤ acc ∧ acc ≤ 36600 + 31 * k ∧ Hid (acc = ysP y + befP y (k + 1) + d - 1)) (fun _ _ i => m.toNat - (intOf i).toNat)
    case atStart => exact ⟨0, ysP y + d - 1, by omega, rfl, rfl, by omega, by omega, Lib.hid (by have := bef_one y; simp only [Int.natCast_zero, Int.zero_add, this]; omega)⟩
    case round =>
      obtain ⟨k, acc, hk, rfl, rfl, a0, a1, HK⟩ := hrel
      by_cases hlt : k + 1 < m.toNat
      · have hk2 : A[k]? = some (.int .i64 (lenP y ((k : Int) + 1))) := month_at hA k (by omega)
        have i1 : (k : Int) < m - 1 := by omega
        have i2 : k < 12 := by omega
        have i3 : (k : Int) < 12 := by omega
        have hb2 := len_range y ((k : Int) + 1)
        have HN := Lib.hid (bef_next y ((k : Int) + 1) (by omega) (by omega))
        obtain ⟨x, hx⟩ : ∃ x, Hid (x = lenP y ((k : Int) + 1)) := ⟨_, Lib.hid rfl⟩
        have hk3 : ∀ h : k < A.size, A[k]'h = .int .i64 (lenP y ((k : Int) + 1)) := fun h => by
          have e := hk2
          rw [Array.getElem?_eq_getElem h] at e
          injection e
        rw [← hx.out] at hk2 hk3 hb2
        go_wp2
        go_round
        case rel => exact ⟨k + 1, acc + x, by omega, by go_num, rfl, by omega, by omega, Lib.hid (by have := HK.out; have := HN.out; have := hx.out; push_cast; omega)⟩
        case measure => simp [intOf]; omega
      · have i1 : ¬ (k : Int) < m - 1 := by omega
        have HE : Hid (acc = ysP y + befP y m + d - 1) := Lib.hid (by have e : m = (k : Int) + 1 := by omega
                                                                      rw [e]; exact HK.out)
        go_wp2
        go_ret2
        exact ⟨by rw [HR.out, HE.out]; rfl, hb.alloc hb.size _⟩
  · have HR : Hid (dayR y m d = (0, 12)) := Lib.hid (by rw [dayR, if_neg]; rw [ok_not (by omega)]; simp)
    by_cases c1 : y < 2000
    · go_enter Tryd.func29, Tryd.ntmps29
      go_wp2
      go_ret2
      exact ⟨by rw [HR.out]; rfl, Below.refl _ _⟩
    by_cases c2 : 2099 < y
    · go_enter Tryd.func29, Tryd.ntmps29
      go_wp2
      go_ret2
      exact ⟨by rw [HR.out]; rfl, Below.refl _ _⟩
    by_cases c3 : m < 1
    · go_enter Tryd.func29, Tryd.ntmps29
      go_wp2
      go_ret2
      exact ⟨by rw [HR.out]; rfl, Below.refl _ _⟩
    · have c4 : 12 < m := by omega
      clear hy
      go_enter Tryd.func29, Tryd.ntmps29
      go_wp2
      go_ret2
      exact ⟨by rw [HR.out]; rfl, Below.refl _ _⟩

set_option maxRecDepth 100000 in
set_option maxHeartbeats 1000000 in
theorem date_any (n : Int) (w : World) : Calls Tryd.prog 34 #[.int .i64 n] w fun e w' => e = .returned (.tuple #[.int .i64 (dateR n).1, .int .i64 (dateR n).2.1, .int .i64 (dateR n).2.2]) ∧ Below w.heap.size w w' := by
  cases hd : isDayB n
  · have HR : Hid (dateR n = (0, 0, 0)) := Lib.hid (date_out hd)
    go_enter Tryd.func34, Tryd.ntmps34
    go_wp2_with (go_at_call 33; refine (isDay_any _ _).mono ?_; rintro e w' ⟨rfl, rfl⟩)
    go_ret3
    exact ⟨by rw [HR.out]; rfl, Below.refl _ _⟩
  · have hn : 0 ≤ n ∧ n < 36525 := by simpa [isDayB] using hd
    have hy : 2000 ≤ yOf n ∧ yOf n ≤ 2099 := by unfold yOf; omega
    have HY := Lib.hid (yOf_in n)
    have hE : 2000 + 4 * n / 1461 = yOf n := rfl
    obtain ⟨y, hy1⟩ : ∃ y, yOf n = y := ⟨_, rfl⟩
    rw [hy1] at hy HY hE
    have HY1 := Lib.hid hy1
    clear hy1
    obtain ⟨A, hA⟩ : ∃ A, Hid (A = lensA y) := ⟨_, Lib.hid rfl⟩
    have hst := store_months hA
    have hsz := month_size hA
    have hY : 0 ≤ ysP y ∧ ysP y ≤ n ∧ n - ysP y ≤ 365 := by
      have a := HY.out
      have b := ys_next y
      have c := bef_all y
      have d := lp_two y
      have e := ys_mono 2000 y (by omega)
      rw [ys_first] at e
      omega
    have hY2 : Hid (n - ysP y < befP y 13) := Lib.hid (by have a := HY.out; have b := ys_next y; omega)
    go_enter Tryd.func34, Tryd.ntmps34
    go_wp2_with (first | (go_at_call 33; refine (isDay_any _ _).mono ?_; rintro e w' ⟨rfl, rfl⟩) | (go_at_call 47; refine (yearStart_any _ _ (by omega) (by omega)).mono ?_; rintro e w' ⟨rfl, rfl⟩) | (go_at_call 46; refine (months_of _ _ (by omega) (by omega) hA).mono ?_; rintro e wl ⟨rfl, hb⟩))
    go_loopw [6, 7, 9, 23] (fun vm vr v9 vi wr => ∃ (k : Nat) (r : Int), k ≤ 11 ∧ vi = .int .i64 k ∧ vm = .int .i64 ((k : Int) + 1) ∧ vr = .int .i64 r ∧ 0 ≤ r ∧ r ≤ 365 ∧ Hid (r = n - ysP y - befP y (k + 1)) ∧ ∃ c, wr = (wl.alloc (.cells A 65)).drewN c) (fun _ _ _ i _ => 11 - (intOf i).toNat)
    case atStart => exact ⟨0, n - ysP y, by omega, rfl, rfl, rfl, by omega, by omega, Lib.hid (by have := bef_one y; simp only [Int.natCast_zero, Int.zero_add, this]; omega), 0, rfl⟩
    case round =>
      obtain ⟨k, r, hk, rfl, rfl, rfl, r0, r1, HK, c, rfl⟩ := hrel
      by_cases hlt : k < 11
      · have hk2 : A[k]? = some (.int .i64 (lenP y ((k : Int) + 1))) := month_at hA k (by omega)
        have i1 : (k : Int) < 11 := by omega
        have i2 : k < 12 := by omega
        have i3 : (k : Int) < 12 := by omega
        have hb2 := len_range y ((k : Int) + 1)
        have HN := Lib.hid (bef_next y ((k : Int) + 1) (by omega) (by omega))
        obtain ⟨x, hx⟩ : ∃ x, Hid (x = lenP y ((k : Int) + 1)) := ⟨_, Lib.hid rfl⟩
        have hk3 : ∀ h : k < A.size, A[k]'h = .int .i64 (lenP y ((k : Int) + 1)) := fun h => by
          have e := hk2
          rw [Array.getElem?_eq_getElem h] at e
          injection e
        rw [← hx.out] at hk2 hk3 hb2
        by_cases hr : r < x
        · have HR : Hid (dateR n = (y, (k : Int) + 1, r + 1)) := Lib.hid (by
            have a := hx.out
            have b := HK.out
            exact date_of (ok_mk (by omega)) (by unfold numP; omega))
          go_wp2
          go_ret3
          exact ⟨by rw [HR.out]; rfl, below_drewN (hb.alloc hb.size _) _⟩
        · go_wp2
          go_quiet (fail)
          go_wp2
          go_roundw
          case rel => exact ⟨k + 1, r - x, by omega, by go_num, by go_num, rfl, by omega, by omega, Lib.hid (by have := HK.out; have := HN.out; have := hx.out; push_cast; omega), _, rfl⟩
          case measure => simp [intOf]; omega
      · have e : k = 11 := by omega
        have HR : Hid (dateR n = (y, 12, r + 1)) := Lib.hid (by
          subst e
          have a := hY2.out
          have b := HK.out
          have c : befP y 13 = befP y 12 + lenP y 12 := bef_next y 12 (by omega) (by omega)
          have d : ((11 : Nat) : Int) + 1 = 12 := rfl
          rw [d] at b
          exact date_of (ok_mk (by omega)) (by unfold numP; omega))
        subst e
        go_wp2
        go_ret3
        exact ⟨by rw [HR.out]; rfl, below_drewN (hb.alloc hb.size _) _⟩

end Go.Proofs.YtnfdmdhpbaifiaaDoor
