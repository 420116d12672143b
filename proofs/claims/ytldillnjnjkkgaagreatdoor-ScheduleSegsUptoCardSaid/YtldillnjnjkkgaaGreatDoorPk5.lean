/- Words and walks that the laws below ask: CalB, CalC, CalE, PerT, FliI, FliJ. -/
import Derived.Deep.WholeRow
import Derived.BigQuiet
import Derived.Deep.QuietTactic
import Derived.Laws.Concat
import Derived.Test.YtldillnjnjkkgaaGreatDoorPk1
import Derived.Test.YtldillnjnjkkgaaGreatDoorPk3
import Derived.Test.YtldillnjnjkkgaaGreatDoorPk4
/- Walks of calendar.Day and calendar.Date. -/
namespace Go.Proofs.YtldillnjnjkkgaaGreatDoor
open Go.RowKit
set_option linter.unusedSimpArgs false
set_option linter.unusedVariables false

/-- the array of the days of the months as a value of which only the cells are known -/
theorem months_of (y : Int) (w : World) (h0 : 2000 ≤ y) (h1 : y ≤ 2100) {A : Array Value} (hA : Hid (A = lensA y)) :
    Calls Tryz.prog 239 #[.int .i64 y] w fun e w' => e = .returned (.agg A) ∧ Below w.heap.size w w' :=
  (months_any y w h0 h1).mono (by
    rintro e w' ⟨rfl, rfl⟩
    exact ⟨by rw [hA.out], ((Below.refl _ _).alloc (Nat.le_refl _) _).alloc (by show w.heap.size ≤ (w.heap.push _).size; rw [Array.size_push]; omega) _⟩)
abbrev zeros : Array Value := #[.int .i64 0, .int .i64 0, .int .i64 0, .int .i64 0, .int .i64 0, .int .i64 0, .int .i64 0, .int .i64 0, .int .i64 0, .int .i64 0, .int .i64 0, .int .i64 0]
theorem info_months : (Tryz.prog.info? 259).map (·.size) = some 12 := by kernel_rfl
theorem store_months {y : Int} {A : Array Value} (hA : Hid (A = lensA y)) (w : World) :
    (storeCells ⟨w.heap.size, 0, none⟩ A.toList 0).run Tryz.prog (w.alloc (.cells zeros 259)) = .ok () (w.alloc (.cells A 259)) := by
  have e := hA.out
  subst e
  exact run_storeCells_new w _ zeros (lensA y) info_months rfl (by simp [lensA, Value.oneCell'])
theorem month_at {y : Int} {A : Array Value} (hA : Hid (A = lensA y)) (i : Nat) (h : i < 12) : A[i]? = some (.int .i64 (lenP y ((i : Int) + 1))) := by rw [hA.out]; exact lensA_at y i h
theorem month_size {y : Int} {A : Array Value} (hA : Hid (A = lensA y)) : A.size = 12 := by rw [hA.out]; rfl

set_option maxRecDepth 100000 in
set_option maxHeartbeats 1000000 in
theorem date_any (n : Int) (w : World) : Calls Tryz.prog 190 #[.int .i64 n] w fun e w' => e = .returned (.tuple #[.int .i64 (dateR n).1, .int .i64 (dateR n).2.1, .int .i64 (dateR n).2.2]) ∧ Below w.heap.size w w' := by
  cases hd : isDayB n
  · have HR : Hid (dateR n = (0, 0, 0)) := Lib.hid (date_out hd)
    go_enter Tryz.func190, Tryz.ntmps190
    go_wp2_with (go_at_call 189; refine (isDay_any _ _).mono ?_; rintro e w' ⟨rfl, rfl⟩)
    go_ret3
    exact ⟨by rw [HR.out]; rfl, Below.refl _ _⟩
  · have hn : 0 ≤ n ∧ n < 36525 := by simpa [isDayB] using hd
    have hy : 2000 ≤ yOf n ∧ yOf n ≤ 2099 := by unfold yOf; omega
    have HY := Lib.hid (yOf_in n)
    have hE : 2000 + 4 * n / 1461 = yOf n := rfl
    obtain ⟨y, hy1⟩ : ∃ y, yOf n = y := ⟨_, rfl⟩
    rw [hy1] at hy HY hE
    have HY1 := Lib.hid hy1
    clear hy1
    obtain ⟨A, hA⟩ : ∃ A, Hid (A = lensA y) := ⟨_, Lib.hid rfl⟩
    have hst := store_months hA
    have hsz := month_size hA
    have hY : 0 ≤ ysP y ∧ ysP y ≤ n ∧ n - ysP y ≤ 365 := by
      have a := HY.out
      have b := ys_next y
      have c := bef_all y
      have d := lp_two y
      have e := ys_mono 2000 y (by omega)
      rw [ys_first] at e
      omega
    have hY2 : Hid (n - ysP y < befP y 13) := Lib.hid (by have a := HY.out; have b := ys_next y; omega)
    go_enter Tryz.func190, Tryz.ntmps190
    go_wp2_with (first | (go_at_call 189; refine (isDay_any _ _).mono ?_; rintro e w' ⟨rfl, rfl⟩) | (go_at_call 238; refine (yearStart_any _ _ (by omega) (by omega)).mono ?_; rintro e w' ⟨rfl, rfl⟩) | (go_at_call 239; refine (months_of _ _ (by omega) (by omega) hA).mono ?_; rintro e wl ⟨rfl, hb⟩))
    go_loopw [6, 7, 9, 23] (fun vm vr v9 vi wr => ∃ (k : Nat) (r : Int), k ≤ 11 ∧ vi = .int .i64 k ∧ vm = .int .i64 ((k : Int) + 1) ∧ vr = .int .i64 r ∧ 0 ≤ r ∧ r ≤ 365 ∧ Hid (r = n - ysP y - befP y (k + 1)) ∧ ∃ c, wr = (wl.alloc (.cells A 259)).drewN c) (fun _ _ _ i _ => 11 - (intOf i).toNat)
    case atStart => exact ⟨0, n - ysP y, by omega, rfl, rfl, rfl, by omega, by omega, Lib.hid (by have := bef_one y; simp only [Int.natCast_zero, Int.zero_add, this]; omega), 0, rfl⟩
    case round =>
      obtain ⟨k, r, hk, rfl, rfl, rfl, r0, r1, HK, c, rfl⟩ := hrel
      by_cases hlt : k < 11
      · have hk2 : A[k]? = some (.int .i64 (lenP y ((k : Int) + 1))) := month_at hA k (by omega)
        have i1 : (k : Int) < 11 := by omega
        have i2 : k < 12 := by omega
        have i3 : (k : Int) < 12 := by omega
        have hb2 := len_range y ((k : Int) + 1)
        have HN := Lib.hid (bef_next y ((k : Int) + 1) (by omega) (by omega))
        obtain ⟨x, hx⟩ : ∃ x, Hid (x = lenP y ((k : Int) + 1)) := ⟨_, Lib.hid rfl⟩
        have hk3 : ∀ h : k < A.size, A[k]'h = .int .i64 (lenP y ((k : Int) + 1)) := fun h => by
          have e := hk2
          rw [Array.getElem?_eq_getElem h] at e
          injection e
        rw [← hx.out] at hk2 hk3 hb2
        by_cases hr : r < x
        · have HR : Hid (dateR n = (y, (k : Int) + 1, r + 1)) := Lib.hid (by
            have a := hx.out
            have b := HK.out
            exact date_of (ok_mk (by omega)) (by unfold numP; omega))
          go_wp2
          go_ret3
          exact ⟨by rw [HR.out]; rfl, below_drewN (hb.alloc hb.size _) _⟩
        · go_wp2
          go_quiet (fail)
          go_wp2
          go_roundw
          case rel => exact ⟨k + 1, r - x, by omega, by go_num, by go_num, rfl, by omega, by omega, Lib.hid (by have := HK.out; have := HN.out; have := hx.out; push_cast; omega), _, rfl⟩
          case measure => simp [intOf]; omega
      · have e : k = 11 := by omega
        have HR : Hid (dateR n = (y, 12, r + 1)) := Lib.hid (by
          subst e
          have a := hY2.out
          have b := HK.out
          have c : befP y 13 = befP y 12 + lenP y 12 := bef_next y 12 (by omega) (by omega)
          have d : ((11 : Nat) : Int) + 1 = 12 := rfl
          rw [d] at b
          exact date_of (ok_mk (by omega)) (by unfold numP; omega))
        subst e
        go_wp2
        go_ret3
        exact ⟨by rw [HR.out]; rfl, below_drewN (hb.alloc hb.size _) _⟩

end Go.Proofs.YtldillnjnjkkgaaGreatDoor

/- Walks of the reference's Length, Day and Date. -/
namespace Go.Proofs.YtldillnjnjkkgaaGreatDoor
open Go.RowKit
set_option linter.unusedSimpArgs false
set_option linter.unusedVariables false

set_option maxHeartbeats 1000000 in
theorem rlen_any (y m : Int) (w : World) (h0 : 0 ≤ y) (h1 : y ≤ 3000) : Calls Tryz.prog 242 #[.int .i64 y, .int .i64 m] w fun e w' => e = .returned (.int .i64 (lenP y m)) ∧ w = w' := by
  by_cases c : m = 4 ∨ m = 6 ∨ m = 9 ∨ m = 11
  · have HR : Hid (lenP y m = 30) := Lib.hid (by rw [lenP, if_pos c])
    rcases c with rfl | rfl | rfl | rfl
    all_goals
      go_enter Tryz.func242, Tryz.ntmps242
      go_wp2
      go_ret
      exact ⟨by rw [HR.out]; rfl, rfl⟩
  have a1 : (m == 4) = false := by rw [beq_eq_false_iff_ne]; omega
  have a2 : (m == 6) = false := by rw [beq_eq_false_iff_ne]; omega
  have a3 : (m == 9) = false := by rw [beq_eq_false_iff_ne]; omega
  have a4 : (m == 11) = false := by rw [beq_eq_false_iff_ne]; omega
  by_cases c2 : m = 2
  · subst c2
    by_cases c3 : y % 4 = 0
    · have HR : Hid (lenP y 2 = 29) := Lib.hid (by simp [lenP, c3])
      go_enter Tryz.func242, Tryz.ntmps242
      go_wp2
      go_ret
      exact ⟨by rw [HR.out]; rfl, rfl⟩
    · have HR : Hid (lenP y 2 = 28) := Lib.hid (by simp [lenP, c3])
      go_enter Tryz.func242, Tryz.ntmps242
      go_wp2
      go_ret
      exact ⟨by rw [HR.out]; rfl, rfl⟩
  · have HR : Hid (lenP y m = 31) := Lib.hid (by rw [lenP, if_neg c, if_neg c2])
    have a5 : (m == 2) = false := by rw [beq_eq_false_iff_ne]; exact c2
    clear c c2
    go_enter Tryz.func242, Tryz.ntmps242
    go_wp2
    go_ret
    exact ⟨by rw [HR.out]; rfl, rfl⟩

set_option maxRecDepth 100000 in
set_option maxHeartbeats 1000000 in
theorem rdate_any (n : Int) (w : World) : Calls Tryz.prog 197 #[.int .i64 n] w fun e w' => e = .returned (.tuple #[.int .i64 (dateR n).1, .int .i64 (dateR n).2.1, .int .i64 (dateR n).2.2]) ∧ w = w' := by
  by_cases hn : 0 ≤ n ∧ n < 36525
  · go_enter Tryz.func197, Tryz.ntmps197
    go_wp2
    go_loop [0, 5, 6] (fun vr vy vm => ∃ (y m r : Int), 2000 ≤ y ∧ y ≤ 2099 ∧ 1 ≤ m ∧ m ≤ 12 ∧ 0 ≤ r ∧ r ≤ 36525 ∧ vy = .int .i64 y ∧ vm = .int .i64 m ∧ vr = .int .i64 r ∧ Hid (n = ysP y + befP y m + r)) (fun vr _ _ => (intOf vr).toNat)
    case atStart => exact ⟨2000, 1, n, by omega, by omega, by omega, by omega, by omega, by omega, rfl, rfl, rfl, Lib.hid (by rw [ys_first, bef_one]; omega)⟩
    case round =>
      obtain ⟨y, m, r, y0, y1, m0, m1, r0, r1, rfl, rfl, rfl, HK⟩ := hrel
      obtain ⟨x, hx⟩ : ∃ x, Hid (x = lenP y m) := ⟨_, Lib.hid rfl⟩
      have hb2 := len_range y m
      rw [← hx.out] at hb2
      have CX : Hid (∀ w, Calls Tryz.prog 242 #[.int .i64 y, .int .i64 m] w fun e w' => e = .returned (.int .i64 x) ∧ w = w') := Lib.hid (fun w => by rw [hx.out]; exact rlen_any y m w (by omega) (by omega))
      by_cases hr : x ≤ r
      · have HN := Lib.hid (bef_next y m m0 m1)
        by_cases hm : m = 12
        · have HK2 : Hid (n = ysP (y + 1) + befP (y + 1) 1 + (r - x)) := Lib.hid (by
            have a := HK.out
            have b := HN.out
            have c := ys_next y
            have e := hx.out
            have f := bef_one (y + 1)
            subst hm
            have g : befP y 13 = befP y 12 + lenP y 12 := b
            omega)
          have hy2 : y + 1 ≤ 2099 := by
            have a := HK2.out
            have f := bef_one (y + 1)
            by_cases c : y + 1 ≤ 2099
            · exact c
            · have := ys_mono 2100 (y + 1) (by omega)
              rw [ys_last] at this
              omega
          subst hm
          go_wp2_with (go_at_call 242; refine (CX.out _).mono ?_; rintro e w' ⟨rfl, rfl⟩)
          go_round
          case rel => exact ⟨y + 1, 1, r - x, by omega, hy2, by omega, by omega, by omega, by omega, rfl, rfl, rfl, HK2⟩
          case measure => simp [intOf]; omega
        · have HK2 : Hid (n = ysP y + befP y (m + 1) + (r - x)) := Lib.hid (by
            have a := HK.out
            have b := HN.out
            have e := hx.out
            omega)
          have hm2 : (m + 1 == 13) = false := by rw [beq_eq_false_iff_ne]; omega
          have hm3 : m ≤ 11 := by omega
          clear hm
          go_wp2_with (go_at_call 242; refine (CX.out _).mono ?_; rintro e w' ⟨rfl, rfl⟩)
          go_round
          case rel => exact ⟨y, m + 1, r - x, by omega, by omega, by omega, by omega, by omega, by omega, rfl, rfl, rfl, HK2⟩
          case measure => simp [intOf]; omega
      · have HR : Hid (dateR n = (y, m, r + 1)) := Lib.hid (by
          have a := hx.out
          have b := HK.out
          exact date_of (ok_mk (by omega)) (by unfold numP; omega))
        go_wp2_with (go_at_call 242; refine (CX.out _).mono ?_; rintro e w' ⟨rfl, rfl⟩)
        go_ret3
        exact ⟨by rw [HR.out]; rfl, rfl⟩
  · have HR : Hid (dateR n = (0, 0, 0)) := Lib.hid (date_out (by simpa [isDayB] using hn))
    by_cases h0 : n < 0
    · clear hn
      go_enter Tryz.func197, Tryz.ntmps197
      go_wp2
      go_ret3
      exact ⟨by rw [HR.out]; rfl, rfl⟩
    · have h1 : 36525 ≤ n := by omega
      clear hn
      go_enter Tryz.func197, Tryz.ntmps197
      go_wp2
      go_ret3
      exact ⟨by rw [HR.out]; rfl, rfl⟩

end Go.Proofs.YtldillnjnjkkgaaGreatDoor

/- Walks of Print and Clock, beside the reference's; of the tests and numbers of digits. -/
namespace Go.Proofs.YtldillnjnjkkgaaGreatDoor
open Go.RowKit
set_option linter.unusedSimpArgs false
set_option linter.unusedVariables false

theorem mk_app (a b : List UInt8) : (⟨a.toArray⟩ : ByteArray) ++ ⟨b.toArray⟩ = ⟨(a ++ b).toArray⟩ := by
  apply ByteArray.ext
  simp [ByteArray.data_append]
theorem two_acc (n : Int) (w w1 : World) (h0 : 0 ≤ n) (h1 : n ≤ 99) (hb : Below w.heap.size w w1) :
    Calls Tryz.prog 191 #[.int .i64 n] w1 fun e w' => e = .returned (.string ⟨(twoL n).toArray⟩) ∧ Below w.heap.size w w' :=
  (two_any n w1 h0 h1).mono (by rintro e w' ⟨rfl, h⟩; exact ⟨rfl, hb.trans (h.mono hb.size)⟩)
theorem rtwo_acc (n : Int) (w w1 : World) (h0 : 0 ≤ n) (h1 : n ≤ 99) (hb : Below w.heap.size w w1) :
    Calls Tryz.prog 198 #[.int .i64 n] w1 fun e w' => e = .returned (.string ⟨(twoL n).toArray⟩) ∧ Below w.heap.size w w' :=
  (rtwo_any n w1 h0 h1).mono (by rintro e w' ⟨rfl, h⟩; exact ⟨rfl, hb.trans (h.mono hb.size)⟩)

set_option maxHeartbeats 1000000 in
theorem print_any (n : Int) (w : World) : Calls Tryz.prog 129 #[.int .i64 n] w fun e w' => e = .returned (.string ⟨(printL n).toArray⟩) ∧ Below w.heap.size w w' := by
  cases hd : isDayB n
  · have HR : Hid (printL n = []) := Lib.hid (by simp [printL, hd])
    go_enter Tryz.func129, Tryz.ntmps129
    go_wp2_with (go_at_call 189; refine (isDay_any _ _).mono ?_; rintro e w' ⟨rfl, rfl⟩)
    go_ret
    exact ⟨by rw [HR.out]; rfl, Below.refl _ _⟩
  · have hD := (date_in hd).1
    obtain ⟨y, m, d, hR⟩ : ∃ y m d, dateR n = (y, m, d) := ⟨_, _, _, rfl⟩
    rw [hR] at hD
    have CD : Hid (∀ w, Calls Tryz.prog 190 #[.int .i64 n] w fun e w' => e = .returned (.tuple #[.int .i64 y, .int .i64 m, .int .i64 d]) ∧ Below w.heap.size w w') := Lib.hid (fun w => by have h := date_any n w; rw [hR] at h; exact h)
    have HR : Hid (printL n = dateL y m d) := Lib.hid (by rw [printL, if_pos hd, hR])
    obtain ⟨y0, y1, m0, m1, d0, d1⟩ : 2000 ≤ y ∧ y ≤ 2099 ∧ 1 ≤ m ∧ m ≤ 12 ∧ 1 ≤ d ∧ d ≤ lenP y m := ok_yes hD
    have hl := len_range y m
    clear hR hD
    have d2 : d ≤ 31 := by omega
    clear hl d1
    go_enter Tryz.func129, Tryz.ntmps129
    go_wp2_with (first | (go_at_call 191; refine (two_acc _ w _ (by omega) (by omega) hb).mono ?_; rintro e w' ⟨rfl, hb⟩) | (go_at_call 190; refine (CD.out _).mono ?_; rintro e w' ⟨rfl, hb⟩) | (go_at_call 189; refine (isDay_any _ _).mono ?_; rintro e w' ⟨rfl, rfl⟩))
    go_ret
    exact ⟨by rw [HR.out]; simp only [dateL, ← mk_app]; rfl, hb⟩
set_option maxHeartbeats 1000000 in
theorem rprint_any (n : Int) (w : World) : Calls Tryz.prog 139 #[.int .i64 n] w fun e w' => e = .returned (.string ⟨(printL n).toArray⟩) ∧ Below w.heap.size w w' := by
  have hb : Below w.heap.size w w := Below.refl _ _
  cases hd : isDayB n
  · have HR : Hid (printL n = []) := Lib.hid (by simp [printL, hd])
    have CD : Hid (∀ w, Calls Tryz.prog 197 #[.int .i64 n] w fun e w' => e = .returned (.tuple #[.int .i64 0, .int .i64 0, .int .i64 0]) ∧ w = w') := Lib.hid (fun w => by have h := rdate_any n w; rw [date_out hd] at h; exact h)
    go_enter Tryz.func139, Tryz.ntmps139
    go_wp2_with (go_at_call 197; refine (CD.out _).mono ?_; rintro e w' ⟨rfl, rfl⟩)
    go_ret
    exact ⟨by rw [HR.out]; rfl, hb⟩
  · have hD := (date_in hd).1
    obtain ⟨y, m, d, hR⟩ : ∃ y m d, dateR n = (y, m, d) := ⟨_, _, _, rfl⟩
    rw [hR] at hD
    have CD : Hid (∀ w, Calls Tryz.prog 197 #[.int .i64 n] w fun e w' => e = .returned (.tuple #[.int .i64 y, .int .i64 m, .int .i64 d]) ∧ w = w') := Lib.hid (fun w => by have h := rdate_any n w; rw [hR] at h; exact h)
    have HR : Hid (printL n = dateL y m d) := Lib.hid (by rw [printL, if_pos hd, hR])
    obtain ⟨y0, y1, m0, m1, d0, d1⟩ : 2000 ≤ y ∧ y ≤ 2099 ∧ 1 ≤ m ∧ m ≤ 12 ∧ 1 ≤ d ∧ d ≤ lenP y m := ok_yes hD
    have hl := len_range y m
    clear hR hD
    have d2 : d ≤ 31 := by omega
    have hy : (y == 0) = false := by rw [beq_eq_false_iff_ne]; omega
    clear hl d1
    go_enter Tryz.func139, Tryz.ntmps139
    go_wp2_with (first | (go_at_call 198; refine (rtwo_acc _ w _ (by omega) (by omega) hb).mono ?_; rintro e w' ⟨rfl, hb⟩) | (go_at_call 197; refine (CD.out _).mono ?_; rintro e w' ⟨rfl, rfl⟩))
    go_ret
    exact ⟨by rw [HR.out]; simp only [dateL, ← mk_app]; rfl, hb⟩
end Go.Proofs.YtldillnjnjkkgaaGreatDoor

/- Walks of digits and Print. -/
namespace Go.Proofs.YtldillnjnjkkgaaGreatDoor.Per
open Go.RowKit
set_option linter.unusedSimpArgs false
set_option linter.unusedVariables false

theorem byteT : ByteT Tryz.prog 169 5 := ⟨Tryz.underlying169, Tryz.underlying5, by kernel_rfl⟩
/-- the digits of the weekdays, of the first k -/
def digTo (d k : Nat) : List UInt8 := ((List.range k).filter fun i => d.testBit i).map fun i => UInt8.ofNat (49 + i)
def digL (d : Int) : List UInt8 := digTo d.toNat 7
theorem digTo_hit (d k : Nat) (h : d.testBit k = true) : digTo d (k + 1) = digTo d k ++ [UInt8.ofNat (49 + k)] := by
  rw [digTo, List.range_succ, List.filter_append]; simp [digTo, h]
theorem digTo_miss (d k : Nat) (h : d.testBit k = false) : digTo d (k + 1) = digTo d k := by
  rw [digTo, List.range_succ, List.filter_append]; simp [digTo, h]
theorem digTo_len (d k : Nat) : (digTo d k).length ≤ k := by
  rw [digTo, List.length_map]
  exact Nat.le_trans (List.length_filter_le _ _) (by simp)
theorem dig_cells (k : Nat) (h : k < 7) : (Lib.byteCells [UInt8.ofNat (49 + k)]).toArray = #[.int .u8 (49 + k)] := by
  have : k = 0 ∨ k = 1 ∨ k = 2 ∨ k = 3 ∨ k = 4 ∨ k = 5 ∨ k = 6 := by omega
  rcases this with rfl | rfl | rfl | rfl | rfl | rfl | rfl <;> rfl

set_option maxRecDepth 100000 in
set_option maxHeartbeats 2000000 in
theorem pdigits_any (f t d : Int) (w : World) (h0 : 0 ≤ d) (h1 : d ≤ 127) : Calls Tryz.prog 130 #[encQ (f, t, d)] w fun e w' => e = .returned (.string ⟨(digL d).toArray⟩) ∧ Below w.heap.size w w' := by
  have hB : Box3 w w.heap.size (f, t, d) (w.alloc (.cells #[.int .i64 f, .int .i64 t, .int .i64 d] 23)) := Box3.new w (f, t, d) _
  have hsz : (w.alloc (.cells #[.int .i64 f, .int .i64 t, .int .i64 d] 23)).heap.size = w.heap.size + 1 := by simp
  go_enter Tryz.func130, Tryz.ntmps130
  go_wp2
  generalize w.alloc (.cells #[.int .i64 f, .int .i64 t, .int .i64 d] 23) = w1 at *
  go_loopw [3, 5] (fun vb vi wr => ∃ k : Nat, k ≤ 7 ∧ vi = .int .i64 k ∧ Buf 5 w1.heap.size w1 wr vb (digTo d.toNat k)) (fun _ vi _ => 7 - (intOf vi).toNat)
  case atStart => exact ⟨0, by omega, rfl, Buf.nil (Below.refl _ _) (Nat.le_refl _)⟩
  case round =>
    obtain ⟨k, hk, rfl, hO⟩ := hrel
    by_cases hlt : k < 7
    · have hB1 := hB.more hO.bel
      obtain ⟨c0, c1, c2, c3⟩ := hB1
      have i1 : (k : Int) < 7 := by omega
      have CH := Lib.hid (fun W => hasWd_any f t d k W h0 h1 hlt)
      have hl := digTo_len d.toNat k
      cases hw : d.toNat.testBit k
      · have HN := Lib.hid (digTo_miss d.toNat k hw)
        rw [hw] at CH
        clear hw
        go_wp2_with (go_at_call 165; refine (CH.out _).mono ?_; rintro e w2 ⟨rfl, hb⟩)
        go_roundw
        case rel => exact ⟨k + 1, by omega, by go_num, by rw [HN.out]; exact hO.more hb⟩
        case measure => simp [intOf]; omega
      · have HN := Lib.hid (digTo_hit d.toNat k hw)
        have HC := Lib.hid (dig_cells k hlt)
        rw [hw] at CH
        clear hw
        go_wp2_with (first | (go_at_call 165; refine (CH.out _).mono ?_; rintro e w2 ⟨rfl, hb⟩; have hO2 := hO.more hb) | (refine wpList_app byteT rfl _ _ rfl _ (digTo d.toNat k) rfl (hO2.alloc _) _ [UInt8.ofNat (49 + k)] 1 _ rfl rfl (by omega) HC.out.symm (heap_alloc_new _ _) (by omega) ?_; intro v' w3 hO3))
        go_roundw
        case rel => exact ⟨k + 1, by omega, by go_num, by rw [HN.out]; exact hO3⟩
        case measure => simp [intOf]; omega
    · have e : k = 7 := by omega
      subst e
      have HT := hO.text byteT Tryz.underlying9
      go_wp2
      go_ret
      exact ⟨rfl, hB.2.2.2.trans (hO.bel.mono (by omega))⟩

theorem print_len10 (n : Int) : (printL n).length ≤ 10 := by
  unfold printL
  split
  · simp [dateL, twoL]
  · simp
/-- a period as text -/
def perL (p : Per) : List UInt8 := if okQ p then printL p.1 ++ [47] ++ printL p.2.1 ++ [47] ++ digL p.2.2 else []
set_option maxHeartbeats 2000000 in
theorem pprint_any (f t d : Int) (w : World) : Calls Tryz.prog 57 #[encQ (f, t, d)] w fun e w' => e = .returned (.string ⟨(perL (f, t, d)).toArray⟩) ∧ Below w.heap.size w w' := by
  have hb := bel_alloc w (.cells #[.int .i64 f, .int .i64 t, .int .i64 d] 23)
  cases h : okQ (f, t, d)
  · have HR : Hid (perL (f, t, d) = []) := Lib.hid (by simp [perL, h])
    have CV := Lib.hid (fun W => isValid_any f t d W)
    rw [h] at CV
    clear h
    go_enter Tryz.func57, Tryz.ntmps57
    go_wp2_with (go_at_call 128; refine (CV.out _).mono ?_; rintro e w1 ⟨rfl, hb1⟩)
    go_ret
    exact ⟨by rw [HR.out]; rfl, hb.trans (hb1.mono hb.size)⟩
  · have hq := okQ_yes h
    have HR : Hid (perL (f, t, d) = printL f ++ [47] ++ printL t ++ [47] ++ digL d) := Lib.hid (by rw [perL, if_pos h])
    have CV := Lib.hid (fun W => isValid_any f t d W)
    rw [h] at CV
    have hB0 : Box3 w w.heap.size (f, t, d) (w.alloc (.cells #[.int .i64 f, .int .i64 t, .int .i64 d] 23)) := Box3.new w (f, t, d) _
    have C1 := Lib.hid (Box3.call (w := w) (B := w.heap.size) (p := (f, t, d)) (fun W => print_any f W))
    have C2 := Lib.hid (Box3.call (w := w) (B := w.heap.size) (p := (f, t, d)) (fun W => print_any t W))
    have C3 := Lib.hid (Box3.call (w := w) (B := w.heap.size) (p := (f, t, d)) (fun W => pdigits_any f t d W (by have := hq.2.2.2.2.1; simp at this; omega) hq.2.2.2.2.2))
    have f0 : ∀ x : Wd (Box3 w w.heap.size (f, t, d)), x.w.cell? ⟨w.heap.size, 0, none⟩ = some (.int .i64 f) := fun x => x.ok.1
    have f1 : ∀ x : Wd (Box3 w w.heap.size (f, t, d)), x.w.cell? ⟨w.heap.size, 1, none⟩ = some (.int .i64 t) := fun x => x.ok.2.1
    have f2 : ∀ x : Wd (Box3 w w.heap.size (f, t, d)), x.w.cell? ⟨w.heap.size, 2, none⟩ = some (.int .i64 d) := fun x => x.ok.2.2.1
    clear h hq
    obtain ⟨s1, hs1⟩ : ∃ s : ByteArray, s = ⟨(printL f).toArray⟩ := ⟨_, rfl⟩
    obtain ⟨s2, hs2⟩ : ∃ s : ByteArray, s = ⟨(printL t).toArray⟩ := ⟨_, rfl⟩
    obtain ⟨s3, hs3⟩ : ∃ s : ByteArray, s = ⟨(digL d).toArray⟩ := ⟨_, rfl⟩
    rw [← hs1] at C1
    rw [← hs2] at C2
    rw [← hs3] at C3
    have HS : Hid ((((s1 ++ ⟨#[47]⟩) ++ s2) ++ ⟨#[47]⟩) ++ s3 = (⟨(printL f ++ [47] ++ printL t ++ [47] ++ digL d).toArray⟩ : ByteArray)) := Lib.hid (by
      rw [hs1, hs2, hs3]; simp only [← mk_app])
    have z1 : s1.size ≤ 10 := by rw [hs1]; exact print_len10 f
    have z2 : s2.size ≤ 10 := by rw [hs2]; exact print_len10 t
    have z3 : s3.size ≤ 7 := by rw [hs3]; exact digTo_len _ _
    clear hs1 hs2 hs3
    have A1 := fun W => run_string_add_sum (P := Tryz.prog) (w := W) s1 (⟨#[47]⟩ : ByteArray) (by show s1.size + 1 ≤ _; omega)
    have A2 := fun W => run_string_add_sum (P := Tryz.prog) (w := W) (s1 ++ ⟨#[47]⟩) s2 (by rw [ByteArray.size_append]; show s1.size + 1 + s2.size ≤ _; omega)
    have A3 := fun W => run_string_add_sum (P := Tryz.prog) (w := W) ((s1 ++ ⟨#[47]⟩) ++ s2) (⟨#[47]⟩ : ByteArray) (by rw [ByteArray.size_append, ByteArray.size_append]; show s1.size + 1 + s2.size + 1 ≤ _; omega)
    have A4 := fun W => run_string_add_sum (P := Tryz.prog) (w := W) (((s1 ++ ⟨#[47]⟩) ++ s2) ++ ⟨#[47]⟩) s3 (by rw [ByteArray.size_append, ByteArray.size_append, ByteArray.size_append]; show s1.size + 1 + s2.size + 1 + s3.size ≤ _; omega)
    go_enter Tryz.func57, Tryz.ntmps57
    go_wp2_with (go_at_call 128; refine (CV.out _).mono ?_; rintro e w1 ⟨rfl, hb1⟩)
    have hB1 := (hB0.more hb1).more (Below.refl _ _).drew
    have hNe : Nonempty (Wd (Box3 w w.heap.size (f, t, d))) := ⟨⟨_, hB1⟩⟩
    refine quietS (S := Box3 w w.heap.size (f, t, d)) (by kernel_rfl) (by kernel_rfl) (hB1) ?_
    repeat (first | go_big_quiet_skip | (go_big_quiet_want; go_big_quiet_op; first | go_big_quiet_on | go_big_quiet_call ((first | (go_at_call 129; first | (with_reducible exact quiet_S (C1.out _ (Wd.ok _))) | (with_reducible exact quiet_S (C2.out _ (Wd.ok _)))) | (go_at_call 130; exact quiet_S (C3.out _ (Wd.ok _)))))))
    refine wpQuiet_nil ?_
    rintro W ⟨⟨_, hW⟩, rfl⟩
    go_wp2
    go_ret
    exact ⟨by rw [HR.out, ← HS.out]; rfl, hW.2.2.2⟩

end Go.Proofs.YtldillnjnjkkgaaGreatDoor.Per

/- Walk of checkTimes. -/
namespace Go.Proofs.YtldillnjnjkkgaaGreatDoor
open Go.RowKit Go.Shelf
set_option linter.unusedSimpArgs false
set_option linter.unusedVariables false

def dayW : ByteArray := ⟨#[100, 97, 121, 32]⟩
/-- the first day whose times are not ordered -/
def badD (l : List Air) (lg : List Lg) : List Int → List Flt
  | [] => []
  | d :: r => if ordT true 0 (timL l lg d) then badD l lg r else [(13, dayW ++ ⟨(printL d).toArray⟩)]
def timF (l : List Air) (f : FV) : List Flt := badD l f.lg (Per.daysQ (f.pf, f.pt, f.pd))
theorem badD_at {l : List Air} {lg : List Lg} {D : List Int} {k : Nat} (h : k < D.length) : badD l lg (D.drop k) = if ordT true 0 (timL l lg D[k]) then badD l lg (D.drop (k + 1)) else [(13, dayW ++ ⟨(printL D[k]).toArray⟩)] := by
  rw [List.drop_eq_getElem_cons h]
  rfl
theorem days_bd {q : Int × Int × Int} {d : Int} (h : d ∈ Per.daysQ q) : 0 ≤ d ∧ d < 36525 := by
  have h1 := (Per.hasQ_iff _ _).1 ((Per.daysQ_mem _ _).1 h)
  have h2 := Per.okQ_yes h1.1
  omega
theorem pdays_any (a b c : Int) (w : World) : Calls Tryz.prog 98 #[.agg #[.int .i64 a, .int .i64 b, .int .i64 c]] w fun e W' => ∃ v, e = .returned v ∧ Per.IntL W' v (Per.daysQ (a, b, c)) ∧ Below w.heap.size w W' :=
  (callsIn_wide.1 (Per.days_in (a, b, c) w)).mono (by rintro e w' ⟨v, rfl, h, hb⟩; exact ⟨v, rfl, .of_own h, hb⟩)

set_option maxRecDepth 100000 in
set_option maxHeartbeats 8000000 in
theorem checkTimes_any (p : PV) (f : FV) (w : World) (hl : p.l.length ≤ 40) (hL : AirL w p.A p.l) (hs : ∀ a ∈ p.l, a.shs.length ≤ 300) (hz : ∀ a ∈ p.l, OkZ a.off a.shs) (hG : LegL w (.slice f.A f.lg.length f.c) f.lg) (hn : f.lg.length ≤ 100)
    (hm : ∀ x ∈ f.lg, (-1000000 ≤ x.dep ∧ x.dep ≤ 1000000) ∧ -1000000 ≤ x.arr ∧ x.arr ≤ 1000000) :
    Calls Tryz.prog 126 #[encP p, encFl f] w fun e w' => ∃ v, e = .returned v ∧ FOwn w.heap.size w' v (timF p.l f) ∧ Below w.heap.size w w' := by
  have hb1 := bel_alloc w (.cells #[.slice p.A p.l.length p.ca, .slice p.D p.ds.length p.cd] placesT)
  have hb2 := bel_alloc (w.alloc (.cells #[.slice p.A p.l.length p.ca, .slice p.D p.ds.length p.cd] placesT)) (.cells #[.string f.car, .int .i64 f.num, .int .i64 f.pf, .int .i64 f.pt, .int .i64 f.pd, .slice f.A f.lg.length f.c] fliT)
  have hb0 := hb1.trans (hb2.mono hb1.size)
  have q2 := (cells_new (w.alloc (.cells #[.slice p.A p.l.length p.ca, .slice p.D p.ds.length p.cd] placesT)) #[.string f.car, .int .i64 f.num, .int .i64 f.pf, .int .i64 f.pt, .int .i64 f.pd, .slice f.A f.lg.length f.c] fliT 2).trans (show _ = some (.int .i64 f.pf) from rfl)
  have q3 := (cells_new (w.alloc (.cells #[.slice p.A p.l.length p.ca, .slice p.D p.ds.length p.cd] placesT)) #[.string f.car, .int .i64 f.num, .int .i64 f.pf, .int .i64 f.pt, .int .i64 f.pd, .slice f.A f.lg.length f.c] fliT 3).trans (show _ = some (.int .i64 f.pt) from rfl)
  have q4 := (cells_new (w.alloc (.cells #[.slice p.A p.l.length p.ca, .slice p.D p.ds.length p.cd] placesT)) #[.string f.car, .int .i64 f.num, .int .i64 f.pf, .int .i64 f.pt, .int .i64 f.pd, .slice f.A f.lg.length f.c] fliT 4).trans (show _ = some (.int .i64 f.pd) from rfl)
  rw [World.size_alloc] at q2 q3 q4
  have KN := Lib.hid (nonstops_any p f.A f.c f.lg _ hl (hL.more hb0) hs (hG.more hb0) hn)
  have HZ := Lib.hid hz
  have HM := Lib.hid hm
  obtain ⟨D, hD⟩ : ∃ D, D = Per.daysQ (f.pf, f.pt, f.pd) := ⟨_, rfl⟩
  have HT : Hid (timF p.l f = badD p.l f.lg D) := Lib.hid (by rw [hD]; rfl)
  have HB : Hid (∀ d ∈ D, 0 ≤ d ∧ d < 36525) := Lib.hid (by rw [hD]; exact fun d => days_bd)
  have HDl : D.length ≤ 800 := by rw [hD]; exact Per.daysQ_len _
  have KD := Lib.hid (pdays_any f.pf f.pt f.pd)
  rw [← hD] at KD
  clear hD hl hL hs hz hG hm
  go_enter Tryz.func126, Tryz.ntmps126
  go_wp2_with (first | (go_at_call 95; refine KN.out.mono ?_; rintro e w1 ⟨v1, L, rfl, hv1, hLn, hN, hbn⟩; have r2 := bel_cell hbn q2; have r3 := bel_cell hbn q3; have r4 := bel_cell hbn q4) | (go_at_call 98; refine (KD.out _).mono ?_; rintro e w2 ⟨v2, rfl, ⟨A2, c2, rfl, hI⟩, hbd⟩))
  have hS0 : Below w.heap.size w w2 := hb0.trans ((hbn.mono hb0.size).trans (hbd.mono (Nat.le_trans hb0.size hbn.size)))
  have HV := Lib.hid (hv1.more hbd)
  have HN := Lib.hid (fun k x n h h' => (hN k x n h h').more hbd)
  have HLn := Lib.hid hLn
  have HI := Lib.hid hI
  clear hv1 hN hLn hI KN q2 q3 q4 r2 r3 r4
  go_loopw [16] (fun vi wr => ∃ k : Nat, k ≤ D.length ∧ vi = .int .i64 k ∧ Hid (timF p.l f = badD p.l f.lg (D.drop k)) ∧ SW w2 wr) (fun vi _ => D.length - (intOf vi).toNat)
  case atStart => exact ⟨0, Nat.zero_le _, rfl, HT, Below.refl _ _⟩
  case round =>
    obtain ⟨k, hk, rfl, HK, hS⟩ := hrel
    by_cases hlt : k < D.length
    · have i1 : (k : Int) < (D.length : Int) := by omega
      obtain ⟨b, o, rfl, hlb, hc⟩ : ∃ b o, A2 = some ⟨b, o, none⟩ ∧ b < w2.heap.size ∧ w2.cell? ⟨b, o + k, none⟩ = some (.int .i64 D[k]) := by
        rcases HI.out with h | ⟨b, o, h1, h2, h3⟩
        · rw [h] at hlt; simp at hlt
        · exact ⟨b, o, h1, h2, h3 k hlt⟩
      have hcr := bel_cell hS hc
      have HK2 := Lib.hid (HK.out.trans (badD_at hlt))
      have hd := HB.out _ (List.getElem_mem hlt)
      generalize D[k] = d at *
      have KO := Lib.hid (isOrdered_any v1 p.l f.lg L d wr ((HV.out.more hS).rowL rtN.len) HLn.out (fun k x n h h' => (HN.out k x n h h').more hS) HZ.out hn (by omega) HM.out)
      cases ho : ordT true 0 (timL p.l f.lg d) <;> rw [ho] at KO HK2
      · obtain ⟨X, hX⟩ : ∃ X, X = (⟨(printL d).toArray⟩ : ByteArray) := ⟨_, rfl⟩
        have KP := Lib.hid (print_any d)
        rw [← hX] at KP
        have HR : Hid (timF p.l f = [] ++ pick (dayW ++ X) [13]) := Lib.hid (by rw [HK2.out, hX]; rfl)
        have hz : X.size ≤ 10 := by rw [hX]; exact Per.print_len10 d
        have A1 := fun W => run_string_add_sum (P := Tryz.prog) (w := W) (⟨#[100, 97, 121, 32]⟩ : ByteArray) X (by show 4 + X.size ≤ _; omega)
        clear hX HK2 HK ho hc
        go_wp2_with (first | (go_at_call 187; refine KO.out.mono ?_; rintro e w3 ⟨rfl, hb3⟩) | (go_at_call 129; refine (KP.out _).mono ?_; rintro e w4 ⟨rfl, hb4⟩) | (go_at_call 76; refine (fadd_any w.heap.size (.slice none 0 0) [] (dayW ++ X) w4.heap.size 1 1 [13] _ (ROwn.nil (by
          have h1 := hS0.size; have h2 := hS.size; have h3 := hb3.size; have h4 := hb4.size; rw [World.size_alloc]; omega)) rfl (by omega) (errs_new w4 [13] rfl) (by intro h; cases h) (by simp)).mono ?_; rintro e w8 ⟨v8, rfl, hO8, hC8⟩))
        go_ret
        refine ⟨v8, rfl, by rw [HR.out]; exact hO8, ?_⟩
        have h1 : Below w.heap.size w w4 := hS0.trans ((hS.mono hS0.size).trans ((hb3.mono (Nat.le_trans hS0.size hS.size)).trans (hb4.mono (Nat.le_trans hS0.size (Nat.le_trans hS.size hb3.size)))))
        have h5 := h1.trans ((bel_alloc w4 (.cells #[.int .i64 13] errT)).mono h1.size)
        exact h5.trans (hC8.below (ROwn.nil h5.size (e := fltT) (sz := 2) (enc := encF)))
      · have HR : Hid (timF p.l f = badD p.l f.lg (D.drop (k + 1))) := Lib.hid HK2.out
        clear HK2 HK ho hc
        go_wp2_with (go_at_call 187; refine KO.out.mono ?_; rintro e w3 ⟨rfl, hb3⟩)
        go_roundw
        case rel => exact ⟨k + 1, by omega, by go_num, HR, Below.trans hS (Below.mono hb3 hS.size)⟩
        case measure => simp [intOf]; omega
    · have HR : Hid (timF p.l f = []) := Lib.hid (by rw [HK.out, List.drop_of_length_le (by omega)]; rfl)
      have i1 : ¬ (k : Int) < (D.length : Int) := by omega
      go_wp2
      go_ret
      have h1 : Below w.heap.size w wr := hS0.trans (Below.mono hS hS0.size)
      exact ⟨_, rfl, by rw [HR.out]; exact ROwn.nil h1.size, h1⟩

end Go.Proofs.YtldillnjnjkkgaaGreatDoor

/- Walk of Legs. -/
namespace Go.Proofs.YtldillnjnjkkgaaGreatDoor
open Go.RowKit Go.Shelf
set_option linter.unusedSimpArgs false
set_option linter.unusedVariables false

/-- a leg on a day -/
structure Dt where
  car : ByteArray
  num : Int
  day : Int
  f : ByteArray
  t : ByteArray
  dep : Int
  arr : Int
  eq : ByteArray
abbrev datT : TypeId := 65
def encDt (d : Dt) : List Value := [.string d.car, .int .i64 d.num, .int .i64 d.day, .string d.f, .string d.t, .int .i64 d.dep, .int .i64 d.arr, .string d.eq]
theorem rtD : RT Tryz.prog 54 datT 8 encDt where
  ht := Tryz.underlying54
  info := ⟨.agg #[.string noB, .int .i64 0, .int .i64 0, .string noB, .string noB, .int .i64 0, .int .i64 0, .string noB], 96, by kernel_rfl, rfl, by omega⟩
  len x := rfl
  one x u hu := by simp [encDt] at hu; rcases hu with rfl | rfl | rfl | rfl | rfl | rfl | rfl | rfl <;> rfl
  pos := by omega
def datL (l : List Air) (f : FV) (day : Int) (x : Lg) : Dt := ⟨f.car, f.num, day, x.f, x.t, depL l x day, arrL l x day, x.eq⟩
def legE (f : FV) (day : Int) : Int := if Per.hasQ (f.pf, f.pt, f.pd) day then 0 else 12
def legF (l : List Air) (f : FV) (day : Int) : List Dt := if Per.hasQ (f.pf, f.pt, f.pd) day then f.lg.map (datL l f day) else []
theorem has_bd {q : Int × Int × Int} {d : Int} (h : Per.hasQ q d = true) : 0 ≤ d ∧ d < 36525 := days_bd ((Per.daysQ_mem _ _).2 h)

set_option maxRecDepth 100000 in
set_option maxHeartbeats 8000000 in
theorem legs_any (p : PV) (f : FV) (day : Int) (w : World) (hl : p.l.length ≤ 40) (hL : AirL w p.A p.l) (hs : ∀ a ∈ p.l, a.shs.length ≤ 300) (hz : ∀ a ∈ p.l, OkZ a.off a.shs) (hG : LegL w (.slice f.A f.lg.length f.c) f.lg) (hn : f.lg.length ≤ 100)
    (hm : ∀ x ∈ f.lg, (-1000000 ≤ x.dep ∧ x.dep ≤ 1000000) ∧ -1000000 ≤ x.arr ∧ x.arr ≤ 1000000) (hd1 : -9223372036854775808 ≤ day) (hd2 : day ≤ 9223372036854775807) :
    Calls Tryz.prog 35 #[encP p, encFl f, .int .i64 day] w fun e w' => ∃ v, e = .returned (.tuple #[v, .int .i64 (legE f day)]) ∧ ROwn datT 8 encDt w.heap.size w' v (legF p.l f day) ∧ Below w.heap.size w w' := by
  have hb1 := bel_alloc w (.cells #[.slice p.A p.l.length p.ca, .slice p.D p.ds.length p.cd] placesT)
  have hb2 := bel_alloc (w.alloc (.cells #[.slice p.A p.l.length p.ca, .slice p.D p.ds.length p.cd] placesT)) (.cells #[.string f.car, .int .i64 f.num, .int .i64 f.pf, .int .i64 f.pt, .int .i64 f.pd, .slice f.A f.lg.length f.c] fliT)
  have hb0 := hb1.trans (hb2.mono hb1.size)
  have p0 := bel_cell hb2 ((cells_new w #[.slice p.A p.l.length p.ca, .slice p.D p.ds.length p.cd] placesT 0).trans (show _ = some (.slice p.A p.l.length p.ca) from rfl))
  have p1 := bel_cell hb2 ((cells_new w #[.slice p.A p.l.length p.ca, .slice p.D p.ds.length p.cd] placesT 1).trans (show _ = some (.slice p.D p.ds.length p.cd) from rfl))
  have q0 := (cells_new (w.alloc (.cells #[.slice p.A p.l.length p.ca, .slice p.D p.ds.length p.cd] placesT)) #[.string f.car, .int .i64 f.num, .int .i64 f.pf, .int .i64 f.pt, .int .i64 f.pd, .slice f.A f.lg.length f.c] fliT 0).trans (show _ = some (.string f.car) from rfl)
  have q1 := (cells_new (w.alloc (.cells #[.slice p.A p.l.length p.ca, .slice p.D p.ds.length p.cd] placesT)) #[.string f.car, .int .i64 f.num, .int .i64 f.pf, .int .i64 f.pt, .int .i64 f.pd, .slice f.A f.lg.length f.c] fliT 1).trans (show _ = some (.int .i64 f.num) from rfl)
  have q5 := (cells_new (w.alloc (.cells #[.slice p.A p.l.length p.ca, .slice p.D p.ds.length p.cd] placesT)) #[.string f.car, .int .i64 f.num, .int .i64 f.pf, .int .i64 f.pt, .int .i64 f.pd, .slice f.A f.lg.length f.c] fliT 5).trans (show _ = some (.slice f.A f.lg.length f.c) from rfl)
  rw [World.size_alloc] at q0 q1 q5
  have HZ := Lib.hid hz
  have HM := Lib.hid hm
  have KH := Lib.hid (fun w => Per.has_any f.pf f.pt f.pd day w hd1 hd2)
  cases hh : Per.hasQ (f.pf, f.pt, f.pd) day with
  | false =>
    have HE : Hid (legE f day = 12 ∧ legF p.l f day = []) := Lib.hid ⟨by rw [legE, hh]; rfl, by rw [legF, hh]; rfl⟩
    rw [hh] at KH
    clear hh hz hm
    go_enter Tryz.func35, Tryz.ntmps35
    go_wp2_with (go_at_call 85; refine (KH.out _).mono ?_; rintro e w1 ⟨rfl, hbh⟩)
    have h1 := hb0.trans (Below.mono hbh hb0.size)
    exact bodyPost_ret (results_tmp2 rfl _ _ _) rfl ⟨_, by rw [HE.out.1]; rfl, by rw [HE.out.2]; exact ROwn.nil h1.size, h1⟩
  | true =>
    have hdb := has_bd hh
    have HE : Hid (legE f day = 0 ∧ legF p.l f day = f.lg.map (datL p.l f day)) := Lib.hid ⟨by rw [legE, hh]; rfl, by rw [legF, hh]; rfl⟩
    rw [hh] at KH
    have KN := Lib.hid (fun w hA hG => nonstops_any p f.A f.c f.lg w hl hA hs hG hn)
    have HL := Lib.hid (hL.more hb0)
    have HG := Lib.hid (hG.more hb0)
    have HD := Lib.hid hdb
    clear hh hz hm hL hG hd1 hd2 hdb
    go_enter Tryz.func35, Tryz.ntmps35
    go_wp2_with (first | (go_at_call 95; refine (KN.out _ (HL.out.more hbh) (HG.out.more hbh)).mono ?_; rintro e w2 ⟨v1, N1, rfl, hv1, hLn, hN, hbn⟩; obtain ⟨A1, c1, rfl, hvc⟩ := id (hv1.rowL rtN.len); rw [hLn]) | (go_at_call 85; refine (KH.out _).mono ?_; rintro e w1 ⟨rfl, hbh⟩; have r0 := bel_cell hbh p0; have r1 := bel_cell hbh p1; have r5 := bel_cell hbh q5))
    have hS0 : Below w.heap.size w w2 := hb0.trans ((hbh.mono hb0.size).trans (hbn.mono (Nat.le_trans hb0.size hbh.size)))
    have HV := Lib.hid (hv1.rowL rtN.len)
    have HN := Lib.hid hN
    have HLn := Lib.hid hLn
    have c0 := bel_cell hbn (bel_cell hbh q0)
    have c1' := bel_cell hbn (bel_cell hbh q1)
    have hsz : w.heap.size + 2 ≤ w2.heap.size := by have h1 := hbh.size; have h2 := hbn.size; rw [World.size_alloc, World.size_alloc] at h1; omega
    have HNil : Hid (ROwn datT 8 encDt w2.heap.size w2 (.slice none 0 0) []) := Lib.hid (ROwn.nil (Nat.le_refl _))
    clear hv1 hN hLn hvc KN KH q0 q1 q5 p0 p1 r0 r1 r5
    go_loopg [8, 21] f.lg.length (fun kx v8 vi wr => ∃ (v : Value) (k : Nat), v = v8 ∧ vi = .int .i64 k ∧ k + kx = f.lg.length ∧ Hid (ROwn datT 8 encDt w2.heap.size wr v ((f.lg.take k).map (datL p.l f day)) ∧ SW w2 wr))
    case atStart => exact ⟨_, 0, rfl, rfl, by omega, Lib.hid ⟨HNil.out, Below.refl _ _⟩⟩
    case round =>
      obtain ⟨v, k, rfl, rfl, hkx, HH⟩ := hrel
      clear HNil
      have HKX := Lib.hid hkx
      have hSr : SW w2 wr := HH.out.2
      by_cases hlt : k < f.lg.length
      · clear hkx
        obtain ⟨x, hx⟩ : ∃ x, f.lg[k]? = some x := ⟨_, List.getElem?_eq_getElem hlt⟩
        obtain ⟨b, o, n, e1, hbl, hnk, hc⟩ := RowL.get9 (HV.out.more hSr) (show k < N1.length by have := HLn.out; omega)
        cases e1
        have hns := HN.out k x n hx hnk
        have hzf := okZ_of HZ.out x.f
        have hzt := okZ_of HZ.out x.t
        have hmx := HM.out x (List.mem_of_getElem? hx)
        have hdb := HD.out
        obtain ⟨dd, hdd⟩ : ∃ dd, dd = utcZ n.fo n.fs (day * 1440 + n.x.dep) := ⟨_, rfl⟩
        obtain ⟨aa, haa⟩ : ∃ aa, aa = utcZ n.ti n.ts (day * 1440 + n.x.arr) := ⟨_, rfl⟩
        have HX : Hid (datL p.l f day x = (⟨f.car, f.num, day, n.x.f, n.x.t, dd, aa, n.x.eq⟩ : Dt)) := Lib.hid (by unfold datL depL arrL; rw [hdd, haa, hns.fo, hns.fs, hns.ti, hns.ts, hns.ex])
        have HTk : Hid ((f.lg.take (k + 1)).map (datL p.l f day) = (f.lg.take k).map (datL p.l f day) ++ [(⟨f.car, f.num, day, n.x.f, n.x.t, dd, aa, n.x.eq⟩ : Dt)]) := Lib.hid (by
          rw [List.take_add_one, hx, List.map_append, ← HX.out]; rfl)
        have hO := HH.out.1
        have HLL : Hid (((f.lg.take k).map (datL p.l f day)).length ≤ 100000000) := Lib.hid (by have := List.length_take_le k f.lg; rw [List.length_map]; omega)
        have HV1 : Hid (∀ g, v.ownBlock = some g → w2.heap.size ≤ g ∧ g < wr.heap.size) := Lib.hid (fun g hg => hO.low hg)
        have hvf : v.ownBlock ≠ some (w.heap.size + 1) := fun h => by have := (HV1.out _ h).1; omega
        have hvn : v.ownBlock ≠ some wr.heap.size := fun h => by have := (HV1.out _ h).2; omega
        have hb6 := bel_alloc wr (.cells (encNS n).toArray nonT)
        have g0 : ∀ W, SX (wr.alloc (.cells (encNS n).toArray nonT)) v W → W.cell? ⟨w.heap.size + 1, 0, none⟩ = some (.string f.car) := fun W h => SX.cell (bel_cell hb6 (bel_cell hSr c0)) hvf h
        have g1 : ∀ W, SX (wr.alloc (.cells (encNS n).toArray nonT)) v W → W.cell? ⟨w.heap.size + 1, 1, none⟩ = some (.int .i64 f.num) := fun W h => SX.cell (bel_cell hb6 (bel_cell hSr c1')) hvf h
        have n0 : ∀ W, SX (wr.alloc (.cells (encNS n).toArray nonT)) v W → W.cell? ⟨wr.heap.size, 0, none⟩ = some (Value.string n.x.f) := fun W h => SX.cell ((cells_new wr (encNS n).toArray nonT 0).trans (show _ = some (Value.string n.x.f) from rfl)) hvn h
        have n1 : ∀ W, SX (wr.alloc (.cells (encNS n).toArray nonT)) v W → W.cell? ⟨wr.heap.size, 1, none⟩ = some (Value.string n.x.t) := fun W h => SX.cell ((cells_new wr (encNS n).toArray nonT 1).trans (show _ = some (Value.string n.x.t) from rfl)) hvn h
        have n2 : ∀ W, SX (wr.alloc (.cells (encNS n).toArray nonT)) v W → W.cell? ⟨wr.heap.size, 2, none⟩ = some (Value.int .i64 n.x.dep) := fun W h => SX.cell ((cells_new wr (encNS n).toArray nonT 2).trans (show _ = some (Value.int .i64 n.x.dep) from rfl)) hvn h
        have n3 : ∀ W, SX (wr.alloc (.cells (encNS n).toArray nonT)) v W → W.cell? ⟨wr.heap.size, 3, none⟩ = some (Value.int .i64 n.x.arr) := fun W h => SX.cell ((cells_new wr (encNS n).toArray nonT 3).trans (show _ = some (Value.int .i64 n.x.arr) from rfl)) hvn h
        have n4 : ∀ W, SX (wr.alloc (.cells (encNS n).toArray nonT)) v W → W.cell? ⟨wr.heap.size, 4, none⟩ = some (Value.string n.x.eq) := fun W h => SX.cell ((cells_new wr (encNS n).toArray nonT 4).trans (show _ = some (Value.string n.x.eq) from rfl)) hvn h
        have n5 : ∀ W, SX (wr.alloc (.cells (encNS n).toArray nonT)) v W → W.cell? ⟨wr.heap.size, 5, none⟩ = some (Value.int .i64 n.fo) := fun W h => SX.cell ((cells_new wr (encNS n).toArray nonT 5).trans (show _ = some (Value.int .i64 n.fo) from rfl)) hvn h
        have n6 : ∀ W, SX (wr.alloc (.cells (encNS n).toArray nonT)) v W → W.cell? ⟨wr.heap.size, 6, none⟩ = some (Value.slice n.fA n.fs.length n.fc) := fun W h => SX.cell ((cells_new wr (encNS n).toArray nonT 6).trans (show _ = some (Value.slice n.fA n.fs.length n.fc) from rfl)) hvn h
        have n7 : ∀ W, SX (wr.alloc (.cells (encNS n).toArray nonT)) v W → W.cell? ⟨wr.heap.size, 7, none⟩ = some (Value.int .i64 n.ti) := fun W h => SX.cell ((cells_new wr (encNS n).toArray nonT 7).trans (show _ = some (Value.int .i64 n.ti) from rfl)) hvn h
        have n8 : ∀ W, SX (wr.alloc (.cells (encNS n).toArray nonT)) v W → W.cell? ⟨wr.heap.size, 8, none⟩ = some (Value.slice n.tA n.ts.length n.tc) := fun W h => SX.cell ((cells_new wr (encNS n).toArray nonT 8).trans (show _ = some (Value.slice n.tA n.ts.length n.tc) from rfl)) hvn h
        have HSW : Hid (∀ W, SX (wr.alloc (.cells (encNS n).toArray nonT)) v W → Below w2.heap.size w2 W) := Lib.hid (fun W h => Below.trans hSr (((hb6.mono hSr.size)).trans (h.below (Nat.le_trans hSr.size hb6.size) (fun k' hk' hv => by have := (HV1.out _ hv).1; omega))))
        have K1 : Hid (∀ W, SX (wr.alloc (.cells (encNS n).toArray nonT)) v W → Calls Tryz.prog 96 #[encN n, .int .i64 day] W fun e w' => e = .returned (.int .i64 dd) ∧ Below W.heap.size W w') :=
          Lib.hid (fun W hW => by rw [hdd]; exact departure_any n day W (by rw [hns.fo, hns.fs]; exact hzf) (hns.shf.1.more (HSW.out W hW)) (by omega) (by rw [hns.ex]; exact hmx.1))
        have K2 : Hid (∀ W, SX (wr.alloc (.cells (encNS n).toArray nonT)) v W → Calls Tryz.prog 97 #[encN n, .int .i64 day] W fun e w' => e = .returned (.int .i64 aa) ∧ Below W.heap.size W w') :=
          Lib.hid (fun W hW => by rw [haa]; exact arrival_any n day W (by rw [hns.ti, hns.ts]; exact hzt) (hns.sht.1.more (HSW.out W hW)) (by omega) (by rw [hns.ex]; exact hmx.2))
        have i2 : (k : Int) < (f.lg.length : Int) := by omega
        have z0 := hc 0 _ rfl
        have z1 := hc 1 _ rfl
        have z2 := hc 2 _ rfl
        have z3 := hc 3 _ rfl
        have z4 := hc 4 _ rfl
        have z5 := hc 5 _ rfl
        have z6 := hc 6 _ rfl
        have z7 := hc 7 _ rfl
        have z8 := hc 8 _ rfl
        rw [Nat.add_zero] at z0
        have hO := hO.more (hb6.trans ((Below.refl _ (wr.alloc (.cells (encNS n).toArray nonT))).drew.mono hb6.size))
        clear hns hx hnk hc hzf hzt hmx hdd haa hdb HX
        unfold encNS at *
        go_upto_region 7 with (fail)
        generalize hw6 : wr.alloc (.cells [.string n.x.f, .string n.x.t, .int .i64 n.x.dep, .int .i64 n.x.arr, .string n.x.eq, .int .i64 n.fo, .slice n.fA n.fs.length n.fc, .int .i64 n.ti, .slice n.tA n.ts.length n.tc].toArray nonT) = w6 at *
        have hS : (SX w6 v) _ := But.of_below (Below.refl _ _).drew
        refine wp_region_held_drew (S := SX w6 v) (by kernel_rfl) hS (fun _ => ?_)
        refine wpAnyH_take (i := 0) (v := ?vL0) rfl (by kernel_rfl) (by kernel_rfl) (by kernel_rfl) (fun _ _ _ h => h) (Or.inl ⟨by rfl, ?hyL0⟩) hS ?restL0
        case hyL0 =>
          intro w hSw
          first | (go_simp; done) | (go_simp; with_reducible rfl)
        try simp only [Act.put, List.setIfInBounds_toArray, List.set_cons_zero, List.set_cons_succ]
        refine wpAnyH_take (i := 1) (v := ?vL1) rfl (by kernel_rfl) (by kernel_rfl) (by kernel_rfl) (fun _ _ _ h => h) (Or.inl ⟨by rfl, ?hyL1⟩) hS ?restL1
        case hyL1 =>
          intro w hSw
          first | (go_simp; done) | (go_simp; with_reducible rfl)
        try simp only [Act.put, List.setIfInBounds_toArray, List.set_cons_zero, List.set_cons_succ]
        refine wpAnyH_take (i := 2) (v := ?vL2) rfl (by kernel_rfl) (by kernel_rfl) (by kernel_rfl) (fun _ _ _ h => h) (Or.inl ⟨by rfl, ?hyL2⟩) hS ?restL2
        case hyL2 =>
          intro w hSw
          have k0 := g0 w hSw; have k1 := g1 w hSw; have k2 := n0 w hSw; have k3 := n1 w hSw; have k4 := n2 w hSw; have k5 := n3 w hSw; have k6 := n4 w hSw; have k7 := n5 w hSw; have k8 := n6 w hSw; have k9 := n7 w hSw; have k10 := n8 w hSw
          first | (go_simp; done) | (go_simp; with_reducible rfl)
        try simp only [Act.put, List.setIfInBounds_toArray, List.set_cons_zero, List.set_cons_succ]
        refine wpAnyH_take (i := 3) (v := ?vL3) rfl (by kernel_rfl) (by kernel_rfl) (by kernel_rfl) (fun _ _ _ h => h) (Or.inl ⟨by rfl, ?hyL3⟩) hS ?restL3
        case hyL3 =>
          intro w hSw
          first | (go_simp; done) | (go_simp; with_reducible rfl)
        try simp only [Act.put, List.setIfInBounds_toArray, List.set_cons_zero, List.set_cons_succ]
        refine wpAnyH_take (i := 4) (v := ?vL4) rfl (by kernel_rfl) (by kernel_rfl) (by kernel_rfl) (fun _ _ _ h => h) (Or.inl ⟨by rfl, ?hyL4⟩) hS ?restL4
        case hyL4 =>
          intro w hSw
          have k0 := g0 w hSw; have k1 := g1 w hSw; have k2 := n0 w hSw; have k3 := n1 w hSw; have k4 := n2 w hSw; have k5 := n3 w hSw; have k6 := n4 w hSw; have k7 := n5 w hSw; have k8 := n6 w hSw; have k9 := n7 w hSw; have k10 := n8 w hSw
          first | (go_simp; done) | (go_simp; with_reducible rfl)
        try simp only [Act.put, List.setIfInBounds_toArray, List.set_cons_zero, List.set_cons_succ]
        refine wpAnyH_take (i := 5) (v := ?vL5) rfl (by kernel_rfl) (by kernel_rfl) (by kernel_rfl) (fun _ _ _ h => h) (Or.inl ⟨by rfl, ?hyL5⟩) hS ?restL5
        case hyL5 =>
          intro w hSw
          first | (go_simp; done) | (go_simp; with_reducible rfl)
        try simp only [Act.put, List.setIfInBounds_toArray, List.set_cons_zero, List.set_cons_succ]
        refine wpAnyH_take (i := 6) (v := ?vL6) rfl (by kernel_rfl) (by kernel_rfl) (by kernel_rfl) (fun _ _ _ h => h) (Or.inl ⟨by rfl, ?hyL6⟩) hS ?restL6
        case hyL6 =>
          intro w hSw
          first | (go_simp; done) | (go_simp; with_reducible rfl)
        try simp only [Act.put, List.setIfInBounds_toArray, List.set_cons_zero, List.set_cons_succ]
        refine wpAnyH_take (i := 7) (v := ?vL7) rfl (by kernel_rfl) (by kernel_rfl) (by kernel_rfl) (fun _ _ _ h => h) (Or.inl ⟨by rfl, ?hyL7⟩) hS ?restL7
        case hyL7 =>
          intro w hSw
          first | (go_simp; done) | (go_simp; with_reducible rfl)
        try simp only [Act.put, List.setIfInBounds_toArray, List.set_cons_zero, List.set_cons_succ]
        refine wpAnyH_take (i := 8) (v := ?vL8) rfl (by kernel_rfl) (by kernel_rfl) (by kernel_rfl) (fun _ _ _ h => h) (Or.inl ⟨by rfl, ?hyL8⟩) hS ?restL8
        case hyL8 =>
          intro w hSw
          have k0 := g0 w hSw; have k1 := g1 w hSw; have k2 := n0 w hSw; have k3 := n1 w hSw; have k4 := n2 w hSw; have k5 := n3 w hSw; have k6 := n4 w hSw; have k7 := n5 w hSw; have k8 := n6 w hSw; have k9 := n7 w hSw; have k10 := n8 w hSw
          first | (go_simp; done) | (go_simp; with_reducible rfl)
        try simp only [Act.put, List.setIfInBounds_toArray, List.set_cons_zero, List.set_cons_succ]
        refine wpAnyH_take (i := 9) (v := ?vL9) rfl (by kernel_rfl) (by kernel_rfl) (by kernel_rfl) (fun _ _ _ h => h) (Or.inl ⟨by rfl, ?hyL9⟩) hS ?restL9
        case hyL9 =>
          intro w hSw
          first | (go_simp; done) | (go_simp; with_reducible rfl)
        try simp only [Act.put, List.setIfInBounds_toArray, List.set_cons_zero, List.set_cons_succ]
        refine wpAnyH_take (i := 10) (v := ?vL10) rfl (by kernel_rfl) (by kernel_rfl) (by kernel_rfl) (fun _ _ _ h => h) (Or.inl ⟨by rfl, ?hyL10⟩) hS ?restL10
        case hyL10 =>
          intro w hSw
          first | (go_simp; done) | (go_simp; with_reducible rfl)
        try simp only [Act.put, List.setIfInBounds_toArray, List.set_cons_zero, List.set_cons_succ]
        refine wpAnyH_take (i := 11) (v := ?vL11) rfl (by kernel_rfl) (by kernel_rfl) (by kernel_rfl) (fun _ _ _ h => h) (Or.inl ⟨by rfl, ?hyL11⟩) hS ?restL11
        case hyL11 =>
          intro w hSw
          have k0 := g0 w hSw; have k1 := g1 w hSw; have k2 := n0 w hSw; have k3 := n1 w hSw; have k4 := n2 w hSw; have k5 := n3 w hSw; have k6 := n4 w hSw; have k7 := n5 w hSw; have k8 := n6 w hSw; have k9 := n7 w hSw; have k10 := n8 w hSw
          first | (go_simp; done) | (go_simp; with_reducible rfl)
        try simp only [Act.put, List.setIfInBounds_toArray, List.set_cons_zero, List.set_cons_succ]
        refine wpAnyH_take (i := 12) (v := ?vL12) rfl (by kernel_rfl) (by kernel_rfl) (by kernel_rfl) (fun _ _ _ h => h) (Or.inl ⟨by rfl, ?hyL12⟩) hS ?restL12
        case hyL12 =>
          intro w hSw
          have k0 := g0 w hSw; have k1 := g1 w hSw; have k2 := n0 w hSw; have k3 := n1 w hSw; have k4 := n2 w hSw; have k5 := n3 w hSw; have k6 := n4 w hSw; have k7 := n5 w hSw; have k8 := n6 w hSw; have k9 := n7 w hSw; have k10 := n8 w hSw
          first | (go_simp; done) | (go_simp; with_reducible rfl)
        try simp only [Act.put, List.setIfInBounds_toArray, List.set_cons_zero, List.set_cons_succ]
        refine wpAnyH_take (i := 13) (v := ?vL13) rfl (by kernel_rfl) (by kernel_rfl) (by kernel_rfl) (fun _ _ _ h => h) (Or.inl ⟨by rfl, ?hyL13⟩) hS ?restL13
        case hyL13 =>
          intro w hSw
          first | (go_simp; done) | (go_simp; with_reducible rfl)
        try simp only [Act.put, List.setIfInBounds_toArray, List.set_cons_zero, List.set_cons_succ]
        refine wpAnyH_take (i := 15) (v := ?vL15) rfl (by kernel_rfl) (by kernel_rfl) (by kernel_rfl) (fun _ _ _ h => h) (Or.inl ⟨by rfl, ?hyL15⟩) hS ?restL15
        case hyL15 =>
          intro w hSw
          have k0 := g0 w hSw; have k1 := g1 w hSw; have k2 := n0 w hSw; have k3 := n1 w hSw; have k4 := n2 w hSw; have k5 := n3 w hSw; have k6 := n4 w hSw; have k7 := n5 w hSw; have k8 := n6 w hSw; have k9 := n7 w hSw; have k10 := n8 w hSw
          first | (go_simp; done) | (go_simp; with_reducible rfl)
        try simp only [Act.put, List.setIfInBounds_toArray, List.set_cons_zero, List.set_cons_succ]
        refine wpAnyH_take (i := 16) (v := ?vL16) rfl (by kernel_rfl) (by kernel_rfl) (by kernel_rfl) (fun _ _ _ h => h) (Or.inl ⟨by rfl, ?hyL16⟩) hS ?restL16
        case hyL16 =>
          intro w hSw
          first | (go_simp; done) | (go_simp; with_reducible rfl)
        try simp only [Act.put, List.setIfInBounds_toArray, List.set_cons_zero, List.set_cons_succ]
        refine wpAnyH_take (i := 18) (v := ?vL18) rfl (by kernel_rfl) (by kernel_rfl) (by kernel_rfl) (fun _ _ _ h => h) (Or.inl ⟨by rfl, ?hyL18⟩) hS ?restL18
        case hyL18 =>
          intro w hSw
          first | (go_simp; done) | (go_simp; with_reducible rfl)
        try simp only [Act.put, List.setIfInBounds_toArray, List.set_cons_zero, List.set_cons_succ]
        refine wpAnyH_take (i := 19) (v := ?vL19) rfl (by kernel_rfl) (by kernel_rfl) (by kernel_rfl) (fun _ _ _ h => h) (Or.inl ⟨by rfl, ?hyL19⟩) hS ?restL19
        case hyL19 =>
          intro w hSw
          first | (go_simp; done) | (go_simp; with_reducible rfl)
        try simp only [Act.put, List.setIfInBounds_toArray, List.set_cons_zero, List.set_cons_succ]
        refine wpAnyH_take (i := 20) (v := ?vL20) rfl (by kernel_rfl) (by kernel_rfl) (by kernel_rfl) (fun _ _ _ h => h) (Or.inl ⟨by rfl, ?hyL20⟩) hS ?restL20
        case hyL20 =>
          intro w hSw
          have k0 := g0 w hSw; have k1 := g1 w hSw; have k2 := n0 w hSw; have k3 := n1 w hSw; have k4 := n2 w hSw; have k5 := n3 w hSw; have k6 := n4 w hSw; have k7 := n5 w hSw; have k8 := n6 w hSw; have k9 := n7 w hSw; have k10 := n8 w hSw
          first | (go_simp; done) | (go_simp; with_reducible rfl)
        try simp only [Act.put, List.setIfInBounds_toArray, List.set_cons_zero, List.set_cons_succ]
        refine wpAnyH_ready (rs := [14]) (by kernel_rfl) (by simp) ?_
        refine AllReadyH.cons rfl (fun K hK => ?_) AllReadyH.nil
        go_simp
        go_wp2_with ((go_at_call 96; refine (K1.out _ hS).mono ?_; rintro e w' ⟨rfl, hb'⟩; have hO := hO.more hb'; have hS := hS.on hb'))
        refine hK.out _ _ hS (fun _ => ?_)
        clear hK K
        refine wpAnyH_ready (rs := [17]) (by kernel_rfl) (by simp) ?_
        refine AllReadyH.cons rfl (fun K hK => ?_) AllReadyH.nil
        go_simp
        go_wp2_with ((go_at_call 97; refine (K2.out _ hS).mono ?_; rintro e w' ⟨rfl, hb'⟩; have hO := hO.more hb'; have hS := hS.on hb'))
        refine hK.out _ _ hS (fun _ => ?_)
        clear hK K
        refine wpAnyH_take (i := 21) (v := ?vL21) rfl (by kernel_rfl) (by kernel_rfl) (by kernel_rfl) (fun _ _ _ h => h) (Or.inl ⟨by rfl, ?hyL21⟩) hS ?restL21
        case hyL21 =>
          intro w hSw
          first | (go_simp; done) | (go_simp; with_reducible rfl)
        try simp only [Act.put, List.setIfInBounds_toArray, List.set_cons_zero, List.set_cons_succ]
        refine wpAnyH_ready (rs := [22]) (by kernel_rfl) (by simp) ?_
        refine AllReadyH.cons rfl (fun K hK => ?_) AllReadyH.nil
        go_simp
        have hSp := hS
        have hS := hS.on (bel_alloc _ (.cells #[.string f.car, .int .i64 f.num, .int .i64 day, .string n.x.f, .string n.x.t, .int .i64 dd, .int .i64 aa, .string n.x.eq] datT))
        refine hK.out _ _ hS (fun _ => ?_)
        clear hK K
        refine wpAnyH_ready (rs := [23]) (by kernel_rfl) (by simp) ?_
        refine AllReadyH.cons rfl (fun K hK => ?_) AllReadyH.nil
        refine step_rapp rtD rfl _ _ rfl hO rfl (bel_alloc _ _) _ (⟨f.car, f.num, day, n.x.f, n.x.t, dd, aa, n.x.eq⟩ : Dt) _ rfl (cs := #[.string f.car, .int .i64 f.num, .int .i64 day, .string n.x.f, .string n.x.t, .int .i64 dd, .int .i64 aa, .string n.x.eq]) rfl (heap_alloc_new _ _) HLL.out ?_
        intro v8 w8 hO8 hC8
        go_simp
        have hS := hSp.trans hC8.but (fun _ _ h => h)
        refine hK.out _ _ hS (fun _ => ?_)
        clear hK K
        refine wpAnyH_take (i := 24) (v := ?vL24) rfl (by kernel_rfl) (by kernel_rfl) (by kernel_rfl) (fun _ _ _ h => h) (Or.inl ⟨by rfl, ?hyL24⟩) hS ?restL24
        case hyL24 =>
          intro w hSw
          first | (go_simp; done) | (go_simp; with_reducible rfl)
        try simp only [Act.put, List.setIfInBounds_toArray, List.set_cons_zero, List.set_cons_succ]
        refine wpAnyH_done (by kernel_rfl) ?_ _
        simp only [List.getElem_toArray, List.getElem_cons_succ, List.getElem_cons_zero, List.set_cons_zero, List.set_cons_succ]
        have HY : Hid (ROwn datT 8 encDt w2.heap.size w8 v8 ((f.lg.take (k + 1)).map (datL p.l f day)) ∧ SW w2 w8) := Lib.hid ⟨by rw [HTk.out]; exact hO8, HSW.out _ hS⟩
        clear hO8 hC8 hS hSp hO
        go_wp2
        go_roundg (f.lg.length - (k + 1))
        case measure => have := HKX.out; omega
        case rel => exact ⟨_, k + 1, rfl, by go_num, by omega, HY⟩
      · have hk : k = f.lg.length := by omega
        have HR : Hid (ROwn datT 8 encDt w.heap.size wr v (f.lg.map (datL p.l f day)) ∧ Below w.heap.size w wr) := Lib.hid ⟨⟨by
          have h := HH.out.1.own
          rw [hk, List.take_length] at h
          exact h.mono hS0.size, Nat.le_trans hS0.size hSr.size⟩, hS0.trans (Below.mono hSr hS0.size)⟩
        clear HH hkx hk
        go_wp2
        exact bodyPost_ret (results_tmp2 rfl _ _ _) rfl ⟨v, by rw [HE.out.1]; rfl, by rw [HE.out.2]; exact HR.out.1, HR.out.2⟩

end Go.Proofs.YtldillnjnjkkgaaGreatDoor
