/- Walks of Print and Clock, beside the reference's; of the tests and numbers of digits. -/
import Derived.Test.YtlebpnbpoalegaaCalB
import Derived.Test.YtlebpnbpoalegaaCalC
import Derived.Test.YtlebpnbpoalegaaCalD
namespace Go.Proofs.Ytlebpnbpoalegaa
open Go.RowKit
set_option linter.unusedSimpArgs false
set_option linter.unusedVariables false

theorem mk_app (a b : List UInt8) : (⟨a.toArray⟩ : ByteArray) ++ ⟨b.toArray⟩ = ⟨(a ++ b).toArray⟩ := by
  apply ByteArray.ext
  simp [ByteArray.data_append]
theorem two_acc (n : Int) (w w1 : World) (h0 : 0 ≤ n) (h1 : n ≤ 99) (hb : Below w.heap.size w w1) :
    Calls Try.prog 31 #[.int .i64 n] w1 fun e w' => e = .returned (.string ⟨(twoL n).toArray⟩) ∧ Below w.heap.size w w' :=
  (two_any n w1 h0 h1).mono (by rintro e w' ⟨rfl, h⟩; exact ⟨rfl, hb.trans (h.mono hb.size)⟩)
theorem rtwo_acc (n : Int) (w w1 : World) (h0 : 0 ≤ n) (h1 : n ≤ 99) (hb : Below w.heap.size w w1) :
    Calls Try.prog 35 #[.int .i64 n] w1 fun e w' => e = .returned (.string ⟨(twoL n).toArray⟩) ∧ Below w.heap.size w w' :=
  (rtwo_any n w1 h0 h1).mono (by rintro e w' ⟨rfl, h⟩; exact ⟨rfl, hb.trans (h.mono hb.size)⟩)

set_option maxHeartbeats 1000000 in
theorem print_any (n : Int) (w : World) : Calls Try.prog 16 #[.int .i64 n] w fun e w' => e = .returned (.string ⟨(printL n).toArray⟩) ∧ Below w.heap.size w w' := by
  cases hd : isDayB n
  · have HR : Hid (printL n = []) := Lib.hid (by simp [printL, hd])
    go_enter Try.func16, Try.ntmps16
    go_wp2_with (go_at_call 29; refine (isDay_any _ _).mono ?_; rintro e w' ⟨rfl, rfl⟩)
    go_ret
    exact ⟨by rw [HR.out]; rfl, Below.refl _ _⟩
  · have hD := (date_in hd).1
    obtain ⟨y, m, d, hR⟩ : ∃ y m d, dateR n = (y, m, d) := ⟨_, _, _, rfl⟩
    rw [hR] at hD
    have CD : Hid (∀ w, Calls Try.prog 12 #[.int .i64 n] w fun e w' => e = .returned (.tuple #[.int .i64 y, .int .i64 m, .int .i64 d]) ∧ Below w.heap.size w w') := Lib.hid (fun w => by have h := date_any n w; rw [hR] at h; exact h)
    have HR : Hid (printL n = dateL y m d) := Lib.hid (by rw [printL, if_pos hd, hR])
    obtain ⟨y0, y1, m0, m1, d0, d1⟩ : 2000 ≤ y ∧ y ≤ 2099 ∧ 1 ≤ m ∧ m ≤ 12 ∧ 1 ≤ d ∧ d ≤ lenP y m := ok_yes hD
    have hl := len_range y m
    clear hR hD
    have d2 : d ≤ 31 := by omega
    clear hl d1
    go_enter Try.func16, Try.ntmps16
    go_wp2_with (first | (go_at_call 31; refine (two_acc _ w _ (by omega) (by omega) hb).mono ?_; rintro e w' ⟨rfl, hb⟩) | (go_at_call 12; refine (CD.out _).mono ?_; rintro e w' ⟨rfl, hb⟩) | (go_at_call 29; refine (isDay_any _ _).mono ?_; rintro e w' ⟨rfl, rfl⟩))
    go_ret
    exact ⟨by rw [HR.out]; simp only [dateL, ← mk_app]; rfl, hb⟩
set_option maxHeartbeats 1000000 in
theorem clock_any (n : Int) (w : World) : Calls Try.prog 20 #[.int .i64 n] w fun e w' => e = .returned (.string ⟨(clockL n).toArray⟩) ∧ Below w.heap.size w w' := by
  by_cases h0 : n < 0
  · have HR : Hid (clockL n = []) := Lib.hid (by rw [clockL, if_neg]; simp [isMinB]; omega)
    go_enter Try.func20, Try.ntmps20
    go_wp2
    go_ret
    exact ⟨by rw [HR.out]; rfl, Below.refl _ _⟩
  by_cases h1 : 1440 ≤ n
  · have HR : Hid (clockL n = []) := Lib.hid (by rw [clockL, if_neg]; simp [isMinB]; omega)
    go_enter Try.func20, Try.ntmps20
    go_wp2
    go_ret
    exact ⟨by rw [HR.out]; rfl, Below.refl _ _⟩
  · have HR : Hid (clockL n = twoL (n / 60) ++ [58] ++ twoL (n % 60)) := Lib.hid (by rw [clockL, if_pos]; simp [isMinB]; omega)
    have hb : Below w.heap.size w w := Below.refl _ _
    go_enter Try.func20, Try.ntmps20
    go_wp2_with (go_at_call 31; refine (two_acc _ w _ (by omega) (by omega) hb).mono ?_; rintro e w' ⟨rfl, hb⟩)
    go_ret
    exact ⟨by rw [HR.out]; simp only [← mk_app]; rfl, hb⟩

set_option maxHeartbeats 1000000 in
theorem rprint_any (n : Int) (w : World) : Calls Try.prog 19 #[.int .i64 n] w fun e w' => e = .returned (.string ⟨(printL n).toArray⟩) ∧ Below w.heap.size w w' := by
  have hb : Below w.heap.size w w := Below.refl _ _
  cases hd : isDayB n
  · have HR : Hid (printL n = []) := Lib.hid (by simp [printL, hd])
    have CD : Hid (∀ w, Calls Try.prog 13 #[.int .i64 n] w fun e w' => e = .returned (.tuple #[.int .i64 0, .int .i64 0, .int .i64 0]) ∧ w = w') := Lib.hid (fun w => by have h := rdate_any n w; rw [date_out hd] at h; exact h)
    go_enter Try.func19, Try.ntmps19
    go_wp2_with (go_at_call 13; refine (CD.out _).mono ?_; rintro e w' ⟨rfl, rfl⟩)
    go_ret
    exact ⟨by rw [HR.out]; rfl, hb⟩
  · have hD := (date_in hd).1
    obtain ⟨y, m, d, hR⟩ : ∃ y m d, dateR n = (y, m, d) := ⟨_, _, _, rfl⟩
    rw [hR] at hD
    have CD : Hid (∀ w, Calls Try.prog 13 #[.int .i64 n] w fun e w' => e = .returned (.tuple #[.int .i64 y, .int .i64 m, .int .i64 d]) ∧ w = w') := Lib.hid (fun w => by have h := rdate_any n w; rw [hR] at h; exact h)
    have HR : Hid (printL n = dateL y m d) := Lib.hid (by rw [printL, if_pos hd, hR])
    obtain ⟨y0, y1, m0, m1, d0, d1⟩ : 2000 ≤ y ∧ y ≤ 2099 ∧ 1 ≤ m ∧ m ≤ 12 ∧ 1 ≤ d ∧ d ≤ lenP y m := ok_yes hD
    have hl := len_range y m
    clear hR hD
    have d2 : d ≤ 31 := by omega
    have hy : (y == 0) = false := by rw [beq_eq_false_iff_ne]; omega
    clear hl d1
    go_enter Try.func19, Try.ntmps19
    go_wp2_with (first | (go_at_call 35; refine (rtwo_acc _ w _ (by omega) (by omega) hb).mono ?_; rintro e w' ⟨rfl, hb⟩) | (go_at_call 13; refine (CD.out _).mono ?_; rintro e w' ⟨rfl, rfl⟩))
    go_ret
    exact ⟨by rw [HR.out]; simp only [dateL, ← mk_app]; rfl, hb⟩
set_option maxHeartbeats 1000000 in
theorem rclock_any (n : Int) (w : World) : Calls Try.prog 23 #[.int .i64 n] w fun e w' => e = .returned (.string ⟨(clockL n).toArray⟩) ∧ Below w.heap.size w w' := by
  by_cases h0 : n < 0
  · have HR : Hid (clockL n = []) := Lib.hid (by rw [clockL, if_neg]; simp [isMinB]; omega)
    go_enter Try.func23, Try.ntmps23
    go_wp2
    go_ret
    exact ⟨by rw [HR.out]; rfl, Below.refl _ _⟩
  by_cases h1 : 1440 ≤ n
  · have HR : Hid (clockL n = []) := Lib.hid (by rw [clockL, if_neg]; simp [isMinB]; omega)
    go_enter Try.func23, Try.ntmps23
    go_wp2
    go_ret
    exact ⟨by rw [HR.out]; rfl, Below.refl _ _⟩
  · have HR : Hid (clockL n = twoL (n / 60) ++ [58] ++ twoL (n % 60)) := Lib.hid (by rw [clockL, if_pos]; simp [isMinB]; omega)
    have hb : Below w.heap.size w w := Below.refl _ _
    go_enter Try.func23, Try.ntmps23
    go_wp2_with (go_at_call 35; refine (rtwo_acc _ w _ (by omega) (by omega) hb).mono ?_; rintro e w' ⟨rfl, hb⟩)
    go_ret
    exact ⟨by rw [HR.out]; simp only [← mk_app]; rfl, hb⟩

end Go.Proofs.Ytlebpnbpoalegaa
