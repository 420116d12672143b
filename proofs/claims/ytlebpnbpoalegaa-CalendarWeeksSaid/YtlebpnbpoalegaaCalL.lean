/- Walks of the laws on the calendar: days, dates, weeks, splits. -/
import Derived.Test.YtlebpnbpoalegaaCalG
import Derived.Test.YtlebpnbpoalegaaCalI
namespace Go.Proofs.Ytlebpnbpoalegaa
open Go.RowKit
set_option linter.unusedSimpArgs false
set_option linter.unusedVariables false

theorem acc {P : Program} {f : FuncId} {args : Array Value} {w w1 : World} {v : Value} (h : Calls P f args w1 fun e w' => e = .returned v ∧ Below w1.heap.size w1 w') (hb : Below w.heap.size w w1) :
    Calls P f args w1 fun e w' => e = .returned v ∧ Below w.heap.size w w' := h.mono (by rintro e w' ⟨rfl, h⟩; exact ⟨rfl, hb.trans (h.mono hb.size)⟩)
theorem acc_same {P : Program} {f : FuncId} {args : Array Value} {w w1 : World} {v : Value} (h : Calls P f args w1 fun e w' => e = .returned v ∧ w1 = w') (hb : Below w.heap.size w w1) :
    Calls P f args w1 fun e w' => e = .returned v ∧ Below w.heap.size w w' := h.mono (by rintro e w' ⟨rfl, rfl⟩; exact ⟨rfl, hb⟩)

set_option maxHeartbeats 2000000 in
theorem awake_any (w : World) : Calls Try.prog 11 #[] w fun e w' => e = .returned (.bool true) ∧ Below w.heap.size w w' := by
  have v1 : dayR 2000 3 1 = (60, 0) := by decide
  have v2 : dayR 2001 2 29 = (0, 12) := by decide
  have v3 : dateR 59 = (2000, 2, 29) := by decide
  have v4 : parseP (ByteArray.data ⟨#[50, 48, 50, 54, 45, 49, 49, 45, 49, 54]⟩).toList = (9816, 0) := by decide
  have v5 : parseP (ByteArray.data ⟨#[50, 48, 50, 54, 45, 48, 50, 45, 50, 57]⟩).toList = (0, 12) := by decide
  have v6 : minP (ByteArray.data ⟨#[48, 57, 58, 48, 53]⟩).toList = (545, 0) := by decide
  have v7 : printL 9816 = [50, 48, 50, 54, 45, 49, 49, 45, 49, 54] := by decide
  have v8 : clockL 545 = [48, 57, 58, 48, 53] := by decide
  have v9 : weekP 0 = 5 := by decide
  have hb : Below w.heap.size w w := Below.refl _ _
  have D1 : Hid (∀ w1, Below w.heap.size w w1 → _) := Lib.hid (fun w1 hb => by have h := acc (day_any 2000 3 1 w1) hb; rw [v1] at h; exact h)
  have D2 : Hid (∀ w1, Below w.heap.size w w1 → _) := Lib.hid (fun w1 hb => by have h := acc (day_any 2001 2 29 w1) hb; rw [v2] at h; exact h)
  have D3 : Hid (∀ w1, Below w.heap.size w w1 → _) := Lib.hid (fun w1 hb => by have h := acc (date_any 59 w1) hb; rw [v3] at h; exact h)
  have D4 : Hid (∀ w1, Below w.heap.size w w1 → _) := Lib.hid (fun w1 hb => by have h := acc (parse_any ⟨#[50, 48, 50, 54, 45, 49, 49, 45, 49, 54]⟩ w1 (by decide)) hb; rw [v4] at h; exact h)
  have D5 : Hid (∀ w1, Below w.heap.size w w1 → _) := Lib.hid (fun w1 hb => by have h := acc (parse_any ⟨#[50, 48, 50, 54, 45, 48, 50, 45, 50, 57]⟩ w1 (by decide)) hb; rw [v5] at h; exact h)
  have D6 : Hid (∀ w1, Below w.heap.size w w1 → _) := Lib.hid (fun w1 hb => by have h := acc (minute_any ⟨#[48, 57, 58, 48, 53]⟩ w1 (by decide)) hb; rw [v6] at h; exact h)
  have D7 : Hid (∀ w1, Below w.heap.size w w1 → _) := Lib.hid (fun w1 hb => by have h := acc (print_any 9816 w1) hb; rw [v7] at h; exact h)
  have D8 : Hid (∀ w1, Below w.heap.size w w1 → _) := Lib.hid (fun w1 hb => by have h := acc (clock_any 545 w1) hb; rw [v8] at h; exact h)
  have D9 : Hid (∀ w1, Below w.heap.size w w1 → _) := Lib.hid (fun w1 hb => by have h := acc (weekday_any 0 w1 (by omega) (by omega)) hb; rw [v9] at h; exact h)
  have D10 : Hid (∀ w1, Below w.heap.size w w1 → _) := Lib.hid (fun w1 hb => by have h := acc (split_any (-1) w1 (by omega) (by omega)) hb; rw [show (-1 : Int) / 1440 = -1 by decide, show (-1 : Int) % 1440 = 1439 by decide] at h; exact h)
  clear v1 v2 v3 v4 v5 v6 v7 v8 v9
  go_enter Try.func11, Try.ntmps11
  go_wp2_with (first
    | (go_at_call 9; first | (with_reducible refine (D1.out _ hb).mono ?_; rintro e w' ⟨rfl, hb⟩) | (with_reducible refine (D2.out _ hb).mono ?_; rintro e w' ⟨rfl, hb⟩))
    | (go_at_call 12; with_reducible refine (D3.out _ hb).mono ?_; rintro e w' ⟨rfl, hb⟩)
    | (go_at_call 17; first | (with_reducible refine (D4.out _ hb).mono ?_; rintro e w' ⟨rfl, hb⟩) | (with_reducible refine (D5.out _ hb).mono ?_; rintro e w' ⟨rfl, hb⟩))
    | (go_at_call 21; with_reducible refine (D6.out _ hb).mono ?_; rintro e w' ⟨rfl, hb⟩)
    | (go_at_call 16; with_reducible refine (D7.out _ hb).mono ?_; rintro e w' ⟨rfl, hb⟩)
    | (go_at_call 20; with_reducible refine (D8.out _ hb).mono ?_; rintro e w' ⟨rfl, hb⟩)
    | (go_at_call 14; with_reducible refine (D9.out _ hb).mono ?_; rintro e w' ⟨rfl, hb⟩)
    | (go_at_call 24; with_reducible refine (D10.out _ hb).mono ?_; rintro e w' ⟨rfl, hb⟩))
  go_ret
  exact ⟨rfl, hb⟩

set_option maxHeartbeats 2000000 in
theorem calendarDays_walk (y m d : Int) (W : World) : Calls Try.prog 3 #[.int .i64 y, .int .i64 m, .int .i64 d] W fun e w' => e = .returned (.bool true) ∧ Below W.heap.size W w' := by
  have hb : Below W.heap.size W W := Below.refl _ _
  have DA := Lib.hid (fun w1 hb => acc (w := W) (awake_any w1) hb)
  have D1 := Lib.hid (fun w1 hb => acc (w := W) (day_any y m d w1) hb)
  have D2 := Lib.hid (fun w1 hb => acc_same (w := W) (rday_any y m d w1) hb)
  generalize (dayR y m d).1 = n at *
  generalize (dayR y m d).2 = e at *
  go_enter Try.func3, Try.ntmps3
  go_wp2_with (first
    | (go_at_call 9; with_reducible refine (D1.out _ hb).mono ?_; rintro e w' ⟨rfl, hb⟩)
    | (go_at_call 10; with_reducible refine (D2.out _ hb).mono ?_; rintro e w' ⟨rfl, hb⟩)
    | (go_at_call 11; with_reducible refine (DA.out _ hb).mono ?_; rintro e w' ⟨rfl, hb⟩))
  go_ret
  exact ⟨rfl, hb⟩

set_option maxHeartbeats 2000000 in
theorem calendarDates_walk (n : Int) (W : World) : Calls Try.prog 4 #[.int .i64 n] W fun e w' => e = .returned (.bool true) ∧ Below W.heap.size W w' := by
  have hb : Below W.heap.size W W := Below.refl _ _
  have DA := Lib.hid (fun w1 hb => acc (w := W) (awake_any w1) hb)
  obtain ⟨y, m, d, hR⟩ : ∃ y m d, dateR n = (y, m, d) := ⟨_, _, _, rfl⟩
  have hk := day_date n
  rw [hR] at hk
  have D1 : Hid (∀ w1, Below W.heap.size W w1 → _) := Lib.hid (fun w1 hb => by have h := acc (w := W) (date_any n w1) hb; rw [hR] at h; exact h)
  have D2 : Hid (∀ w1, Below W.heap.size W w1 → _) := Lib.hid (fun w1 hb => by have h := acc_same (w := W) (rdate_any n w1) hb; rw [hR] at h; exact h)
  cases hd : isDayB n
  · rw [date_out hd] at hR
    injection hR with e1 e2
    injection e2 with e2 e3
    subst e1 e2 e3
    have D3 : Hid (∀ w1, Below W.heap.size W w1 → _) := Lib.hid (fun w1 hb => by have h := acc (w := W) (day_any 0 0 0 w1) hb; rw [show dayR 0 0 0 = (0, 12) by decide] at h; exact h)
    clear hk
    go_enter Try.func4, Try.ntmps4
    go_wp2_with (first
      | (go_at_call 12; with_reducible refine (D1.out _ hb).mono ?_; rintro e w' ⟨rfl, hb⟩)
      | (go_at_call 13; with_reducible refine (D2.out _ hb).mono ?_; rintro e w' ⟨rfl, hb⟩)
      | (go_at_call 9; with_reducible refine (D3.out _ hb).mono ?_; rintro e w' ⟨rfl, hb⟩)
      | (go_at_call 11; with_reducible refine (DA.out _ hb).mono ?_; rintro e w' ⟨rfl, hb⟩))
    go_ret
    exact ⟨rfl, hb⟩
  · rw [if_pos hd] at hk
    have ho := (date_in hd).1
    rw [hR] at ho
    have hy : (y == 0) = false := by
      have h : 2000 ≤ y ∧ _ := ok_yes ho
      rw [beq_eq_false_iff_ne]; omega
    have D3 : Hid (∀ w1, Below W.heap.size W w1 → _) := Lib.hid (fun w1 hb => by have h := acc (w := W) (day_any y m d w1) hb; rw [show dayR y m d = (n, 0) from hk] at h; exact h)
    clear hk ho hR
    go_enter Try.func4, Try.ntmps4
    go_wp2_with (first
      | (go_at_call 12; with_reducible refine (D1.out _ hb).mono ?_; rintro e w' ⟨rfl, hb⟩)
      | (go_at_call 13; with_reducible refine (D2.out _ hb).mono ?_; rintro e w' ⟨rfl, hb⟩)
      | (go_at_call 9; with_reducible refine (D3.out _ hb).mono ?_; rintro e w' ⟨rfl, hb⟩)
      | (go_at_call 11; with_reducible refine (DA.out _ hb).mono ?_; rintro e w' ⟨rfl, hb⟩))
    go_ret
    exact ⟨rfl, hb⟩

set_option maxHeartbeats 2000000 in
theorem calendarSplits_walk (n : Int) (W : World) (h0 : -9223372036854775808 ≤ n) (h1 : n ≤ 9223372036854775807) : Calls Try.prog 8 #[.int .i64 n] W fun e w' => e = .returned (.bool true) ∧ Below W.heap.size W w' := by
  have hb : Below W.heap.size W W := Below.refl _ _
  have DA := Lib.hid (fun w1 hb => acc (w := W) (awake_any w1) hb)
  have D1 := Lib.hid (fun w1 hb => acc (w := W) (split_any n w1 h0 h1) hb)
  have D2 := Lib.hid (fun w1 hb => acc (w := W) (rsplit_any n w1 h0 h1) hb)
  have q1 : 0 ≤ n % 1440 ∧ n % 1440 < 1440 := by omega
  have q2 : n - n % 1440 = n / 1440 * 1440 := by omega
  generalize n / 1440 = q at *
  generalize n % 1440 = r at *
  have q3 : (wrap64 (n - r) == wrap64 (q * 1440)) = true := by rw [q2]; simp
  have HQ := Lib.hid q2
  clear q2
  go_enter Try.func8, Try.ntmps8
  go_wp2_with (first
    | (go_at_call 24; with_reducible refine (D1.out _ hb).mono ?_; rintro e w' ⟨rfl, hb⟩)
    | (go_at_call 25; with_reducible refine (D2.out _ hb).mono ?_; rintro e w' ⟨rfl, hb⟩)
    | (go_at_call 11; with_reducible refine (DA.out _ hb).mono ?_; rintro e w' ⟨rfl, hb⟩))
  go_ret
  exact ⟨rfl, hb⟩

theorem week_range (n : Int) : 0 ≤ weekP n ∧ weekP n ≤ 6 := by unfold weekP; omega
theorem week_next (n : Int) : weekP (n + 1) = (weekP n + 1) % 7 := by unfold weekP; omega
set_option maxHeartbeats 2000000 in
theorem calendarWeeks_walk (n : Int) (W : World) (h0 : -9223372036854775808 ≤ n) (h1 : n ≤ 9223372036854775807) : Calls Try.prog 5 #[.int .i64 n] W fun e w' => e = .returned (.bool true) ∧ Below W.heap.size W w' := by
  have hb : Below W.heap.size W W := Below.refl _ _
  have DA := Lib.hid (fun w1 hb => acc (w := W) (awake_any w1) hb)
  have D1 := Lib.hid (fun w1 hb => acc (w := W) (weekday_any n w1 h0 h1) hb)
  have D2 := Lib.hid (fun w1 hb => acc_same (w := W) (rweekday_any n w1 h0 h1) hb)
  have q1 := week_range n
  by_cases hn : n ≤ 9223372036854775806
  · have D3 : Hid (∀ w1, Below W.heap.size W w1 → _) := Lib.hid (fun w1 hb => by have h := acc (w := W) (weekday_any (n + 1) w1 (by omega) (by omega)) hb; rw [week_next] at h; exact h)
    generalize weekP n = k at *
    go_enter Try.func5, Try.ntmps5
    go_wp2_with (first
      | (go_at_call 14; first | (with_reducible refine (D1.out _ hb).mono ?_; rintro e w' ⟨rfl, hb⟩) | (with_reducible refine (D3.out _ hb).mono ?_; rintro e w' ⟨rfl, hb⟩))
      | (go_at_call 15; with_reducible refine (D2.out _ hb).mono ?_; rintro e w' ⟨rfl, hb⟩)
      | (go_at_call 11; with_reducible refine (DA.out _ hb).mono ?_; rintro e w' ⟨rfl, hb⟩))
    go_ret
    exact ⟨rfl, hb⟩
  · have e : n = 9223372036854775807 := by omega
    subst e
    generalize weekP 9223372036854775807 = k at *
    clear hn h0 h1
    have hw : wrap64 9223372036854775808 = -9223372036854775808 := by decide +kernel
    go_enter Try.func5, Try.ntmps5
    go_wp2_with (first
      | (go_at_call 14; with_reducible refine (D1.out _ hb).mono ?_; rintro e w' ⟨rfl, hb⟩)
      | (go_at_call 15; with_reducible refine (D2.out _ hb).mono ?_; rintro e w' ⟨rfl, hb⟩)
      | (go_at_call 11; with_reducible refine (DA.out _ hb).mono ?_; rintro e w' ⟨rfl, hb⟩))
    go_ret
    exact ⟨rfl, hb⟩

end Go.Proofs.Ytlebpnbpoalegaa
