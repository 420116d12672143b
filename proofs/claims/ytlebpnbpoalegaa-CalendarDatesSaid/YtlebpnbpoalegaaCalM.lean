/- Walks of the laws on the calendar's texts. -/
import Derived.Test.YtlebpnbpoalegaaCalL
namespace Go.Proofs.Ytlebpnbpoalegaa
open Go.RowKit
set_option linter.unusedSimpArgs false
set_option linter.unusedVariables false

theorem print_len (n : Int) : (printL n).length ≤ 10 := by
  unfold printL
  split
  · simp [dateL, twoL]
  · simp
theorem clock_len (n : Int) : (clockL n).length ≤ 10 := by
  unfold clockL
  split
  · simp [twoL]
  · simp

set_option maxHeartbeats 4000000 in
theorem calendarTexts_walk (n : Int) (s : ByteArray) (W : World) : Calls Try.prog 6 #[.int .i64 n, .string s] W fun e w' => e = .returned (.bool true) ∧ Below W.heap.size W w' := by
  have hb : Below W.heap.size W W := Below.refl _ _
  have DA := Lib.hid (fun w1 hb => acc (w := W) (awake_any w1) hb)
  by_cases hs : 200 < s.size
  · go_enter Try.func6, Try.ntmps6
    go_wp2_with (go_at_call 11; with_reducible refine (DA.out _ hb).mono ?_; rintro e w' ⟨rfl, hb⟩)
    go_ret
    exact ⟨rfl, hb⟩
  have hb1 : s.size ≤ 1000 := by omega
  obtain ⟨T, hT⟩ : ∃ T : ByteArray, T = ⟨(printL n).toArray⟩ := ⟨_, rfl⟩
  have hTl : T.data.toList = printL n := by rw [hT]
  have hTs : T.size ≤ 1000 := by
    have h := print_len n
    have e : T.size = (printL n).length := by rw [hT]; simp [ByteArray.size]
    omega
  obtain ⟨k, f, hP⟩ : ∃ k f, parseP s.data.toList = (k, f) := ⟨_, _, rfl⟩
  have D1 : Hid (∀ w1, Below W.heap.size W w1 → _) := Lib.hid (fun w1 hb => by have h := acc (w := W) (print_any n w1) hb; rw [← hT] at h; exact h)
  have D2 : Hid (∀ w1, Below W.heap.size W w1 → _) := Lib.hid (fun w1 hb => by have h := acc (w := W) (rprint_any n w1) hb; rw [← hT] at h; exact h)
  have D3 : Hid (∀ w1, Below W.heap.size W w1 → _) := Lib.hid (fun w1 hb => by have h := acc (w := W) (parse_any s w1 hb1) hb; rw [hP] at h; exact h)
  have D4 : Hid (∀ w1, Below W.heap.size W w1 → _) := Lib.hid (fun w1 hb => by have h := acc (w := W) (rparse_any s w1 hb1) hb; rw [hP] at h; exact h)
  have hPT := parse_print n
  rw [← hTl] at hPT
  have hts : (T.toList == []) = !isDayB n := by
    rw [ByteArray.toList_eq, hTl]
    cases hd : isDayB n
    · rw [printL, hd]; rfl
    · rw [printL, if_pos hd]; rfl
  have D6 : Hid (f = 0 → ∀ w1, Below W.heap.size W w1 → Calls Try.prog 16 #[.int .i64 k] w1 fun e w' => e = .returned (.string s) ∧ Below W.heap.size W w') := Lib.hid (fun hf w1 hb => by
    subst hf
    have h := acc (w := W) (print_any k w1) hb
    rw [parse_back hP] at h
    exact h)
  cases hd : isDayB n
  all_goals
    rw [hd] at hPT hts
    have D5 : Hid (∀ w1, Below W.heap.size W w1 → _) := Lib.hid (fun w1 hb => by have h := acc (w := W) (parse_any T w1 hTs) hb; rw [hPT] at h; exact h)
    clear hPT hP hTl hT hTs hb1 hd
    by_cases hf : f = 0
    · have D7 := Lib.hid (D6.out hf)
      subst hf
      go_enter Try.func6, Try.ntmps6
      go_wp2_with (first
        | (go_at_call 16; first | (with_reducible refine (D1.out _ hb).mono ?_; rintro e w' ⟨rfl, hb⟩) | (with_reducible refine (D7.out _ hb).mono ?_; rintro e w' ⟨rfl, hb⟩))
        | (go_at_call 19; with_reducible refine (D2.out _ hb).mono ?_; rintro e w' ⟨rfl, hb⟩)
        | (go_at_call 17; first | (with_reducible refine (D3.out _ hb).mono ?_; rintro e w' ⟨rfl, hb⟩) | (with_reducible refine (D5.out _ hb).mono ?_; rintro e w' ⟨rfl, hb⟩))
        | (go_at_call 18; with_reducible refine (D4.out _ hb).mono ?_; rintro e w' ⟨rfl, hb⟩)
        | (go_at_call 11; with_reducible refine (DA.out _ hb).mono ?_; rintro e w' ⟨rfl, hb⟩))
      go_ret
      exact ⟨rfl, hb⟩
    · have hf2 : (f == 0) = false := by rw [beq_eq_false_iff_ne]; exact hf
      clear D6 hf
      go_enter Try.func6, Try.ntmps6
      go_wp2_with (first
        | (go_at_call 16; (with_reducible refine (D1.out _ hb).mono ?_; rintro e w' ⟨rfl, hb⟩))
        | (go_at_call 19; with_reducible refine (D2.out _ hb).mono ?_; rintro e w' ⟨rfl, hb⟩)
        | (go_at_call 17; first | (with_reducible refine (D3.out _ hb).mono ?_; rintro e w' ⟨rfl, hb⟩) | (with_reducible refine (D5.out _ hb).mono ?_; rintro e w' ⟨rfl, hb⟩))
        | (go_at_call 18; with_reducible refine (D4.out _ hb).mono ?_; rintro e w' ⟨rfl, hb⟩)
        | (go_at_call 11; with_reducible refine (DA.out _ hb).mono ?_; rintro e w' ⟨rfl, hb⟩))
      go_ret
      exact ⟨rfl, hb⟩

set_option maxHeartbeats 4000000 in
theorem calendarClocks_walk (n : Int) (s : ByteArray) (W : World) : Calls Try.prog 7 #[.int .i64 n, .string s] W fun e w' => e = .returned (.bool true) ∧ Below W.heap.size W w' := by
  have hb : Below W.heap.size W W := Below.refl _ _
  have DA := Lib.hid (fun w1 hb => acc (w := W) (awake_any w1) hb)
  by_cases hs : 200 < s.size
  · go_enter Try.func7, Try.ntmps7
    go_wp2_with (go_at_call 11; with_reducible refine (DA.out _ hb).mono ?_; rintro e w' ⟨rfl, hb⟩)
    go_ret
    exact ⟨rfl, hb⟩
  have hb1 : s.size ≤ 1000 := by omega
  obtain ⟨T, hT⟩ : ∃ T : ByteArray, T = ⟨(clockL n).toArray⟩ := ⟨_, rfl⟩
  have hTl : T.data.toList = clockL n := by rw [hT]
  have hTs : T.size ≤ 1000 := by
    have h := clock_len n
    have e : T.size = (clockL n).length := by rw [hT]; simp [ByteArray.size]
    omega
  obtain ⟨k, f, hP⟩ : ∃ k f, minP s.data.toList = (k, f) := ⟨_, _, rfl⟩
  have D1 : Hid (∀ w1, Below W.heap.size W w1 → _) := Lib.hid (fun w1 hb => by have h := acc (w := W) (clock_any n w1) hb; rw [← hT] at h; exact h)
  have D2 : Hid (∀ w1, Below W.heap.size W w1 → _) := Lib.hid (fun w1 hb => by have h := acc (w := W) (rclock_any n w1) hb; rw [← hT] at h; exact h)
  have D3 : Hid (∀ w1, Below W.heap.size W w1 → _) := Lib.hid (fun w1 hb => by have h := acc (w := W) (minute_any s w1 hb1) hb; rw [hP] at h; exact h)
  have D4 : Hid (∀ w1, Below W.heap.size W w1 → _) := Lib.hid (fun w1 hb => by have h := acc (w := W) (rminute_any s w1 hb1) hb; rw [hP] at h; exact h)
  have hPT := min_clock n
  rw [← hTl] at hPT
  have hts : (T.toList == []) = !isMinB n := by
    rw [ByteArray.toList_eq, hTl]
    cases hd : isMinB n
    · rw [clockL, hd]; rfl
    · rw [clockL, if_pos hd]; rfl
  have D6 : Hid (f = 0 → ∀ w1, Below W.heap.size W w1 → Calls Try.prog 20 #[.int .i64 k] w1 fun e w' => e = .returned (.string s) ∧ Below W.heap.size W w') := Lib.hid (fun hf w1 hb => by
    subst hf
    have h := acc (w := W) (clock_any k w1) hb
    rw [min_back hP] at h
    exact h)
  cases hd : isMinB n
  all_goals
    rw [hd] at hPT hts
    have D5 : Hid (∀ w1, Below W.heap.size W w1 → _) := Lib.hid (fun w1 hb => by have h := acc (w := W) (minute_any T w1 hTs) hb; rw [hPT] at h; exact h)
    clear hPT hP hTl hT hTs hb1 hd
    by_cases hf : f = 0
    · have D7 := Lib.hid (D6.out hf)
      subst hf
      go_enter Try.func7, Try.ntmps7
      go_wp2_with (first
        | (go_at_call 20; first | (with_reducible refine (D1.out _ hb).mono ?_; rintro e w' ⟨rfl, hb⟩) | (with_reducible refine (D7.out _ hb).mono ?_; rintro e w' ⟨rfl, hb⟩))
        | (go_at_call 23; with_reducible refine (D2.out _ hb).mono ?_; rintro e w' ⟨rfl, hb⟩)
        | (go_at_call 21; first | (with_reducible refine (D3.out _ hb).mono ?_; rintro e w' ⟨rfl, hb⟩) | (with_reducible refine (D5.out _ hb).mono ?_; rintro e w' ⟨rfl, hb⟩))
        | (go_at_call 22; with_reducible refine (D4.out _ hb).mono ?_; rintro e w' ⟨rfl, hb⟩)
        | (go_at_call 11; with_reducible refine (DA.out _ hb).mono ?_; rintro e w' ⟨rfl, hb⟩))
      go_ret
      exact ⟨rfl, hb⟩
    · have hf2 : (f == 0) = false := by rw [beq_eq_false_iff_ne]; exact hf
      clear D6 hf
      go_enter Try.func7, Try.ntmps7
      go_wp2_with (first
        | (go_at_call 20; (with_reducible refine (D1.out _ hb).mono ?_; rintro e w' ⟨rfl, hb⟩))
        | (go_at_call 23; with_reducible refine (D2.out _ hb).mono ?_; rintro e w' ⟨rfl, hb⟩)
        | (go_at_call 21; first | (with_reducible refine (D3.out _ hb).mono ?_; rintro e w' ⟨rfl, hb⟩) | (with_reducible refine (D5.out _ hb).mono ?_; rintro e w' ⟨rfl, hb⟩))
        | (go_at_call 22; with_reducible refine (D4.out _ hb).mono ?_; rintro e w' ⟨rfl, hb⟩)
        | (go_at_call 11; with_reducible refine (DA.out _ hb).mono ?_; rintro e w' ⟨rfl, hb⟩))
      go_ret
      exact ⟨rfl, hb⟩

end Go.Proofs.Ytlebpnbpoalegaa
