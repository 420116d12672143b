/- Walks of scale, Percent and Up, beside the reference's. -/
import Derived.Test.YtalnocdgmcchaaaDoorMoneyA
namespace Go.Proofs.YtalnocdgmcchaaaDoor
open Go.RowKit
set_option linter.unusedSimpArgs false
set_option linter.unusedVariables false

theorem div64_any (hi lo y : Nat) (w : World) (h1 : hi < y) (hy : y < 18446744073709551616) (hlo : lo < 18446744073709551616) :
    Calls Tryd.prog 46 #[.int .u64 hi, .int .u64 lo, .int .u64 y] w fun e w' => e = .returned (.tuple #[.int .u64 ((hi * 18446744073709551616 + lo) / y : Nat), .int .u64 ((hi * 18446744073709551616 + lo) % y : Nat)]) ∧ ∃ n, w' = w.drewN n := by
  rcases Nat.eq_zero_or_pos hi with h | h
  · subst h
    have := div64_small lo y w h1 hy hlo
    rw [Nat.zero_mul, Nat.zero_add]
    exact this
  · exact (div64_big hi lo y w h h1 hy hlo).mono fun e w' ⟨he, hw⟩ => ⟨he, 0, by rw [← hw]; rfl⟩

theorem ret_three {a b c d : Int} {x y : Bool} (h : a = b) (h2 : c = d) (h3 : x = y) : Ending.returned (.tuple #[.int .i64 a, .int .i64 c, .bool x]) = .returned (.tuple #[.int .i64 b, .int .i64 d, .bool y]) := by rw [h, h2, h3]
/-- a product, divided -/
def scaleR (a b y : Nat) : Nat × Nat × Bool := if a * b / y ≤ 1099511627776 then (a * b / y, a * b % y, true) else (0, 0, false)

set_option maxRecDepth 100000 in
set_option maxHeartbeats 2000000 in
theorem scale_any (a b y : Nat) (w : World) (ha : a < 9223372036854775808) (hb : b < 9223372036854775808) (hy : 0 < y) (hy2 : y < 9223372036854775808) :
    Calls Tryd.prog 29 #[.int .i64 a, .int .i64 b, .int .i64 y] w fun e w' => e = .returned (.tuple #[.int .i64 ((scaleR a b y).1 : Nat), .int .i64 ((scaleR a b y).2.1 : Nat), .bool (scaleR a b y).2.2]) ∧ ∃ n, w' = w.drewN n := by
  obtain ⟨hi, hhi⟩ : ∃ hi, hi = a * b / 18446744073709551616 := ⟨_, rfl⟩
  obtain ⟨lo, hlo⟩ : ∃ lo, lo = a * b % 18446744073709551616 := ⟨_, rfl⟩
  have hlob : lo < 18446744073709551616 := by rw [hlo]; exact Nat.mod_lt _ (by decide)
  have hhib : hi < 18446744073709551616 := by
    rw [hhi]
    have : a * b ≤ 9223372036854775808 * 9223372036854775808 := Nat.mul_le_mul (by omega) (by omega)
    generalize a * b = p at *
    omega
  have hab : a * b = hi * 18446744073709551616 + lo := by rw [hhi, hlo]; omega
  have CM := Lib.hid (Tryd.bits_Mul64 a b (by omega) (by omega))
  rw [← hhi, ← hlo] at CM
  obtain ⟨q, hq⟩ : ∃ q, q = a * b / y := ⟨_, rfl⟩
  obtain ⟨r, hr⟩ : ∃ r, r = a * b % y := ⟨_, rfl⟩
  have hrb : r < y := by rw [hr]; exact Nat.mod_lt _ hy
  have HQ : Hid (scaleR a b y = if q ≤ 1099511627776 then (q, r, true) else (0, 0, false)) := Lib.hid (by rw [scaleR, ← hq, ← hr])
  by_cases hge : y ≤ hi
  · have hbig : ¬ q ≤ 1099511627776 := by
      rw [hq]
      have h2 : y * 1099511627777 ≤ a * b := by rw [hab]; omega
      have := (Nat.le_div_iff_mul_le hy (x := 1099511627777) (y := a * b)).2 (by rw [Nat.mul_comm]; exact h2)
      omega
    have HS : Hid (scaleR a b y = (0, 0, false)) := Lib.hid (by rw [HQ.out, if_neg hbig])
    have hgez : (hi : Int) ≥ (y : Int) := by omega
    clear hhi hlo hab hq hr HQ hbig
    go_enter Tryd.func29, Tryd.ntmps29
    go_wp2_with (go_at_call 45; refine (CM.out _).mono ?_; rintro e w' ⟨rfl, rfl⟩)
    go_ret3
    exact ⟨by rw [HS.out]; rfl, 0, rfl⟩
  · have hgez : ¬ (hi : Int) ≥ (y : Int) := by omega
    have CD := Lib.hid (fun w => div64_any hi lo y w (by omega) (by omega) hlob)
    rw [← hab, ← hq, ← hr] at CD
    by_cases hsm : q ≤ 1099511627776
    · have HS : Hid (scaleR a b y = (q, r, true)) := Lib.hid (by rw [HQ.out, if_pos hsm])
      clear hhi hlo hab hq hr HQ
      go_enter Tryd.func29, Tryd.ntmps29
      go_wp2_with (first | (go_at_call 45; refine (CM.out _).mono ?_; rintro e w' ⟨rfl, rfl⟩) | (go_at_call 46; refine (CD.out _).mono ?_; rintro e w' ⟨rfl, n, rfl⟩))
      go_ret3
      exact ⟨by rw [HS.out]; rfl, _, rfl⟩
    · have HS : Hid (scaleR a b y = (0, 0, false)) := Lib.hid (by rw [HQ.out, if_neg hsm])
      have hqb : q < 18446744073709551616 := by
        rw [hq, Nat.div_lt_iff_lt_mul hy, hab]
        omega
      clear hhi hlo hab hq hr HQ
      go_enter Tryd.func29, Tryd.ntmps29
      go_wp2_with (first | (go_at_call 45; refine (CM.out _).mono ?_; rintro e w' ⟨rfl, rfl⟩) | (go_at_call 46; refine (CD.out _).mono ?_; rintro e w' ⟨rfl, n, rfl⟩))
      go_ret3
      exact ⟨by rw [HS.out]; rfl, _, rfl⟩

/-- hundredths of a percent of an amount, rounded, or the error -/
def percR (a h : Int) : Int × Int := if amtB a && amtB h then (if amtB ((2 * (a * h) + 10000) / 20000) then ((2 * (a * h) + 10000) / 20000, 0) else (0, 11)) else (0, 11)
def percN (neg : Bool) (q r : Nat) : Int := if neg then -((q : Int) + (if 2 * r > 10000 then 1 else 0)) else (q : Int) + (if 2 * r ≥ 10000 then 1 else 0)
theorem perc_sign (a h : Int) : a * h = if (decide (a < 0) != decide (h < 0)) = true then -((a.natAbs * h.natAbs : Nat) : Int) else ((a.natAbs * h.natAbs : Nat) : Int) := by
  rw [Int.natCast_mul]
  by_cases h1 : a < 0 <;> by_cases h2 : h < 0
  · rw [show (a.natAbs : Int) = -a by omega, show (h.natAbs : Int) = -h by omega]; simp [h1, h2, Int.neg_mul, Int.mul_neg, Int.neg_neg]
  · rw [show (a.natAbs : Int) = -a by omega, show (h.natAbs : Int) = h by omega]; simp [h1, h2, Int.neg_mul, Int.mul_neg, Int.neg_neg]
  · rw [show (a.natAbs : Int) = a by omega, show (h.natAbs : Int) = -h by omega]; simp [h1, h2, Int.neg_mul, Int.mul_neg, Int.neg_neg]
  · rw [show (a.natAbs : Int) = a by omega, show (h.natAbs : Int) = h by omega]; simp [h1, h2, Int.neg_mul, Int.mul_neg, Int.neg_neg]
theorem perc_val (a h : Int) : (2 * (a * h) + 10000) / 20000 = percN (decide (a < 0) != decide (h < 0)) (a.natAbs * h.natAbs / 10000) (a.natAbs * h.natAbs % 10000) := by
  rw [perc_sign a h]
  generalize a.natAbs * h.natAbs = X
  generalize (decide (a < 0) != decide (h < 0)) = neg
  unfold percN
  cases neg
  · simp only [Bool.false_eq_true, if_false]
    split <;> omega
  · simp only [if_true]
    split <;> omega
end Go.Proofs.YtalnocdgmcchaaaDoor
