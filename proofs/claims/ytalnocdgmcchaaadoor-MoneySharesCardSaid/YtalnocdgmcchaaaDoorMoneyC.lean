/- Walks of Percent and Up, beside the reference's. -/
import Derived.Test.YtalnocdgmcchaaaDoorMoneyB
namespace Go.Proofs.YtalnocdgmcchaaaDoor
open Go.RowKit
set_option linter.unusedSimpArgs false
set_option linter.unusedVariables false

theorem perc_no (a h : Int) (H : amtB a = false ∨ amtB h = false) : percR a h = (0, 11) := by
  rcases H with H | H <;> simp [percR, H]
theorem perc_yes (a h : Int) (ha : amtB a = true) (hh : amtB h = true) : percR a h = if amtB (percN (decide (a < 0) != decide (h < 0)) (a.natAbs * h.natAbs / 10000) (a.natAbs * h.natAbs % 10000)) then (percN (decide (a < 0) != decide (h < 0)) (a.natAbs * h.natAbs / 10000) (a.natAbs * h.natAbs % 10000), 0) else (0, 11) := by
  rw [← perc_val]
  simp [percR, ha, hh]
theorem percN_big (neg : Bool) (q r : Nat) (h : ¬ q ≤ 1099511627776) : amtB (percN neg q r) = false := by
  refine amt_not ?_
  unfold percN
  cases neg
  · simp only [Bool.false_eq_true, if_false]; split <;> omega
  · simp only [if_true]; split <;> omega

set_option maxRecDepth 100000 in
set_option maxHeartbeats 4000000 in
theorem percent_any (a h : Int) (w : World) : Calls Tryd.prog 16 #[.int .i64 a, .int .i64 h] w fun e w' => e = .returned (.tuple #[.int .i64 (percR a h).1, .int .i64 (percR a h).2]) ∧ ∃ n, w' = w.drewN n := by
  cases ha : amtB a
  · have HR := Lib.hid (perc_no a h (Or.inl ha))
    go_enter Tryd.func16, Tryd.ntmps16
    go_wp2_with (go_at_call 28; refine (isAmount_any _ _).mono ?_; rintro e w' ⟨rfl, rfl⟩)
    go_ret2
    exact ⟨by rw [HR.out]; rfl, 0, rfl⟩
  cases hh : amtB h
  · have HR := Lib.hid (perc_no a h (Or.inr hh))
    go_enter Tryd.func16, Tryd.ntmps16
    go_wp2_with (go_at_call 28; refine (isAmount_any _ _).mono ?_; rintro e w' ⟨rfl, rfl⟩)
    go_ret2
    exact ⟨by rw [HR.out]; rfl, 0, rfl⟩
  obtain ⟨a1, a2⟩ := amt_yes ha
  obtain ⟨h1, h2⟩ := amt_yes hh
  have HP := perc_yes a h ha hh
  obtain ⟨q, hq⟩ : ∃ q, q = a.natAbs * h.natAbs / 10000 := ⟨_, rfl⟩
  obtain ⟨r, hr⟩ : ∃ r, r = a.natAbs * h.natAbs % 10000 := ⟨_, rfl⟩
  have hrb : r < 10000 := by rw [hr]; exact Nat.mod_lt _ (by decide)
  have CS := Lib.hid (fun w => scale_any a.natAbs h.natAbs 10000 w (by omega) (by omega) (by omega) (by omega))
  unfold scaleR at CS
  rw [← hq, ← hr] at CS HP
  have e1 : ((a.natAbs : Nat) : Int) = (a.natAbs : Int) := rfl
  clear hq hr e1
  by_cases hsm : q ≤ 1099511627776
  case neg =>
    have HR : Hid (percR a h = (0, 11)) := Lib.hid (by rw [HP, percN_big _ _ _ hsm]; rfl)
    rw [if_neg hsm] at CS
    clear HP
    go_enter Tryd.func16, Tryd.ntmps16
    go_wp2_with (first | (go_at_call 28; refine (isAmount_any _ _).mono ?_; rintro e w' ⟨rfl, rfl⟩) | (go_at_call 30; refine (size_any _ _ (by omega) (by omega)).mono ?_; rintro e w' ⟨rfl, rfl⟩) | (go_at_call 29; refine (CS.out _).mono ?_; rintro e w' ⟨rfl, n, rfl⟩))
    go_ret2
    exact ⟨by rw [HR.out]; rfl, _, rfl⟩
  rw [if_pos hsm] at CS
  have b10 : (2 * (r : Int) == 10000) = decide (2 * r = 10000) := by
    by_cases h3 : 2 * r = 10000
    · rw [decide_eq_true h3, beq_iff_eq]; omega
    · rw [decide_eq_false h3, beq_eq_false_iff_ne]; omega
  have HB := Lib.hid b10
  clear b10
  have hamt0 := amt_mk (a := (q : Int)) (by omega) (by omega)
  by_cases sa : a < 0 <;> by_cases sh : h < 0
  all_goals
    have HS := HP
    simp only [sa, sh, decide_true, decide_false, bne_self_eq_false, Bool.true_bne, Bool.false_bne, Bool.not_true, Bool.not_false, percN, if_true, Bool.false_eq_true, if_false] at HS
    have HS2 := Lib.hid HS
    have saz : decide (a < 0) = decide (a < 0) := rfl
    have shz : decide (h < 0) = decide (h < 0) := rfl
    conv at saz => rhs; simp only [sa, decide_true, decide_false]
    conv at shz => rhs; simp only [sh, decide_true, decide_false]
    clear HS
    by_cases c1 : 2 * r > 10000
    · have C2 : Hid True := Lib.hid trivial
      have c1z : 2 * (r : Int) > 10000 := by omega
      by_cases c3 : q + 1 ≤ 1099511627776
      · have hamt := amt_mk (a := (q : Int) + 1) (by omega) (by omega)
        have HH := Lib.hid HP
        have C1 := Lib.hid c1
        have C3 := Lib.hid c3
        clear HP c1 c3
        go_enter Tryd.func16, Tryd.ntmps16
        go_wp2_with (first | (go_at_call 28; refine (isAmount_any _ _).mono ?_; rintro e w' ⟨rfl, rfl⟩) | (go_at_call 30; refine (size_any _ _ (by omega) (by omega)).mono ?_; rintro e w' ⟨rfl, rfl⟩) | (go_at_call 29; refine (CS.out _).mono ?_; rintro e w' ⟨rfl, n, rfl⟩) | (go_at_call 31; refine (signed_any _ _ _ (by omega) (by omega)).mono ?_; rintro e w' ⟨rfl, rfl⟩))
        go_ret2
        refine ⟨?_, _, rfl⟩
        first
        | (have e : percR a h = ((q : Int) + 1, 0) := by rw [HS2.out, if_pos (show (2 * _ : Nat) ≥ 10000 by have := C1.out; have := C2.out; have := C3.out; omega), if_pos (amt_mk (by have := C1.out; have := C2.out; have := C3.out; omega) (by have := C1.out; have := C2.out; have := C3.out; omega))]
           rw [e]; rfl)
        | (have e : percR a h = (-((q : Int) + 1), 0) := by rw [HS2.out, if_pos (show (2 * _ : Nat) > 10000 by have := C1.out; have := C2.out; have := C3.out; omega), if_pos (amt_mk (by have := C1.out; have := C2.out; have := C3.out; omega) (by have := C1.out; have := C2.out; have := C3.out; omega))]
           rw [e]; rfl)
      · have hamt := amt_not (a := (q : Int) + 1) (by omega)
        have HH := Lib.hid HP
        have C1 := Lib.hid c1
        have C3 := Lib.hid c3
        clear HP c1 c3
        go_enter Tryd.func16, Tryd.ntmps16
        go_wp2_with (first | (go_at_call 28; refine (isAmount_any _ _).mono ?_; rintro e w' ⟨rfl, rfl⟩) | (go_at_call 30; refine (size_any _ _ (by omega) (by omega)).mono ?_; rintro e w' ⟨rfl, rfl⟩) | (go_at_call 29; refine (CS.out _).mono ?_; rintro e w' ⟨rfl, n, rfl⟩) | (go_at_call 31; refine (signed_any _ _ _ (by omega) (by omega)).mono ?_; rintro e w' ⟨rfl, rfl⟩))
        go_ret2
        refine ⟨?_, _, rfl⟩
        first
        | (have e : percR a h = (0, 11) := by rw [HS2.out, if_pos (show (2 * _ : Nat) ≥ 10000 by have := C1.out; have := C2.out; have := C3.out; omega), amt_not (by have := C1.out; have := C2.out; have := C3.out; omega)]; rfl
           rw [e]; rfl)
        | (have e : percR a h = (0, 11) := by rw [HS2.out, if_pos (show (2 * _ : Nat) > 10000 by have := C1.out; have := C2.out; have := C3.out; omega), amt_not (by have := C1.out; have := C2.out; have := C3.out; omega)]; rfl
           rw [e]; rfl)
    have c1z : ¬ 2 * (r : Int) > 10000 := by omega
    by_cases c2 : 2 * r = 10000
    · obtain rfl : r = 5000 := by omega
      have C2 : Hid True := Lib.hid trivial
      clear c2 c1z hrb HB
      by_cases c3 : q + 1 ≤ 1099511627776
      · have hamt := amt_mk (a := (q : Int) + 1) (by omega) (by omega)
        have HH := Lib.hid HP
        have C1 := Lib.hid c1
        have C3 := Lib.hid c3
        clear HP c1 c3
        go_enter Tryd.func16, Tryd.ntmps16
        go_wp2_with (first | (go_at_call 28; refine (isAmount_any _ _).mono ?_; rintro e w' ⟨rfl, rfl⟩) | (go_at_call 30; refine (size_any _ _ (by omega) (by omega)).mono ?_; rintro e w' ⟨rfl, rfl⟩) | (go_at_call 29; refine (CS.out _).mono ?_; rintro e w' ⟨rfl, n, rfl⟩) | (go_at_call 31; refine (signed_any _ _ _ (by omega) (by omega)).mono ?_; rintro e w' ⟨rfl, rfl⟩))
        go_ret2
        refine ⟨?_, _, rfl⟩
        first
        | (have e : percR a h = ((q : Int) + 1, 0) := by rw [HS2.out, if_pos (show (2 * _ : Nat) ≥ 10000 by have := C1.out; have := C2.out; have := C3.out; omega), if_pos (amt_mk (by have := C1.out; have := C2.out; have := C3.out; omega) (by have := C1.out; have := C2.out; have := C3.out; omega))]
           rw [e]; rfl)
        | (have e : percR a h = (-(q : Int), 0) := by rw [HS2.out, if_neg (show ¬ (2 * _ : Nat) > 10000 by have := C1.out; have := C2.out; have := C3.out; omega), Int.add_zero, if_pos (amt_mk (by have := C1.out; have := C2.out; have := C3.out; omega) (by have := C1.out; have := C2.out; have := C3.out; omega))]
           rw [e]; rfl)
      · have hamt := amt_not (a := (q : Int) + 1) (by omega)
        have HH := Lib.hid HP
        have C1 := Lib.hid c1
        have C3 := Lib.hid c3
        clear HP c1 c3
        go_enter Tryd.func16, Tryd.ntmps16
        go_wp2_with (first | (go_at_call 28; refine (isAmount_any _ _).mono ?_; rintro e w' ⟨rfl, rfl⟩) | (go_at_call 30; refine (size_any _ _ (by omega) (by omega)).mono ?_; rintro e w' ⟨rfl, rfl⟩) | (go_at_call 29; refine (CS.out _).mono ?_; rintro e w' ⟨rfl, n, rfl⟩) | (go_at_call 31; refine (signed_any _ _ _ (by omega) (by omega)).mono ?_; rintro e w' ⟨rfl, rfl⟩))
        go_ret2
        refine ⟨?_, _, rfl⟩
        first
        | (have e : percR a h = (0, 11) := by rw [HS2.out, if_pos (show (2 * _ : Nat) ≥ 10000 by have := C1.out; have := C2.out; have := C3.out; omega), amt_not (by have := C1.out; have := C2.out; have := C3.out; omega)]; rfl
           rw [e]; rfl)
        | (have e : percR a h = (-(q : Int), 0) := by rw [HS2.out, if_neg (show ¬ (2 * _ : Nat) > 10000 by have := C1.out; have := C2.out; have := C3.out; omega), Int.add_zero, if_pos (amt_mk (by have := C1.out; have := C2.out; have := C3.out; omega) (by have := C1.out; have := C2.out; have := C3.out; omega))]
           rw [e]; rfl)
    · have c2z : (2 * (r : Int) == 10000) = false := by rw [beq_eq_false_iff_ne]; omega
      have C2 := Lib.hid c2
      clear c2
      have HH := Lib.hid HP
      have C1 := Lib.hid c1
      have C3 : Hid True := Lib.hid trivial
      clear HP c1
      go_enter Tryd.func16, Tryd.ntmps16
      go_wp2_with (first | (go_at_call 28; refine (isAmount_any _ _).mono ?_; rintro e w' ⟨rfl, rfl⟩) | (go_at_call 30; refine (size_any _ _ (by omega) (by omega)).mono ?_; rintro e w' ⟨rfl, rfl⟩) | (go_at_call 29; refine (CS.out _).mono ?_; rintro e w' ⟨rfl, n, rfl⟩) | (go_at_call 31; refine (signed_any _ _ _ (by omega) (by omega)).mono ?_; rintro e w' ⟨rfl, rfl⟩))
      go_ret2
      refine ⟨?_, _, rfl⟩
      first
      | (have e : percR a h = ((q : Int), 0) := by rw [HS2.out, if_neg (show ¬ (2 * _ : Nat) ≥ 10000 by have := C1.out; have := C2.out; have := C3.out; omega), Int.add_zero, if_pos (amt_mk (by have := C1.out; have := C2.out; have := C3.out; omega) (by have := C1.out; have := C2.out; have := C3.out; omega))]
         rw [e]; rfl)
      | (have e : percR a h = (-(q : Int), 0) := by rw [HS2.out, if_neg (show ¬ (2 * _ : Nat) > 10000 by have := C1.out; have := C2.out; have := C3.out; omega), Int.add_zero, if_pos (amt_mk (by have := C1.out; have := C2.out; have := C3.out; omega) (by have := C1.out; have := C2.out; have := C3.out; omega))]
         rw [e]; rfl)

/-- the next multiple of a unit, or the error -/
def upR (a u : Int) : Int × Int := if u < 1 then (0, 2) else if amtB a then (if amtB (a + (-a) % u) then (a + (-a) % u, 0) else (0, 11)) else (0, 11)
theorem up_rem (a u : Int) (hu : 1 ≤ u) : 0 ≤ (-a) % u ∧ (-a) % u < u := ⟨Int.emod_nonneg _ (by omega), Int.emod_lt_of_pos _ (by omega)⟩
theorem div_bounds (a u : Int) (hu : 1 ≤ u) (h1 : -1099511627776 ≤ a) (h2 : a ≤ 1099511627776) : -1099511627777 ≤ a / u ∧ a / u ≤ 1099511627776 := by
  have hd := Int.mul_ediv_add_emod a u
  have r1 := Int.emod_nonneg a (show u ≠ 0 by omega)
  have r2 := Int.emod_lt_of_pos a (show 0 < u by omega)
  constructor
  · rcases Int.lt_or_le (a / u) (-1099511627777) with h | h
    · exfalso
      have : u * (a / u) ≤ u * (-1099511627778) := Int.mul_le_mul_of_nonneg_left (by omega) (by omega)
      omega
    · exact h
  · rcases Int.lt_or_le 1099511627776 (a / u) with h | h
    · exfalso
      have : u * 1099511627777 ≤ u * (a / u) := Int.mul_le_mul_of_nonneg_left (by omega) (by omega)
      omega
    · exact h
/-- the rest by a unit, and what is lacking of the next multiple -/
theorem up_any_sign (a u : Int) (hu : 1 ≤ u) (h1 : -1099511627776 ≤ a) (h2 : a ≤ 1099511627776) (hu2 : u ≤ 9223372036854775807) :
    ∃ e, (a % u = e ∧ (-a) % u = if e = 0 then 0 else u - e) ∧ 0 ≤ e ∧ e < u ∧ a - e + u ≤ 9223372036854775807 ∧ -9223372036854775808 ≤ a - e + u := by
  have r1 := Int.emod_nonneg a (show u ≠ 0 by omega)
  have r2 := Int.emod_lt_of_pos a (show 0 < u by omega)
  have hd := Int.mul_ediv_add_emod a u
  refine ⟨a % u, ⟨rfl, ?_⟩, r1, r2, ?_, by omega⟩
  · by_cases h : a % u = 0
    · rw [if_pos h]
      exact Int.emod_eq_zero_of_dvd (Int.dvd_neg.2 (Int.dvd_of_emod_eq_zero h))
    · rw [if_neg h]
      have := (Int.ediv_emod_unique (a := -a) (b := u) (r := u - a % u) (q := -(a / u) - 1) (by omega)).2 ⟨by rw [Int.mul_sub, Int.mul_neg, Int.mul_one]; omega, by omega, by omega⟩
      exact this.2
  · by_cases h3 : a < u
    · by_cases h4 : 0 ≤ a
      · rw [Int.emod_eq_of_lt h4 h3]; omega
      · omega
    · omega
theorem up_pos (a u : Int) (hu : 1 ≤ u) (h1 : 0 ≤ a) (h2 : a ≤ 1099511627776) (hu2 : u ≤ 9223372036854775807) :
    ∃ e, (a % u = e ∧ (-a) % u = if e = 0 then 0 else u - e) ∧ 0 ≤ e ∧ e < u ∧ a - e + u ≤ 9223372036854775807 ∧ e ≤ a := by
  obtain ⟨e, he, e1, e2, e3, e4⟩ := up_any_sign a u hu (by omega) h2 hu2
  refine ⟨e, he, e1, e2, e3, ?_⟩
  have hd := Int.mul_ediv_add_emod a u
  have hq : 0 ≤ u * (a / u) := Int.mul_nonneg (by omega) (Int.ediv_nonneg h1 (by omega))
  rw [he.1] at hd
  omega
theorem up_neg (a u : Int) (hu : 1 ≤ u) (ha : a < 0) : ∃ t, a.tmod u = t ∧ -u < t ∧ t ≤ 0 ∧ (-a) % u = -t := by
  refine ⟨a.tmod u, rfl, Int.lt_tmod_of_pos a (by omega), ?_, ?_⟩
  · have h1 := Int.tmod_nonneg u (show 0 ≤ -a by omega)
    rw [Int.neg_tmod] at h1
    omega
  · have h1 := Int.tmod_eq_emod_of_nonneg (a := -a) (b := u) (by omega)
    rw [← h1, Int.neg_tmod]
set_option maxHeartbeats 1000000 in
theorem up_any (a u : Int) (w : World) (hu : -9223372036854775808 ≤ u) (hu2 : u ≤ 9223372036854775807) : Calls Tryd.prog 18 #[.int .i64 a, .int .i64 u] w fun e w' => e = .returned (.tuple #[.int .i64 (upR a u).1, .int .i64 (upR a u).2]) ∧ w = w' := by
  by_cases h1 : u < 1
  · have HR : Hid (upR a u = (0, 2)) := Lib.hid (by rw [upR, if_pos h1])
    go_enter Tryd.func18, Tryd.ntmps18
    go_wp2
    go_ret2
    exact ⟨by rw [HR.out]; rfl, rfl⟩
  cases ha : amtB a
  · have HR : Hid (upR a u = (0, 11)) := Lib.hid (by rw [upR, if_neg h1, ha]; rfl)
    go_enter Tryd.func18, Tryd.ntmps18
    go_wp2_with (go_at_call 28; refine (isAmount_any _ _).mono ?_; rintro e w' ⟨rfl, rfl⟩)
    go_ret2
    exact ⟨by rw [HR.out]; rfl, rfl⟩
  obtain ⟨a1, a2⟩ := amt_yes ha
  have HR : upR a u = if amtB (a + (-a) % u) then (a + (-a) % u, 0) else (0, 11) := by rw [upR, if_neg h1, ha]; rfl
  by_cases hs : 0 ≤ a
  · obtain ⟨e, he, e1, e2, e3, e4⟩ := up_pos a u (by omega) hs a2 hu2
    rw [he.2] at HR
    obtain ⟨he, _⟩ := he
    by_cases h0 : e = 0
    · subst h0
      have hlt : ¬ a - 0 < a := by omega
      rw [if_pos rfl, Int.add_zero, ha] at HR
      have HR2 := Lib.hid HR
      clear HR
      go_enter Tryd.func18, Tryd.ntmps18
      go_wp2_with (go_at_call 28; refine (isAmount_any _ _).mono ?_; rintro e w' ⟨rfl, rfl⟩)
      go_ret2
      exact ⟨by rw [HR2.out]; rfl, rfl⟩
    · have hlt : a - e < a := by omega
      rw [if_neg h0] at HR
      cases hm : amtB (a - e + u)
      · have HR2 : Hid (upR a u = (0, 11)) := Lib.hid (by rw [HR, show a + (u - e) = a - e + u by omega, hm]; rfl)
        clear HR h0
        go_enter Tryd.func18, Tryd.ntmps18
        go_wp2_with (go_at_call 28; refine (isAmount_any _ _).mono ?_; rintro e w' ⟨rfl, rfl⟩)
        go_ret2
        exact ⟨by rw [HR2.out]; rfl, rfl⟩
      · have HR2 : Hid (upR a u = (a - e + u, 0)) := Lib.hid (by rw [HR, show a + (u - e) = a - e + u by omega, hm]; rfl)
        clear HR h0
        go_enter Tryd.func18, Tryd.ntmps18
        go_wp2_with (go_at_call 28; refine (isAmount_any _ _).mono ?_; rintro e w' ⟨rfl, rfl⟩)
        go_ret2
        exact ⟨by rw [HR2.out]; rfl, rfl⟩
  · obtain ⟨t, ht, t1, t2, t3⟩ := up_neg a u (by omega) (by omega)
    rw [t3] at HR
    have hlt : ¬ a - t < a := by omega
    have hle := Lib.hid t2
    cases hm : amtB (a - t)
    · have HR2 : Hid (upR a u = (0, 11)) := Lib.hid (by rw [HR, show a + -t = a - t by omega, hm]; rfl)
      clear HR t3
      go_enter Tryd.func18, Tryd.ntmps18
      go_wp2_with (go_at_call 28; refine (isAmount_any _ _).mono ?_; rintro e w' ⟨rfl, rfl⟩)
      go_ret2
      exact ⟨by rw [HR2.out]; rfl, rfl⟩
    · have HR2 : Hid (upR a u = (a - t, 0)) := Lib.hid (by rw [HR, show a + -t = a - t by omega, hm]; rfl)
      clear HR t3
      go_enter Tryd.func18, Tryd.ntmps18
      go_wp2_with (go_at_call 28; refine (isAmount_any _ _).mono ?_; rintro e w' ⟨rfl, rfl⟩)
      go_ret2
      exact ⟨by rw [HR2.out]; rfl, rfl⟩

set_option maxHeartbeats 1000000 in
theorem rup_any (a u : Int) (w : World) (hu : -9223372036854775808 ≤ u) (hu2 : u ≤ 9223372036854775807) : Calls Tryd.prog 19 #[.int .i64 a, .int .i64 u] w fun e w' => e = .returned (.tuple #[.int .i64 (upR a u).1, .int .i64 (upR a u).2]) ∧ ∃ n, w' = w.drewN n := by
  by_cases h1 : u < 1
  · have HR : Hid (upR a u = (0, 2)) := Lib.hid (by rw [upR, if_pos h1])
    go_enter Tryd.func19, Tryd.ntmps19
    go_wp2
    go_ret2
    exact ⟨by rw [HR.out]; rfl, 0, rfl⟩
  cases ha : amtB a
  · have HR : Hid (upR a u = (0, 11)) := Lib.hid (by rw [upR, if_neg h1, ha]; rfl)
    go_enter Tryd.func19, Tryd.ntmps19
    go_wp2_with (go_at_call 26; refine (ramount_any _ _).mono ?_; rintro e w' ⟨rfl, rfl⟩)
    go_ret2
    exact ⟨by rw [HR.out]; rfl, 0, rfl⟩
  obtain ⟨a1, a2⟩ := amt_yes ha
  have HR : upR a u = if amtB (a + (-a) % u) then (a + (-a) % u, 0) else (0, 11) := by rw [upR, if_neg h1, ha]; rfl
  have CF := Lib.hid (fun w => rfloor_any a u w (by omega) hu2 (by omega) (by omega))
  obtain ⟨e, he, e1, e2, e3, e4⟩ := up_any_sign a u (by omega) a1 a2 hu2
  obtain ⟨q, hq⟩ : ∃ q, q = a / u := ⟨_, rfl⟩
  have hdm := Int.mul_ediv_add_emod a u
  rw [he.2] at HR
  obtain ⟨he, _⟩ := he
  rw [he, ← hq] at hdm
  rw [← hq, he] at CF
  have hqb : -1099511627777 ≤ q ∧ q ≤ 1099511627776 := by
    rw [hq]
    exact div_bounds a u (by omega) a1 a2
  obtain ⟨hq1, hq2⟩ := hqb
  have HDM := Lib.hid hdm
  clear hq he hdm
  by_cases h0 : e = 0
  · subst h0
    have hprod : q * u = a := by rw [Int.mul_comm]; have := HDM.out; omega
    have hpw : IntKind.i64.wrap (q * u) = a := by rw [hprod, IntKind.wrap_i64]; omega
    rw [if_pos rfl, Int.add_zero, ha] at HR
    have HR2 := Lib.hid HR
    clear HR
    go_enter Tryd.func19, Tryd.ntmps19
    go_wp2_with (first | (go_at_call 26; refine (ramount_any _ _).mono ?_; rintro e w' ⟨rfl, rfl⟩) | (go_at_call 32; refine (CF.out _).mono ?_; rintro e w' ⟨rfl, n, rfl⟩))
    go_ret2
    exact ⟨by rw [HR2.out]; rfl, _, rfl⟩
  · have hpos : e > 0 := by omega
    have hprod : (q + 1) * u = a - e + u := by rw [Int.add_mul, Int.mul_comm q]; have := HDM.out; omega
    have hpw : IntKind.i64.wrap ((q + 1) * u) = a - e + u := by rw [hprod, IntKind.wrap_i64]; omega
    rw [if_neg h0] at HR
    cases hm : amtB (a - e + u)
    · have HR2 : Hid (upR a u = (0, 11)) := Lib.hid (by rw [HR, show a + (u - e) = a - e + u by omega, hm]; rfl)
      clear HR h0
      go_enter Tryd.func19, Tryd.ntmps19
      go_wp2_with (first | (go_at_call 26; refine (ramount_any _ _).mono ?_; rintro e w' ⟨rfl, rfl⟩) | (go_at_call 32; refine (CF.out _).mono ?_; rintro e w' ⟨rfl, n, rfl⟩))
      go_ret2
      exact ⟨by rw [HR2.out]; rfl, _, rfl⟩
    · have HR2 : Hid (upR a u = (a - e + u, 0)) := Lib.hid (by rw [HR, show a + (u - e) = a - e + u by omega, hm]; rfl)
      clear HR h0
      go_enter Tryd.func19, Tryd.ntmps19
      go_wp2_with (first | (go_at_call 26; refine (ramount_any _ _).mono ?_; rintro e w' ⟨rfl, rfl⟩) | (go_at_call 32; refine (CF.out _).mono ?_; rintro e w' ⟨rfl, n, rfl⟩))
      go_ret2
      exact ⟨by rw [HR2.out]; rfl, _, rfl⟩
end Go.Proofs.YtalnocdgmcchaaaDoor
