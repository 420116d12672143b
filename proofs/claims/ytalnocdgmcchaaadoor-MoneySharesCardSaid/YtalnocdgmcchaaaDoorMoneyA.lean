/- Walks of the small functions of package money, and of Add, Sub, Up, Percent, beside the reference's. -/
import Derived.Test.YtalnocdgmcchaaaDoorRows
import Derived.Test.YtalnocdgmcchaaaDoorDiv
import Derived.Test.YtalnocdgmcchaaaDoorMem
import Derived.OwnWalk
namespace Go.Proofs.YtalnocdgmcchaaaDoor
open Go.RowKit
set_option linter.unusedSimpArgs false
set_option linter.unusedVariables false

/-- an amount -/
def amtB (a : Int) : Bool := decide (-1099511627776 ≤ a ∧ a ≤ 1099511627776)
theorem amt_yes {a : Int} (h : amtB a = true) : -1099511627776 ≤ a ∧ a ≤ 1099511627776 := by simpa [amtB] using h
theorem amt_mk {a : Int} (h1 : -1099511627776 ≤ a) (h2 : a ≤ 1099511627776) : amtB a = true := by simp [amtB, h1, h2]
theorem amt_no {a : Int} (h : amtB a = false) : a < -1099511627776 ∨ 1099511627776 < a := by simp [amtB] at h; omega
theorem amt_not {a : Int} (h : a < -1099511627776 ∨ 1099511627776 < a) : amtB a = false := by simp [amtB]; omega
theorem ret_pair {k j : IntKind} {a b c d : Int} (h : a = b) (h2 : c = d) : Ending.returned (.tuple #[.int k a, .int j c]) = .returned (.tuple #[.int k b, .int j d]) := by rw [h, h2]

set_option maxHeartbeats 400000 in
theorem isAmount_any (a : Int) (w : World) : Calls Tryd.prog 28 #[.int .i64 a] w fun e w' => e = .returned (.bool (amtB a)) ∧ w = w' := by
  by_cases h1 : (-1099511627776 : Int) ≤ a
  · go_enter Tryd.func28, Tryd.ntmps28
    go_wp2
    go_ret
    exact ⟨ret_bool (by simp [amtB]; omega), rfl⟩
  · go_enter Tryd.func28, Tryd.ntmps28
    go_wp2
    go_ret
    exact ⟨ret_bool (by simp [amtB]; omega), rfl⟩
set_option maxHeartbeats 400000 in
theorem ramount_any (a : Int) (w : World) : Calls Tryd.prog 26 #[.int .i64 a] w fun e w' => e = .returned (.bool (amtB a)) ∧ w = w' := by
  by_cases h1 : (a : Int) ≥ -1099511627776
  · go_enter Tryd.func26, Tryd.ntmps26
    go_wp2
    go_ret
    exact ⟨ret_bool (by simp [amtB]; omega), rfl⟩
  · go_enter Tryd.func26, Tryd.ntmps26
    go_wp2
    go_ret
    exact ⟨ret_bool (by simp [amtB]; omega), rfl⟩
set_option maxHeartbeats 400000 in
theorem signed_any (a : Int) (b : Bool) (w : World) (h1 : -9223372036854775808 < a) (h2 : a ≤ 9223372036854775807) :
    Calls Tryd.prog 31 #[.int .i64 a, .bool b] w fun e w' => e = .returned (.int .i64 (if b then -a else a)) ∧ w = w' := by
  cases b
  · go_enter Tryd.func31, Tryd.ntmps31
    go_wp2
    go_ret
    exact ⟨rfl, rfl⟩
  · go_enter Tryd.func31, Tryd.ntmps31
    go_wp2
    go_ret
    exact ⟨rfl, rfl⟩
set_option maxHeartbeats 400000 in
theorem size_any (a : Int) (w : World) (h1 : -9223372036854775808 < a) (h2 : a ≤ 9223372036854775807) :
    Calls Tryd.prog 30 #[.int .i64 a] w fun e w' => e = .returned (.int .i64 (a.natAbs : Int)) ∧ w = w' := by
  by_cases h : a < 0
  · go_enter Tryd.func30, Tryd.ntmps30
    go_wp2_with (go_at_call 31; refine (signed_any _ _ _ h1 h2).mono ?_; rintro e w' ⟨rfl, rfl⟩)
    go_ret
    exact ⟨ret_int (by first | omega | (simp; omega)), rfl⟩
  · go_enter Tryd.func30, Tryd.ntmps30
    go_wp2_with (go_at_call 31; refine (signed_any _ _ _ h1 h2).mono ?_; rintro e w' ⟨rfl, rfl⟩)
    go_ret
    exact ⟨ret_int (by first | omega | (simp; omega)), rfl⟩
set_option maxHeartbeats 400000 in
theorem rsize_any (a : Int) (w : World) (h1 : -9223372036854775808 < a) (h2 : a ≤ 9223372036854775807) :
    Calls Tryd.prog 33 #[.int .i64 a] w fun e w' => e = .returned (.int .i64 (a.natAbs : Int)) ∧ w = w' := by
  by_cases h : a < 0
  · go_enter Tryd.func33, Tryd.ntmps33
    go_wp2
    go_ret
    exact ⟨ret_int (by omega), rfl⟩
  · go_enter Tryd.func33, Tryd.ntmps33
    go_wp2
    go_ret
    exact ⟨ret_int (by omega), rfl⟩

/-- the sum of two amounts, or the error -/
def addR (a b : Int) : Int × Int := if amtB a && (amtB b && amtB (a + b)) then (a + b, 0) else (0, 11)
set_option maxHeartbeats 1000000 in
theorem add_any (a b : Int) (w : World) : Calls Tryd.prog 10 #[.int .i64 a, .int .i64 b] w fun e w' => e = .returned (.tuple #[.int .i64 (addR a b).1, .int .i64 (addR a b).2]) ∧ w = w' := by
  cases ha : amtB a
  · have HR : Hid (addR a b = (0, 11)) := Lib.hid (by simp [addR, ha])
    go_enter Tryd.func10, Tryd.ntmps10
    go_wp2_with (go_at_call 28; refine (isAmount_any _ _).mono ?_; rintro e w' ⟨rfl, rfl⟩)
    go_ret2
    exact ⟨by rw [HR.out]; rfl, rfl⟩
  · cases hb : amtB b
    · have HR : Hid (addR a b = (0, 11)) := Lib.hid (by simp [addR, hb])
      go_enter Tryd.func10, Tryd.ntmps10
      go_wp2_with (go_at_call 28; refine (isAmount_any _ _).mono ?_; rintro e w' ⟨rfl, rfl⟩)
      go_ret2
      exact ⟨by rw [HR.out]; rfl, rfl⟩
    · obtain ⟨a1, a2⟩ := amt_yes ha
      obtain ⟨b1, b2⟩ := amt_yes hb
      cases hs : amtB (a + b)
      · have HR : Hid (addR a b = (0, 11)) := Lib.hid (by simp [addR, hs])
        go_enter Tryd.func10, Tryd.ntmps10
        go_wp2_with (go_at_call 28; refine (isAmount_any _ _).mono ?_; rintro e w' ⟨rfl, rfl⟩)
        go_ret2
        exact ⟨by rw [HR.out]; rfl, rfl⟩
      · have HR : Hid (addR a b = (a + b, 0)) := Lib.hid (by simp [addR, ha, hb, hs])
        go_enter Tryd.func10, Tryd.ntmps10
        go_wp2_with (go_at_call 28; refine (isAmount_any _ _).mono ?_; rintro e w' ⟨rfl, rfl⟩)
        go_ret2
        exact ⟨by rw [HR.out]; rfl, rfl⟩
set_option maxHeartbeats 1000000 in
theorem radd_any (a b : Int) (w : World) : Calls Tryd.prog 11 #[.int .i64 a, .int .i64 b] w fun e w' => e = .returned (.tuple #[.int .i64 (addR a b).1, .int .i64 (addR a b).2]) ∧ w = w' := by
  cases ha : amtB a
  · have HR : Hid (addR a b = (0, 11)) := Lib.hid (by simp [addR, ha])
    go_enter Tryd.func11, Tryd.ntmps11
    go_wp2_with (go_at_call 26; refine (ramount_any _ _).mono ?_; rintro e w' ⟨rfl, rfl⟩)
    go_ret2
    exact ⟨by rw [HR.out]; rfl, rfl⟩
  · cases hb : amtB b
    · have HR : Hid (addR a b = (0, 11)) := Lib.hid (by simp [addR, hb])
      go_enter Tryd.func11, Tryd.ntmps11
      go_wp2_with (go_at_call 26; refine (ramount_any _ _).mono ?_; rintro e w' ⟨rfl, rfl⟩)
      go_ret2
      exact ⟨by rw [HR.out]; rfl, rfl⟩
    · obtain ⟨a1, a2⟩ := amt_yes ha
      obtain ⟨b1, b2⟩ := amt_yes hb
      cases hs : amtB (a + b)
      · have HR : Hid (addR a b = (0, 11)) := Lib.hid (by simp [addR, hs])
        go_enter Tryd.func11, Tryd.ntmps11
        go_wp2_with (go_at_call 26; refine (ramount_any _ _).mono ?_; rintro e w' ⟨rfl, rfl⟩)
        go_ret2
        exact ⟨by rw [HR.out]; rfl, rfl⟩
      · have HR : Hid (addR a b = (a + b, 0)) := Lib.hid (by simp [addR, ha, hb, hs])
        go_enter Tryd.func11, Tryd.ntmps11
        go_wp2_with (go_at_call 26; refine (ramount_any _ _).mono ?_; rintro e w' ⟨rfl, rfl⟩)
        go_ret2
        exact ⟨by rw [HR.out]; rfl, rfl⟩
/-- the difference of two amounts, or the error -/
def subR (a b : Int) : Int × Int := if amtB b then addR a (-b) else (0, 11)
theorem add_not (a b : Int) (h : amtB b = false) : addR a b = (0, 11) := by simp [addR, h]
set_option maxHeartbeats 1000000 in
theorem sub_any (a b : Int) (w : World) (h1 : -9223372036854775808 ≤ b) (h2 : b ≤ 9223372036854775807) : Calls Tryd.prog 12 #[.int .i64 a, .int .i64 b] w fun e w' => e = .returned (.tuple #[.int .i64 (subR a b).1, .int .i64 (subR a b).2]) ∧ w = w' := by
  have hneg : Hid (subR a b = addR a (IntKind.i64.wrap (-b))) := Lib.hid (by
    cases hb : amtB b
    · rw [add_not _ _ (by
        have := amt_no hb
        refine amt_not ?_
        rw [IntKind.wrap_i64]; omega)]
      simp [subR, hb]
    · have := amt_yes hb
      rw [show IntKind.i64.wrap (-b) = -b by rw [IntKind.wrap_i64]; omega]
      simp [subR, hb])
  obtain ⟨c, hc⟩ : ∃ c, IntKind.i64.wrap (-b) = c := ⟨_, rfl⟩
  have hc2 : wrap64 (-b) = c := by rw [← hc]; simp [IntKind.wrap_i64, wrap64]
  rw [hc] at hneg
  clear h1 h2
  go_enter Tryd.func12, Tryd.ntmps12
  go_wp2_with (go_at_call 10; refine (add_any _ _ _).mono ?_; rintro e w' ⟨rfl, rfl⟩)
  go_ret2
  exact ⟨by rw [hneg.out]; rfl, rfl⟩
set_option maxHeartbeats 1000000 in
theorem rsub_any (a b : Int) (w : World) : Calls Tryd.prog 13 #[.int .i64 a, .int .i64 b] w fun e w' => e = .returned (.tuple #[.int .i64 (subR a b).1, .int .i64 (subR a b).2]) ∧ w = w' := by
  cases hb : amtB b
  · have HR : Hid (subR a b = (0, 11)) := Lib.hid (by simp [subR, hb])
    go_enter Tryd.func13, Tryd.ntmps13
    go_wp2_with (first | (go_at_call 26; refine (ramount_any _ _).mono ?_; rintro e w' ⟨rfl, rfl⟩) | (go_at_call 11; refine (radd_any _ _ _).mono ?_; rintro e w' ⟨rfl, rfl⟩))
    go_ret2
    exact ⟨by rw [HR.out]; rfl, rfl⟩
  · obtain ⟨b1, b2⟩ := amt_yes hb
    have HR : Hid (subR a b = addR a (-b)) := Lib.hid (by simp [subR, hb])
    go_enter Tryd.func13, Tryd.ntmps13
    go_wp2_with (first | (go_at_call 26; refine (ramount_any _ _).mono ?_; rintro e w' ⟨rfl, rfl⟩) | (go_at_call 11; refine (radd_any _ _ _).mono ?_; rintro e w' ⟨rfl, rfl⟩))
    go_ret2
    exact ⟨by rw [HR.out]; rfl, rfl⟩

theorem trunc_neg (a b : Int) (hb : 0 < b) (ha : a < 0) : ∃ q r, a.tdiv b = q ∧ a.tmod b = r ∧ b * q + r = a ∧ -b < r ∧ r ≤ 0 := by
  refine ⟨_, _, rfl, rfl, Int.mul_tdiv_add_tmod a b, Int.lt_tmod_of_pos a hb, ?_⟩
  have h1 := Int.tmod_nonneg b (show 0 ≤ -a by omega)
  rw [Int.neg_tmod] at h1
  omega
theorem trunc_bounds {a b q r : Int} (h : b * q + r = a) (hb : 0 < b) (h1 : -b < r) (h2 : r ≤ 0) (ha : a < 0) : a ≤ q ∧ q ≤ 0 := by
  have hq : q ≤ 0 := by
    rcases Int.lt_or_le 0 q with h3 | h3
    · exfalso
      have : b * 1 ≤ b * q := Int.mul_le_mul_of_nonneg_left (by omega) (by omega)
      omega
    · exact h3
  refine ⟨?_, hq⟩
  have : b * q ≤ 1 * q := Int.mul_le_mul_of_nonpos_right (by omega) hq
  omega
set_option maxHeartbeats 1000000 in
theorem rfloor_any (a b : Int) (w : World) (hb : 0 < b) (hb2 : b ≤ 9223372036854775807) (h1 : -4611686018427387904 ≤ a) (h2 : a ≤ 4611686018427387904) :
    Calls Tryd.prog 32 #[.int .i64 a, .int .i64 b] w fun e w' => e = .returned (.tuple #[.int .i64 (a / b), .int .i64 (a % b)]) ∧ ∃ n, w' = w.drewN n := by
  by_cases h : 0 ≤ a
  · have hp : 0 ≤ a % b := Int.emod_nonneg _ (by omega)
    go_enter Tryd.func32, Tryd.ntmps32
    go_wp2_with fail
    go_quiet (fail)
    go_wp2
    go_ret2
    exact ⟨rfl, ⟨_, rfl⟩⟩
  · obtain ⟨q, r, hq, hr, hsum, hr1, hr2⟩ := trunc_neg a b hb (by omega)
    have hq1 : a ≤ q ∧ q ≤ 0 := trunc_bounds hsum hb hr1 hr2 (by omega)
    obtain ⟨hq2, hq3⟩ := hq1
    have HS := Lib.hid hsum
    have hw : IntKind.i64.wrap q = q := by rw [IntKind.wrap_i64]; omega
    clear hsum
    by_cases h0 : r < 0
    · have e := (Int.ediv_emod_unique (a := a) (b := b) (r := r + b) (q := q - 1) hb).2 ⟨by have := HS.out; rw [Int.mul_sub, Int.mul_one]; omega, by omega, by omega⟩
      have HE := Lib.hid e
      clear e
      go_enter Tryd.func32, Tryd.ntmps32
      go_wp2_with fail
      go_quiet (fail)
      go_wp2
      go_ret2
      exact ⟨ret_pair HE.out.1.symm HE.out.2.symm, ⟨_, rfl⟩⟩
    · have e := (Int.ediv_emod_unique (a := a) (b := b) (r := r) (q := q) hb).2 ⟨by have := HS.out; omega, by omega, by omega⟩
      have HE := Lib.hid e
      clear e
      go_enter Tryd.func32, Tryd.ntmps32
      go_wp2_with fail
      go_quiet (fail)
      go_wp2
      go_ret2
      exact ⟨ret_pair HE.out.1.symm HE.out.2.symm, ⟨_, rfl⟩⟩
end Go.Proofs.YtalnocdgmcchaaaDoor
