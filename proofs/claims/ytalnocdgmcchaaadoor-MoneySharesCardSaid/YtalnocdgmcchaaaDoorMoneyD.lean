/- The reference's Percent, and sums over lists. -/
import Derived.Test.YtalnocdgmcchaaaDoorMoneyC
import Derived.BigQuiet
import Derived.Deep.QuietTactic
import Derived.BigRegion
namespace Go.Proofs.YtalnocdgmcchaaaDoor
open Go.RowKit
set_option linter.unusedSimpArgs false
set_option linter.unusedVariables false

theorem perc_ref (a h : Int) : (2 * (a * h) + 10000) / 20000 = a * (h / 10000) + (2 * a * (h % 10000) + 10000) / 20000 := by
  have hd := Int.mul_ediv_add_emod h 10000
  have e : a * h = a * (h / 10000) * 10000 + a * (h % 10000) := by
    conv => lhs; rw [← hd]
    rw [Int.mul_add, Int.mul_left_comm, Int.mul_comm 10000]
  rw [e, Int.mul_assoc 2 a]
  generalize a * (h / 10000) = X
  generalize a * (h % 10000) = Z
  omega
theorem perc_over (a W R : Int) (ha : a ≠ 0) (a1 : -1099511627776 ≤ a) (a2 : a ≤ 1099511627776) (hR : 0 ≤ R) (hR2 : R < 10000) (h : (W.natAbs : Int) > 2199023255552 / (a.natAbs : Int)) : amtB (a * W + (2 * a * R + 10000) / 20000) = false := by
  have hX : 2199023255552 < a.natAbs * W.natAbs := by
    have e : (2199023255552 : Int) / (a.natAbs : Int) = ((2199023255552 / a.natAbs : Nat) : Int) := by simp
    rw [e] at h
    have h2 : 2199023255552 / a.natAbs < W.natAbs := by omega
    rw [Nat.div_lt_iff_lt_mul (by omega)] at h2
    rw [Nat.mul_comm]; exact h2
  rw [← Int.natAbs_mul] at hX
  have hz1 : 2 * a * R ≤ 2 * 1099511627776 * 9999 ∧ -(2 * 1099511627776 * 9999) ≤ 2 * a * R := by
    have k1 : a * R ≤ 1099511627776 * R := Int.mul_le_mul_of_nonneg_right a2 hR
    have k2 : -1099511627776 * R ≤ a * R := Int.mul_le_mul_of_nonneg_right a1 hR
    rw [Int.mul_assoc 2 a R]
    generalize a * R = Z at *
    omega
  refine amt_not ?_
  generalize a * W = X at *
  generalize 2 * a * R = Z at *
  omega
theorem perc_fits (a W R : Int) (a1 : -1099511627776 ≤ a) (a2 : a ≤ 1099511627776) (hR : 0 ≤ R) (hR2 : R < 10000) (h : a = 0 ∨ ¬ (W.natAbs : Int) > 2199023255552 / (a.natAbs : Int)) :
    -2199023255552 ≤ a * W ∧ a * W ≤ 2199023255552 ∧ -(2 * 1099511627776 * 9999) ≤ 2 * a * R ∧ 2 * a * R ≤ 2 * 1099511627776 * 9999 := by
  have hX : (a * W).natAbs ≤ 2199023255552 := by
    rcases h with h | h
    · rw [h]; simp
    · by_cases h0 : a = 0
      · rw [h0]; simp
      · have e : (2199023255552 : Int) / (a.natAbs : Int) = ((2199023255552 / a.natAbs : Nat) : Int) := by simp
        rw [e] at h
        have h2 : W.natAbs ≤ 2199023255552 / a.natAbs := by omega
        rw [Nat.le_div_iff_mul_le (by omega)] at h2
        rw [Int.natAbs_mul, Nat.mul_comm]; exact h2
  have k1 : a * R ≤ 1099511627776 * R := Int.mul_le_mul_of_nonneg_right a2 hR
  have k2 : -1099511627776 * R ≤ a * R := Int.mul_le_mul_of_nonneg_right a1 hR
  rw [Int.mul_assoc 2 a R]
  generalize a * R = Z at *
  generalize a * W = X at *
  omega

set_option maxRecDepth 100000 in
set_option maxHeartbeats 4000000 in
theorem rpercent_any (a h : Int) (w : World) : Calls Tryd.prog 17 #[.int .i64 a, .int .i64 h] w fun e w' => e = .returned (.tuple #[.int .i64 (percR a h).1, .int .i64 (percR a h).2]) ∧ ∃ n, w' = w.drewN n := by
  cases ha : amtB a
  · have HR := Lib.hid (perc_no a h (Or.inl ha))
    go_enter Tryd.func17, Tryd.ntmps17
    go_wp2_with (go_at_call 26; refine (ramount_any _ _).mono ?_; rintro e w' ⟨rfl, rfl⟩)
    go_ret2
    exact ⟨by rw [HR.out]; rfl, 0, rfl⟩
  cases hh : amtB h
  · have HR := Lib.hid (perc_no a h (Or.inr hh))
    go_enter Tryd.func17, Tryd.ntmps17
    go_wp2_with (go_at_call 26; refine (ramount_any _ _).mono ?_; rintro e w' ⟨rfl, rfl⟩)
    go_ret2
    exact ⟨by rw [HR.out]; rfl, 0, rfl⟩
  obtain ⟨a1, a2⟩ := amt_yes ha
  obtain ⟨h1, h2⟩ := amt_yes hh
  obtain ⟨W, hW⟩ : ∃ W, W = h / 10000 := ⟨_, rfl⟩
  obtain ⟨R, hR⟩ : ∃ R, R = h % 10000 := ⟨_, rfl⟩
  have R1 : 0 ≤ R := by omega
  have R2 : R < 10000 := by omega
  have W1 : -109951163 ≤ W := by omega
  have W2 : W ≤ 109951163 := by omega
  have HP : percR a h = if amtB (a * W + (2 * a * R + 10000) / 20000) then (a * W + (2 * a * R + 10000) / 20000, 0) else (0, 11) := by
    rw [hW, hR, ← perc_ref]; simp [percR, ha, hh]
  have CF := Lib.hid (fun w => rfloor_any h 10000 w (by omega) (by omega) (by omega) (by omega))
  rw [← hW, ← hR] at CF
  clear hW hR
  obtain ⟨S, hS⟩ : ∃ S : Int, S = (a.natAbs : Int) := ⟨_, rfl⟩
  by_cases h0 : a = 0
  · -- nothing of nothing
    subst h0
    have HR : Hid (percR 0 h = (0, 0)) := Lib.hid (by rw [HP]; simp [amtB])
    have CF2 := Lib.hid (fun w => rfloor_any 10000 20000 w (by omega) (by omega) (by omega) (by omega))
    have hz : (10000 : Int) / 20000 = 0 := by decide
    have hz2 : (10000 : Int) % 20000 = 10000 := by decide
    rw [hz, hz2] at CF2
    clear HP hz hz2 hS
    go_enter Tryd.func17, Tryd.ntmps17
    go_wp2_with (first | (go_at_call 26; refine (ramount_any _ _).mono ?_; rintro e w' ⟨rfl, rfl⟩) | (go_at_call 32; ((with_reducible refine (CF.out _).mono ?_); rintro e w' ⟨rfl, n, rfl⟩)) | (go_at_call 32; ((with_reducible refine (CF2.out _).mono ?_); rintro e w' ⟨rfl, n2, rfl⟩)))
    go_ret2
    exact ⟨by rw [HR.out]; rfl, _, rfl⟩
  have h0z : ((a : Int) != 0) = true := by simp [h0]
  have hS1 : 1 ≤ S := by omega
  have hSz : ¬ S = 0 := by omega
  have hSb : ((S : Int) == 0) = false := by rw [beq_eq_false_iff_ne]; exact hSz
  have hS2 : S ≤ 1099511627776 := by omega
  have CSa := Lib.hid (fun w => rsize_any a w (by omega) (by omega))
  have CSw := Lib.hid (fun w => rsize_any W w (by omega) (by omega))
  rw [← hS] at CSa
  obtain ⟨V, hV⟩ : ∃ V : Int, V = (W.natAbs : Int) := ⟨_, rfl⟩
  rw [← hV] at CSw
  obtain ⟨D, hD⟩ : ∃ D : Int, (2199023255552 : Int) / S = D := ⟨_, rfl⟩
  have hD1 : 0 ≤ D ∧ D ≤ 2199023255552 := by
    rw [← hD]
    exact ⟨Int.ediv_nonneg (by omega) (by omega), Int.ediv_le_self _ (by omega)⟩
  obtain ⟨hD1, hD2⟩ := hD1
  by_cases hbig : V > D
  · have HR : Hid (percR a h = (0, 11)) := Lib.hid (by
      rw [HP, perc_over a W R h0 a1 a2 R1 R2 (by rw [← hV, ← hS, hD]; exact hbig)]; rfl)
    clear HP hS hV h0
    go_enter Tryd.func17, Tryd.ntmps17
    go_wp2_with (first | (go_at_call 26; refine (ramount_any _ _).mono ?_; rintro e w' ⟨rfl, rfl⟩) | (go_at_call 32; ((with_reducible refine (CF.out _).mono ?_); rintro e w' ⟨rfl, n, rfl⟩)) | (go_at_call 33; ((with_reducible refine (CSw.out _).mono ?_); rintro e w' ⟨rfl, rfl⟩)) | (go_at_call 33; ((with_reducible refine (CSa.out _).mono ?_); rintro e w' ⟨rfl, rfl⟩)))
    go_ret2
    exact ⟨by rw [HR.out]; rfl, _, rfl⟩
  · obtain ⟨x1, x2, z1, z2⟩ := perc_fits a W R a1 a2 R1 R2 (Or.inr (by rw [← hV, ← hS, hD]; exact hbig))
    obtain ⟨X, hX⟩ : ∃ X, X = a * W := ⟨_, rfl⟩
    obtain ⟨Z, hZ⟩ : ∃ Z, Z = 2 * a * R := ⟨_, rfl⟩
    rw [← hX, ← hZ] at HP
    rw [← hX] at x1 x2
    rw [← hZ] at z1 z2
    have hXw : IntKind.i64.wrap (a * W) = X := by rw [IntKind.wrap_i64, ← hX]; omega
    have hZw : IntKind.i64.wrap (2 * a * R) = Z := by rw [IntKind.wrap_i64, ← hZ]; omega
    have hX2 : a * W = X := hX.symm
    have hZ2 : 2 * a * R = Z := hZ.symm
    have CF2 := Lib.hid (fun w => rfloor_any (Z + 10000) 20000 w (by omega) (by omega) (by omega) (by omega))
    obtain ⟨N, hN⟩ : ∃ N, N = (Z + 10000) / 20000 := ⟨_, rfl⟩
    obtain ⟨M, hM⟩ : ∃ M, M = (Z + 10000) % 20000 := ⟨_, rfl⟩
    rw [← hN, ← hM] at CF2
    rw [← hN] at HP
    have n1 : -1099511627777 ≤ N := by omega
    have n2 : N ≤ 1099511627777 := by omega
    clear hN hM hX hZ hS hV h0
    cases hm : amtB (X + N)
    · have HR : Hid (percR a h = (0, 11)) := Lib.hid (by rw [HP, hm]; rfl)
      clear HP
      go_enter Tryd.func17, Tryd.ntmps17
      go_wp2_with (first | (go_at_call 26; refine (ramount_any _ _).mono ?_; rintro e w' ⟨rfl, rfl⟩) | (go_at_call 32; ((with_reducible refine (CF.out _).mono ?_); rintro e w' ⟨rfl, n, rfl⟩)) | (go_at_call 32; ((with_reducible refine (CF2.out _).mono ?_); rintro e w' ⟨rfl, n3, rfl⟩)) | (go_at_call 33; ((with_reducible refine (CSw.out _).mono ?_); rintro e w' ⟨rfl, rfl⟩)) | (go_at_call 33; ((with_reducible refine (CSa.out _).mono ?_); rintro e w' ⟨rfl, rfl⟩)))
      go_ret2
      exact ⟨by rw [HR.out]; rfl, _, rfl⟩
    · have HR : Hid (percR a h = (X + N, 0)) := Lib.hid (by rw [HP, hm]; rfl)
      clear HP
      go_enter Tryd.func17, Tryd.ntmps17
      go_wp2_with (first | (go_at_call 26; refine (ramount_any _ _).mono ?_; rintro e w' ⟨rfl, rfl⟩) | (go_at_call 32; ((with_reducible refine (CF.out _).mono ?_); rintro e w' ⟨rfl, n, rfl⟩)) | (go_at_call 32; ((with_reducible refine (CF2.out _).mono ?_); rintro e w' ⟨rfl, n3, rfl⟩)) | (go_at_call 33; ((with_reducible refine (CSw.out _).mono ?_); rintro e w' ⟨rfl, rfl⟩)) | (go_at_call 33; ((with_reducible refine (CSa.out _).mono ?_); rintro e w' ⟨rfl, rfl⟩)))
      go_ret2
      exact ⟨by rw [HR.out]; rfl, _, rfl⟩
end Go.Proofs.YtalnocdgmcchaaaDoor
