/- Walks of the reference's digits, Parse and Minute. -/
import Derived.Test.YtnfdmdhpbaifiaaDoorCalC
import Derived.Test.YtnfdmdhpbaifiaaDoorCalQ
namespace Go.Proofs.YtnfdmdhpbaifiaaDoor
open Go.RowKit
set_option linter.unusedSimpArgs false
set_option linter.unusedVariables false

set_option maxRecDepth 100000 in
set_option maxHeartbeats 1000000 in
theorem digits_any (s : ByteArray) (a n : Nat) (w : World) (hs : s.size ≤ 1000) (h : a + n ≤ s.size) (hn : n ≤ 9) :
    Calls Tryd.prog 31 #[.string s, .int .i64 (a : Int), .int .i64 (n : Int)] w fun e w' => e = .returned (.int .i64 (digR s.data.toList a n)) ∧ w = w' := by
  go_enter Tryd.func31, Tryd.ntmps31
  go_wp2
  go_loop [7, 8] (fun vx vi => ∃ (k : Nat) (acc : Int), k ≤ n ∧ vi = .int .i64 ((a + k : Nat) : Int) ∧ vx = .int .i64 acc ∧ 0 ≤ acc ∧ acc < 10 ^ k ∧ Hid (((s.data.toList.drop a).take k).all digB = true) ∧ Hid (acc = numL 0 ((s.data.toList.drop a).take k))) (fun _ i => a + n - (intOf i).toNat)
  case atStart => exact ⟨0, 0, by omega, rfl, rfl, by omega, by decide, Lib.hid (by simp), Lib.hid (by simp [numL])⟩
  case round =>
    obtain ⟨k, acc, hk, rfl, rfl, a0, a1, HA, HK⟩ := hrel
    by_cases hlt : k < n
    · obtain ⟨j, hj⟩ : ∃ j : Nat, j = a + k := ⟨_, rfl⟩
      have hin : j < s.size := by omega
      have i1 : (j : Int) < (s.size : Int) := by omega
      have i2 : (j : Int) < (a : Int) + (n : Int) := by omega
      have hbad : Hid (digB s[j] = false → digR s.data.toList a n = -1) := Lib.hid (by
        subst hj
        exact fun h => part_bad _ a k n hlt (by simpa using hin) h)
      have hnum : Hid (numL 0 ((s.data.toList.drop a).take (k + 1)) = 10 * acc + ((s[j].toNat : Int) - 48)) := Lib.hid (by
        subst hj
        rw [part_num _ a k (by simpa using hin), ← HK.out]; rfl)
      have hall : Hid (digB s[j] = true → ((s.data.toList.drop a).take (k + 1)).all digB = true) := Lib.hid (by
        subst hj
        exact fun h => part_all _ a k (by simpa using hin) HA.out h)
      have hcl : Hid (digB s[j] = decide (48 ≤ (s[j].toNat : Int) ∧ (s[j].toNat : Int) ≤ 57)) := Lib.hid rfl
      by_cases c1 : (s[j].toNat : Int) < 48
      · have HR : Hid (digR s.data.toList a n = -1) := Lib.hid (hbad.out (by rw [hcl.out, decide_eq_false_iff_not]; omega))
        simp only [← hj]
        clear a1 hj
        go_wp2
        go_ret
        exact ⟨by rw [HR.out]; rfl, rfl⟩
      by_cases c2 : 57 < (s[j].toNat : Int)
      · have HR : Hid (digR s.data.toList a n = -1) := Lib.hid (hbad.out (by rw [hcl.out, decide_eq_false_iff_not]; omega))
        simp only [← hj]
        clear a1 hj
        go_wp2
        go_ret
        exact ⟨by rw [HR.out]; rfl, rfl⟩
      · have HA2 : Hid (((s.data.toList.drop a).take (k + 1)).all digB = true) := Lib.hid (hall.out (by rw [hcl.out, decide_eq_true_iff]; omega))
        have hp : (10 : Int) ^ k ≤ 1000000000 := by
          have : k = 0 ∨ k = 1 ∨ k = 2 ∨ k = 3 ∨ k = 4 ∨ k = 5 ∨ k = 6 ∨ k = 7 ∨ k = 8 ∨ k = 9 := by omega
          rcases this with rfl | rfl | rfl | rfl | rfl | rfl | rfl | rfl | rfl | rfl <;> decide
        have hq : (10 : Int) ^ (k + 1) = 10 * 10 ^ k := by rw [Int.pow_succ, Int.mul_comm]
        have HP : Hid (10 * acc + ((s[j].toNat : Int) - 48) < 10 ^ (k + 1)) := Lib.hid (by rw [hq]; omega)
        have hacc : acc < 1000000000 := by omega
        have HJ := Lib.hid hj
        simp only [← hj]
        clear hp hq a1 hj
        go_wp2
        go_round
        case rel => exact ⟨k + 1, 10 * acc + ((s[j].toNat : Int) - 48), by omega, by rw [show ((a + (k + 1) : Nat) : Int) = (j : Int) + 1 by rw [HJ.out]; omega], rfl, by omega, HP.out, HA2, Lib.hid hnum.out.symm⟩
        case measure => simp [intOf]; have := HJ.out; omega
    · have e : k = n := by omega
      subst e
      have i2 : ¬ ((a + k : Nat) : Int) < (a : Int) + (k : Int) := by omega
      have HE : Hid (digR s.data.toList a k = acc) := Lib.hid (by rw [digR, if_pos HA.out, HK.out])
      clear a1
      go_wp2
      go_ret
      exact ⟨by rw [HE.out]; rfl, rfl⟩

end Go.Proofs.YtnfdmdhpbaifiaaDoor
