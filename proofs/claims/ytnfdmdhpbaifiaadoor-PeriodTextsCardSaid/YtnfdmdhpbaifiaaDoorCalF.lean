/- Walks of the tests and numbers of digits; of Parse and Minute. -/
import Derived.Test.YtnfdmdhpbaifiaaDoorCalB
import Derived.Test.YtnfdmdhpbaifiaaDoorCalC
import Derived.Test.YtnfdmdhpbaifiaaDoorCalD
namespace Go.Proofs.YtnfdmdhpbaifiaaDoor
open Go.RowKit
set_option linter.unusedSimpArgs false
set_option linter.unusedVariables false

set_option maxHeartbeats 400000 in
theorem isDigit_any (c : UInt8) (w : World) : Calls Tryd.prog 45 #[.int .u8 (c.toNat : Int)] w fun e w' => e = .returned (.bool (digB c)) ∧ w = w' := by
  by_cases h1 : 48 ≤ (c.toNat : Int)
  · go_enter Tryd.func45, Tryd.ntmps45
    go_wp2
    go_ret
    exact ⟨ret_bool (by simp [digB]; omega), rfl⟩
  · go_enter Tryd.func45, Tryd.ntmps45
    go_wp2
    go_ret
    exact ⟨ret_bool (by simp [digB]; omega), rfl⟩
theorem data_at (s : ByteArray) (k : Nat) (h : k < s.size) : s.data.toList[k]'(by simpa using h) = s[k] := rfl

set_option maxRecDepth 100000 in
set_option maxHeartbeats 1000000 in
theorem fits_any (s p : ByteArray) (w : World) (hs : s.size ≤ 1000) (hp : p.size ≤ 1000) :
    Calls Tryd.prog 28 #[.string s, .string p] w fun e w' => e = .returned (.bool (fitsB s.data.toList p.data.toList)) ∧ Below w.heap.size w w' := by
  by_cases hl : s.size = p.size
  · have HL := Lib.hid hl
    have hl2 : ((s.size : Int) != (p.size : Int)) = false := by simp [hl]
    clear hl
    go_enter Tryd.func28, Tryd.ntmps28
    go_wp2
    go_loopw [13] (fun vi wr => ∃ k : Nat, k ≤ s.size ∧ vi = .int .i64 k ∧ Hid (fitsB s.data.toList p.data.toList = fitsB (s.data.toList.drop k) (p.data.toList.drop k)) ∧ Hid (Below w.heap.size w wr)) (fun i _ => s.size - (intOf i).toNat)
    case atStart => exact ⟨0, by omega, rfl, Lib.hid rfl, Lib.hid (Below.refl _ _)⟩
    case round =>
      obtain ⟨k, hk, rfl, HK, HB⟩ := hrel
      by_cases hlt : k < s.size
      · have hlt2 : k < p.size := by have := HL.out; omega
        have i1 : (k : Int) < (s.size : Int) := by omega
        have i2 : (k : Int) < (p.size : Int) := by omega
        have HS : Hid (fitsB s.data.toList p.data.toList = (oneB s[k] p[k] && fitsB (s.data.toList.drop (k + 1)) (p.data.toList.drop (k + 1)))) := Lib.hid (by
          rw [HK.out, fits_step _ _ k (by simpa using hlt) (by simpa using hlt2)]; rfl)
        have HO : Hid (oneB s[k] p[k] = if p[k] = 48 then digB s[k] else s[k] == p[k]) := Lib.hid rfl
        clear HK
        by_cases hq : p[k] = 48
        · have q1 : ((p[k].toNat : Int) == 48) = true := by rw [hq]; rfl
          have q2 : ((p[k].toNat : Int) != 48) = false := by rw [hq]; rfl
          cases hc : digB s[k]
          · have HI : Hid (∀ w, Calls Tryd.prog 45 #[.int .u8 (s[k].toNat : Int)] w fun e w' => e = .returned (.bool false) ∧ w' = w) := Lib.hid (fun w => (isDigit_any s[k] w).mono (by rintro e w' ⟨rfl, rfl⟩; exact ⟨by rw [hc], rfl⟩))
            have HR : Hid (fitsB s.data.toList p.data.toList = false) := Lib.hid (by rw [HS.out, HO.out, if_pos hq, hc]; rfl)
            clear hq
            go_wp2
            go_quiet ((go_at_call 45; exact Calls.quiet_of_same (HI.out _)))
            go_wp2
            go_ret
            exact ⟨by rw [HR.out]; rfl, below_drewN HB.out _⟩
          · have HI : Hid (∀ w, Calls Tryd.prog 45 #[.int .u8 (s[k].toNat : Int)] w fun e w' => e = .returned (.bool true) ∧ w' = w) := Lib.hid (fun w => (isDigit_any s[k] w).mono (by rintro e w' ⟨rfl, rfl⟩; exact ⟨by rw [hc], rfl⟩))
            have HR : Hid (fitsB s.data.toList p.data.toList = fitsB (s.data.toList.drop (k + 1)) (p.data.toList.drop (k + 1))) := Lib.hid (by rw [HS.out, HO.out, if_pos hq, hc]; rfl)
            clear hq
            go_wp2
            go_quiet ((go_at_call 45; exact Calls.quiet_of_same (HI.out _)))
            go_wp2
            go_roundw
            case rel => exact ⟨k + 1, by omega, by go_num, HR, Lib.hid (below_drewN HB.out _)⟩
            case measure => simp [intOf]; omega
        · have hq' : (p[k].toNat : Int) ≠ 48 := fun e => hq (UInt8.toNat_inj.1 (by have : ((48 : UInt8).toNat : Int) = 48 := rfl; omega))
          have q1 : ((p[k].toNat : Int) == 48) = false := by rw [beq_eq_false_iff_ne]; exact hq'
          have q2 : ((p[k].toNat : Int) != 48) = true := by rw [bne_iff_ne]; exact hq'
          by_cases hc : s[k] = p[k]
          · have c1 : ((s[k].toNat : Int) != (p[k].toNat : Int)) = false := by rw [hc]; simp
            have HR : Hid (fitsB s.data.toList p.data.toList = fitsB (s.data.toList.drop (k + 1)) (p.data.toList.drop (k + 1))) := Lib.hid (by rw [HS.out, HO.out, if_neg hq, hc]; simp)
            clear hq hq' hc
            go_wp2
            go_quiet (fail)
            go_wp2
            go_roundw
            case rel => exact ⟨k + 1, by omega, by go_num, HR, Lib.hid (below_drewN HB.out _)⟩
            case measure => simp [intOf]; omega
          · have c1 : ((s[k].toNat : Int) != (p[k].toNat : Int)) = true := by rw [bne_iff_ne]; intro e; exact hc (UInt8.toNat_inj.1 (by omega))
            have HR : Hid (fitsB s.data.toList p.data.toList = false) := Lib.hid (by rw [HS.out, HO.out, if_neg hq, beq_eq_false_iff_ne.2 hc]; rfl)
            clear hq hq' hc
            go_wp2
            go_quiet (fail)
            go_wp2
            go_ret
            exact ⟨by rw [HR.out]; rfl, below_drewN HB.out _⟩
      · have HR : Hid (fitsB s.data.toList p.data.toList = true) := Lib.hid (by rw [HK.out, fits_end _ _ (by simpa using HL.out) k (by simp; omega)])
        go_wp2
        go_ret
        exact ⟨by rw [HR.out]; rfl, HB.out⟩
  · have HR : Hid (fitsB s.data.toList p.data.toList = false) := Lib.hid (fits_no _ _ (by simpa using hl))
    have hl2 : ((s.size : Int) != (p.size : Int)) = true := by simp; omega
    clear hl
    go_enter Tryd.func28, Tryd.ntmps28
    go_wp2
    go_ret
    exact ⟨by rw [HR.out]; rfl, Below.refl _ _⟩
set_option maxHeartbeats 1000000 in
theorem number_any (s : ByteArray) (w : World) (hs : s.size ≤ 10) (hd : s.data.toList.all digB = true) :
    Calls Tryd.prog 30 #[.string s] w fun e w' => e = .returned (.int .i64 (numL 0 s.data.toList)) ∧ w = w' := by
  have HD := Lib.hid hd
  clear hd
  go_enter Tryd.func30, Tryd.ntmps30
  go_wp2
  go_loop [3, 7] (fun vn vi => ∃ (k : Nat) (acc : Int), k ≤ s.size ∧ vi = .int .i64 k ∧ vn = .int .i64 acc ∧ 0 ≤ acc ∧ acc < 10 ^ k ∧ Hid (numL 0 s.data.toList = numL acc (s.data.toList.drop k))) (fun _ i => s.size - (intOf i).toNat)
  case atStart => exact ⟨0, 0, by omega, rfl, rfl, by omega, by decide, Lib.hid (by rw [List.drop_zero])⟩
  case round =>
    obtain ⟨k, acc, hk, rfl, rfl, a0, a1, HK⟩ := hrel
    by_cases hlt : k < s.size
    · have hc : digB s[k] = true := List.all_eq_true.1 HD.out _ (by rw [← data_at s k hlt]; exact List.getElem_mem _)
      have HN : Hid (numL 0 s.data.toList = numL (10 * acc + ((s[k].toNat : Int) - 48)) (s.data.toList.drop (k + 1))) := Lib.hid (by
        rw [HK.out, numL_step acc s.data.toList k (by simpa using hlt)]; rfl)
      have hcn := dig_nat hc
      have hp : (10 : Int) ^ k ≤ 1000000000 := by
        have : k = 0 ∨ k = 1 ∨ k = 2 ∨ k = 3 ∨ k = 4 ∨ k = 5 ∨ k = 6 ∨ k = 7 ∨ k = 8 ∨ k = 9 := by omega
        rcases this with rfl | rfl | rfl | rfl | rfl | rfl | rfl | rfl | rfl | rfl <;> decide
      have hq : (10 : Int) ^ (k + 1) = 10 * 10 ^ k := by rw [Int.pow_succ, Int.mul_comm]
      have HP : Hid (10 * acc + ((s[k].toNat : Int) - 48) < 10 ^ (k + 1)) := Lib.hid (by rw [hq]; omega)
      have hacc : acc < 1000000000 := by omega
      clear hp hq a1 hc
      go_wp2
      go_round
      case rel => exact ⟨k + 1, 10 * acc + ((s[k].toNat : Int) - 48), by omega, by go_num, rfl, by omega, HP.out, HN⟩
      case measure => simp [intOf]; omega
    · have HE : Hid (numL 0 s.data.toList = acc) := Lib.hid (by rw [HK.out, numL_end _ _ _ (by simp; omega)])
      clear a1
      go_wp2
      go_ret
      exact ⟨by rw [HE.out]; rfl, rfl⟩

end Go.Proofs.YtnfdmdhpbaifiaaDoor
