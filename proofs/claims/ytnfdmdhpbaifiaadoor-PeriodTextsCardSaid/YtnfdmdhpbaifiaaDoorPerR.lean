/- Walk of readDigits. -/
import Derived.Test.YtnfdmdhpbaifiaaDoorPerT
import Derived.Test.YtnfdmdhpbaifiaaDoorPerQ
namespace Go.Proofs.YtnfdmdhpbaifiaaDoor
open Go.RowKit
set_option linter.unusedSimpArgs false
set_option linter.unusedVariables false

theorem or_new (d j : Nat) (hd : d < 128) (hj : j < 7) (h : d < 2 ^ j) : bits .or .i64 (d : Int) ((2 ^ j : Nat) : Int) = ((d + 2 ^ j : Nat) : Int) := by
  have h2 : 2 ^ j < 128 := by
    have : j = 0 ∨ j = 1 ∨ j = 2 ∨ j = 3 ∨ j = 4 ∨ j = 5 ∨ j = 6 := by omega
    rcases this with rfl | rfl | rfl | rfl | rfl | rfl | rfl <;> decide
  rw [or7 d (2 ^ j) hd h2, or_add d hd j hj, Nat.div_eq_of_lt h]
  rfl
theorem at_byte (s : ByteArray) (k : Nat) (h : k < s.size) : s.data.toList.drop k = s[k] :: s.data.toList.drop (k + 1) := by
  rw [List.drop_eq_getElem_cons (by simpa using h)]; rfl

set_option maxRecDepth 100000 in
set_option maxHeartbeats 2000000 in
theorem readDigits_any (s : ByteArray) (w : World) (hs : s.size ≤ 1000) : Calls Tryd.prog 14 #[.string s] w fun e w' => e = .returned (.tuple #[.int .i64 (dgF 0 s.data.toList).1, .int .i64 (dgF 0 s.data.toList).2]) ∧ w = w' := by
  go_enter Tryd.func14, Tryd.ntmps14
  go_wp2
  go_loop [4, 9] (fun vd vi => ∃ k d : Nat, k ≤ s.size ∧ d < 128 ∧ vi = .int .i64 (k : Int) ∧ vd = .int .i64 (d : Int) ∧ Hid (dgF 0 s.data.toList = dgF d (s.data.toList.drop k))) (fun _ i => s.size - (intOf i).toNat)
  case atStart => exact ⟨0, 0, by omega, by omega, rfl, rfl, Lib.hid rfl⟩
  case round =>
    obtain ⟨k, d, hk, hd, rfl, rfl, HG⟩ := hrel
    by_cases hlt : k < s.size
    · have i1 : (k : Int) < (s.size : Int) := by omega
      have HA := Lib.hid (at_byte s k hlt)
      by_cases c1 : (s[k].toNat : Int) < 49
      · have HR : Hid (dgF 0 s.data.toList = (0, 3)) := Lib.hid (by rw [HG.out, HA.out]; exact dg_low c1)
        clear HG HA
        go_wp2
        go_ret2
        exact ⟨by rw [HR.out]; rfl, rfl⟩
      by_cases c2 : 55 < (s[k].toNat : Int)
      · have HR : Hid (dgF 0 s.data.toList = (0, 3)) := Lib.hid (by rw [HG.out, HA.out]; exact dg_high c2)
        clear HG HA
        go_wp2
        go_ret2
        exact ⟨by rw [HR.out]; rfl, rfl⟩
      have HO : Hid (2 ^ (s[k].toNat - 49) ≤ d → dgF 0 s.data.toList = (0, 3)) := Lib.hid (fun h => by rw [HG.out, HA.out]; exact dg_old h)
      have HN : Hid (¬ 2 ^ (s[k].toNat - 49) ≤ d → dgF 0 s.data.toList = dgF (d + 2 ^ (s[k].toNat - 49)) (s.data.toList.drop (k + 1))) := Lib.hid (fun h => by rw [HG.out, HA.out]; exact dg_next c1 c2 h)
      clear HG HA
      have hj : s[k].toNat = 49 ∨ s[k].toNat = 50 ∨ s[k].toNat = 51 ∨ s[k].toNat = 52 ∨ s[k].toNat = 53 ∨ s[k].toNat = 54 ∨ s[k].toNat = 55 := by omega
      clear c1 c2
      rcases hj with hj | hj | hj | hj | hj | hj | hj
      · have c0 : (s[k].toNat : Int) = 49 := by omega
        rw [hj] at HO HN
        clear hj
        by_cases hle : 1 ≤ d
        · have HR : Hid (dgF 0 s.data.toList = (0, 3)) := Lib.hid (HO.out (by simpa using hle))
          have o1 : (1 : Int) ≤ (d : Int) := by omega
          clear HO HN hle
          go_wp2
          go_ret2
          exact ⟨by rw [HR.out]; rfl, rfl⟩
        · have HG : Hid (dgF 0 s.data.toList = dgF (d + 1) (s.data.toList.drop (k + 1))) := Lib.hid (HN.out (by simpa using hle))
          have o1 : ¬ (1 : Int) ≤ (d : Int) := by omega
          have o2 : bits .or .i64 (d : Int) 1 = ((d + 1 : Nat) : Int) := or_new d 0 hd (by omega) (by omega)
          have hd2 : d + 1 < 128 := by omega
          clear HO HN
          go_wp2
          go_round
          case rel => exact ⟨k + 1, d + 1, by omega, hd2, by go_num, rfl, HG⟩
          case measure => simp [intOf]; omega
      · have c0 : (s[k].toNat : Int) = 50 := by omega
        rw [hj] at HO HN
        clear hj
        by_cases hle : 2 ≤ d
        · have HR : Hid (dgF 0 s.data.toList = (0, 3)) := Lib.hid (HO.out (by simpa using hle))
          have o1 : (2 : Int) ≤ (d : Int) := by omega
          clear HO HN hle
          go_wp2
          go_ret2
          exact ⟨by rw [HR.out]; rfl, rfl⟩
        · have HG : Hid (dgF 0 s.data.toList = dgF (d + 2) (s.data.toList.drop (k + 1))) := Lib.hid (HN.out (by simpa using hle))
          have o1 : ¬ (2 : Int) ≤ (d : Int) := by omega
          have o2 : bits .or .i64 (d : Int) 2 = ((d + 2 : Nat) : Int) := or_new d 1 hd (by omega) (by omega)
          have hd2 : d + 2 < 128 := by omega
          clear HO HN
          go_wp2
          go_round
          case rel => exact ⟨k + 1, d + 2, by omega, hd2, by go_num, rfl, HG⟩
          case measure => simp [intOf]; omega
      · have c0 : (s[k].toNat : Int) = 51 := by omega
        rw [hj] at HO HN
        clear hj
        by_cases hle : 4 ≤ d
        · have HR : Hid (dgF 0 s.data.toList = (0, 3)) := Lib.hid (HO.out (by simpa using hle))
          have o1 : (4 : Int) ≤ (d : Int) := by omega
          clear HO HN hle
          go_wp2
          go_ret2
          exact ⟨by rw [HR.out]; rfl, rfl⟩
        · have HG : Hid (dgF 0 s.data.toList = dgF (d + 4) (s.data.toList.drop (k + 1))) := Lib.hid (HN.out (by simpa using hle))
          have o1 : ¬ (4 : Int) ≤ (d : Int) := by omega
          have o2 : bits .or .i64 (d : Int) 4 = ((d + 4 : Nat) : Int) := or_new d 2 hd (by omega) (by omega)
          have hd2 : d + 4 < 128 := by omega
          clear HO HN
          go_wp2
          go_round
          case rel => exact ⟨k + 1, d + 4, by omega, hd2, by go_num, rfl, HG⟩
          case measure => simp [intOf]; omega
      · have c0 : (s[k].toNat : Int) = 52 := by omega
        rw [hj] at HO HN
        clear hj
        by_cases hle : 8 ≤ d
        · have HR : Hid (dgF 0 s.data.toList = (0, 3)) := Lib.hid (HO.out (by simpa using hle))
          have o1 : (8 : Int) ≤ (d : Int) := by omega
          clear HO HN hle
          go_wp2
          go_ret2
          exact ⟨by rw [HR.out]; rfl, rfl⟩
        · have HG : Hid (dgF 0 s.data.toList = dgF (d + 8) (s.data.toList.drop (k + 1))) := Lib.hid (HN.out (by simpa using hle))
          have o1 : ¬ (8 : Int) ≤ (d : Int) := by omega
          have o2 : bits .or .i64 (d : Int) 8 = ((d + 8 : Nat) : Int) := or_new d 3 hd (by omega) (by omega)
          have hd2 : d + 8 < 128 := by omega
          clear HO HN
          go_wp2
          go_round
          case rel => exact ⟨k + 1, d + 8, by omega, hd2, by go_num, rfl, HG⟩
          case measure => simp [intOf]; omega
      · have c0 : (s[k].toNat : Int) = 53 := by omega
        rw [hj] at HO HN
        clear hj
        by_cases hle : 16 ≤ d
        · have HR : Hid (dgF 0 s.data.toList = (0, 3)) := Lib.hid (HO.out (by simpa using hle))
          have o1 : (16 : Int) ≤ (d : Int) := by omega
          clear HO HN hle
          go_wp2
          go_ret2
          exact ⟨by rw [HR.out]; rfl, rfl⟩
        · have HG : Hid (dgF 0 s.data.toList = dgF (d + 16) (s.data.toList.drop (k + 1))) := Lib.hid (HN.out (by simpa using hle))
          have o1 : ¬ (16 : Int) ≤ (d : Int) := by omega
          have o2 : bits .or .i64 (d : Int) 16 = ((d + 16 : Nat) : Int) := or_new d 4 hd (by omega) (by omega)
          have hd2 : d + 16 < 128 := by omega
          clear HO HN
          go_wp2
          go_round
          case rel => exact ⟨k + 1, d + 16, by omega, hd2, by go_num, rfl, HG⟩
          case measure => simp [intOf]; omega
      · have c0 : (s[k].toNat : Int) = 54 := by omega
        rw [hj] at HO HN
        clear hj
        by_cases hle : 32 ≤ d
        · have HR : Hid (dgF 0 s.data.toList = (0, 3)) := Lib.hid (HO.out (by simpa using hle))
          have o1 : (32 : Int) ≤ (d : Int) := by omega
          clear HO HN hle
          go_wp2
          go_ret2
          exact ⟨by rw [HR.out]; rfl, rfl⟩
        · have HG : Hid (dgF 0 s.data.toList = dgF (d + 32) (s.data.toList.drop (k + 1))) := Lib.hid (HN.out (by simpa using hle))
          have o1 : ¬ (32 : Int) ≤ (d : Int) := by omega
          have o2 : bits .or .i64 (d : Int) 32 = ((d + 32 : Nat) : Int) := or_new d 5 hd (by omega) (by omega)
          have hd2 : d + 32 < 128 := by omega
          clear HO HN
          go_wp2
          go_round
          case rel => exact ⟨k + 1, d + 32, by omega, hd2, by go_num, rfl, HG⟩
          case measure => simp [intOf]; omega
      · have c0 : (s[k].toNat : Int) = 55 := by omega
        rw [hj] at HO HN
        clear hj
        by_cases hle : 64 ≤ d
        · have HR : Hid (dgF 0 s.data.toList = (0, 3)) := Lib.hid (HO.out (by simpa using hle))
          have o1 : (64 : Int) ≤ (d : Int) := by omega
          clear HO HN hle
          go_wp2
          go_ret2
          exact ⟨by rw [HR.out]; rfl, rfl⟩
        · have HG : Hid (dgF 0 s.data.toList = dgF (d + 64) (s.data.toList.drop (k + 1))) := Lib.hid (HN.out (by simpa using hle))
          have o1 : ¬ (64 : Int) ≤ (d : Int) := by omega
          have o2 : bits .or .i64 (d : Int) 64 = ((d + 64 : Nat) : Int) := or_new d 6 hd (by omega) (by omega)
          have hd2 : d + 64 < 128 := by omega
          clear HO HN
          go_wp2
          go_round
          case rel => exact ⟨k + 1, d + 64, by omega, hd2, by go_num, rfl, HG⟩
          case measure => simp [intOf]; omega
    · have e : k = s.size := by omega
      subst e
      have HE : Hid (dgF 0 s.data.toList = dgF d []) := Lib.hid (by rw [HG.out, List.drop_eq_nil_of_le (by simp)])
      clear HG
      by_cases hz : d = 0
      · subst hz
        have HR : Hid (dgF 0 s.data.toList = (0, 3)) := Lib.hid (by rw [HE.out]; rfl)
        clear HE
        go_wp2
        go_ret2
        exact ⟨by rw [HR.out]; rfl, rfl⟩
      · have HR : Hid (dgF 0 s.data.toList = ((d : Int), 0)) := Lib.hid (by rw [HE.out, dgF, if_neg hz])
        have hz2 : ((d : Int) == 0) = false := by rw [beq_eq_false_iff_ne]; omega
        clear HE hz
        go_wp2
        go_ret2
        exact ⟨by rw [HR.out]; rfl, rfl⟩

end Go.Proofs.YtnfdmdhpbaifiaaDoor
