/- Walks of the reference's Length, Day and Date. -/
import Derived.Test.YtnfdmdhpbaifiaaDoorCalA
import Derived.BigQuiet
import Derived.Deep.QuietTactic
namespace Go.Proofs.YtnfdmdhpbaifiaaDoor
open Go.RowKit
set_option linter.unusedSimpArgs false
set_option linter.unusedVariables false

set_option maxHeartbeats 1000000 in
theorem rlen_any (y m : Int) (w : World) (h0 : 0 ≤ y) (h1 : y ≤ 3000) : Calls Tryd.prog 48 #[.int .i64 y, .int .i64 m] w fun e w' => e = .returned (.int .i64 (lenP y m)) ∧ w = w' := by
  by_cases c : m = 4 ∨ m = 6 ∨ m = 9 ∨ m = 11
  · have HR : Hid (lenP y m = 30) := Lib.hid (by rw [lenP, if_pos c])
    rcases c with rfl | rfl | rfl | rfl
    all_goals
      go_enter Tryd.func48, Tryd.ntmps48
      go_wp2
      go_ret
      exact ⟨by rw [HR.out]; rfl, rfl⟩
  have a1 : (m == 4) = false := by rw [beq_eq_false_iff_ne]; omega
  have a2 : (m == 6) = false := by rw [beq_eq_false_iff_ne]; omega
  have a3 : (m == 9) = false := by rw [beq_eq_false_iff_ne]; omega
  have a4 : (m == 11) = false := by rw [beq_eq_false_iff_ne]; omega
  by_cases c2 : m = 2
  · subst c2
    by_cases c3 : y % 4 = 0
    · have HR : Hid (lenP y 2 = 29) := Lib.hid (by simp [lenP, c3])
      go_enter Tryd.func48, Tryd.ntmps48
      go_wp2
      go_ret
      exact ⟨by rw [HR.out]; rfl, rfl⟩
    · have HR : Hid (lenP y 2 = 28) := Lib.hid (by simp [lenP, c3])
      go_enter Tryd.func48, Tryd.ntmps48
      go_wp2
      go_ret
      exact ⟨by rw [HR.out]; rfl, rfl⟩
  · have HR : Hid (lenP y m = 31) := Lib.hid (by rw [lenP, if_neg c, if_neg c2])
    have a5 : (m == 2) = false := by rw [beq_eq_false_iff_ne]; exact c2
    clear c c2
    go_enter Tryd.func48, Tryd.ntmps48
    go_wp2
    go_ret
    exact ⟨by rw [HR.out]; rfl, rfl⟩

set_option maxRecDepth 100000 in
set_option maxHeartbeats 1000000 in
theorem rday_any (y m d : Int) (w : World) : Calls Tryd.prog 32 #[.int .i64 y, .int .i64 m, .int .i64 d] w fun e w' => e = .returned (.tuple #[.int .i64 (dayR y m d).1, .int .i64 (dayR y m d).2]) ∧ w = w' := by
  by_cases hy : 2000 ≤ y ∧ y ≤ 2099 ∧ 1 ≤ m ∧ m ≤ 12
  · obtain ⟨y0, y1, m0, m1⟩ := hy
    obtain ⟨L, hL⟩ : ∃ L, Hid (L = lenP y m) := ⟨_, Lib.hid rfl⟩
    have CL : Hid (∀ w, Calls Tryd.prog 48 #[.int .i64 y, .int .i64 m] w fun e w' => e = .returned (.int .i64 L) ∧ w = w') := Lib.hid (fun w => by rw [hL.out]; exact rlen_any y m w (by omega) (by omega))
    by_cases c5 : d < 1
    · have HR : Hid (dayR y m d = (0, 12)) := Lib.hid (by rw [dayR, if_neg]; rw [ok_not (by omega)]; simp)
      go_enter Tryd.func32, Tryd.ntmps32
      go_wp2
      go_ret2
      exact ⟨by rw [HR.out]; rfl, rfl⟩
    by_cases c6 : L < d
    · have HR : Hid (dayR y m d = (0, 12)) := Lib.hid (by have := hL.out; rw [dayR, if_neg]; rw [ok_not (by omega)]; simp)
      go_enter Tryd.func32, Tryd.ntmps32
      go_wp2_with (go_at_call 48; refine (CL.out _).mono ?_; rintro e w' ⟨rfl, rfl⟩)
      go_ret2
      exact ⟨by rw [HR.out]; rfl, rfl⟩
    have HR : Hid (dayR y m d = (ysP y + befP y m + d - 1, 0)) := Lib.hid (by have := hL.out; rw [dayR, if_pos (ok_mk (by omega))]; rfl)
    have hLb : L ≤ 31 := by have := hL.out; have := len_range y m; omega
    go_enter Tryd.func32, Tryd.ntmps32
    go_wp2_with (go_at_call 48; refine (CL.out _).mono ?_; rintro e w' ⟨rfl, rfl⟩)
    go_loop [8, 9] (fun vn vy => ∃ (z acc : Int), 2000 ≤ z ∧ z ≤ y ∧ vy = .int .i64 z ∧ vn = .int .i64 acc ∧ 0 ≤ acc ∧ acc ≤ 40 + 400 * (z - 2000) ∧ Hid (acc = ysP z + d - 1)) (fun _ vy => (y - intOf vy).toNat)
    case atStart => exact ⟨2000, d - 1, by omega, by omega, rfl, rfl, by omega, by omega, Lib.hid (by rw [ys_first]; omega)⟩
    case round =>
      obtain ⟨z, acc, z0, z1, rfl, rfl, a0, a1, HK⟩ := hrel
      by_cases hlt : z < y
      · go_wp2
        go_loop [8, 10] (fun vn vm => ∃ (k : Nat) (b : Int), 1 ≤ k ∧ k ≤ 13 ∧ vm = .int .i64 k ∧ vn = .int .i64 b ∧ 0 ≤ b ∧ b ≤ 40 + 400 * (z - 2000) + 31 * (k - 1) ∧ Hid (b = ysP z + d - 1 + befP z k)) (fun _ vm => 13 - (intOf vm).toNat)
        case atStart => exact ⟨1, acc, by omega, by omega, rfl, rfl, by omega, by omega, Lib.hid (by have := HK.out; have := bef_one z; simp only [Int.natCast_one, this]; omega)⟩
        case round =>
          obtain ⟨k, b, k0, k1, rfl, rfl, b0, b1, HB⟩ := hrel
          by_cases hk : k ≤ 12
          · have i1 : (k : Int) ≤ 12 := by omega
            obtain ⟨x, hx⟩ : ∃ x, Hid (x = lenP z k) := ⟨_, Lib.hid rfl⟩
            have hb2 := len_range z k
            rw [← hx.out] at hb2
            have CX : Hid (∀ w, Calls Tryd.prog 48 #[.int .i64 z, .int .i64 k] w fun e w' => e = .returned (.int .i64 x) ∧ w = w') := Lib.hid (fun w => by rw [hx.out]; exact rlen_any z k w (by omega) (by omega))
            have HN := Lib.hid (bef_next z k (by omega) (by omega))
            go_wp2_with (go_at_call 48; refine (CX.out _).mono ?_; rintro e w' ⟨rfl, rfl⟩)
            go_round
            case rel => exact ⟨k + 1, b + x, by omega, by omega, by go_num, rfl, by omega, by omega, Lib.hid (by have := HB.out; have := HN.out; have := hx.out; push_cast; omega)⟩
            case measure => simp [intOf]; omega
          · have e : k = 13 := by omega
            subst e
            have HB2 : Hid (b = ysP (z + 1) + d - 1) := Lib.hid (by
              have e : b = ysP z + d - 1 + befP z 13 := HB.out
              have f := ys_next z
              omega)
            have b1' : b ≤ 40 + 400 * (z - 2000) + 372 := by omega
            clear HB b1
            go_wp2
            go_round
            case rel => exact ⟨z + 1, b, by omega, by omega, rfl, rfl, by omega, by omega, HB2⟩
            case measure => simp [intOf]; omega
      · have e : z = y := by omega
        subst e
        have hacc : acc ≤ 40000 := by omega
        go_wp2
        go_loop [8, 11] (fun vn vm => ∃ (k : Nat) (b : Int), 1 ≤ k ∧ (k : Int) ≤ m ∧ vm = .int .i64 k ∧ vn = .int .i64 b ∧ 0 ≤ b ∧ b ≤ 40000 + 31 * k ∧ Hid (b = ysP z + d - 1 + befP z k)) (fun _ vm => (m - intOf vm).toNat)
        case atStart => exact ⟨1, acc, by omega, by omega, rfl, rfl, by omega, by omega, Lib.hid (by have := HK.out; have := bef_one z; simp only [Int.natCast_one, this]; omega)⟩
        case round =>
          obtain ⟨k, b, k0, k1, rfl, rfl, b0, b1, HB⟩ := hrel
          by_cases hk : (k : Int) < m
          · obtain ⟨x, hx⟩ : ∃ x, Hid (x = lenP z k) := ⟨_, Lib.hid rfl⟩
            have hb2 := len_range z k
            rw [← hx.out] at hb2
            have CX : Hid (∀ w, Calls Tryd.prog 48 #[.int .i64 z, .int .i64 k] w fun e w' => e = .returned (.int .i64 x) ∧ w = w') := Lib.hid (fun w => by rw [hx.out]; exact rlen_any z k w (by omega) (by omega))
            have HN := Lib.hid (bef_next z k (by omega) (by omega))
            go_wp2_with (go_at_call 48; refine (CX.out _).mono ?_; rintro e w' ⟨rfl, rfl⟩)
            go_round
            case rel => exact ⟨k + 1, b + x, by omega, by omega, by go_num, rfl, by omega, by omega, Lib.hid (by have := HB.out; have := HN.out; have := hx.out; push_cast; omega)⟩
            case measure => simp [intOf]; omega
          · have e : (k : Int) = m := by omega
            have HE : Hid (b = ysP z + befP z m + d - 1) := Lib.hid (by have h := HB.out; rw [e] at h; omega)
            clear e
            go_wp2
            go_ret2
            exact ⟨by rw [HR.out, HE.out]; rfl, rfl⟩
  · have HR : Hid (dayR y m d = (0, 12)) := Lib.hid (by rw [dayR, if_neg]; rw [ok_not (by omega)]; simp)
    by_cases c1 : y < 2000
    · go_enter Tryd.func32, Tryd.ntmps32
      go_wp2
      go_ret2
      exact ⟨by rw [HR.out]; rfl, rfl⟩
    by_cases c2 : 2099 < y
    · go_enter Tryd.func32, Tryd.ntmps32
      go_wp2
      go_ret2
      exact ⟨by rw [HR.out]; rfl, rfl⟩
    by_cases c3 : m < 1
    · go_enter Tryd.func32, Tryd.ntmps32
      go_wp2
      go_ret2
      exact ⟨by rw [HR.out]; rfl, rfl⟩
    · have c4 : 12 < m := by omega
      clear hy
      go_enter Tryd.func32, Tryd.ntmps32
      go_wp2
      go_ret2
      exact ⟨by rw [HR.out]; rfl, rfl⟩

set_option maxRecDepth 100000 in
set_option maxHeartbeats 1000000 in
theorem rdate_any (n : Int) (w : World) : Calls Tryd.prog 37 #[.int .i64 n] w fun e w' => e = .returned (.tuple #[.int .i64 (dateR n).1, .int .i64 (dateR n).2.1, .int .i64 (dateR n).2.2]) ∧ w = w' := by
  by_cases hn : 0 ≤ n ∧ n < 36525
  · go_enter Tryd.func37, Tryd.ntmps37
    go_wp2
    go_loop [0, 5, 6] (fun vr vy vm => ∃ (y m r : Int), 2000 ≤ y ∧ y ≤ 2099 ∧ 1 ≤ m ∧ m ≤ 12 ∧ 0 ≤ r ∧ r ≤ 36525 ∧ vy = .int .i64 y ∧ vm = .int .i64 m ∧ vr = .int .i64 r ∧ Hid (n = ysP y + befP y m + r)) (fun vr _ _ => (intOf vr).toNat)
    case atStart => exact ⟨2000, 1, n, by omega, by omega, by omega, by omega, by omega, by omega, rfl, rfl, rfl, Lib.hid (by rw [ys_first, bef_one]; omega)⟩
    case round =>
      obtain ⟨y, m, r, y0, y1, m0, m1, r0, r1, rfl, rfl, rfl, HK⟩ := hrel
      obtain ⟨x, hx⟩ : ∃ x, Hid (x = lenP y m) := ⟨_, Lib.hid rfl⟩
      have hb2 := len_range y m
      rw [← hx.out] at hb2
      have CX : Hid (∀ w, Calls Tryd.prog 48 #[.int .i64 y, .int .i64 m] w fun e w' => e = .returned (.int .i64 x) ∧ w = w') := Lib.hid (fun w => by rw [hx.out]; exact rlen_any y m w (by omega) (by omega))
      by_cases hr : x ≤ r
      · have HN := Lib.hid (bef_next y m m0 m1)
        by_cases hm : m = 12
        · have HK2 : Hid (n = ysP (y + 1) + befP (y + 1) 1 + (r - x)) := Lib.hid (by
            have a := HK.out
            have b := HN.out
            have c := ys_next y
            have e := hx.out
            have f := bef_one (y + 1)
            subst hm
            have g : befP y 13 = befP y 12 + lenP y 12 := b
            omega)
          have hy2 : y + 1 ≤ 2099 := by
            have a := HK2.out
            have f := bef_one (y + 1)
            by_cases c : y + 1 ≤ 2099
            · exact c
            · have := ys_mono 2100 (y + 1) (by omega)
              rw [ys_last] at this
              omega
          subst hm
          go_wp2_with (go_at_call 48; refine (CX.out _).mono ?_; rintro e w' ⟨rfl, rfl⟩)
          go_round
          case rel => exact ⟨y + 1, 1, r - x, by omega, hy2, by omega, by omega, by omega, by omega, rfl, rfl, rfl, HK2⟩
          case measure => simp [intOf]; omega
        · have HK2 : Hid (n = ysP y + befP y (m + 1) + (r - x)) := Lib.hid (by
            have a := HK.out
            have b := HN.out
            have e := hx.out
            omega)
          have hm2 : (m + 1 == 13) = false := by rw [beq_eq_false_iff_ne]; omega
          have hm3 : m ≤ 11 := by omega
          clear hm
          go_wp2_with (go_at_call 48; refine (CX.out _).mono ?_; rintro e w' ⟨rfl, rfl⟩)
          go_round
          case rel => exact ⟨y, m + 1, r - x, by omega, by omega, by omega, by omega, by omega, by omega, rfl, rfl, rfl, HK2⟩
          case measure => simp [intOf]; omega
      · have HR : Hid (dateR n = (y, m, r + 1)) := Lib.hid (by
          have a := hx.out
          have b := HK.out
          exact date_of (ok_mk (by omega)) (by unfold numP; omega))
        go_wp2_with (go_at_call 48; refine (CX.out _).mono ?_; rintro e w' ⟨rfl, rfl⟩)
        go_ret3
        exact ⟨by rw [HR.out]; rfl, rfl⟩
  · have HR : Hid (dateR n = (0, 0, 0)) := Lib.hid (date_out (by simpa [isDayB] using hn))
    by_cases h0 : n < 0
    · clear hn
      go_enter Tryd.func37, Tryd.ntmps37
      go_wp2
      go_ret3
      exact ⟨by rw [HR.out]; rfl, rfl⟩
    · have h1 : 36525 ≤ n := by omega
      clear hn
      go_enter Tryd.func37, Tryd.ntmps37
      go_wp2
      go_ret3
      exact ⟨by rw [HR.out]; rfl, rfl⟩

end Go.Proofs.YtnfdmdhpbaifiaaDoor
