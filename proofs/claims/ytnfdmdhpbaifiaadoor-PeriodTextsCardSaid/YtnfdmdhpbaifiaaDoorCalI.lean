/- Walks of the reference's Parse and Minute. -/
import Derived.Test.YtnfdmdhpbaifiaaDoorCalH
namespace Go.Proofs.YtnfdmdhpbaifiaaDoor
open Go.RowKit
set_option linter.unusedSimpArgs false
set_option linter.unusedVariables false

theorem dig_same (s : ByteArray) (a n : Nat) (hs : s.size ≤ 1000) (h : a + n ≤ s.size) (hn : n ≤ 9) (w : World) :
    Calls Tryd.prog 31 #[.string s, .int .i64 (a : Int), .int .i64 (n : Int)] w fun e w' => e = .returned (.int .i64 (digR s.data.toList a n)) ∧ w' = w :=
  (digits_any s a n w hs h hn).mono (by rintro e w' ⟨rfl, rfl⟩; exact ⟨rfl, rfl⟩)
theorem ne_byte {c : UInt8} {k : Nat} (hk : k < 256) : (((c.toNat : Int) != (k : Int)) = true) ↔ c ≠ UInt8.ofNat k := by
  rw [bne_iff_ne]
  constructor
  · intro h e; subst e; apply h; rw [UInt8.toNat_ofNat']; omega
  · intro h e; apply h; apply UInt8.toNat_inj.1; rw [UInt8.toNat_ofNat']; omega

set_option maxHeartbeats 1000000 in
theorem rparse_any (s : ByteArray) (w : World) (hs : s.size ≤ 1000) : Calls Tryd.prog 17 #[.string s] w fun e w' => e = .returned (.tuple #[.int .i64 (parseP s.data.toList).1, .int .i64 (parseP s.data.toList).2]) ∧ Below w.heap.size w w' := by
  have hll : s.data.toList.length = s.size := by simp
  by_cases hl : s.size = 10
  case neg =>
    have HR : Hid (parseP s.data.toList = (0, 3)) := Lib.hid (rparse_len (by rw [hll]; exact hl))
    have h1 : ((s.size : Int) != 10) = true := by rw [bne_iff_ne]; omega
    clear hl
    go_enter Tryd.func17, Tryd.ntmps17
    go_wp2
    go_ret2
    exact ⟨by rw [HR.out]; rfl, Below.refl _ _⟩
  have h1 : ((s.size : Int) != 10) = false := by rw [hl]; rfl
  have i4 : 4 < s.size := by omega
  have i7 : 7 < s.size := by omega
  have hl2 : s.data.toList.length = 10 := by rw [hll]; exact hl
  by_cases c4 : s[4] = 45
  case neg =>
    have HR : Hid (parseP s.data.toList = (0, 3)) := Lib.hid (rparse_hy hl2 (.inl c4))
    have q1 : ((s[4].toNat : Int) != 45) = true := (ne_byte (k := 45) (by decide)).2 c4
    clear c4 hl hl2 hll
    go_enter Tryd.func17, Tryd.ntmps17
    go_wp2
    go_ret2
    exact ⟨by rw [HR.out]; rfl, Below.refl _ _⟩
  have q1 : ((s[4].toNat : Int) != 45) = false := by rw [c4]; rfl
  by_cases c7 : s[7] = 45
  case neg =>
    have HR : Hid (parseP s.data.toList = (0, 3)) := Lib.hid (rparse_hy hl2 (.inr c7))
    have q2 : ((s[7].toNat : Int) != 45) = true := (ne_byte (k := 45) (by decide)).2 c7
    clear c4 c7 hl hl2 hll
    go_enter Tryd.func17, Tryd.ntmps17
    go_wp2
    go_ret2
    exact ⟨by rw [HR.out]; rfl, Below.refl _ _⟩
  have q2 : ((s[7].toNat : Int) != 45) = false := by rw [c7]; rfl
  have HN : Hid (digR s.data.toList 0 4 < 0 ∨ digR s.data.toList 5 2 < 0 ∨ digR s.data.toList 8 2 < 0 → parseP s.data.toList = (0, 3)) := Lib.hid (rparse_neg hl2)
  have HY : Hid (¬ digR s.data.toList 0 4 < 0 → ¬ digR s.data.toList 5 2 < 0 → ¬ digR s.data.toList 8 2 < 0 → parseP s.data.toList = dayR (digR s.data.toList 0 4) (digR s.data.toList 5 2) (digR s.data.toList 8 2)) := Lib.hid (rparse_ok hl2 c4 c7)
  have K1 : Hid (∀ w, Calls Tryd.prog 31 #[.string s, .int .i64 0, .int .i64 4] w fun e w' => e = .returned (.int .i64 (digR s.data.toList 0 4)) ∧ w' = w) := Lib.hid (dig_same s 0 4 hs (by omega) (by omega))
  have K2 : Hid (∀ w, Calls Tryd.prog 31 #[.string s, .int .i64 5, .int .i64 2] w fun e w' => e = .returned (.int .i64 (digR s.data.toList 5 2)) ∧ w' = w) := Lib.hid (dig_same s 5 2 hs (by omega) (by omega))
  have K3 : Hid (∀ w, Calls Tryd.prog 31 #[.string s, .int .i64 8, .int .i64 2] w fun e w' => e = .returned (.int .i64 (digR s.data.toList 8 2)) ∧ w' = w) := Lib.hid (dig_same s 8 2 hs (by omega) (by omega))
  clear c4 c7 hl hl2 hll
  generalize digR s.data.toList 0 4 = y at *
  generalize digR s.data.toList 5 2 = m at *
  generalize digR s.data.toList 8 2 = d at *
  by_cases hy : y < 0
  · have HR : Hid (parseP s.data.toList = (0, 3)) := Lib.hid (HN.out (.inl hy))
    go_enter Tryd.func17, Tryd.ntmps17
    go_wp2_with (go_at_call 31; first | (with_reducible refine (K1.out _).mono ?_; rintro e w' ⟨rfl, rfl⟩) | (with_reducible refine (K2.out _).mono ?_; rintro e w' ⟨rfl, rfl⟩) | (with_reducible refine (K3.out _).mono ?_; rintro e w' ⟨rfl, rfl⟩))
    go_ret2
    exact ⟨by rw [HR.out]; rfl, Below.refl _ _⟩
  by_cases hm : m < 0
  · have HR : Hid (parseP s.data.toList = (0, 3)) := Lib.hid (HN.out (.inr (.inl hm)))
    go_enter Tryd.func17, Tryd.ntmps17
    go_wp2_with (go_at_call 31; first | (with_reducible refine (K1.out _).mono ?_; rintro e w' ⟨rfl, rfl⟩) | (with_reducible refine (K2.out _).mono ?_; rintro e w' ⟨rfl, rfl⟩) | (with_reducible refine (K3.out _).mono ?_; rintro e w' ⟨rfl, rfl⟩))
    go_ret2
    exact ⟨by rw [HR.out]; rfl, Below.refl _ _⟩
  by_cases hd : d < 0
  · have HR : Hid (parseP s.data.toList = (0, 3)) := Lib.hid (HN.out (.inr (.inr hd)))
    go_enter Tryd.func17, Tryd.ntmps17
    go_wp2_with (go_at_call 31; first | (with_reducible refine (K1.out _).mono ?_; rintro e w' ⟨rfl, rfl⟩) | (with_reducible refine (K2.out _).mono ?_; rintro e w' ⟨rfl, rfl⟩) | (with_reducible refine (K3.out _).mono ?_; rintro e w' ⟨rfl, rfl⟩))
    go_ret2
    exact ⟨by rw [HR.out]; rfl, Below.refl _ _⟩
  · have HR : Hid (parseP s.data.toList = dayR y m d) := Lib.hid (HY.out hy hm hd)
    go_enter Tryd.func17, Tryd.ntmps17
    go_wp2_with (first | (go_at_call 31; first | (with_reducible refine (K1.out _).mono ?_; rintro e w' ⟨rfl, rfl⟩) | (with_reducible refine (K2.out _).mono ?_; rintro e w' ⟨rfl, rfl⟩) | (with_reducible refine (K3.out _).mono ?_; rintro e w' ⟨rfl, rfl⟩)) | (go_at_call 32; refine (rday_any _ _ _ _).mono ?_; rintro e w' ⟨rfl, rfl⟩))
    go_ret2
    exact ⟨by rw [HR.out]; rfl, Below.refl _ _⟩

end Go.Proofs.YtnfdmdhpbaifiaaDoor
