/- Walks of Parse and Minute, beside the reference's. -/
import Derived.Test.YtlebpnbpoalegaaCalE
import Derived.Test.YtlebpnbpoalegaaCalF
import Derived.Deep.RegionHeld3
import Derived.BigQuiet
import Derived.Deep.QuietTactic
namespace Go.Proofs.Ytlebpnbpoalegaa
open Go.RowKit
set_option linter.unusedSimpArgs false
set_option linter.unusedVariables false

theorem ext_list (s : ByteArray) (i j : Nat) : (s.extract i j).data.toList = (s.data.toList.drop i).take (j - i) := by
  simp [ByteArray.data_extract, Array.toList_extract, List.extract_eq_take_drop]
theorem day_acc (y m d : Int) (w w1 : World) (hb : Below w.heap.size w w1) : Calls Try.prog 9 #[.int .i64 y, .int .i64 m, .int .i64 d] w1 fun e w' => e = .returned (.tuple #[.int .i64 (dayR y m d).1, .int .i64 (dayR y m d).2]) ∧ Below w.heap.size w w' :=
  (day_any y m d w1).mono (by rintro e w' ⟨rfl, h⟩; exact ⟨rfl, hb.trans (h.mono hb.size)⟩)

set_option maxHeartbeats 1000000 in
theorem parse_any (s : ByteArray) (w : World) (hs : s.size ≤ 1000) : Calls Try.prog 17 #[.string s] w fun e w' => e = .returned (.tuple #[.int .i64 (parseP s.data.toList).1, .int .i64 (parseP s.data.toList).2]) ∧ Below w.heap.size w w' := by
  have CF := Lib.hid (fun w => fits_any s ⟨#[48, 48, 48, 48, 45, 48, 48, 45, 48, 48]⟩ w hs (by decide))
  cases hf : fitsB s.data.toList patD
  · have HR : Hid (parseP s.data.toList = (0, 3)) := Lib.hid (by rw [parseP, hf]; rfl)
    have HF := Lib.hid hf
    clear hf
    go_enter Try.func17, Try.ntmps17
    go_wp2_with (go_at_call 32; refine (CF.out _).mono ?_; rintro e w' ⟨rfl, hb⟩; rw [show fitsB s.data.toList (ByteArray.data ⟨#[48, 48, 48, 48, 45, 48, 48, 45, 48, 48]⟩).toList = false from HF.out])
    go_ret2
    exact ⟨by rw [HR.out]; rfl, hb⟩
  · have hl : s.size = 10 := by have := fits_len _ _ hf; simpa [patD] using this
    have HR : Hid (parseP s.data.toList = dayR (numL 0 (s.extract 0 4).data.toList) (numL 0 (s.extract 5 7).data.toList) (numL 0 (s.extract 8 s.size).data.toList)) := Lib.hid (by
      rw [parseP, if_pos hf, ext_list, ext_list, ext_list, hl]
      have e : (s.data.toList.drop 8).take (10 - 8) = s.data.toList.drop 8 := List.take_of_length_le (by simp; omega)
      rw [e]; rfl)
    have HF := Lib.hid hf
    have hd : (s.extract 0 4).data.toList.all digB = true ∧ (s.extract 5 7).data.toList.all digB = true ∧ (s.extract 8 s.size).data.toList.all digB = true := by
      rw [ext_list, ext_list, ext_list, hl]
      obtain ⟨a, b, c, d, e, f, g, h', i, j, hL⟩ := len_ten s.data.toList (by simpa using hl)
      rw [hL] at hf ⊢
      rw [fits_date] at hf
      simp only [Bool.and_eq_true] at hf
      obtain ⟨ha, hb, hc, hd, _, hf, hg, _, hi, hj⟩ := hf
      simp [ha, hb, hc, hd, hf, hg, hi, hj]
    obtain ⟨q1, q2, q3⟩ := hd
    have z1 : (s.extract 0 4).size ≤ 10 := by simp; omega
    have z2 : (s.extract 5 7).size ≤ 10 := by simp; omega
    have z3 : (s.extract 8 s.size).size ≤ 10 := by simp; omega
    have e1 : ∀ W, (Instr.slice 9 (.string s) none (some (.int .i64 4)) none).run Try.prog W = .ok (.string (s.extract 0 4)) W := fun W => run_slice_string_h W _ s Try.underlying9 _ _ (by omega) (by omega)
    have e2 : ∀ W, (Instr.slice 9 (.string s) (some (.int .i64 5)) (some (.int .i64 7)) none).run Try.prog W = .ok (.string (s.extract 5 7)) W := fun W => run_slice_string W _ s _ _ 5 7 Try.underlying9 (by omega) (by omega) (by omega)
    have e3 : ∀ W, (Instr.slice 9 (.string s) (some (.int .i64 8)) none none).run Try.prog W = .ok (.string (s.extract 8 s.size)) W := fun W => run_slice_string_l W _ s Try.underlying9 _ _ (by omega) (by omega)
    generalize s.extract 0 4 = s1 at *
    generalize s.extract 5 7 = s2 at *
    generalize s.extract 8 s.size = s3 at *
    have C1 := Lib.hid (fun w => number_any s1 w z1 q1)
    have C2 := Lib.hid (fun w => number_any s2 w z2 q2)
    have C3 := Lib.hid (fun w => number_any s3 w z3 q3)
    clear hf q1 q2 q3 z1 z2 z3
    generalize numL 0 s1.data.toList = y at *
    generalize numL 0 s2.data.toList = m at *
    generalize numL 0 s3.data.toList = d at *
    have CD := Lib.hid (fun w1 hb => day_acc y m d w w1 hb)
    clear hs
    have HL := Lib.hid hl
    clear hl
    go_enter Try.func17, Try.ntmps17
    go_wp2_with (go_at_call 32; refine (CF.out _).mono ?_; rintro e w' ⟨rfl, hb⟩; rw [show fitsB s.data.toList (ByteArray.data ⟨#[48, 48, 48, 48, 45, 48, 48, 45, 48, 48]⟩).toList = true from HF.out])
    have hb1 := hb.drew
    go_region_held3 (fun W => Below w.heap.size w W) (first | exact hb1 | assumption) ((first | (go_at_call 33; first | (with_reducible refine (C1.out _).mono ?_; rintro e w2 ⟨rfl, rfl⟩) | (with_reducible refine (C2.out _).mono ?_; rintro e w2 ⟨rfl, rfl⟩) | (with_reducible refine (C3.out _).mono ?_; rintro e w2 ⟨rfl, rfl⟩)) | (go_at_call 9; refine (CD.out _ (by assumption)).mono ?_; rintro e w2 ⟨rfl, hb2⟩)))
    go_wp2
    go_ret2
    exact ⟨by rw [HR.out]; rfl, hb2⟩
set_option maxHeartbeats 1000000 in
theorem minute_any (s : ByteArray) (w : World) (hs : s.size ≤ 1000) : Calls Try.prog 21 #[.string s] w fun e w' => e = .returned (.tuple #[.int .i64 (minP s.data.toList).1, .int .i64 (minP s.data.toList).2]) ∧ Below w.heap.size w w' := by
  have CF := Lib.hid (fun w => fits_any s ⟨#[48, 48, 58, 48, 48]⟩ w hs (by decide))
  cases hf : fitsB s.data.toList patM
  · have HR : Hid (minP s.data.toList = (0, 3)) := Lib.hid (by rw [minP, hf]; rfl)
    have HF := Lib.hid hf
    clear hf
    go_enter Try.func21, Try.ntmps21
    go_wp2_with (go_at_call 32; refine (CF.out _).mono ?_; rintro e w' ⟨rfl, hb⟩; rw [show fitsB s.data.toList (ByteArray.data ⟨#[48, 48, 58, 48, 48]⟩).toList = false from HF.out])
    go_ret2
    exact ⟨by rw [HR.out]; rfl, hb⟩
  · have hl : s.size = 5 := by have := fits_len _ _ hf; simpa [patM] using this
    have HR : Hid (minP s.data.toList = if numL 0 (s.extract 0 2).data.toList ≤ 23 ∧ numL 0 (s.extract 3 s.size).data.toList ≤ 59 then (numL 0 (s.extract 0 2).data.toList * 60 + numL 0 (s.extract 3 s.size).data.toList, 0) else (0, 13)) := Lib.hid (by
      rw [minP, if_pos hf, ext_list, ext_list, hl]
      have e : (s.data.toList.drop 3).take (5 - 3) = s.data.toList.drop 3 := List.take_of_length_le (by simp; omega)
      rw [e]; rfl)
    have HF := Lib.hid hf
    have hd : (s.extract 0 2).data.toList.all digB = true ∧ (s.extract 3 s.size).data.toList.all digB = true ∧ 0 ≤ numL 0 (s.extract 0 2).data.toList ∧ numL 0 (s.extract 0 2).data.toList ≤ 99 ∧ 0 ≤ numL 0 (s.extract 3 s.size).data.toList ∧ numL 0 (s.extract 3 s.size).data.toList ≤ 99 := by
      rw [ext_list, ext_list, hl]
      obtain ⟨a, b, c, d, e, hL⟩ := len_five s.data.toList (by simpa using hl)
      rw [hL] at hf ⊢
      rw [fits_min] at hf
      simp only [Bool.and_eq_true] at hf
      obtain ⟨ha, hb, _, hd, he⟩ := hf
      have := dig_nat ha
      have := dig_nat hb
      have := dig_nat hd
      have := dig_nat he
      simp [ha, hb, hd, he, numL_cons, numL_nil]
      omega
    obtain ⟨q1, q2, r1, r2, r3, r4⟩ := hd
    have z1 : (s.extract 0 2).size ≤ 10 := by simp; omega
    have z2 : (s.extract 3 s.size).size ≤ 10 := by simp; omega
    have e1 : ∀ W, (Instr.slice 9 (.string s) none (some (.int .i64 2)) none).run Try.prog W = .ok (.string (s.extract 0 2)) W := fun W => run_slice_string_h W _ s Try.underlying9 _ _ (by omega) (by omega)
    have e3 : ∀ W, (Instr.slice 9 (.string s) (some (.int .i64 3)) none none).run Try.prog W = .ok (.string (s.extract 3 s.size)) W := fun W => run_slice_string_l W _ s Try.underlying9 _ _ (by omega) (by omega)
    generalize s.extract 0 2 = s1 at *
    generalize s.extract 3 s.size = s2 at *
    have C1 := Lib.hid (fun w => number_any s1 w z1 q1)
    have C2 := Lib.hid (fun w => number_any s2 w z2 q2)
    clear hf q1 q2 z1 z2
    generalize numL 0 s1.data.toList = y at *
    generalize numL 0 s2.data.toList = m at *
    clear hs
    have HL := Lib.hid hl
    clear hl
    have K1 : Hid (∀ w, Calls Try.prog 33 #[.string s1] w fun e w' => e = .returned (.int .i64 y) ∧ w' = w) := Lib.hid (fun w => (C1.out w).mono (by rintro e w' ⟨rfl, rfl⟩; exact ⟨rfl, rfl⟩))
    have K2 : Hid (∀ w, Calls Try.prog 33 #[.string s2] w fun e w' => e = .returned (.int .i64 m) ∧ w' = w) := Lib.hid (fun w => (C2.out w).mono (by rintro e w' ⟨rfl, rfl⟩; exact ⟨rfl, rfl⟩))
    clear C1 C2
    by_cases h1 : 23 < y
    · have HR2 : Hid (minP s.data.toList = (0, 13)) := Lib.hid (by rw [HR.out, if_neg (by omega)])
      go_enter Try.func21, Try.ntmps21
      go_wp2_with (go_at_call 32; refine (CF.out _).mono ?_; rintro e w' ⟨rfl, hb⟩; rw [show fitsB s.data.toList (ByteArray.data ⟨#[48, 48, 58, 48, 48]⟩).toList = true from HF.out])
      go_quiet ((go_at_call 33; first | with_reducible exact Calls.quiet_of_same (K1.out _) | with_reducible exact Calls.quiet_of_same (K2.out _)))
      go_wp2
      go_ret2
      exact ⟨by rw [HR2.out]; rfl, below_drewN hb _⟩
    by_cases h2 : 59 < m
    · have HR2 : Hid (minP s.data.toList = (0, 13)) := Lib.hid (by rw [HR.out, if_neg (by omega)])
      go_enter Try.func21, Try.ntmps21
      go_wp2_with (go_at_call 32; refine (CF.out _).mono ?_; rintro e w' ⟨rfl, hb⟩; rw [show fitsB s.data.toList (ByteArray.data ⟨#[48, 48, 58, 48, 48]⟩).toList = true from HF.out])
      go_quiet ((go_at_call 33; first | with_reducible exact Calls.quiet_of_same (K1.out _) | with_reducible exact Calls.quiet_of_same (K2.out _)))
      go_wp2
      go_ret2
      exact ⟨by rw [HR2.out]; rfl, below_drewN hb _⟩
    · have HR2 : Hid (minP s.data.toList = (y * 60 + m, 0)) := Lib.hid (by rw [HR.out, if_pos (by omega)])
      go_enter Try.func21, Try.ntmps21
      go_wp2_with (go_at_call 32; refine (CF.out _).mono ?_; rintro e w' ⟨rfl, hb⟩; rw [show fitsB s.data.toList (ByteArray.data ⟨#[48, 48, 58, 48, 48]⟩).toList = true from HF.out])
      go_quiet ((go_at_call 33; first | with_reducible exact Calls.quiet_of_same (K1.out _) | with_reducible exact Calls.quiet_of_same (K2.out _)))
      go_wp2
      go_ret2
      exact ⟨by rw [HR2.out]; rfl, below_drewN hb _⟩

end Go.Proofs.Ytlebpnbpoalegaa
