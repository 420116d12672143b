/- Walks of Parse and Minute, beside the reference's. -/
import Derived.Test.YtnfdmdhpbaifiaaDoorCalE
import Derived.Test.YtnfdmdhpbaifiaaDoorCalF
import Derived.Deep.RegionHeld3
import Derived.BigQuiet
import Derived.Deep.QuietTactic
namespace Go.Proofs.YtnfdmdhpbaifiaaDoor
open Go.RowKit
set_option linter.unusedSimpArgs false
set_option linter.unusedVariables false

theorem ext_list (s : ByteArray) (i j : Nat) : (s.extract i j).data.toList = (s.data.toList.drop i).take (j - i) := by
  simp [ByteArray.data_extract, Array.toList_extract, List.extract_eq_take_drop]
theorem day_acc (y m d : Int) (w w1 : World) (hb : Below w.heap.size w w1) : Calls Tryd.prog 29 #[.int .i64 y, .int .i64 m, .int .i64 d] w1 fun e w' => e = .returned (.tuple #[.int .i64 (dayR y m d).1, .int .i64 (dayR y m d).2]) ∧ Below w.heap.size w w' :=
  (day_any y m d w1).mono (by rintro e w' ⟨rfl, h⟩; exact ⟨rfl, hb.trans (h.mono hb.size)⟩)

set_option maxHeartbeats 1000000 in
theorem parse_any (s : ByteArray) (w : World) (hs : s.size ≤ 1000) : Calls Tryd.prog 13 #[.string s] w fun e w' => e = .returned (.tuple #[.int .i64 (parseP s.data.toList).1, .int .i64 (parseP s.data.toList).2]) ∧ Below w.heap.size w w' := by
  have CF := Lib.hid (fun w => fits_any s ⟨#[48, 48, 48, 48, 45, 48, 48, 45, 48, 48]⟩ w hs (by decide))
  cases hf : fitsB s.data.toList patD
  · have HR : Hid (parseP s.data.toList = (0, 3)) := Lib.hid (by rw [parseP, hf]; rfl)
    have HF := Lib.hid hf
    clear hf
    go_enter Tryd.func13, Tryd.ntmps13
    go_wp2_with (go_at_call 28; refine (CF.out _).mono ?_; rintro e w' ⟨rfl, hb⟩; rw [show fitsB s.data.toList (ByteArray.data ⟨#[48, 48, 48, 48, 45, 48, 48, 45, 48, 48]⟩).toList = false from HF.out])
    go_ret2
    exact ⟨by rw [HR.out]; rfl, hb⟩
  · have hl : s.size = 10 := by have := fits_len _ _ hf; simpa [patD] using this
    have HR : Hid (parseP s.data.toList = dayR (numL 0 (s.extract 0 4).data.toList) (numL 0 (s.extract 5 7).data.toList) (numL 0 (s.extract 8 s.size).data.toList)) := Lib.hid (by
      rw [parseP, if_pos hf, ext_list, ext_list, ext_list, hl]
      have e : (s.data.toList.drop 8).take (10 - 8) = s.data.toList.drop 8 := List.take_of_length_le (by simp; omega)
      rw [e]; rfl)
    have HF := Lib.hid hf
    have hd : (s.extract 0 4).data.toList.all digB = true ∧ (s.extract 5 7).data.toList.all digB = true ∧ (s.extract 8 s.size).data.toList.all digB = true := by
      rw [ext_list, ext_list, ext_list, hl]
      obtain ⟨a, b, c, d, e, f, g, h', i, j, hL⟩ := len_ten s.data.toList (by simpa using hl)
      rw [hL] at hf ⊢
      rw [fits_date] at hf
      simp only [Bool.and_eq_true] at hf
      obtain ⟨ha, hb, hc, hd, _, hf, hg, _, hi, hj⟩ := hf
      simp [ha, hb, hc, hd, hf, hg, hi, hj]
    obtain ⟨q1, q2, q3⟩ := hd
    have z1 : (s.extract 0 4).size ≤ 10 := by simp; omega
    have z2 : (s.extract 5 7).size ≤ 10 := by simp; omega
    have z3 : (s.extract 8 s.size).size ≤ 10 := by simp; omega
    have e1 : ∀ W, (Instr.slice 9 (.string s) none (some (.int .i64 4)) none).run Tryd.prog W = .ok (.string (s.extract 0 4)) W := fun W => run_slice_string_h W _ s Tryd.underlying9 _ _ (by omega) (by omega)
    have e2 : ∀ W, (Instr.slice 9 (.string s) (some (.int .i64 5)) (some (.int .i64 7)) none).run Tryd.prog W = .ok (.string (s.extract 5 7)) W := fun W => run_slice_string W _ s _ _ 5 7 Tryd.underlying9 (by omega) (by omega) (by omega)
    have e3 : ∀ W, (Instr.slice 9 (.string s) (some (.int .i64 8)) none none).run Tryd.prog W = .ok (.string (s.extract 8 s.size)) W := fun W => run_slice_string_l W _ s Tryd.underlying9 _ _ (by omega) (by omega)
    generalize s.extract 0 4 = s1 at *
    generalize s.extract 5 7 = s2 at *
    generalize s.extract 8 s.size = s3 at *
    have C1 := Lib.hid (fun w => number_any s1 w z1 q1)
    have C2 := Lib.hid (fun w => number_any s2 w z2 q2)
    have C3 := Lib.hid (fun w => number_any s3 w z3 q3)
    clear hf q1 q2 q3 z1 z2 z3
    generalize numL 0 s1.data.toList = y at *
    generalize numL 0 s2.data.toList = m at *
    generalize numL 0 s3.data.toList = d at *
    have CD := Lib.hid (fun w1 hb => day_acc y m d w w1 hb)
    clear hs
    have HL := Lib.hid hl
    clear hl
    go_enter Tryd.func13, Tryd.ntmps13
    go_wp2_with (go_at_call 28; refine (CF.out _).mono ?_; rintro e w' ⟨rfl, hb⟩; rw [show fitsB s.data.toList (ByteArray.data ⟨#[48, 48, 48, 48, 45, 48, 48, 45, 48, 48]⟩).toList = true from HF.out])
    have hb1 := hb.drew
    go_region_held3 (fun W => Below w.heap.size w W) (first | exact hb1 | assumption) ((first | (go_at_call 30; first | (with_reducible refine (C1.out _).mono ?_; rintro e w2 ⟨rfl, rfl⟩) | (with_reducible refine (C2.out _).mono ?_; rintro e w2 ⟨rfl, rfl⟩) | (with_reducible refine (C3.out _).mono ?_; rintro e w2 ⟨rfl, rfl⟩)) | (go_at_call 29; refine (CD.out _ (by assumption)).mono ?_; rintro e w2 ⟨rfl, hb2⟩)))
    go_wp2
    go_ret2
    exact ⟨by rw [HR.out]; rfl, hb2⟩
end Go.Proofs.YtnfdmdhpbaifiaaDoor
