/- Words and walks that the laws below ask: CalF, CalG, PerU, FrameV, ClosFT, FliB, ZonC, ZonD, FliC, PlaN, PlaL, FliD, FliE, FliF, FliG, FliI. -/
import Derived.Deep.RegionHeld3
import Derived.BigQuiet
import Derived.Deep.QuietTactic
import Derived.Test.YtmmpalnalogfnaaGreatDoorCards
import Derived.Test.YtmmpalnalogfnaaGreatDoorTie
import Derived.WalkKit
import Derived.ProofKit
import Derived.OpenShut
import Derived.ShutString
import Derived.Carry
import Derived.SizedLaws
import Derived.SliceStrings
import Derived.Stop.LaidErr
import Derived.Deep.DeepHandedRow
import Derived.Deep.DeepWitnessRowRef
import Derived.Deep.DeepLaidRun
import Derived.Lib.LaidTab
import Derived.Lib.SmallJoins
import Derived.Deep.SlicePairs
import Derived.Test.YtmmpalnalogfnaaGreatDoorRows
import Derived.ChangeSlices
import Derived.ChangeMaps5
import Derived.Deep.LoopGhost
import Derived.Shelf.Abstract
import Derived.Deep.CutRange
import Derived.Deep.Onto
import Derived.Lib.ItoaLen
import Derived.Test.YtmmpalnalogfnaaGreatDoorPk1
import Derived.Test.YtmmpalnalogfnaaGreatDoorPk2
import Derived.Test.YtmmpalnalogfnaaGreatDoorPk3
import Derived.Test.YtmmpalnalogfnaaGreatDoorPk4
/- Walks of the tests and numbers of digits; of Parse and Minute. -/
namespace Go.Proofs.YtmmpalnalogfnaaGreatDoor.Per
open Go.RowKit
set_option linter.unusedSimpArgs false
set_option linter.unusedVariables false

set_option maxHeartbeats 400000 in
theorem isDigit_any (c : UInt8) (w : World) : Calls Tryz.prog 218 #[.int .u8 (c.toNat : Int)] w fun e w' => e = .returned (.bool (digB c)) ∧ w = w' := by
  by_cases h1 : 48 ≤ (c.toNat : Int)
  · go_enter Tryz.func218, Tryz.ntmps218
    go_wp2
    go_ret
    exact ⟨ret_bool (by simp [digB]; omega), rfl⟩
  · go_enter Tryz.func218, Tryz.ntmps218
    go_wp2
    go_ret
    exact ⟨ret_bool (by simp [digB]; omega), rfl⟩
theorem data_at (s : ByteArray) (k : Nat) (h : k < s.size) : s.data.toList[k]'(by simpa using h) = s[k] := rfl

set_option maxRecDepth 100000 in
set_option maxHeartbeats 1000000 in
theorem fits_any (s p : ByteArray) (w : World) (hs : s.size ≤ 1000) (hp : p.size ≤ 1000) :
    Calls Tryz.prog 168 #[.string s, .string p] w fun e w' => e = .returned (.bool (fitsB s.data.toList p.data.toList)) ∧ Below w.heap.size w w' := by
  by_cases hl : s.size = p.size
  · have HL := Lib.hid hl
    have hl2 : ((s.size : Int) != (p.size : Int)) = false := by simp [hl]
    clear hl
    go_enter Tryz.func168, Tryz.ntmps168
    go_wp2
    go_loopw [13] (fun vi wr => ∃ k : Nat, k ≤ s.size ∧ vi = .int .i64 k ∧ Hid (fitsB s.data.toList p.data.toList = fitsB (s.data.toList.drop k) (p.data.toList.drop k)) ∧ Hid (Below w.heap.size w wr)) (fun i _ => s.size - (intOf i).toNat)
    case atStart => exact ⟨0, by omega, rfl, Lib.hid rfl, Lib.hid (Below.refl _ _)⟩
    case round =>
      obtain ⟨k, hk, rfl, HK, HB⟩ := hrel
      by_cases hlt : k < s.size
      · have hlt2 : k < p.size := by have := HL.out; omega
        have i1 : (k : Int) < (s.size : Int) := by omega
        have i2 : (k : Int) < (p.size : Int) := by omega
        have HS : Hid (fitsB s.data.toList p.data.toList = (oneB s[k] p[k] && fitsB (s.data.toList.drop (k + 1)) (p.data.toList.drop (k + 1)))) := Lib.hid (by
          rw [HK.out, fits_step _ _ k (by simpa using hlt) (by simpa using hlt2)]; rfl)
        have HO : Hid (oneB s[k] p[k] = if p[k] = 48 then digB s[k] else s[k] == p[k]) := Lib.hid rfl
        clear HK
        by_cases hq : p[k] = 48
        · have q1 : ((p[k].toNat : Int) == 48) = true := by rw [hq]; rfl
          have q2 : ((p[k].toNat : Int) != 48) = false := by rw [hq]; rfl
          cases hc : digB s[k]
          · have HI : Hid (∀ w, Calls Tryz.prog 218 #[.int .u8 (s[k].toNat : Int)] w fun e w' => e = .returned (.bool false) ∧ w' = w) := Lib.hid (fun w => (isDigit_any s[k] w).mono (by rintro e w' ⟨rfl, rfl⟩; exact ⟨by rw [hc], rfl⟩))
            have HR : Hid (fitsB s.data.toList p.data.toList = false) := Lib.hid (by rw [HS.out, HO.out, if_pos hq, hc]; rfl)
            clear hq
            go_wp2
            go_quiet ((go_at_call 218; exact Calls.quiet_of_same (HI.out _)))
            go_wp2
            go_ret
            exact ⟨by rw [HR.out]; rfl, below_drewN HB.out _⟩
          · have HI : Hid (∀ w, Calls Tryz.prog 218 #[.int .u8 (s[k].toNat : Int)] w fun e w' => e = .returned (.bool true) ∧ w' = w) := Lib.hid (fun w => (isDigit_any s[k] w).mono (by rintro e w' ⟨rfl, rfl⟩; exact ⟨by rw [hc], rfl⟩))
            have HR : Hid (fitsB s.data.toList p.data.toList = fitsB (s.data.toList.drop (k + 1)) (p.data.toList.drop (k + 1))) := Lib.hid (by rw [HS.out, HO.out, if_pos hq, hc]; rfl)
            clear hq
            go_wp2
            go_quiet ((go_at_call 218; exact Calls.quiet_of_same (HI.out _)))
            go_wp2
            go_roundw
            case rel => exact ⟨k + 1, by omega, by go_num, HR, Lib.hid (below_drewN HB.out _)⟩
            case measure => simp [intOf]; omega
        · have hq' : (p[k].toNat : Int) ≠ 48 := fun e => hq (UInt8.toNat_inj.1 (by have : ((48 : UInt8).toNat : Int) = 48 := rfl; omega))
          have q1 : ((p[k].toNat : Int) == 48) = false := by rw [beq_eq_false_iff_ne]; exact hq'
          have q2 : ((p[k].toNat : Int) != 48) = true := by rw [bne_iff_ne]; exact hq'
          by_cases hc : s[k] = p[k]
          · have c1 : ((s[k].toNat : Int) != (p[k].toNat : Int)) = false := by rw [hc]; simp
            have HR : Hid (fitsB s.data.toList p.data.toList = fitsB (s.data.toList.drop (k + 1)) (p.data.toList.drop (k + 1))) := Lib.hid (by rw [HS.out, HO.out, if_neg hq, hc]; simp)
            clear hq hq' hc
            go_wp2
            go_quiet (fail)
            go_wp2
            go_roundw
            case rel => exact ⟨k + 1, by omega, by go_num, HR, Lib.hid (below_drewN HB.out _)⟩
            case measure => simp [intOf]; omega
          · have c1 : ((s[k].toNat : Int) != (p[k].toNat : Int)) = true := by rw [bne_iff_ne]; intro e; exact hc (UInt8.toNat_inj.1 (by omega))
            have HR : Hid (fitsB s.data.toList p.data.toList = false) := Lib.hid (by rw [HS.out, HO.out, if_neg hq, beq_eq_false_iff_ne.2 hc]; rfl)
            clear hq hq' hc
            go_wp2
            go_quiet (fail)
            go_wp2
            go_ret
            exact ⟨by rw [HR.out]; rfl, below_drewN HB.out _⟩
      · have HR : Hid (fitsB s.data.toList p.data.toList = true) := Lib.hid (by rw [HK.out, fits_end _ _ (by simpa using HL.out) k (by simp; omega)])
        go_wp2
        go_ret
        exact ⟨by rw [HR.out]; rfl, HB.out⟩
  · have HR : Hid (fitsB s.data.toList p.data.toList = false) := Lib.hid (fits_no _ _ (by simpa using hl))
    have hl2 : ((s.size : Int) != (p.size : Int)) = true := by simp; omega
    clear hl
    go_enter Tryz.func168, Tryz.ntmps168
    go_wp2
    go_ret
    exact ⟨by rw [HR.out]; rfl, Below.refl _ _⟩
set_option maxHeartbeats 1000000 in
theorem number_any (s : ByteArray) (w : World) (hs : s.size ≤ 10) (hd : s.data.toList.all digB = true) :
    Calls Tryz.prog 170 #[.string s] w fun e w' => e = .returned (.int .i64 (numL 0 s.data.toList)) ∧ w = w' := by
  have HD := Lib.hid hd
  clear hd
  go_enter Tryz.func170, Tryz.ntmps170
  go_wp2
  go_loop [3, 7] (fun vn vi => ∃ (k : Nat) (acc : Int), k ≤ s.size ∧ vi = .int .i64 k ∧ vn = .int .i64 acc ∧ 0 ≤ acc ∧ acc < 10 ^ k ∧ Hid (numL 0 s.data.toList = numL acc (s.data.toList.drop k))) (fun _ i => s.size - (intOf i).toNat)
  case atStart => exact ⟨0, 0, by omega, rfl, rfl, by omega, by decide, Lib.hid (by rw [List.drop_zero])⟩
  case round =>
    obtain ⟨k, acc, hk, rfl, rfl, a0, a1, HK⟩ := hrel
    by_cases hlt : k < s.size
    · have hc : digB s[k] = true := List.all_eq_true.1 HD.out _ (by rw [← data_at s k hlt]; exact List.getElem_mem _)
      have HN : Hid (numL 0 s.data.toList = numL (10 * acc + ((s[k].toNat : Int) - 48)) (s.data.toList.drop (k + 1))) := Lib.hid (by
        rw [HK.out, numL_step acc s.data.toList k (by simpa using hlt)]; rfl)
      have hcn := dig_nat hc
      have hp : (10 : Int) ^ k ≤ 1000000000 := by
        have : k = 0 ∨ k = 1 ∨ k = 2 ∨ k = 3 ∨ k = 4 ∨ k = 5 ∨ k = 6 ∨ k = 7 ∨ k = 8 ∨ k = 9 := by omega
        rcases this with rfl | rfl | rfl | rfl | rfl | rfl | rfl | rfl | rfl | rfl <;> decide
      have hq : (10 : Int) ^ (k + 1) = 10 * 10 ^ k := by rw [Int.pow_succ, Int.mul_comm]
      have HP : Hid (10 * acc + ((s[k].toNat : Int) - 48) < 10 ^ (k + 1)) := Lib.hid (by rw [hq]; omega)
      have hacc : acc < 1000000000 := by omega
      clear hp hq a1 hc
      go_wp2
      go_round
      case rel => exact ⟨k + 1, 10 * acc + ((s[k].toNat : Int) - 48), by omega, by go_num, rfl, by omega, HP.out, HN⟩
      case measure => simp [intOf]; omega
    · have HE : Hid (numL 0 s.data.toList = acc) := Lib.hid (by rw [HK.out, numL_end _ _ _ (by simp; omega)])
      clear a1
      go_wp2
      go_ret
      exact ⟨by rw [HE.out]; rfl, rfl⟩

end Go.Proofs.YtmmpalnalogfnaaGreatDoor.Per

/- Walks of Parse and Minute, beside the reference's. -/
namespace Go.Proofs.YtmmpalnalogfnaaGreatDoor.Per
open Go.RowKit
set_option linter.unusedSimpArgs false
set_option linter.unusedVariables false

theorem ext_list (s : ByteArray) (i j : Nat) : (s.extract i j).data.toList = (s.data.toList.drop i).take (j - i) := by
  simp [ByteArray.data_extract, Array.toList_extract, List.extract_eq_take_drop]
theorem day_acc (y m d : Int) (w w1 : World) (hb : Below w.heap.size w w1) : Calls Tryz.prog 169 #[.int .i64 y, .int .i64 m, .int .i64 d] w1 fun e w' => e = .returned (.tuple #[.int .i64 (dayR y m d).1, .int .i64 (dayR y m d).2]) ∧ Below w.heap.size w w' :=
  (day_any y m d w1).mono (by rintro e w' ⟨rfl, h⟩; exact ⟨rfl, hb.trans (h.mono hb.size)⟩)

set_option maxHeartbeats 1000000 in
theorem parse_any (s : ByteArray) (w : World) (hs : s.size ≤ 1000) : Calls Tryz.prog 116 #[.string s] w fun e w' => e = .returned (.tuple #[.int .i64 (parseP s.data.toList).1, .int .i64 (parseP s.data.toList).2]) ∧ Below w.heap.size w w' := by
  have CF := Lib.hid (fun w => fits_any s ⟨#[48, 48, 48, 48, 45, 48, 48, 45, 48, 48]⟩ w hs (by decide))
  cases hf : fitsB s.data.toList patD
  · have HR : Hid (parseP s.data.toList = (0, 3)) := Lib.hid (by rw [parseP, hf]; rfl)
    have HF := Lib.hid hf
    clear hf
    go_enter Tryz.func116, Tryz.ntmps116
    go_wp2_with (go_at_call 168; refine (CF.out _).mono ?_; rintro e w' ⟨rfl, hb⟩; rw [show fitsB s.data.toList (ByteArray.data ⟨#[48, 48, 48, 48, 45, 48, 48, 45, 48, 48]⟩).toList = false from HF.out])
    go_ret2
    exact ⟨by rw [HR.out]; rfl, hb⟩
  · have hl : s.size = 10 := by have := fits_len _ _ hf; simpa [patD] using this
    have HR : Hid (parseP s.data.toList = dayR (numL 0 (s.extract 0 4).data.toList) (numL 0 (s.extract 5 7).data.toList) (numL 0 (s.extract 8 s.size).data.toList)) := Lib.hid (by
      rw [parseP, if_pos hf, ext_list, ext_list, ext_list, hl]
      have e : (s.data.toList.drop 8).take (10 - 8) = s.data.toList.drop 8 := List.take_of_length_le (by simp; omega)
      rw [e]; rfl)
    have HF := Lib.hid hf
    have hd : (s.extract 0 4).data.toList.all digB = true ∧ (s.extract 5 7).data.toList.all digB = true ∧ (s.extract 8 s.size).data.toList.all digB = true := by
      rw [ext_list, ext_list, ext_list, hl]
      obtain ⟨a, b, c, d, e, f, g, h', i, j, hL⟩ := len_ten s.data.toList (by simpa using hl)
      rw [hL] at hf ⊢
      rw [fits_date] at hf
      simp only [Bool.and_eq_true] at hf
      obtain ⟨ha, hb, hc, hd, _, hf, hg, _, hi, hj⟩ := hf
      simp [ha, hb, hc, hd, hf, hg, hi, hj]
    obtain ⟨q1, q2, q3⟩ := hd
    have z1 : (s.extract 0 4).size ≤ 10 := by simp; omega
    have z2 : (s.extract 5 7).size ≤ 10 := by simp; omega
    have z3 : (s.extract 8 s.size).size ≤ 10 := by simp; omega
    have e1 : ∀ W, (Instr.slice 9 (.string s) none (some (.int .i64 4)) none).run Tryz.prog W = .ok (.string (s.extract 0 4)) W := fun W => run_slice_string_h W _ s Tryz.underlying9 _ _ (by omega) (by omega)
    have e2 : ∀ W, (Instr.slice 9 (.string s) (some (.int .i64 5)) (some (.int .i64 7)) none).run Tryz.prog W = .ok (.string (s.extract 5 7)) W := fun W => run_slice_string W _ s _ _ 5 7 Tryz.underlying9 (by omega) (by omega) (by omega)
    have e3 : ∀ W, (Instr.slice 9 (.string s) (some (.int .i64 8)) none none).run Tryz.prog W = .ok (.string (s.extract 8 s.size)) W := fun W => run_slice_string_l W _ s Tryz.underlying9 _ _ (by omega) (by omega)
    generalize s.extract 0 4 = s1 at *
    generalize s.extract 5 7 = s2 at *
    generalize s.extract 8 s.size = s3 at *
    have C1 := Lib.hid (fun w => number_any s1 w z1 q1)
    have C2 := Lib.hid (fun w => number_any s2 w z2 q2)
    have C3 := Lib.hid (fun w => number_any s3 w z3 q3)
    clear hf q1 q2 q3 z1 z2 z3
    generalize numL 0 s1.data.toList = y at *
    generalize numL 0 s2.data.toList = m at *
    generalize numL 0 s3.data.toList = d at *
    have CD := Lib.hid (fun w1 hb => day_acc y m d w w1 hb)
    clear hs
    have HL := Lib.hid hl
    clear hl
    go_enter Tryz.func116, Tryz.ntmps116
    go_wp2_with (go_at_call 168; refine (CF.out _).mono ?_; rintro e w' ⟨rfl, hb⟩; rw [show fitsB s.data.toList (ByteArray.data ⟨#[48, 48, 48, 48, 45, 48, 48, 45, 48, 48]⟩).toList = true from HF.out])
    have hb1 := hb.drew
    go_region_held3 (fun W => Below w.heap.size w W) (first | exact hb1 | assumption) ((first | (go_at_call 170; first | (with_reducible refine (C1.out _).mono ?_; rintro e w2 ⟨rfl, rfl⟩) | (with_reducible refine (C2.out _).mono ?_; rintro e w2 ⟨rfl, rfl⟩) | (with_reducible refine (C3.out _).mono ?_; rintro e w2 ⟨rfl, rfl⟩)) | (go_at_call 169; refine (CD.out _ (by assumption)).mono ?_; rintro e w2 ⟨rfl, hb2⟩)))
    go_wp2
    go_ret2
    exact ⟨by rw [HR.out]; rfl, hb2⟩
end Go.Proofs.YtmmpalnalogfnaaGreatDoor.Per

/- Walk of Parse. -/
namespace Go.Proofs.YtmmpalnalogfnaaGreatDoor.Per
open Go.RowKit
set_option linter.unusedSimpArgs false
set_option linter.unusedVariables false

/-- what the library's search asks of the world: its first variable is a number -/
def Env0 (w : World) : Prop := 3 < w.heap.size ∧ ∃ m : Int, w.cell? ⟨3, 0, none⟩ = some (.int .i64 m)
theorem Env0.more {w w' : World} (h : Env0 w) (hb : Below w.heap.size w w') : Env0 w' := by
  obtain ⟨h0, m, hm⟩ := h
  exact ⟨Nat.lt_of_lt_of_le h0 hb.size, m, (hb.cell (p := ⟨3, 0, none⟩) h0).trans hm⟩
theorem cut_part_le (l : List UInt8) : ∀ p ∈ cutL l, p.length ≤ l.length := by
  induction l with
  | nil => intro p hp; simp [cutL] at hp; subst hp; simp
  | cons c r ih =>
    intro p hp
    by_cases h : c = 47
    · subst h
      rw [cut_hit] at hp
      rcases List.mem_cons.1 hp with rfl | hp
      · simp
      · have := ih p hp; simp; omega
    · rw [cut_miss h] at hp
      cases hc : cutL r with
      | nil => exact absurd hc (cutL_ne r)
      | cons a t =>
        rw [hc] at hp ih
        rcases List.mem_cons.1 hp with rfl | hp
        · have := ih a (by simp); simp; omega
        · have := ih p (by simp [hp]); simp; omega
abbrev mk (x : List UInt8) : ByteArray := ⟨x.toArray⟩
theorem lists_three {ss : List ByteArray} {x y z : List UInt8} (h : [x, y, z] = listsOf ss) : ss = [mk x, mk y, mk z] := by
  match ss, h with
  | [a, b, c], h =>
    simp only [List.map_cons, List.map_nil, List.cons.injEq, and_true] at h
    obtain ⟨rfl, rfl, rfl⟩ := h
    rfl
/-- three texts in a row -/
structure Parts3 (w : World) (b o : Nat) (x y z : ByteArray) : Prop where
  lt : b < w.heap.size
  c0 : w.cell? ⟨b, o, none⟩ = some (.string x)
  c1 : w.cell? ⟨b, o + 1, none⟩ = some (.string y)
  c2 : w.cell? ⟨b, o + 2, none⟩ = some (.string z)
theorem Parts3.more {w w' : World} {b o : Nat} {x y z : ByteArray} (h : Parts3 w b o x y z) (hb : Below w.heap.size w w') : Parts3 w' b o x y z :=
  ⟨Nat.lt_of_lt_of_le h.lt hb.size, (hb.cell (p := ⟨b, o, none⟩) h.lt).trans h.c0, (hb.cell (p := ⟨b, o + 1, none⟩) h.lt).trans h.c1, (hb.cell (p := ⟨b, o + 2, none⟩) h.lt).trans h.c2⟩
theorem StrL.three {w : World} {v : Value} {x y z : ByteArray} (h : StrL w v [x, y, z]) : ∃ b o c, v = .slice (some ⟨b, o, none⟩) 3 c ∧ Parts3 w b o x y z := by
  obtain ⟨A, c, rfl, h⟩ := h
  rcases h with h | ⟨b, o, rfl, hlt, hc⟩
  · cases h
  · exact ⟨b, o, c, rfl, hlt, hc 0 (by simp), hc 1 (by simp), hc 2 (by simp)⟩
theorem StrL.form {w : World} {v : Value} {ss : List ByteArray} (h : StrL w v ss) : ∃ A c, v = .slice A ss.length c := by
  obtain ⟨A, c, rfl, _⟩ := h
  exact ⟨A, c, rfl⟩
theorem cells_at (L : List ByteArray) (N i : Nat) (h : i < L.length) : (Lib.cellsOf L N)[i]? = some (.string L[i]) := by
  rw [Lib.cellsOf, List.getElem?_toArray, List.getElem?_append_left (by simpa using h)]
  simp [h]
theorem splitn_any (s : ByteArray) (w : World) (hs : s.size ≤ 1000) (hE : Env0 w) : Calls Tryz.prog 115 #[.string s, .string ⟨#[47]⟩, .int .i64 4] w fun e w' => ∃ v ss, e = .returned v ∧ StrL w' v ss ∧ ((cutL s.data.toList).length ≠ 3 → ss.length ≠ 3) ∧ ((cutL s.data.toList).length = 3 → cutL s.data.toList = listsOf ss) ∧ Below w.heap.size w w' := by
  obtain ⟨h0, m, hm⟩ := hE
  refine (Tryz.strings_SplitN s ⟨#[47]⟩ 4 m w (by omega) hm (by decide) (by omega) (by omega)).mono ?_
  obtain ⟨L, hL⟩ : ∃ L, L = Lib.splitB ⟨#[47]⟩ 0 (min 4 (s.size + 1) - 1) s := ⟨_, rfl⟩
  obtain ⟨h1, h2⟩ := split_four s L hL
  rw [← hL]
  rintro e w' ⟨rfl, rfl⟩
  refine ⟨_, L, rfl, ⟨_, _, rfl, ?_⟩, h1, fun h => (h2 h).symm, bel_alloc _ _⟩
  right
  refine ⟨w.heap.size, 0, rfl, by simp, fun i hi => ?_⟩
  rw [cell_of_row _ w.heap.size (0 + i) (Lib.cellsOf L (min 4 (s.size + 1))) _ (0, 0) (heap_alloc_new _ _), Nat.zero_add, cells_at L _ i hi]

end Go.Proofs.YtmmpalnalogfnaaGreatDoor.Per

/- What the row of flights' texts asks besides the walks: the listed tables and sentinels; the world's shape; a world for the witness; a flight among the arguments opened. -/
namespace Go.Proofs.YtmmpalnalogfnaaGreatDoor
open Go.ChangeShapes Go.WideShapes Go.ChangeAt Go.RowKit
set_option linter.unusedSimpArgs false
set_option linter.unusedVariables false

theorem own : ownKnob Tryz.prog.godebug = none := by kernel_rfl
theorem laidOut : laidOutB Tryz.prog = true := by kernel_rfl
theorem gPowType : (Tryz.prog.globals[2]?).map (·.type) = some 265 := by kernel_rfl
theorem gRangeType : (Tryz.prog.globals[1]?).map (·.type) = some 146 := by kernel_rfl
theorem cellsPow : Tryz.prog.cellsOf 265 = 20 := by kernel_rfl
theorem cells_u64 : Tryz.prog.cellsOf 153 = 1 := by kernel_rfl
theorem cells_err : Tryz.prog.cellsOf 272 = 1 := by kernel_rfl
theorem cells_string : Tryz.prog.cellsOf 9 = 1 := by kernel_rfl
theorem rowErr (u : TypeId) (h : Tryz.prog.typeName? 3 u = some "*errors.errorString") : u = 270 :=
  typeName_ptr_named (nm := "errors.errorString") (by kernel_rfl) (by kernel_rfl) (by decide) u h
/-- what is listed, as its initialisers lay it; the first number, in every world of the program's shape -/
theorem env_of {W : World} (h : laidMetH Tryz.prog Rows.flightTextsRow.laid W) (hsh : W.ShapedOpen Tryz.prog) : EnvP W ∧ Txt.Env W ∧ Per.Env0 W := by
  have h' : laidMet Tryz.prog Rows.flightTextsRow.laid W := h
  have h2 := h'.tail.tail
  have h3 := h2.tail.tail
  obtain ⟨a, s, hv, _⟩ := laid_sentinel h3 Txt.gRange gRangeType Tryz.underlying146 rowErr Tryz.underlying270 Tryz.underlying272 rfl rfl Tryz.underlying9 cells_err cells_string
  refine ⟨⟨Lib.tabIs_of_head gPow10 gPowType Tryz.underlying265 Tryz.underlying153 cells_u64 cellsPow h2⟩, ⟨⟨_, _, hv⟩, Lib.tabIs_of_head Txt.gPow gPowType Tryz.underlying265 Tryz.underlying153 cells_u64 cellsPow h2⟩, ?_⟩
  obtain ⟨m, hm⟩ := Go.Proofs.cell_of_shapedOpen_int (g := 3) (k := .i64) (zero := #[.int .i64 0]) (t := 3) hsh (of_decide_eq_true (by kernel_rfl)) (by kernel_rfl) rfl (by kernel_rfl) (by kernel_rfl) Tryz.underlying3
  exact ⟨World.block_lt_of_cell? _ _ hm, m, hm⟩

/-! ### A world for the witness -/
abbrev synS : ByteArray := { data := #[105, 110, 118, 97, 108, 105, 100, 32, 115, 121, 110, 116, 97, 120] }
abbrev rngS : ByteArray := { data := #[118, 97, 108, 117, 101, 32, 111, 117, 116, 32, 111, 102, 32, 114, 97, 110, 103, 101] }
noncomputable def low : Nat := (World.holding Tryz.prog default ⟨#[], #[], []⟩).heap.size
def putCells (cs : Array Value) : Obj → Obj
  | .cells _ t frozen => .cells cs t frozen
  | o => o
def litsOf (k : IntKind) : DataW Unit → List Value
  | .agg ps => ps.map fun | .lit (.int _ z) => .int k z | _ => .int k 0
  | _ => []
def flat8 : DataW Unit → List Value
  | .agg ps => ps.flatMap fun | .agg qs => qs.map (fun | .lit (.int _ z) => .int .u8 z | _ => .int .u8 0) | .lit (.int _ z) => [.int .u8 z] | _ => []
  | _ => []
noncomputable def laidWorld (os : Os) : World :=
  let w0 := World.holding Tryz.prog os ⟨#[.cells #[.string synS] 272, .cells #[.string rngS] 272], #[], []⟩
  let h1 := w0.heap.modify 0 (putCells #[.iface 270 (.pointer (some ⟨low, 0, none⟩))])
  let h2 := h1.modify 1 (putCells #[.iface 270 (.pointer (some ⟨low + 1, 0, none⟩))])
  let h3 := h2.modify 2 (putCells (litsOf .u64 Rows.laid_internal_strconv_uint64pow10).toArray)
  let h4 := h3.modify 6 (putCells (litsOf .u8 Rows.laid_math_bits_deBruijn32tab).toArray)
  let h5 := h4.modify 7 (putCells (litsOf .u8 Rows.laid_math_bits_deBruijn64tab).toArray)
  let h6 := h5.modify 5 (putCells (flat8 Rows.laid_unicode_utf8_acceptRanges).toArray)
  let h7 := h6.modify 4 (putCells (flat8 Rows.laid_unicode_utf8_first).toArray)
  { w0 with heap := h7 }
theorem laidWorld_met (os : Os) (args : Array Value) : laidMet Tryz.prog Rows.flightTextsRow.laid ((laidWorld os).forCall (fun _ _ => 0) ⟨#[], args, []⟩).memory :=
  laidMet_of_run3 8 (by kernel_rfl) (by kernel_rfl) (by kernel_rfl)


theorem int_bounds {a : Int} (h : (Lit.int .i64 a).wf = true) : -9223372036854775808 ≤ a ∧ a ≤ 9223372036854775807 := by
  have e1 : IntKind.i64.min = -9223372036854775808 := rfl
  have e2 : IntKind.i64.max = 9223372036854775807 := rfl
  simp only [Lit.wf, e1, e2, Bool.and_eq_true, decide_eq_true_eq] at h
  omega
theorem cells_int : Tryz.prog.cellsOf 3 = 1 := by kernel_rfl
theorem sized_str {H : Type} {P : Program} {ts : List TypeId} {ds : List (DataW H)} (h : (DataW.weightsEach P ts ds).all (· ≤ reachBytes) = true) {j : Nat} {t : TypeId} {s : ByteArray} (ht : ts[j]? = some t) (hd : ds[j]? = some (.lit (.string s.data.toList))) : s.size ≤ 140737488355328 := by
  have h1 := sized_string h ht hd
  have h2 := reachBytes_lt
  have e3 : (2 : Nat) ^ 47 = 140737488355328 := by decide
  have e1 : s.data.toList.length = s.size := Array.length_toList
  omega
theorem len3 {α : Type} : ∀ {l : List α}, l.length = 3 → ∃ a b c, l = [a, b, c]
  | [a, b, c], _ => ⟨a, b, c, rfl⟩
theorem len4 {α : Type} : ∀ {l : List α}, l.length = 4 → ∃ a b c d, l = [a, b, c, d]
  | [a, b, c, d], _ => ⟨a, b, c, d, rfl⟩
theorem len5 {α : Type} : ∀ {l : List α}, l.length = 5 → ∃ a b c d e, l = [a, b, c, d, e]
  | [a, b, c, d, e], _ => ⟨a, b, c, d, e, rfl⟩
theorem list_at {α : Type} (f : Nat → α) (n i : Nat) (a : α) (h : ((List.range n).map f)[i]? = some a) : i < n ∧ a = f i := by
  have hi : i < n := by have := (List.getElem?_eq_some_iff.1 h).1; simpa using this
  rw [List.getElem?_map, List.getElem?_range hi] at h
  exact ⟨hi, (Option.some.inj h).symm⟩
/-! ### A flight among the arguments -/
theorem cells_leg : Tryz.prog.cellsOf 64 = 5 := by kernel_rfl
theorem cells_legs : Tryz.prog.cellsOf 24 = 1 := by kernel_rfl
theorem cells_per : Tryz.prog.cellsOf 23 = 3 := by kernel_rfl
theorem cells_fli : Tryz.prog.cellsOf 26 = 6 := by kernel_rfl
structure OkFl (f : FV) : Prop where
  car : f.car.size ≤ maxLen
  num : -9223372036854775808 ≤ f.num ∧ f.num ≤ 9223372036854775807
  pf : -9223372036854775808 ≤ f.pf ∧ f.pf ≤ 9223372036854775807
  pt : -9223372036854775808 ≤ f.pt ∧ f.pt ≤ 9223372036854775807
  pd : -9223372036854775808 ≤ f.pd ∧ f.pd ≤ 9223372036854775807
  lg : ∀ x ∈ f.lg, OkG x
  len : f.lg.length < 9223372036854775808
  cap : f.lg.length ≤ f.c
instance : Inhabited Lg := ⟨⟨noB, noB, 0, 0, noB⟩⟩
set_option maxRecDepth 100000 in
theorem open_leg {H : Type} {enc : TypeId × Value → H} {W : World} {n b o : Nat} {cs : List Value} {y : DataW H × List MemPlace} (hc : W.cells? 0 ⟨b, o, none⟩ 5 = some cs) (h : DataW.trod enc Tryz.prog W 0 (fun _ => true) true n 64 cs = some y) :
    ∃ x : Lg, (∀ j u, (encLg x)[j]? = some u → W.cell? ⟨b, o + j, none⟩ = some u) ∧ OkG x := by
  obtain ⟨_, hlen, hcell⟩ := World.cells?_some hc
  obtain ⟨xs, k, _, _, _, hxl, hf⟩ := DataW.trod_struct Tryz.underlying64 h
  obtain ⟨y0, y1, y2, y3, y4, rfl⟩ := len5 hxl
  obtain ⟨v0, v1, v2, v3, v4, rfl⟩ := len5 hlen
  all_goals
    have g0 := hf 0 _ rfl
    have g1 := hf 1 _ rfl
    have g2 := hf 2 _ rfl
    have g3 := hf 3 _ rfl
    have g4 := hf 4 _ rfl
    simp [cells_string, cells_int] at g0 g1 g2 g3 g4
    obtain ⟨s0, e0, _, z0⟩ := DataW.trod_string Tryz.underlying9 g0
    obtain ⟨s1, e1, _, z1⟩ := DataW.trod_string Tryz.underlying9 g1
    obtain ⟨x2, e2, _, w2⟩ := DataW.trod_int Tryz.underlying3 g2
    obtain ⟨x3, e3, _, w3⟩ := DataW.trod_int Tryz.underlying3 g3
    obtain ⟨s4, e4, _, z4⟩ := DataW.trod_string Tryz.underlying9 g4
    simp at e0 e1 e2 e3 e4
    subst e0 e1 e2 e3 e4
    have hadd : ∀ j, (⟨b, o, none⟩ : Addr).add j = ⟨b, o + j, none⟩ := fun j => by unfold Addr.add; split <;> simp_all
    refine ⟨⟨s0, s1, x2, x3, s4⟩, fun j u hu => ?_, ⟨z0, z1, z4, int_bounds w2, int_bounds w3⟩⟩
    have hj : j < 5 := (List.getElem?_eq_some_iff.1 hu).1
    have hc2 := hcell j hj
    rw [hadd] at hc2
    rw [hc2]
    exact hu
set_option maxRecDepth 100000 in
theorem open_legs {H : Type} {enc : TypeId × Value → H} {W : World} {n : Nat} {v : Value} {y : DataW H × List MemPlace} (h : DataW.trod enc Tryz.prog W 0 (fun _ => true) true n 24 [v] = some y) :
    ∃ (A : Option Addr) (c : Nat) (l : List Lg), v = .slice A l.length c ∧ LegL W (.slice A l.length c) l ∧ (∀ x ∈ l, OkG x) ∧ l.length < 9223372036854775808 ∧ l.length ≤ c := by
  have em : maxLen = 9223372036854775807 := by decide
  rcases Deep.open_slice Tryz.underlying24 h with ⟨hcs, _⟩ | ⟨a, len, cap, m', n, D, Pl, hcs, _, hl, hm, hmm, _, hx⟩
  · simp at hcs
    exact ⟨none, 0, [], hcs, ⟨none, 0, rfl, .inl rfl⟩, fun a ha => by simp at ha, by simp, by simp⟩
  · simp at hcs hmm
    subst hcs hmm
    rcases Nat.eq_zero_or_pos len with h0 | h0
    · exact ⟨some a, m', [], by rw [h0]; rfl, ⟨some a, m', rfl, .inl rfl⟩, fun a ha => by simp at ha, by simp, by simp⟩
    obtain ⟨b, off, spot⟩ := a
    obtain ⟨cs0, hc0, _⟩ := hx 0 (by omega)
    have hspot : spot = none := by
      rw [cells_leg] at hc0
      obtain ⟨_, hl0, hcell⟩ := World.cells?_some hc0
      have h1 := hcell 0 (by omega)
      rw [List.getElem?_eq_getElem (by omega)] at h1
      simpa [Addr.add] using World.cell?_spot h1
    subst hspot
    have hadd : ∀ i, (⟨b, off, none⟩ : Addr).add i = ⟨b, off + i, none⟩ := fun i => by unfold Addr.add; split <;> simp_all
    have each : ∀ i, i < len → ∃ x : Lg, (∀ j u, (encLg x)[j]? = some u → W.cell? ⟨b, off + i * 5 + j, none⟩ = some u) ∧ OkG x := fun i hi => by
      obtain ⟨cs', h1, h2⟩ := hx i (by omega)
      rw [cells_leg, hadd] at h1
      exact open_leg h1 h2
    obtain ⟨f, hf⟩ := Deep.choose_lt each
    have el : ((List.range len).map f).length = len := by simp
    refine ⟨some ⟨b, off, none⟩, m', (List.range len).map f, by rw [el], ⟨some ⟨b, off, none⟩, m', rfl, .inr ⟨b, off, rfl, World.block_lt_of_cell? _ _ ((hf 0 h0).1 0 _ rfl), fun i x j u hi hu => ?_⟩⟩, fun a ha => ?_, by rw [el]; omega, by rw [el]; omega⟩
    · obtain ⟨h1, rfl⟩ := list_at f len i x hi
      exact (hf i h1).1 j u hu
    · obtain ⟨i, hi, rfl⟩ := List.mem_map.1 ha
      exact (hf i (List.mem_range.1 hi)).2
theorem array6 {α : Type} {cs : Array α} (h : cs.size = 6) : ∃ c0 c1 c2 c3 c4 c5, cs = #[c0, c1, c2, c3, c4, c5] := by
  obtain ⟨l⟩ := cs
  match l, h with
  | [c0, c1, c2, c3, c4, c5], _ => exact ⟨c0, c1, c2, c3, c4, c5, rfl⟩
set_option maxRecDepth 100000 in
/-- the cells of a flight, read -/
theorem read_flight {H : Type} {enc : TypeId × Value → H} {W : World} {n : Nat} {c0 c1 c2 c3 c4 c5 : Value} {y : DataW H × List MemPlace} (h : DataW.trod enc Tryz.prog W 0 (fun _ => true) true n 26 [c0, c1, c2, c3, c4, c5] = some y) :
    ∃ fv : FV, (#[c0, c1, c2, c3, c4, c5] : Array Value) = #[.string fv.car, .int .i64 fv.num, .int .i64 fv.pf, .int .i64 fv.pt, .int .i64 fv.pd, .slice fv.A fv.lg.length fv.c] ∧ LegL W (.slice fv.A fv.lg.length fv.c) fv.lg ∧ OkFl fv := by
  obtain ⟨xs, k, _, _, _, hxl, hf⟩ := DataW.trod_struct Tryz.underlying26 h
  obtain ⟨y0, y1, y2, y3, rfl⟩ := len4 hxl
  all_goals
    have g0 := hf 0 _ rfl
    have g1 := hf 1 _ rfl
    have g2 := hf 2 _ rfl
    have g3 := hf 3 _ rfl
    simp [cells_string, cells_int, cells_per, cells_legs] at g0 g1 g2 g3
    obtain ⟨s0, e0, _, z0⟩ := DataW.trod_string Tryz.underlying9 g0
    obtain ⟨x1, e1, _, w1⟩ := DataW.trod_int Tryz.underlying3 g1
    obtain ⟨zs, k2, _, _, _, hzl, hz⟩ := DataW.trod_struct Tryz.underlying23 g2
    obtain ⟨u0, u1, u2, rfl⟩ := len3 hzl
    all_goals
      have q0 := hz 0 _ rfl
      have q1 := hz 1 _ rfl
      have q2 := hz 2 _ rfl
      simp [cells_int] at q0 q1 q2
      obtain ⟨a0, r0, _, b0⟩ := DataW.trod_int Tryz.underlying3 q0
      obtain ⟨a1, r1, _, b1⟩ := DataW.trod_int Tryz.underlying3 q1
      obtain ⟨a2, r2, _, b2⟩ := DataW.trod_int Tryz.underlying3 q2
      obtain ⟨A, c, l, e3, hL, hr, hl, hcap⟩ := open_legs g3
      simp at e0 e1 r0 r1 r2
      subst e0 e1 e3 r0 r1 r2
      exact ⟨⟨s0, x1, a0, a1, a2, A, c, l⟩, rfl, hL, ⟨z0, int_bounds w1, int_bounds b0, int_bounds b1, int_bounds b2, hr, hl, hcap⟩⟩
set_option maxRecDepth 100000 in
/-- a flight by value, opened -/
theorem open_flight {H : Type} {enc : TypeId × Value → H} {W : World} {b0 : Nat} {v : Value} {d : DataW H} {p : List MemPlace} (hv : Value.okWide Tryz.prog W .any b0 26 v) (h : DataW.Trod enc Tryz.prog W 0 (fun _ => true) true 26 v d p) :
    ∃ fv : FV, v = encFl fv ∧ LegL W (.slice fv.A fv.lg.length fv.c) fv.lg ∧ OkFl fv := by
  obtain ⟨cs, rfl, hsz⟩ := okWide_struct Tryz.underlying26 hv
  obtain ⟨c0, c1, c2, c3, c4, c5, rfl⟩ := array6 (hsz.trans cells_fli)
  obtain ⟨fuel, hf⟩ := h
  obtain ⟨fv, e, h1, h2⟩ := read_flight hf
  exact ⟨fv, by rw [e], h1, h2⟩

end Go.Proofs.YtmmpalnalogfnaaGreatDoor

/- Closed facts on the program and its rows: what each law names, whom it follows. -/
namespace Go.Proofs.YtmmpalnalogfnaaGreatDoor

theorem flightTexts_c1 : Tryz.pinned.checked.prog.inPlace 3 = Rows.flightTextsRow.inPlace := by kernel_rfl
theorem flightTexts_c2 : Tryz.pinned.checked.prog.unfollowed 3 = Rows.flightTextsRow.unfollowed := by kernel_rfl
theorem flightTexts_c3 : Tryz.pinned.checked.prog.recurses 3 = Rows.flightTextsRow.recurses := by kernel_rfl
theorem flightTexts_c4 : Tryz.pinned.checked.prog.varsNamed 3 = Rows.flightTextsRow.named := by kernel_rfl

end Go.Proofs.YtmmpalnalogfnaaGreatDoor

/- Find, told with where the copy of the shifts lies. -/
namespace Go.Proofs.YtmmpalnalogfnaaGreatDoor
open Go.RowKit Go.Shelf
set_option linter.unusedSimpArgs false
set_option linter.unusedVariables false

/-- what Find hands back: the airport z with its shifts in memory of the call's own (from B on) -/
def FindF (B : Nat) (z : Air) (b : Bool) (e : Ending) (w' : World) : Prop :=
  ∃ A' c', e = .returned (.tuple #[.agg #[.string z.code, .string z.city, .string z.land, .int .i64 z.off, .slice A' z.shs.length c'], .bool b]) ∧ ShL w' A' z.shs ∧ (A' = none ∨ ∃ g, A' = some ⟨g, 0, none⟩ ∧ B ≤ g)

set_option maxRecDepth 100000 in
set_option maxHeartbeats 4000000 in
theorem find2_any (p : PV) (s : ByteArray) (w : World) (hl : p.l.length ≤ 40) (hL : AirL w p.A p.l) (hs : ∀ a ∈ p.l, a.shs.length ≤ 300) :
    Calls Tryz.prog 145 #[encP p, .string s] w fun e w' => Below w.heap.size w w' ∧ FindF w.heap.size ((findC p.l s).getD airZ) (findC p.l s).isSome e w' := by
  obtain ⟨A, ca, l, D, cd, ds⟩ := p
  dsimp only at *
  have hb1 := bel_alloc w (.cells #[.slice A l.length ca, .slice D ds.length cd] placesT)
  have hb0 : Below w.heap.size w ((w.alloc (.cells #[.slice A l.length ca, .slice D ds.length cd] placesT)).alloc (.cells #[.string noB, .string noB, .string noB, .int .i64 0, .slice none 0 0] airT)) := hb1.alloc hb1.size _
  have hb2 := bel_alloc (w.alloc (.cells #[.slice A l.length ca, .slice D ds.length cd] placesT)) (.cells #[.string noB, .string noB, .string noB, .int .i64 0, .slice none 0 0] airT)
  have p0 := bel_cell hb2 ((cells_new w #[.slice A l.length ca, .slice D ds.length cd] placesT 0).trans rfl)
  have p1 := bel_cell hb2 ((cells_new w #[.slice A l.length ca, .slice D ds.length cd] placesT 1).trans rfl)
  have hN := heap_alloc_new (w.alloc (.cells #[.slice A l.length ca, .slice D ds.length cd] placesT)) (.cells #[.string noB, .string noB, .string noB, .int .i64 0, .slice none 0 0] airT)
  simp only [World.size_alloc] at hN
  have hL5 := hL.more hb0
  go_enter Tryz.func145, Tryz.ntmps145
  generalize hw5 : (w.alloc (.cells #[.slice A l.length ca, .slice D ds.length cd] placesT)).alloc (.cells #[.string noB, .string noB, .string noB, .int .i64 0, .slice none 0 0] airT) = w5 at *
  have f0 : ∀ W, SW w5 W → W.cell? ⟨w.heap.size, 0, none⟩ = some (.slice A l.length ca) := bel_get p0
  have f1 : ∀ W, SW w5 W → W.cell? ⟨w.heap.size, 1, none⟩ = some (.slice D ds.length cd) := bel_get p1
  have hS : SW w5 w5 := Below.refl _ _
  have CC := Lib.hid (SW.call (w5 := w5) (fun W h => byCode_any ⟨A, ca, l, D, cd, ds⟩ s W hl (hL5.more h)))
  have hNl : w.heap.size + 1 < w5.heap.size := (Array.getElem?_eq_some_iff.1 hN).1
  have n0 : ∀ W, SW w5 W → W.cell? ⟨w.heap.size + 1, 0, none⟩ = some (.string noB) := bel_get ((cell_of_row w5 _ 0 _ _ (0, 0) hN).trans rfl)
  have n1 : ∀ W, SW w5 W → W.cell? ⟨w.heap.size + 1, 1, none⟩ = some (.string noB) := bel_get ((cell_of_row w5 _ 1 _ _ (0, 0) hN).trans rfl)
  have n2 : ∀ W, SW w5 W → W.cell? ⟨w.heap.size + 1, 2, none⟩ = some (.string noB) := bel_get ((cell_of_row w5 _ 2 _ _ (0, 0) hN).trans rfl)
  have n3 : ∀ W, SW w5 W → W.cell? ⟨w.heap.size + 1, 3, none⟩ = some (.int .i64 0) := bel_get ((cell_of_row w5 _ 3 _ _ (0, 0) hN).trans rfl)
  have n4 : ∀ W, SW w5 W → W.cell? ⟨w.heap.size + 1, 4, none⟩ = some (.slice none 0 0) := bel_get ((cell_of_row w5 _ 4 _ _ (0, 0) hN).trans rfl)
  have fz : ∀ j W, SW w5 W → W.frozen? ⟨w.heap.size + 1, j, none⟩ = false := fun j W hW => frozen_more hW hNl (frozen_of_row w5 _ j _ _ hN)
  rcases idxA_find (fun a => eqS a.code s) l with ⟨h1, h2⟩ | ⟨k, a, h1, h2, h3, h4⟩
  · rw [h1] at CC
    have HR : Hid (findC l s = none) := Lib.hid h2
    clear h1 h2 hL hL5 p0 p1
    go_wp2_with (go_at_call 197; with_reducible refine (CC.out _ hS).mono ?_; rintro e w1 ⟨rfl, hS⟩; have x0 := f0 _ hS; have x1 := f1 _ hS; have y0 := n0 _ hS; have y1 := n1 _ hS; have y2 := n2 _ hS; have y3 := n3 _ hS; have y4 := n4 _ hS; have z0 := fz 0 _ hS; have z1 := fz 1 _ hS; have z2 := fz 2 _ hS; have z3 := fz 3 _ hS; have z4 := fz 4 _ hS)
    have hN1 := (hS.block _ hNl).trans hN
    have hx := S5.heap hN1 (.string noB) (.string noB) (.string noB) (.int .i64 0) (.slice none 0 0)
    have hbt := S5.but w1 (w.heap.size + 1) (.string noB) (.string noB) (.string noB) (.int .i64 0) (.slice none 0 0)
    have c0 := (cell_of_row _ _ 0 _ _ (0, 0) hx).trans rfl
    have c1 := (cell_of_row _ _ 1 _ _ (0, 0) hx).trans rfl
    have c2 := (cell_of_row _ _ 2 _ _ (0, 0) hx).trans rfl
    have c3 := (cell_of_row _ _ 3 _ _ (0, 0) hx).trans rfl
    have c4 := (cell_of_row _ _ 4 _ _ (0, 0) hx).trans rfl
    have hbw : Below w.heap.size w (S5 w1 (w.heap.size + 1) (.string noB) (.string noB) (.string noB) (.int .i64 0) (.slice none 0 0)) := (hb0.trans (Below.mono hS hb0.size)).trans (hbt.below (Nat.le_trans hb0.size hS.size) (fun k hk => by omega))
    refine bodyPost_ret (v := .tuple #[encA airZ, .bool false]) ?_ rfl ⟨hbw, by rw [HR.out]; exact ⟨none, 0, rfl, .inl rfl, .inl rfl⟩⟩
    change (results _ _).run Tryz.prog (S5 w1 (w.heap.size + 1) (.string noB) (.string noB) (.string noB) (.int .i64 0) (.slice none 0 0)) = .ok _ (S5 w1 (w.heap.size + 1) (.string noB) (.string noB) (.string noB) (.int .i64 0) (.slice none 0 0))
    generalize S5 w1 (w.heap.size + 1) (.string noB) (.string noB) (.string noB) (.int .i64 0) (.slice none 0 0) = W at c0 c1 c2 c3 c4 ⊢
    simp [results, Tryz.results145, go_sem, c0, c1, c2, c3, c4, airZ]
  · rw [h1] at CC
    have HR : Hid (findC l s = some a) := Lib.hid h3
    have i1 : (0 : Int) ≤ (k : Int) := by omega
    have i2 : (k : Int) < (l.length : Int) := by omega
    obtain ⟨b, o, a', rfl, hgl, hka, ha⟩ := hL5.at h4
    rw [h2] at hka
    obtain rfl := Option.some.inj hka
    have hlen := hs a (List.mem_of_getElem? h2)
    obtain ⟨a0, a1, a2, a3, a4, ash⟩ := ha
    have g0 := bel_get a0
    have g1 := bel_get a1
    have g2 := bel_get a2
    have g3 := bel_get a3
    have g4 := bel_get a4
    have HSH : Hid (∀ W, SW w5 W → ShL W a.A a.shs) := Lib.hid (fun W hW => ash.more hW)
    have KC := Lib.hid (fun W (h : ShL W a.A a.shs) => clone_any a.A a.c a.shs W hlen h)
    clear hL hL5 h1 h2 h3 a0 a1 a2 a3 a4 ash p0 p1
    go_wp2_with (first
      | (go_at_call 197; with_reducible refine (CC.out _ hS).mono ?_; rintro e w1 ⟨rfl, hS⟩; have x0 := f0 _ hS; have x1 := f1 _ hS; have y0 := g0 _ hS; have y1 := g1 _ hS; have y2 := g2 _ hS; have y3 := g3 _ hS; have y4 := g4 _ hS)
      | (go_at_call 198; refine (KC.out _ ((HSH.out _ hS).more (bel_alloc _ _))).mono ?_; rintro e w7 ⟨A', c', rfl, hsh7, hb7, hA7⟩; refine Hid.out ?_))
    have hbM := bel_alloc w1 (.cells #[.string a.code, .string a.city, .string a.land, .int .i64 a.off, .slice a.A a.shs.length a.c] airT)
    have hM := heap_alloc_new w1 (.cells #[.string a.code, .string a.city, .string a.land, .int .i64 a.off, .slice a.A a.shs.length a.c] airT)
    have hMl : w1.heap.size < (w1.alloc (.cells #[.string a.code, .string a.city, .string a.land, .int .i64 a.off, .slice a.A a.shs.length a.c] airT)).heap.size := by simp
    have hM7 := (hb7.block _ hMl).trans hM
    have hNM : w.heap.size + 1 ≠ w1.heap.size := by have := hS.size; omega
    have hN7 := ((hb7.block _ (Nat.lt_of_lt_of_le (Nat.lt_of_lt_of_le hNl hS.size) hbM.size)).trans (hbM.block _ (Nat.lt_of_lt_of_le hNl hS.size))).trans ((hS.block _ hNl).trans hN)
    have hb8 := But.setCell w7 w1.heap.size 4 (.slice A' a.shs.length c')
    have hM8 := heap_setCell_same w7 w1.heap.size 4 _ airT (.slice A' a.shs.length c') hM7
    have hN8 := (hb8.block (w.heap.size + 1) (Array.getElem?_eq_some_iff.1 hN7).1 hNM).trans hN7
    have hMl7 : w1.heap.size < w7.heap.size := (Array.getElem?_eq_some_iff.1 hM7).1
    have m4 := (cell_of_row w7 _ 4 _ _ (0, 0) hM7).trans rfl
    have mz := frozen_of_row w7 _ 4 _ _ hM7
    have u0 := (cell_of_row _ _ 0 _ _ (0, 0) hM8).trans (show _ = some _ from rfl)
    have u1 := (cell_of_row _ _ 1 _ _ (0, 0) hM8).trans (show _ = some _ from rfl)
    have u2 := (cell_of_row _ _ 2 _ _ (0, 0) hM8).trans (show _ = some _ from rfl)
    have u3 := (cell_of_row _ _ 3 _ _ (0, 0) hM8).trans (show _ = some _ from rfl)
    have u4 := (cell_of_row _ _ 4 _ _ (0, 0) hM8).trans (show _ = some _ from rfl)
    have v0 := (cell_of_row _ _ 0 _ _ (0, 0) hN8).trans (show _ = some _ from rfl)
    have t0 := frozen_of_row _ _ 0 _ _ hN8
    have v1 := (cell_of_row _ _ 1 _ _ (0, 0) hN8).trans (show _ = some _ from rfl)
    have t1 := frozen_of_row _ _ 1 _ _ hN8
    have v2 := (cell_of_row _ _ 2 _ _ (0, 0) hN8).trans (show _ = some _ from rfl)
    have t2 := frozen_of_row _ _ 2 _ _ hN8
    have v3 := (cell_of_row _ _ 3 _ _ (0, 0) hN8).trans (show _ = some _ from rfl)
    have t3 := frozen_of_row _ _ 3 _ _ hN8
    have v4 := (cell_of_row _ _ 4 _ _ (0, 0) hN8).trans (show _ = some _ from rfl)
    have t4 := frozen_of_row _ _ 4 _ _ hN8
    have hx := S5.heap hN8 (.string a.code) (.string a.city) (.string a.land) (.int .i64 a.off) (.slice A' a.shs.length c')
    have hbt := S5.but (w7.setCell ⟨w1.heap.size, 4, none⟩ (.slice A' a.shs.length c')) (w.heap.size + 1) (.string a.code) (.string a.city) (.string a.land) (.int .i64 a.off) (.slice A' a.shs.length c')
    have hbx : Below w.heap.size w w7 := (hb0.trans (Below.mono hS hb0.size)).trans ((hbM.trans (Below.mono hb7 hbM.size)).mono (Nat.le_trans hb0.size hS.size))
    have hall := (hb8.weak (Y := fun k => k = w1.heap.size ∨ k = w.heap.size + 1) (fun _ h => .inl h)).trans hbt (fun _ _ h => .inr h)
    have c0 := (cell_of_row _ _ 0 _ _ (0, 0) hx).trans (show _ = some _ from rfl)
    have c1 := (cell_of_row _ _ 1 _ _ (0, 0) hx).trans (show _ = some _ from rfl)
    have c2 := (cell_of_row _ _ 2 _ _ (0, 0) hx).trans (show _ = some _ from rfl)
    have c3 := (cell_of_row _ _ 3 _ _ (0, 0) hx).trans (show _ = some _ from rfl)
    have c4 := (cell_of_row _ _ 4 _ _ (0, 0) hx).trans (show _ = some _ from rfl)
    have hs1 := hS.size
    have hbw : Below w.heap.size w (S5 (w7.setCell ⟨w1.heap.size, 4, none⟩ (.slice A' a.shs.length c')) (w.heap.size + 1) (.string a.code) (.string a.city) (.string a.land) (.int .i64 a.off) (.slice A' a.shs.length c')) := hbx.trans (hall.below hbx.size (fun k hk => by have := hb0.size; omega))
    have hshx : ShL (S5 (w7.setCell ⟨w1.heap.size, 4, none⟩ (.slice A' a.shs.length c')) (w.heap.size + 1) (.string a.code) (.string a.city) (.string a.land) (.int .i64 a.off) (.slice A' a.shs.length c')) A' a.shs := hsh7.but hall (by
      rcases hA7 with h | ⟨g, h, hg⟩
      · exact .inl h
      · exact .inr ⟨g, h, by simp only [World.size_alloc] at hg; omega⟩)
    have hfr : A' = none ∨ ∃ g, A' = some ⟨g, 0, none⟩ ∧ w.heap.size ≤ g := by
      rcases hA7 with h | ⟨g, h, hg⟩
      · exact .inl h
      · refine .inr ⟨g, h, ?_⟩
        have := hb0.size
        simp only [World.size_alloc] at hg
        omega
    clear hsh7 hA7 hall hbx hb8
    refine Lib.hid ?_
    go_wp2
    refine bodyPost_ret (v := .tuple #[encA { a with A := A', c := c' }, .bool true]) ?_ rfl ⟨hbw, by rw [HR.out]; exact ⟨A', c', rfl, hshx, hfr⟩⟩
    change (results _ _).run Tryz.prog (S5 (w7.setCell ⟨w1.heap.size, 4, none⟩ (.slice A' a.shs.length c')) (w.heap.size + 1) (.string a.code) (.string a.city) (.string a.land) (.int .i64 a.off) (.slice A' a.shs.length c')) = .ok _ (S5 (w7.setCell ⟨w1.heap.size, 4, none⟩ (.slice A' a.shs.length c')) (w.heap.size + 1) (.string a.code) (.string a.city) (.string a.land) (.int .i64 a.off) (.slice A' a.shs.length c'))
    generalize S5 (w7.setCell ⟨w1.heap.size, 4, none⟩ (.slice A' a.shs.length c')) (w.heap.size + 1) (.string a.code) (.string a.city) (.string a.land) (.int .i64 a.off) (.slice A' a.shs.length c') = W at c0 c1 c2 c3 c4 ⊢
    simp [results, Tryz.results145, go_sem, c0, c1, c2, c3, c4]

end Go.Proofs.YtmmpalnalogfnaaGreatDoor

/- Walks of sort.Search, of the closures that it calls, and of the functions of package zone. -/
namespace Go.Proofs.YtmmpalnalogfnaaGreatDoor.Zon
open Go.RowKit
set_option linter.unusedSimpArgs false
set_option linter.unusedVariables false

set_option maxHeartbeats 2000000 in
theorem before_any (o : Int) (A : Option Addr) (c : Nat) (l : Shs) (k : Nat) (w : World) (hl : l.length ≤ 256) (hk : k ≤ l.length) (hL : ShL w A l) :
    Calls Tryz.prog 201 #[encZ o A l.length c, .int .i64 k] w fun e w' => e = .returned (.int .i64 (shB o l k)) ∧ Below w.heap.size w w' := by
  by_cases h0 : k = 0
  · subst h0
    go_enter Tryz.func201, Tryz.ntmps201
    go_wp2
    go_ret
    exact ⟨rfl, bel_alloc _ _⟩
  · obtain ⟨m, rfl⟩ : ∃ m, k = m + 1 := ⟨k - 1, by omega⟩
    obtain ⟨g, off, rfl, hgl, hcc⟩ := hL.at (k := m) (by omega)
    obtain ⟨g0, g1⟩ := hcc m (by omega)
    have z1 : (((m + 1 : Nat) : Int) == 0) = false := by rw [beq_eq_false_iff_ne]; omega
    have z2 : ((m + 1 : Nat) : Int) - 1 = (m : Int) := by omega
    have i1 : (m : Int) < (l.length : Int) := by omega
    rw [shB_succ]
    generalize ((m + 1 : Nat) : Int) = y at *
    have hy : -9223372036854775808 ≤ y - 1 ∧ y - 1 ≤ 9223372036854775807 := by omega
    clear hcc h0
    go_enter Tryz.func201, Tryz.ntmps201
    go_wp2
    go_ret
    exact ⟨rfl, bel_alloc _ _⟩

set_option maxHeartbeats 4000000 in
set_option maxRecDepth 100000 in
theorem search_any (g : Nat) (cb : Array Value) (n : Nat) (p : Nat → Bool) (w : World) (eg : ∀ args w, (callFunc g args).run Tryz.prog w = .ok (.enter g args) w) (hsz : n < 4611686018427387904)
    (hf : ∀ (i : Nat) (W : World), i < n → Below w.heap.size w W → Calls Tryz.prog g (#[.int .i64 i] ++ cb) W fun e w' => e = .returned (.bool (p i)) ∧ Below W.heap.size W w')
    (hmono : ∀ a b, a ≤ b → b < n → p a = true → p b = true) :
    Calls Tryz.prog 199 #[.int .i64 n, .func (.func g) #[] cb] w fun e w' => e = .returned (.int .i64 (fstP p n 0 : Nat)) ∧ Below w.heap.size w w' := by
  have HF := Lib.hid hf
  have M := Lib.hid hmono
  have CN : Hid (∀ c, c ≤ n → (∀ t, t < c → p t = false) → (∀ t, c ≤ t → t < n → p t = true) → fstP p n 0 = c) := Lib.hid (fun c h1 h2 h3 => fstP_is p c n n 0 (Nat.zero_le _) (by omega) h1 h2 h3)
  clear hf hmono
  generalize fstP p n 0 = r at *
  go_enter Tryz.func199, Tryz.ntmps199
  go_wp2
  go_loopg [5, 6] n (fun kx s5 s6 wr => ∃ (lo hi : Nat), s5 = .int .i64 lo ∧ s6 = .int .i64 hi ∧ lo ≤ hi ∧ hi ≤ n ∧ hi - lo ≤ kx ∧ Below w.heap.size w wr ∧
    Hid ((∀ t, t < lo → p t = false) ∧ (∀ t, hi ≤ t → t < n → p t = true)))
  case atStart => exact ⟨0, n, rfl, rfl, Nat.zero_le _, Nat.le_refl _, by omega, Below.refl _ _, Lib.hid ⟨fun t ht => absurd ht (Nat.not_lt_zero _), fun t h1 h2 => by omega⟩⟩
  case round =>
    obtain ⟨lo, hi, rfl, rfl, hlh, hin, hg, hb, I⟩ := hrel
    by_cases hlt : lo < hi
    · have hc := HF.out ((lo + hi) / 2) wr (by omega) hb
      rw [show (((lo + hi) / 2 : Nat) : Int) = ((lo : Int) + (hi : Int)) / 2 by omega] at hc
      cases hp : p ((lo + hi) / 2) <;> rw [hp] at hc
      · have HP := Lib.hid hp
        clear hp
        go_wp2_with (refine hc.mono ?_; rintro e w' ⟨rfl, hb'⟩)
        go_roundg (hi - ((lo + hi) / 2 + 1))
        case measure => omega
        case rel =>
          refine ⟨(lo + hi) / 2 + 1, hi, by rw [show ((lo : Int) + (hi : Int)) / 2 + 1 = (((lo + hi) / 2 + 1 : Nat) : Int) by omega], rfl, by omega, hin, Nat.le_refl _, hb.trans (hb'.mono hb.size), Lib.hid ⟨fun t ht => ?_, I.out.2⟩⟩
          cases h : p t with
          | false => rfl
          | true => have := M.out t ((lo + hi) / 2) (by omega) (by omega) h; rw [HP.out] at this; cases this
      · have HP := Lib.hid hp
        clear hp
        go_wp2_with (refine hc.mono ?_; rintro e w' ⟨rfl, hb'⟩)
        go_roundg ((lo + hi) / 2 - lo)
        case measure => omega
        case rel =>
          exact ⟨lo, (lo + hi) / 2, rfl, by rw [show ((lo : Int) + (hi : Int)) / 2 = (((lo + hi) / 2 : Nat) : Int) by omega], by omega, by omega, Nat.le_refl _, hb.trans (hb'.mono hb.size), Lib.hid ⟨I.out.1, fun t ht htn => M.out ((lo + hi) / 2) t ht htn HP.out⟩⟩
    · obtain rfl : hi = lo := by omega
      have hr := Lib.hid (CN.out hi hin I.out.1 I.out.2)
      go_wp2
      go_ret
      exact ⟨by rw [hr.out]; rfl, hb⟩

end Go.Proofs.YtmmpalnalogfnaaGreatDoor.Zon

/- Walks of the closures, of Offset, Local, UTC, last, Exists and Twice. -/
namespace Go.Proofs.YtmmpalnalogfnaaGreatDoor.Zon
open Go.RowKit Go.Shelf
set_option linter.unusedSimpArgs false
set_option linter.unusedVariables false

set_option maxHeartbeats 2000000 in
theorem utcc_any (o : Int) (A : Option Addr) (c : Nat) (l : Shs) (u : Int) (B : Nat) (i : Nat) (W : World) (ok : OkZ o l) (hi : i < l.length) (z0 : W.cell? ⟨B, 0, none⟩ = some (.int .i64 o)) (z1 : W.cell? ⟨B, 1, none⟩ = some (.slice A l.length c)) (zu : W.cell? ⟨B + 1, 0, none⟩ = some (.int .i64 u)) (hL : ShL W A l) :
    Calls Tryz.prog 200 #[.int .i64 i, .pointer (some ⟨B, 0, none⟩), .pointer (some ⟨B + 1, 0, none⟩)] W fun e w' => e = .returned (.bool (decide (u < shA l i + shB o l i))) ∧ Below W.heap.size W w' := by
  have KB := Lib.hid (SW.call (w5 := W) (fun W' hW => before_any o A c l i W' ok.len (by omega) (hL.more hW)))
  obtain ⟨g, off, rfl, hgl, hcc⟩ := hL.at hi
  obtain ⟨g0, g1⟩ := hcc i hi
  have i1 : (i : Int) < (l.length : Int) := by omega
  have hl := ok.len
  have b1 := ok.at' i hi
  have b2 := ok.before i (by omega)
  have q0 := SW.cell z0
  have q1 := SW.cell z1
  have q2 := SW.cell zu
  have q3 := SW.cell g0
  clear hcc hL ok
  generalize shA l i = a at *
  generalize shB o l i = b at *
  go_enter Tryz.func200, Tryz.ntmps200
  go_wp2
  have hNe : Nonempty (Wd (SW W)) := ⟨⟨_, SW.drew _⟩⟩
  refine quietS (S := SW W) (by kernel_rfl) (by kernel_rfl) (SW.drew _) ?_
  repeat (first | go_big_quiet_skip | (go_big_quiet_want; go_big_quiet_op; first | go_big_quiet_on | go_big_quiet_call (((go_at_call 201; (with_reducible exact quiet_S (KB.out _ (Wd.ok _))))))))
  refine wpQuiet_nil ?_
  rintro W ⟨⟨_, hW⟩, rfl⟩
  go_wp2
  go_ret
  exact ⟨rfl, hW⟩
theorem eg_utc : ∀ args w, (callFunc 200 args).run Tryz.prog w = .ok (.enter 200 args) w := enters_of Tryz.func200 (by kernel_rfl) rfl
/-- the two boxes that a function with a closure makes: the zone's and the minute's -/
def Z2 (w : World) (o : Int) (A : Option Addr) (n c : Nat) (u : Int) : World := (w.alloc (.cells #[.int .i64 o, .slice A n c] zoneT)).alloc (.cells #[.int .i64 u] 3)
theorem Z2.bel (w : World) (o : Int) (A : Option Addr) (n c : Nat) (u : Int) : Below w.heap.size w (Z2 w o A n c u) := (bel_alloc _ _).alloc (by simp) _
theorem Z2.z0 (w : World) (o : Int) (A : Option Addr) (n c : Nat) (u : Int) : (Z2 w o A n c u).cell? ⟨w.heap.size, 0, none⟩ = some (.int .i64 o) :=
  (Below.cell (bel_alloc _ _) (by simp)).trans (cells_new w #[.int .i64 o, .slice A n c] zoneT 0)
theorem Z2.z1 (w : World) (o : Int) (A : Option Addr) (n c : Nat) (u : Int) : (Z2 w o A n c u).cell? ⟨w.heap.size, 1, none⟩ = some (.slice A n c) :=
  (Below.cell (bel_alloc _ _) (by simp)).trans (cells_new w #[.int .i64 o, .slice A n c] zoneT 1)
theorem Z2.zu (w : World) (o : Int) (A : Option Addr) (n c : Nat) (u : Int) : (Z2 w o A n c u).cell? ⟨w.heap.size + 1, 0, none⟩ = some (.int .i64 u) := by
  have h := cells_new (w.alloc (.cells #[.int .i64 o, .slice A n c] zoneT)) #[.int .i64 u] 3 0
  rw [World.size_alloc] at h
  exact h
theorem bel_cell {w w' : World} {a : Addr} {v : Value} (h : Below w.heap.size w w') (hc : w.cell? a = some v) : w'.cell? a = some v := (h.cell (World.block_lt_of_cell? _ _ hc)).trans hc

set_option maxRecDepth 100000 in
set_option maxHeartbeats 2000000 in
theorem utc_any (o : Int) (A : Option Addr) (c : Nat) (l : Shs) (u : Int) (w : World) (ok : OkZ o l) (hL : ShL w A l) (hu : -1099511627776 ≤ u ∧ u ≤ 1099511627776) :
    Calls Tryz.prog 146 #[encZ o A l.length c, .int .i64 u] w fun e w' => e = .returned (.int .i64 (utcZ o l u)) ∧ Below w.heap.size w w' := by
  have hb0 := Z2.bel w o A l.length c u
  have z0 := Z2.z0 w o A l.length c u
  have z1 := Z2.z1 w o A l.length c u
  have zu := Z2.zu w o A l.length c u
  have CS := Lib.hid (search_any 200 #[.pointer (some ⟨w.heap.size, 0, none⟩), .pointer (some ⟨w.heap.size + 1, 0, none⟩)] l.length (fun i => decide (u < shA l i + shB o l i)) (Z2 w o A l.length c u) eg_utc (by have := ok.len; omega)
    (fun i W hi hW => utcc_any o A c l u w.heap.size i W ok hi (bel_cell hW z0) (bel_cell hW z1) (bel_cell hW zu) ((hL.more hb0).more hW)) (utc_mono ok u))
  rw [show fstP (fun i => decide (u < shA l i + shB o l i)) l.length 0 = utcN o l u from rfl] at CS
  have hle := (utcN_spec ok u).1
  have CB := Lib.hid (fun W (hW : Below (Z2 w o A l.length c u).heap.size (Z2 w o A l.length c u) W) => before_any o A c l (utcN o l u) W ok.len hle ((hL.more hb0).more hW))
  have hr := ok.before _ hle
  have HR : Hid (utcZ o l u = if utcN o l u = 0 then u - shB o l (utcN o l u) else max (u - shB o l (utcN o l u)) (shA l (utcN o l u - 1))) := Lib.hid rfl
  have hl := ok.len
  generalize hk : utcN o l u = k at *
  clear hk
  have hA : 0 < k → ∃ g off, A = some ⟨g, off, none⟩ ∧ (Z2 w o A l.length c u).cell? ⟨g, off + (k - 1) * 2, none⟩ = some (.int .i64 (shA l (k - 1))) ∧ 0 ≤ shA l (k - 1) ∧ shA l (k - 1) < 52596000 := fun h => by
    obtain ⟨g, off, rfl, hgl, hcc⟩ := (hL.more hb0).at (k := k - 1) (by omega)
    exact ⟨g, off, rfl, (hcc (k - 1) (by omega)).1, ok.at' (k - 1) (by omega)⟩
  generalize shB o l k = r at *
  clear hL ok
  unfold Z2 at *
  by_cases h0 : k = 0
  · rw [if_pos h0] at HR
    have hk0 : ¬ (0 : Int) < (k : Int) := by omega
    clear h0 hA
    go_enter Tryz.func146, Tryz.ntmps146
    go_wp2_with (go_at_call 199; refine CS.out.mono ?_; rintro e w1 ⟨rfl, hb1⟩; have y0 := SW.cell (bel_cell hb1 z0); have y1 := SW.cell (bel_cell hb1 z1); have yu := SW.cell (bel_cell hb1 zu); have KB := Lib.hid (SW.call (w5 := w1) (fun W hW => CB.out W (hb1.trans (hW.mono hb1.size)))))
    have hNe : Nonempty (Wd (SW w1)) := ⟨⟨_, SW.drew _⟩⟩
    refine quietS (S := SW w1) (by kernel_rfl) (by kernel_rfl) (SW.drew _) ?_
    repeat (first | go_big_quiet_skip | (go_big_quiet_want; go_big_quiet_op; first | go_big_quiet_on | go_big_quiet_call (((go_at_call 201; (with_reducible exact quiet_S (KB.out _ (Wd.ok _))))))))
    refine wpQuiet_nil ?_
    rintro W ⟨⟨_, hW⟩, rfl⟩
    go_wp2
    go_ret
    have h1 := hb0.trans (hb1.mono hb0.size)
    exact ⟨by rw [HR.out]; rfl, h1.trans (hW.mono h1.size)⟩
  · rw [if_neg h0] at HR
    obtain ⟨g, off, rfl, ga, ha⟩ := hA (by omega)
    have hk0 : (0 : Int) < (k : Int) := by omega
    have i4 : (0 : Int) ≤ (k : Int) - 1 := by omega
    have i5 : (k : Int) - 1 < (l.length : Int) := by omega
    have i6 : ((k : Int) - 1).toNat = k - 1 := by omega
    clear h0 hA
    generalize shA l (k - 1) = a at *
    go_enter Tryz.func146, Tryz.ntmps146
    go_wp2_with (go_at_call 199; refine CS.out.mono ?_; rintro e w1 ⟨rfl, hb1⟩; have y0 := SW.cell (bel_cell hb1 z0); have y1 := SW.cell (bel_cell hb1 z1); have yu := SW.cell (bel_cell hb1 zu); have ya := SW.cell (bel_cell hb1 ga); have KB := Lib.hid (SW.call (w5 := w1) (fun W hW => CB.out W (hb1.trans (hW.mono hb1.size)))))
    have hNe : Nonempty (Wd (SW w1)) := ⟨⟨_, SW.drew _⟩⟩
    refine quietS (S := SW w1) (by kernel_rfl) (by kernel_rfl) (SW.drew _) ?_
    repeat (first | go_big_quiet_skip | (go_big_quiet_want; go_big_quiet_op; first | go_big_quiet_on | go_big_quiet_call (((go_at_call 201; (with_reducible exact quiet_S (KB.out _ (Wd.ok _))))))))
    refine wpQuiet_nil ?_
    rintro W ⟨⟨_, hW⟩, rfl⟩
    have x1 := y1 ⟨_, hW⟩
    have x2 := ya ⟨_, hW⟩
    dsimp only at x1 x2
    go_wp2
    all_goals
      go_ret
      have h1 := hb0.trans (hb1.mono hb0.size)
      exact ⟨by rw [HR.out]; exact ret_int (by omega), h1.trans (hW.mono h1.size)⟩

end Go.Proofs.YtmmpalnalogfnaaGreatDoor.Zon

/- Walks of isNext, departure and arrival. -/
namespace Go.Proofs.YtmmpalnalogfnaaGreatDoor
open Go.RowKit Go.Shelf
set_option linter.unusedSimpArgs false
set_option linter.unusedVariables false

def badF (before : List Lg) (x : Lg) : Bool := match before.getLast? with
  | none => false
  | some y => !(x.f.toList == y.t.toList)
def nextB (before : List Lg) (x : Lg) : Bool := !badF before x && (!(x.t.toList == x.f.toList) && !(before.any fun b => b.f.toList == x.t.toList))
set_option maxHeartbeats 400000 in
theorem nextc_any (b x : Lg) (B : Nat) (W : World) (z : W.cell? ⟨B, 1, none⟩ = some (.string x.t)) :
    Calls Tryz.prog 148 #[encG b, .pointer (some ⟨B, 0, none⟩)] W fun e w' => e = .returned (.bool (b.f.toList == x.t.toList)) ∧ Below W.heap.size W w' := by
  have hlt := World.block_lt_of_cell? _ _ z
  have z' := (Below.cell (bel_alloc W (.cells #[.string b.f, .string b.t, .int .i64 b.dep, .int .i64 b.arr, .string b.eq] legT)) (p := ⟨B, 1, none⟩) hlt).trans z
  go_enter Tryz.func148, Tryz.ntmps148
  go_wp2
  go_ret
  exact ⟨rfl, bel_alloc _ _⟩
theorem eg_next : ∀ args w, (callFunc 148 args).run Tryz.prog w = .ok (.enter 148 args) w := enters_of Tryz.func148 (by kernel_rfl) rfl

set_option maxRecDepth 100000 in
set_option maxHeartbeats 4000000 in
theorem isNext_any (A : Option Addr) (c : Nat) (l : List Lg) (x : Lg) (w : World) (hl : l.length ≤ 1000) (hL : LegL w (.slice A l.length c) l) :
    Calls Tryz.prog 90 #[.slice A l.length c, encG x] w fun e w' => e = .returned (.bool (nextB l x)) ∧ Below w.heap.size w w' := by
  have hb0 := bel_alloc w (.cells #[.string x.f, .string x.t, .int .i64 x.dep, .int .i64 x.arr, .string x.eq] legT)
  have q0 := (cells_new w #[.string x.f, .string x.t, .int .i64 x.dep, .int .i64 x.arr, .string x.eq] legT 0).trans (show _ = some (.string x.f) from rfl)
  have q1 := (cells_new w #[.string x.f, .string x.t, .int .i64 x.dep, .int .i64 x.arr, .string x.eq] legT 1).trans (show _ = some (.string x.t) from rfl)
  have hL5 := hL.more hb0
  go_enter Tryz.func90, Tryz.ntmps90
  go_upto_region 1 with fail
  generalize hw5 : w.alloc (.cells #[.string x.f, .string x.t, .int .i64 x.dep, .int .i64 x.arr, .string x.eq] legT) = w5 at *
  clear hw5
  have f0 := SW.cell q0
  have f1 := SW.cell q1
  have HN : Hid (nextB l x = (!badF l x && (!(x.t.toList == x.f.toList) && !(l.any fun b => b.f.toList == x.t.toList)))) := Lib.hid rfl
  go_cut [19] from 5 (fun v wx => v = .bool (badF l x) ∧ SW w5 wx)
  case first =>
    by_cases h0 : l.length = 0
    · have hE : badF l x = false := by rw [List.eq_nil_of_length_eq_zero h0]; rfl
      have HE := Lib.hid hE
      have i0 : ¬ (0 : Int) < (l.length : Int) := by omega
      have hdec : decide (0 < l.length) = false := decide_eq_false (by omega)
      clear hE h0
      have hNe : Nonempty (Wd (SW w5)) := ⟨⟨_, SW.drew _⟩⟩
      refine quietS (S := SW w5) (by kernel_rfl) (by kernel_rfl) (SW.drew _) ?_
      repeat (first | go_big_quiet_skip | (go_big_quiet_want; go_big_quiet_op; first | go_big_quiet_on | go_big_quiet_call ((fail))))
      refine wpQuiet_nil ?_
      rintro W ⟨⟨_, hW⟩, rfl⟩
      go_wp2
      go_meet
      exact ⟨by rw [HE.out], hW⟩
    · obtain ⟨b, o, y, rfl, hbl, hy, c0, c1, c2, c3, c4⟩ := LegL.get hL5 (show l.length - 1 < l.length by omega)
      have hE : badF l x = !(x.f.toList == y.t.toList) := by
        unfold badF
        rw [List.getLast?_eq_getElem?, hy]
      have HE := Lib.hid hE
      have i0 : (0 : Int) < (l.length : Int) := by omega
      have hdec : decide (0 < l.length) = true := decide_eq_true (by omega)
      have i1 : ((l.length : Int) - 1) = ((l.length - 1 : Nat) : Int) := by omega
      have i2 : ((l.length - 1 : Nat) : Int) < (l.length : Int) := by omega
      have f2 := SW.cell c1
      clear hE h0 hy c0 c1 c2 c3 c4
      generalize l.length - 1 = last at *
      have hNe : Nonempty (Wd (SW w5)) := ⟨⟨_, SW.drew _⟩⟩
      refine quietS (S := SW w5) (by kernel_rfl) (by kernel_rfl) (SW.drew _) ?_
      repeat (first | go_big_quiet_skip | (go_big_quiet_want; go_big_quiet_op; first | go_big_quiet_on | go_big_quiet_call ((fail))))
      refine wpQuiet_nil ?_
      rintro W ⟨⟨_, hW⟩, rfl⟩
      go_wp2
      go_meet
      exact ⟨by rw [HE.out], hW⟩
  case rest =>
    obtain ⟨rfl, hS⟩ := hcut
    cases hbf : badF l x
    · rw [hbf] at HN
      have k0 := bel_get q0 _ hS
      have k1 := bel_get q1 _ hS
      cases hft : (x.t.toList == x.f.toList)
      · rw [hft] at HN
        have HC := Lib.hid (containsL_any 148 #[.pointer (some ⟨w.heap.size, 0, none⟩)] A c l (fun b => b.f.toList == x.t.toList) wc eg_next hl (hL5.more hS) (fun a W ha hW => nextc_any a x _ W (bel_cell hW k1)))
        generalize (l.any fun b => b.f.toList == x.t.toList) = an at *
        clear hL hL5
        go_wp2_with (go_at_call 147; refine HC.out.mono ?_; rintro e w' ⟨rfl, hb'⟩)
        go_ret
        exact ⟨ret_bool (by rw [HN.out]; simp), hb0.trans ((Below.trans hS (Below.mono hb' hS.size)).mono hb0.size)⟩
      · rw [hft] at HN
        go_wp2
        go_ret
        exact ⟨ret_bool (by rw [HN.out]; simp), hb0.trans (Below.mono hS hb0.size)⟩
    · rw [hbf] at HN
      go_wp2
      go_ret
      exact ⟨ret_bool (by rw [HN.out]; simp), hb0.trans (Below.mono hS hb0.size)⟩

end Go.Proofs.YtmmpalnalogfnaaGreatDoor

/- Walk of neighbours. -/
namespace Go.Proofs.YtmmpalnalogfnaaGreatDoor
open Go.RowKit Go.Shelf
set_option linter.unusedSimpArgs false
set_option linter.unusedVariables false

end Go.Proofs.YtmmpalnalogfnaaGreatDoor

/- Walk of checkAirports, whatever there is to report. -/
namespace Go.Proofs.YtmmpalnalogfnaaGreatDoor
open Go.RowKit Go.Shelf
set_option linter.unusedSimpArgs false
set_option linter.unusedVariables false

abbrev errT : TypeId := 33
theorem errs_new (w : World) (es : List Int) {cs : Array Value} (hcs : cs = (es.map (Value.int .i64)).toArray) : ∀ k (h : k < es.length), (w.alloc (.cells cs errT)).cell? ⟨w.heap.size, k, none⟩ = some (.int .i64 es[k]) := by
  intro k hk
  subst hcs
  rw [cells_new, List.getElem?_toArray, List.getElem?_map, List.getElem?_eq_getElem hk]
  rfl
theorem But.on {w w' w'' : World} {X : Nat → Prop} (h : But w w' X) (hb : Below w'.heap.size w' w'') : But w w'' X := h.trans (But.of_below (X := X) hb) (fun _ _ h => h)
/-- since w6 nothing has turned but v's own block -/
abbrev SX (w6 : World) (v : Value) (W : World) : Prop := But w6 W (fun k => v.ownBlock = some k)
theorem SX.cell {w6 W : World} {v : Value} {a : Addr} {x : Value} (hc : w6.cell? a = some x) (hne : v.ownBlock ≠ some a.block) (h : SX w6 v W) : W.cell? a = some x :=
  (World.cell?_of_block (h.block a.block (World.block_lt_of_cell? _ _ hc) hne)).trans hc
theorem SX.map {κ : Type} [DecidableEq κ] {P : Program} {k : TypeId} {en : κ → Value} {w6 W : World} {v : Value} {b n : Nat} {g : κ → Option Value} (hm : MapK P k en w6 b n g) (hne : v.ownBlock ≠ some b) (h : SX w6 v W) : MapK P k en W b n g := hm.same (h.block b hm.lt hne)
theorem ROwn.grown {α : Type} {enc : α → List Value} {e : TypeId} {sz B : Nat} {w w' : World} {v : Value} {l : List α} {row : Option Nat} (h : ROwn e sz enc B w v l) (hg : w.grownBy w' row) (hne : row ≠ v.ownBlock ∨ v.ownBlock = none) : ROwn e sz enc B w' v l :=
  ⟨h.own.kept hg (by
    rcases hne with h1 | h1
    · exact .inr (fun e => h1 e.symm)
    · exact .inl h1), Nat.le_trans h.base hg.size⟩
theorem itoa_nat (k : Nat) : Lib.itoa (k : Int) = Lib.decDigits k := by
  unfold Lib.itoa
  rw [if_neg (by omega)]
  simp
theorem decA_size (k : Nat) (h : k < 100) : (decA k).size ≤ 21 := by
  have := Lib.itoa_length_le (k : Int) (by omega) (by omega)
  show (Lib.itoa (k : Int)).toArray.size ≤ 21
  simpa using this
theorem dec_small (k : Nat) (h : k < 100) (w : World) : Calls Tryz.prog 35 #[.int .i64 (k : Int)] w fun e w' => e = .returned (.string (decA k)) ∧ w = w' := by
  have HC : Hid (∀ w, Calls Tryz.prog 94 #[.int .i64 (k : Int)] w fun e w' => e = .returned (.string (decA k)) ∧ w = w') := Lib.hid (fun w => by
    have h := Tryz.strconv_Itoa_small k h w
    rw [← itoa_nat] at h
    exact h.mono (by rintro e w' ⟨rfl, rfl⟩; exact ⟨rfl, rfl⟩))
  generalize decA k = s at *
  go_enter Tryz.func35, Tryz.ntmps35
  go_wp2_with (go_at_call 94; refine (HC.out _).mono ?_; rintro e w' ⟨rfl, rfl⟩)
  go_ret
  exact ⟨rfl, rfl⟩
theorem ShL.but' {w w' : World} {X : Nat → Prop} {A : Option Addr} {l : Shs} (h : ShL w A l) (hb : But w w' X) (hA : l = [] ∨ A = none ∨ ∃ g o, A = some ⟨g, o, none⟩ ∧ ¬ X g) : ShL w' A l := by
  rcases h with h | ⟨b, o, rfl, hlt, hc⟩
  · exact .inl h
  · rcases hA with h | h | ⟨g, o', e, hx⟩
    · exact .inl h
    · cases h
    · cases e
      exact .inr ⟨b, o, rfl, Nat.lt_of_lt_of_le hlt hb.size, fun i hi => ⟨(World.cell?_of_block (a := ⟨b, o + i * 2, none⟩) (hb.block b hlt hx)).trans (hc i hi).1, (World.cell?_of_block (a := ⟨b, o + i * 2 + 1, none⟩) (hb.block b hlt hx)).trans (hc i hi).2⟩⟩
theorem ShL.below {w w' : World} {lo : Nat} {A : Option Addr} {l : Shs} (h : ShL w A l) (hb : Below w.heap.size w w') : ShL w' A l := h.more hb

end Go.Proofs.YtmmpalnalogfnaaGreatDoor

/- Words for legs with their zones; walks of departure, arrival, findNonstops, isOrdered. -/
namespace Go.Proofs.YtmmpalnalogfnaaGreatDoor
open Go.RowKit Go.Shelf
set_option linter.unusedSimpArgs false
set_option linter.unusedVariables false

/-- a leg with the zones of its airports -/
structure NS where
  x : Lg
  fo : Int
  fA : Option Addr
  fc : Nat
  fs : Shs
  ti : Int
  tA : Option Addr
  tc : Nat
  ts : Shs
abbrev nonT : TypeId := 136
def encNS (n : NS) : List Value := [.string n.x.f, .string n.x.t, .int .i64 n.x.dep, .int .i64 n.x.arr, .string n.x.eq, .int .i64 n.fo, .slice n.fA n.fs.length n.fc, .int .i64 n.ti, .slice n.tA n.ts.length n.tc]
abbrev encN (n : NS) : Value := .agg #[.string n.x.f, .string n.x.t, .int .i64 n.x.dep, .int .i64 n.x.arr, .string n.x.eq, .int .i64 n.fo, .slice n.fA n.fs.length n.fc, .int .i64 n.ti, .slice n.tA n.ts.length n.tc]
theorem rtN : RT Tryz.prog 133 nonT 9 encNS where
  ht := Tryz.underlying133
  info := ⟨.agg #[.string noB, .string noB, .int .i64 0, .int .i64 0, .string noB, .int .i64 0, .slice none 0 0, .int .i64 0, .slice none 0 0], 128, by kernel_rfl, rfl, by omega⟩
  len x := rfl
  one x u hu := by simp [encNS] at hu; rcases hu with rfl | rfl | rfl | rfl | rfl | rfl | rfl | rfl | rfl <;> rfl
  pos := by omega

set_option maxRecDepth 100000 in
set_option maxHeartbeats 2000000 in
theorem departure_any (n : NS) (day : Int) (w : World) (ok : OkZ n.fo n.fs) (hL : ShL w n.fA n.fs) (hd : -100000000 ≤ day ∧ day ≤ 100000000) (hm : -1000000 ≤ n.x.dep ∧ n.x.dep ≤ 1000000) :
    Calls Tryz.prog 84 #[encN n, .int .i64 day] w fun e w' => e = .returned (.int .i64 (utcZ n.fo n.fs (day * 1440 + n.x.dep))) ∧ Below w.heap.size w w' := by
  have hb0 := bel_alloc w (.cells (encNS n).toArray nonT)
  have HU := Lib.hid (Zon.utc_any n.fo n.fA n.fc n.fs (day * 1440 + n.x.dep) _ ok (hL.more hb0) (by omega))
  generalize utcZ n.fo n.fs (day * 1440 + n.x.dep) = r at *
  clear ok hL
  unfold encNS at *
  go_enter Tryz.func84, Tryz.ntmps84
  go_wp2_with (go_at_call 146; refine HU.out.mono ?_; rintro e w' ⟨rfl, hb'⟩)
  go_ret
  exact ⟨rfl, hb0.trans (Below.mono hb' hb0.size)⟩
set_option maxRecDepth 100000 in
set_option maxHeartbeats 2000000 in
theorem arrival_any (n : NS) (day : Int) (w : World) (ok : OkZ n.ti n.ts) (hL : ShL w n.tA n.ts) (hd : -100000000 ≤ day ∧ day ≤ 100000000) (hm : -1000000 ≤ n.x.arr ∧ n.x.arr ≤ 1000000) :
    Calls Tryz.prog 85 #[encN n, .int .i64 day] w fun e w' => e = .returned (.int .i64 (utcZ n.ti n.ts (day * 1440 + n.x.arr))) ∧ Below w.heap.size w w' := by
  have hb0 := bel_alloc w (.cells (encNS n).toArray nonT)
  have HU := Lib.hid (Zon.utc_any n.ti n.tA n.tc n.ts (day * 1440 + n.x.arr) _ ok (hL.more hb0) (by omega))
  generalize utcZ n.ti n.ts (day * 1440 + n.x.arr) = r at *
  clear ok hL
  unfold encNS at *
  go_enter Tryz.func85, Tryz.ntmps85
  go_wp2_with (go_at_call 146; refine HU.out.mono ?_; rintro e w' ⟨rfl, hb'⟩)
  go_ret
  exact ⟨rfl, hb0.trans (Below.mono hb' hb0.size)⟩

/-- the airport with a code, or the zero airport -/
def airOf (l : List Air) (s : ByteArray) : Air := (findC l s).getD airZ
/-- shifts that lie in memory of one's own, off the row v -/
def ShO (w : World) (v : Value) (A : Option Addr) (l : Shs) : Prop := ShL w A l ∧ (l = [] ∨ A = none ∨ ∃ g, A = some ⟨g, 0, none⟩ ∧ g < w.heap.size ∧ v.ownBlock ≠ some g)
/-- n is the leg x with its zones -/
structure NsOf (w : World) (v : Value) (l : List Air) (x : Lg) (n : NS) : Prop where
  ex : n.x = x
  fo : n.fo = (airOf l x.f).off
  fs : n.fs = (airOf l x.f).shs
  ti : n.ti = (airOf l x.t).off
  ts : n.ts = (airOf l x.t).shs
  shf : ShO w v n.fA n.fs
  sht : ShO w v n.tA n.ts
theorem ShO.more {w w' : World} {v : Value} {A : Option Addr} {l : Shs} (h : ShO w v A l) (hb : Below w.heap.size w w') : ShO w' v A l :=
  ⟨h.1.more hb, h.2.imp id fun h => h.imp id fun ⟨g, h1, h2, h3⟩ => ⟨g, h1, Nat.lt_of_lt_of_le h2 hb.size, h3⟩⟩
theorem NsOf.more {w w' : World} {v : Value} {l : List Air} {x : Lg} {n : NS} (h : NsOf w v l x n) (hb : Below w.heap.size w w') : NsOf w' v l x n := ⟨h.ex, h.fo, h.fs, h.ti, h.ts, h.shf.more hb, h.sht.more hb⟩
theorem ShO.chg {w w' : World} {v v' : Value} {A : Option Addr} {l : Shs} (h : ShO w v A l) (hc : Chg w w' v v') : ShO w' v' A l := by
  refine ⟨h.1.but' hc.but (h.2.imp id fun h => h.imp id fun ⟨g, h1, h2, h3⟩ => ⟨g, 0, h1, h3⟩), h.2.imp id fun h => h.imp id fun ⟨g, h1, h2, h3⟩ => ⟨g, h1, Nat.lt_of_lt_of_le h2 hc.but.size, fun e => ?_⟩⟩
  rcases hc.own g e with h4 | h4
  · exact h3 h4
  · omega
theorem NsOf.chg {w w' : World} {v v' : Value} {l : List Air} {x : Lg} {n : NS} (h : NsOf w v l x n) (hc : Chg w w' v v') : NsOf w' v' l x n := ⟨h.ex, h.fo, h.fs, h.ti, h.ts, h.shf.chg hc, h.sht.chg hc⟩

set_option maxRecDepth 100000 in
set_option maxHeartbeats 8000000 in
theorem nonstops_any (p : PV) (A : Option Addr) (c : Nat) (lg : List Lg) (w : World) (hl : p.l.length ≤ 40) (hL : AirL w p.A p.l) (hs : ∀ a ∈ p.l, a.shs.length ≤ 300) (hG : LegL w (.slice A lg.length c) lg) (hn : lg.length ≤ 100) :
    Calls Tryz.prog 83 #[encP p, .slice A lg.length c] w fun e w' => ∃ v' L, e = .returned v' ∧ ROwn nonT 9 encNS w.heap.size w' v' L ∧ L.length = lg.length ∧ (∀ (k : Nat) (x : Lg) (n : NS), lg[k]? = some x → L[k]? = some n → NsOf w' v' p.l x n) ∧ Below w.heap.size w w' := by
  have hb0 := bel_alloc w (.cells #[.slice p.A p.l.length p.ca, .slice p.D p.ds.length p.cd] placesT)
  have q0 := (cells_new w #[.slice p.A p.l.length p.ca, .slice p.D p.ds.length p.cd] placesT 0).trans (show _ = some (.slice p.A p.l.length p.ca) from rfl)
  have q1 := (cells_new w #[.slice p.A p.l.length p.ca, .slice p.D p.ds.length p.cd] placesT 1).trans (show _ = some (.slice p.D p.ds.length p.cd) from rfl)
  have hL5 := hL.more hb0
  have hG5 := hG.more hb0
  go_enter Tryz.func83, Tryz.ntmps83
  go_wp2
  generalize hw5 : w.alloc (.cells #[.slice p.A p.l.length p.ca, .slice p.D p.ds.length p.cd] placesT) = w5 at *
  clear hw5
  have y0 := bel_get q0
  have y1 := bel_get q1
  have KF : Hid (∀ s W, SW w5 W → Calls Tryz.prog 145 #[.agg #[.slice p.A p.l.length p.ca, .slice p.D p.ds.length p.cd], .string s] W fun e w' => Below W.heap.size W w' ∧ FindF W.heap.size (airOf p.l s) (findC p.l s).isSome e w') := Lib.hid (fun s W hW => find2_any p s W hl (hL5.more hW) hs)
  have HN : Hid (ROwn nonT 9 encNS w5.heap.size w5 (.slice none 0 0) []) := Lib.hid (ROwn.nil (Nat.le_refl _))
  clear hL hL5 hs
  go_loopg [5, 14] lg.length (fun kx v5 vi wr => ∃ (v : Value) (k : Nat) (L : List NS), v = v5 ∧ vi = .int .i64 k ∧ k + kx = lg.length ∧ Hid (ROwn nonT 9 encNS w5.heap.size wr v L ∧ L.length = k ∧ (∀ (k : Nat) (x : Lg) (n : NS), lg[k]? = some x → L[k]? = some n → NsOf wr v p.l x n) ∧ SW w5 wr))
  case atStart => exact ⟨_, 0, [], rfl, rfl, by omega, Lib.hid ⟨HN.out, rfl, fun k x n _ h => by simp at h, Below.refl _ _⟩⟩
  case round =>
    obtain ⟨v, k, L, rfl, rfl, hkx, HH⟩ := hrel
    clear HN
    have HKX := Lib.hid hkx
    have hSr : SW w5 wr := HH.out.2.2.2
    by_cases hlt : k < lg.length
    · clear hkx
      obtain ⟨b, o, x, rfl, hbl, hx, c0, c1, c2, c3, c4⟩ := LegL.get (hG5.more hSr) hlt
      have HX := Lib.hid hx
      have i2 : (k : Int) < (lg.length : Int) := by omega
      have hbx := bel_alloc wr (.cells #[.string x.f, .string x.t, .int .i64 x.dep, .int .i64 x.arr, .string x.eq] legT)
      have hSx : SW w5 (wr.alloc (.cells #[.string x.f, .string x.t, .int .i64 x.dep, .int .i64 x.arr, .string x.eq] legT)) := Below.alloc hSr hSr.size _
      have l0 := (cells_new wr #[.string x.f, .string x.t, .int .i64 x.dep, .int .i64 x.arr, .string x.eq] legT 0).trans (show _ = some (.string x.f) from rfl)
      have l1 := (cells_new wr #[.string x.f, .string x.t, .int .i64 x.dep, .int .i64 x.arr, .string x.eq] legT 1).trans (show _ = some (.string x.t) from rfl)
      have l2 := (cells_new wr #[.string x.f, .string x.t, .int .i64 x.dep, .int .i64 x.arr, .string x.eq] legT 2).trans (show _ = some (.int .i64 x.dep) from rfl)
      have l3 := (cells_new wr #[.string x.f, .string x.t, .int .i64 x.dep, .int .i64 x.arr, .string x.eq] legT 3).trans (show _ = some (.int .i64 x.arr) from rfl)
      have l4 := (cells_new wr #[.string x.f, .string x.t, .int .i64 x.dep, .int .i64 x.arr, .string x.eq] legT 4).trans (show _ = some (.string x.eq) from rfl)
      have z0 := y0 _ hSx
      have z1 := y1 _ hSx
      have HLn : Hid (L.length ≤ 100000000) := Lib.hid (by have := HH.out.2.1; omega)
      clear hx
      obtain ⟨N, hN⟩ : ∃ N, N = wr.heap.size := ⟨_, rfl⟩
      obtain ⟨a1, ha1⟩ : ∃ a1, a1 = airOf p.l x.f := ⟨_, rfl⟩
      obtain ⟨a2, ha2⟩ : ∃ a2, a2 = airOf p.l x.t := ⟨_, rfl⟩
      have K1 := KF.out x.f _ hSx
      have K2 := KF.out x.t
      rw [← ha1] at K1
      rw [← ha2] at K2
      have K2 := Lib.hid K2
      have HA1 := Lib.hid ha1
      have HA2 := Lib.hid ha2
      have hSz := hbx.size
      clear ha1 ha2
      go_upto_region 7 with (first
        | (go_at_call 145; refine (K2.out _ hS2).mono ?_; rintro e w3 ⟨hb3, A2, c2', rfl, hs2, hf2⟩)
        | (go_at_call 145; refine K1.mono ?_; rintro e w1 ⟨hb1, A1, c1', rfl, hs1, hf1⟩; have hS1 : SW w5 w1 := Below.trans hSx (Below.mono hb1 hSx.size); have hS2 : SW w5 (w1.alloc (.cells #[.string a1.code, .string a1.city, .string a1.land, .int .i64 a1.off, .slice A1 a1.shs.length c1'] airT)) := Below.alloc hS1 hS1.size _; have z0 := y0 _ hS2; have z1 := y1 _ hS2; have hb12 : Below wr.heap.size wr (w1.alloc (.cells #[.string a1.code, .string a1.city, .string a1.land, .int .i64 a1.off, .slice A1 a1.shs.length c1'] airT)) := (hbx.trans (Below.mono hb1 hbx.size)).alloc (Nat.le_trans hbx.size hb1.size) _; have r0 := bel_cell (bel_alloc w1 (.cells #[.string a1.code, .string a1.city, .string a1.land, .int .i64 a1.off, .slice A1 a1.shs.length c1'] airT)) (bel_cell hb1 l0); have r1 := bel_cell (bel_alloc w1 (.cells #[.string a1.code, .string a1.city, .string a1.land, .int .i64 a1.off, .slice A1 a1.shs.length c1'] airT)) (bel_cell hb1 l1)))
      have bx1 := bel_alloc w1 (.cells #[.string a1.code, .string a1.city, .string a1.land, .int .i64 a1.off, .slice A1 a1.shs.length c1'] airT)
      have bx3 := bel_alloc w3 (.cells #[.string a2.code, .string a2.city, .string a2.land, .int .i64 a2.off, .slice A2 a2.shs.length c2'] airT)
      have l0 := bel_cell bx3 (bel_cell hb3 (bel_cell bx1 (bel_cell hb1 l0)))
      have l1 := bel_cell bx3 (bel_cell hb3 (bel_cell bx1 (bel_cell hb1 l1)))
      have l2 := bel_cell bx3 (bel_cell hb3 (bel_cell bx1 (bel_cell hb1 l2)))
      have l3 := bel_cell bx3 (bel_cell hb3 (bel_cell bx1 (bel_cell hb1 l3)))
      have l4 := bel_cell bx3 (bel_cell hb3 (bel_cell bx1 (bel_cell hb1 l4)))
      have m3 := bel_cell bx3 (bel_cell hb3 ((cells_new w1 #[.string a1.code, .string a1.city, .string a1.land, .int .i64 a1.off, .slice A1 a1.shs.length c1'] airT 3).trans (show _ = some (.int .i64 a1.off) from rfl)))
      have m4 := bel_cell bx3 (bel_cell hb3 ((cells_new w1 #[.string a1.code, .string a1.city, .string a1.land, .int .i64 a1.off, .slice A1 a1.shs.length c1'] airT 4).trans (show _ = some (.slice A1 a1.shs.length c1') from rfl)))
      have n3 := (cells_new w3 #[.string a2.code, .string a2.city, .string a2.land, .int .i64 a2.off, .slice A2 a2.shs.length c2'] airT 3).trans (show _ = some (.int .i64 a2.off) from rfl)
      have n4 := (cells_new w3 #[.string a2.code, .string a2.city, .string a2.land, .int .i64 a2.off, .slice A2 a2.shs.length c2'] airT 4).trans (show _ = some (.slice A2 a2.shs.length c2') from rfl)
      have hb13 : Below wr.heap.size wr w3 := hb12.trans (Below.mono hb3 hb12.size)
      have hb14 : Below wr.heap.size wr (w3.alloc (.cells #[.string a2.code, .string a2.city, .string a2.land, .int .i64 a2.off, .slice A2 a2.shs.length c2'] airT)) := hb13.alloc hb13.size _
      have hs1' := ((hs1.more bx1).more hb3).more bx3
      have hs2' := hs2.more bx3
      have hSq : SW w5 (w3.alloc (.cells #[.string a2.code, .string a2.city, .string a2.land, .int .i64 a2.off, .slice A2 a2.shs.length c2'] airT)) := Below.trans hSr (hb14.mono hSr.size)
      have hO := HH.out.1.more hb14
      have HNs := Lib.hid (fun (k' : Nat) (x' : Lg) (n' : NS) h1 h2 => (HH.out.2.2.1 k' x' n' h1 h2).more hb14)
      generalize hw4 : w3.alloc (.cells #[.string a2.code, .string a2.city, .string a2.land, .int .i64 a2.off, .slice A2 a2.shs.length c2'] airT) = w4 at *
      have hfr : ∀ (A' : Option Addr) (l' : Shs), ShL w4 A' l' → (A' = none ∨ ∃ g, A' = some ⟨g, 0, none⟩ ∧ wr.heap.size ≤ g) → ShO w4 v A' l' := fun A' l' h1 h2 => ⟨h1, by
        rcases h1 with h | ⟨b', o', e1, e2, _⟩
        · exact .inl h
        · rcases h2 with h2 | ⟨g, h2, h4⟩
          · exact .inr (.inl h2)
          · refine .inr (.inr ⟨g, h2, ?_, fun e => ?_⟩)
            · rw [h2] at e1; cases e1; exact e2
            · have := (HH.out.1.low e).2; omega⟩
      have HS1 := Lib.hid (hfr A1 a1.shs hs1' (by
        rcases hf1 with h | ⟨g, h, hg⟩
        · exact .inl h
        · exact .inr ⟨g, h, by rw [World.size_alloc] at hg; omega⟩))
      have HS2 := Lib.hid (hfr A2 a2.shs hs2' (by
        rcases hf2 with h | ⟨g, h, hg⟩
        · exact .inl h
        · exact .inr ⟨g, h, by have := hb12.size; omega⟩))
      have HLk := Lib.hid HH.out.2.1
      clear hfr hs1' hs2' hs1 hs2 hf1 hf2 hb3 hb1 bx1 bx3 hb13 HH hw4 K1 K2 hS1 hS2 hb12
      go_wp2_with (at_builtin; refine wpList_rapp rtN rfl _ _ rfl hO rfl (bel_alloc _ _) _ (⟨x, a1.off, A1, c1', a1.shs, a2.off, A2, c2', a2.shs⟩ : NS) _ rfl (cs := #[.string x.f, .string x.t, .int .i64 x.dep, .int .i64 x.arr, .string x.eq, .int .i64 a1.off, .slice A1 a1.shs.length c1', .int .i64 a2.off, .slice A2 a2.shs.length c2']) rfl (heap_alloc_new _ _) HLn.out ?_; intro v' w' hO' hC')
      have HZ : Hid (ROwn nonT 9 encNS w5.heap.size w' v' (L ++ [(⟨x, a1.off, A1, c1', a1.shs, a2.off, A2, c2', a2.shs⟩ : NS)]) ∧ (L ++ [(⟨x, a1.off, A1, c1', a1.shs, a2.off, A2, c2', a2.shs⟩ : NS)]).length = k + 1 ∧ (∀ (k' : Nat) (x' : Lg) (n' : NS), lg[k']? = some x' → (L ++ [(⟨x, a1.off, A1, c1', a1.shs, a2.off, A2, c2', a2.shs⟩ : NS)])[k']? = some n' → NsOf w' v' p.l x' n') ∧ SW w5 w') := Lib.hid ⟨hO', by rw [List.length_append, HLk.out]; rfl, fun k' x' n' h1 h2 => by
        by_cases hk' : k' < L.length
        · rw [List.getElem?_append_left hk'] at h2
          exact (HNs.out k' x' n' h1 h2).chg hC'
        · have hke : k' = k := by
            have := (List.getElem?_eq_some_iff.1 h2).1
            rw [List.length_append] at this
            have := HLk.out
            simp at *
            omega
          subst hke
          rw [List.getElem?_append_right (by omega), HLk.out, Nat.sub_self] at h2
          rw [HX.out] at h1
          cases h1
          cases h2
          exact (⟨rfl, by rw [← HA1.out], by rw [← HA1.out], by rw [← HA2.out], by rw [← HA2.out], HS1.out, HS2.out⟩ : NsOf w4 v p.l x _).chg hC', Below.trans hSq ((hC'.below hO).mono (Nat.le_refl _))⟩
      clear hO' hC' hO
      go_roundg (lg.length - (k + 1))
      case measure => have := HKX.out; omega
      case rel => exact ⟨_, k + 1, _, rfl, by go_num, by omega, HZ⟩
    · have hk : k = lg.length := by omega
      have HZ : Hid (ROwn nonT 9 encNS w.heap.size wr v L ∧ L.length = lg.length ∧ (∀ (k : Nat) (x : Lg) (n : NS), lg[k]? = some x → L[k]? = some n → NsOf wr v p.l x n) ∧ Below w.heap.size w wr) := Lib.hid ⟨⟨HH.out.1.own.mono hb0.size, Nat.le_trans hb0.size hSr.size⟩, by rw [HH.out.2.1, hk], HH.out.2.2.1, hb0.trans (Below.mono hSr hb0.size)⟩
      clear HH hkx hk
      go_wp2
      go_ret
      exact ⟨v, L, rfl, HZ.out⟩

end Go.Proofs.YtmmpalnalogfnaaGreatDoor

/- Walk of isOrdered. -/
namespace Go.Proofs.YtmmpalnalogfnaaGreatDoor
open Go.RowKit Go.Shelf
set_option linter.unusedSimpArgs false
set_option linter.unusedVariables false

/-- departures and arrivals in their order -/
def ordT : Bool → Int → List (Int × Int) → Bool
  | _, _, [] => true
  | first, before, (d, a) :: r => if a ≤ d then false else if first = false ∧ d < before then false else ordT false a r
def depL (l : List Air) (x : Lg) (day : Int) : Int := utcZ (airOf l x.f).off (airOf l x.f).shs (day * 1440 + x.dep)
def arrL (l : List Air) (x : Lg) (day : Int) : Int := utcZ (airOf l x.t).off (airOf l x.t).shs (day * 1440 + x.arr)
def timL (l : List Air) (lg : List Lg) (day : Int) : List (Int × Int) := lg.map fun x => (depL l x day, arrL l x day)
theorem okZ_zero : OkZ 0 [] := ⟨by simp, by omega, fun k h => by simp at h, fun k h => by simp at h, fun k h => by simp at h⟩
theorem okZ_of {l : List Air} (h : ∀ a ∈ l, OkZ a.off a.shs) (s : ByteArray) : OkZ (airOf l s).off (airOf l s).shs := by
  unfold airOf
  cases hc : findC l s with
  | none => exact okZ_zero
  | some a => exact h a (List.mem_of_find?_eq_some hc)
theorem ordT_step {l : List Air} {lg : List Lg} {day : Int} {k : Nat} {x : Lg} (h : lg[k]? = some x) (first : Bool) (before : Int) :
    ordT first before ((timL l lg day).drop k) = if arrL l x day ≤ depL l x day then false else if first = false ∧ depL l x day < before then false else ordT false (arrL l x day) ((timL l lg day).drop (k + 1)) := by
  obtain ⟨hlt, rfl⟩ := List.getElem?_eq_some_iff.1 h
  unfold timL
  have hl : k < (lg.map fun x => (depL l x day, arrL l x day)).length := by rw [List.length_map]; exact hlt
  rw [List.drop_eq_getElem_cons hl, List.getElem_map]
  rfl
theorem RowL.get9 {w : World} {A : Option Addr} {n c : Nat} {L : List NS} (h : RowL 9 encNS w (.slice A n c) L) {k : Nat} (hk : k < L.length) : ∃ b o y, A = some ⟨b, o, none⟩ ∧ b < w.heap.size ∧ L[k]? = some y ∧ ∀ j u, (encNS y)[j]? = some u → w.cell? ⟨b, o + k * 9 + j, none⟩ = some u := by
  obtain ⟨b, o, h1, h2, h3⟩ := h.at rfl hk
  exact ⟨b, o, L[k], h1, h2, List.getElem?_eq_getElem hk, h3⟩

set_option maxRecDepth 100000 in
set_option maxHeartbeats 8000000 in
theorem isOrdered_any (v : Value) (l : List Air) (lg : List Lg) (L : List NS) (day : Int) (w : World) (hv : RowL 9 encNS w v L) (hLL : L.length = lg.length) (hN : ∀ (k : Nat) (x : Lg) (n : NS), lg[k]? = some x → L[k]? = some n → NsOf w v l x n) (hz : ∀ a ∈ l, OkZ a.off a.shs)
    (hlen : lg.length ≤ 100) (hd : -100000000 ≤ day ∧ day ≤ 100000000) (hm : ∀ x ∈ lg, (-1000000 ≤ x.dep ∧ x.dep ≤ 1000000) ∧ -1000000 ≤ x.arr ∧ x.arr ≤ 1000000) :
    Calls Tryz.prog 149 #[v, .int .i64 day] w fun e w' => e = .returned (.bool (ordT true 0 (timL l lg day))) ∧ Below w.heap.size w w' := by
  obtain ⟨A, c, rfl, hvc⟩ := id hv
  have HN := Lib.hid hN
  have HZ := Lib.hid hz
  have HM := Lib.hid hm
  clear hN hz hm hvc
  have HLL := Lib.hid hLL
  rw [hLL]
  have HV := Lib.hid hv
  clear hv hLL
  go_enter Tryz.func149, Tryz.ntmps149
  go_wp2
  go_loopg [5, 12] lg.length (fun kx v5 vi wr => ∃ (k : Nat) (before : Int), v5 = .int .i64 before ∧ vi = .int .i64 k ∧ k + kx = lg.length ∧ Hid (ordT true 0 (timL l lg day) = ordT (decide (k = 0)) before ((timL l lg day).drop k)) ∧ SW w wr)
  case atStart => exact ⟨0, 0, rfl, rfl, by omega, Lib.hid rfl, Below.refl _ _⟩
  case round =>
    obtain ⟨k, before, rfl, rfl, hkx, HO, hS⟩ := hrel
    have HKX := Lib.hid hkx
    by_cases hlt : k < lg.length
    · clear hkx
      obtain ⟨x, hx⟩ : ∃ x, lg[k]? = some x := ⟨_, List.getElem?_eq_getElem hlt⟩
      obtain ⟨b, o, n, rfl, hbl, hn, hc⟩ := RowL.get9 (HV.out.more hS) (show k < L.length by have := HLL.out; omega)
      have hns := HN.out k x n hx hn
      have HST := Lib.hid (HO.out.trans (ordT_step hx _ _))
      have hzf := okZ_of HZ.out x.f
      have hzt := okZ_of HZ.out x.t
      have hmx := HM.out x (List.mem_of_getElem? hx)
      have hdl : depL l x day = utcZ n.fo n.fs (day * 1440 + n.x.dep) := by unfold depL; rw [hns.fo, hns.fs, hns.ex]
      have hal : arrL l x day = utcZ n.ti n.ts (day * 1440 + n.x.arr) := by unfold arrL; rw [hns.ti, hns.ts, hns.ex]
      rw [hdl, hal] at HST
      have i2 : (k : Int) < (lg.length : Int) := by omega
      have c0 := hc 0 _ rfl
      have c1 := hc 1 _ rfl
      have c2 := hc 2 _ rfl
      have c3 := hc 3 _ rfl
      have c4 := hc 4 _ rfl
      have c5 := hc 5 _ rfl
      have c6 := hc 6 _ rfl
      have c7 := hc 7 _ rfl
      have c8 := hc 8 _ rfl
      rw [Nat.add_zero] at c0
      have hbx := bel_alloc wr (.cells (encNS n).toArray nonT)
      have hSx : SW w (wr.alloc (.cells (encNS n).toArray nonT)) := Below.alloc hS hS.size _
      have K1 : Hid (∀ W, SW (wr.alloc (.cells (encNS n).toArray nonT)) W → Calls Tryz.prog 84 #[encN n, .int .i64 day] W fun e w' => e = .returned (.int .i64 (utcZ n.fo n.fs (day * 1440 + n.x.dep))) ∧ SW (wr.alloc (.cells (encNS n).toArray nonT)) w') :=
        Lib.hid (SW.call (fun W hW => departure_any n day W (by rw [hns.fo, hns.fs]; exact hzf) (hns.shf.1.more (Below.trans hSx (Below.mono hW hSx.size))) hd (by rw [hns.ex]; exact hmx.1)))
      have K2 : Hid (∀ W, SW (wr.alloc (.cells (encNS n).toArray nonT)) W → Calls Tryz.prog 85 #[encN n, .int .i64 day] W fun e w' => e = .returned (.int .i64 (utcZ n.ti n.ts (day * 1440 + n.x.arr))) ∧ SW (wr.alloc (.cells (encNS n).toArray nonT)) w') :=
        Lib.hid (SW.call (fun W hW => arrival_any n day W (by rw [hns.ti, hns.ts]; exact hzt) (hns.sht.1.more (Below.trans hSx (Below.mono hW hSx.size))) hd (by rw [hns.ex]; exact hmx.2)))
      have f0 := SW.cell ((cells_new wr (encNS n).toArray nonT 0).trans (show _ = some (.string n.x.f) from rfl))
      have f1 := SW.cell ((cells_new wr (encNS n).toArray nonT 1).trans (show _ = some (.string n.x.t) from rfl))
      have f2 := SW.cell ((cells_new wr (encNS n).toArray nonT 2).trans (show _ = some (.int .i64 n.x.dep) from rfl))
      have f3 := SW.cell ((cells_new wr (encNS n).toArray nonT 3).trans (show _ = some (.int .i64 n.x.arr) from rfl))
      have f4 := SW.cell ((cells_new wr (encNS n).toArray nonT 4).trans (show _ = some (.string n.x.eq) from rfl))
      have f5 := SW.cell ((cells_new wr (encNS n).toArray nonT 5).trans (show _ = some (.int .i64 n.fo) from rfl))
      have f6 := SW.cell ((cells_new wr (encNS n).toArray nonT 6).trans (show _ = some (.slice n.fA n.fs.length n.fc) from rfl))
      have f7 := SW.cell ((cells_new wr (encNS n).toArray nonT 7).trans (show _ = some (.int .i64 n.ti) from rfl))
      have f8 := SW.cell ((cells_new wr (encNS n).toArray nonT 8).trans (show _ = some (.slice n.tA n.ts.length n.tc) from rfl))
      clear hns hx hn hc hdl hal hzf hzt hmx
      generalize utcZ n.fo n.fs (day * 1440 + n.x.dep) = dd at *
      generalize utcZ n.ti n.ts (day * 1440 + n.x.arr) = aa at *
      unfold encNS at *
      go_wp2
      have hNe : Nonempty (Wd (SW (wr.alloc (.cells [.string n.x.f, .string n.x.t, .int .i64 n.x.dep, .int .i64 n.x.arr, .string n.x.eq, .int .i64 n.fo, .slice n.fA n.fs.length n.fc, .int .i64 n.ti, .slice n.tA n.ts.length n.tc].toArray nonT)))) := ⟨⟨_, SW.drew _⟩⟩
      refine quietS (S := SW (wr.alloc (.cells [.string n.x.f, .string n.x.t, .int .i64 n.x.dep, .int .i64 n.x.arr, .string n.x.eq, .int .i64 n.fo, .slice n.fA n.fs.length n.fc, .int .i64 n.ti, .slice n.tA n.ts.length n.tc].toArray nonT))) (by kernel_rfl) (by kernel_rfl) (SW.drew _) ?_
      repeat (first | go_big_quiet_skip | (go_big_quiet_want; go_big_quiet_op; first | go_big_quiet_on | go_big_quiet_call ((first | (go_at_call 84; (with_reducible exact quiet_S (K1.out _ (Wd.ok _)))) | (go_at_call 85; (with_reducible exact quiet_S (K2.out _ (Wd.ok _))))))))
      refine wpQuiet_nil ?_
      rintro W ⟨⟨_, hW⟩, rfl⟩
      have hSw : SW w W := Below.trans hSx (Below.mono hW hSx.size)
      by_cases h1 : aa ≤ dd
      · have HR := Lib.hid (HST.out.trans (if_pos h1))
        go_wp2
        go_ret
        exact ⟨ret_bool HR.out.symm, hSw⟩
      · have HS2 := Lib.hid (HST.out.trans (if_neg h1))
        have hna : ¬ aa ≤ dd := h1
        by_cases h0 : k = 0
        · have HR : Hid (ordT true 0 (timL l lg day) = ordT (decide (k + 1 = 0)) aa ((timL l lg day).drop (k + 1))) := Lib.hid (by
            rw [HS2.out, if_neg (by simp [h0])]
            rw [show decide (k + 1 = 0) = false by simp])
          subst h0
          clear HS2 HST h1
          go_wp2
          go_roundg (lg.length - (0 + 1))
          case measure => have := HKX.out; omega
          case rel => exact ⟨0 + 1, aa, rfl, by go_num, by omega, HR, hSw⟩
        · have i3 : (0 : Int) < (k : Int) := by omega
          have i4 : 0 < k := by omega
          by_cases h2 : dd < before
          · have HR := Lib.hid (HS2.out.trans (if_pos ⟨by simp [h0], h2⟩))
            clear HS2 HST h1 h0
            go_wp2
            go_ret
            exact ⟨ret_bool HR.out.symm, hSw⟩
          · have HR : Hid (ordT true 0 (timL l lg day) = ordT (decide (k + 1 = 0)) aa ((timL l lg day).drop (k + 1))) := Lib.hid (by
              rw [HS2.out, if_neg (fun h => h2 h.2)]
              rw [show decide (k + 1 = 0) = false by simp])
            clear HS2 HST h1 h0
            go_wp2
            go_roundg (lg.length - (k + 1))
            case measure => have := HKX.out; omega
            case rel => exact ⟨k + 1, aa, rfl, by go_num, by omega, HR, hSw⟩
    · have HR : Hid (ordT true 0 (timL l lg day) = true) := Lib.hid (by
        rw [HO.out, List.drop_of_length_le (by unfold timL; rw [List.length_map]; omega)]
        rfl)
      go_wp2
      go_ret
      exact ⟨ret_bool HR.out.symm, hS⟩

end Go.Proofs.YtmmpalnalogfnaaGreatDoor

/- Walks of the comparisons of legs and of flights: slices.Equal, SameLegs. -/
namespace Go.Proofs.YtmmpalnalogfnaaGreatDoor
open Go.RowKit Go.Shelf
set_option linter.unusedSimpArgs false
set_option linter.unusedVariables false

def eqLg (x y : Lg) : Bool := (x.f.toList == y.f.toList) && ((x.t.toList == y.t.toList) && (decide (x.dep = y.dep) && (decide (x.arr = y.arr) && (x.eq.toList == y.eq.toList))))
def sameL : List Lg → List Lg → Bool
  | [], [] => true
  | x :: l, y :: m => eqLg x y && sameL l m
  | _, _ => false
theorem sameL_len : ∀ (l m : List Lg), l.length ≠ m.length → sameL l m = false
  | [], [], h => absurd rfl h
  | [], _ :: _, _ => rfl
  | _ :: _, [], _ => rfl
  | x :: l, y :: m, h => by simp only [sameL]; rw [sameL_len l m (by simpa using h), Bool.and_false]
theorem eqLg_refl (x : Lg) : eqLg x x = true := by simp [eqLg]
theorem sameL_refl : ∀ l : List Lg, sameL l l = true
  | [] => rfl
  | x :: l => by simp only [sameL]; rw [eqLg_refl, sameL_refl l]; rfl
theorem sameL_drop (l m : List Lg) {k : Nat} {x y : Lg} (hx : l[k]? = some x) (hy : m[k]? = some y) : sameL (l.drop k) (m.drop k) = (eqLg x y && sameL (l.drop (k + 1)) (m.drop (k + 1))) := by
  obtain ⟨hk, e⟩ := List.getElem?_eq_some_iff.1 hx
  obtain ⟨hk', e'⟩ := List.getElem?_eq_some_iff.1 hy
  rw [List.drop_eq_getElem_cons hk, List.drop_eq_getElem_cons hk', e, e']
  rfl

set_option maxRecDepth 100000 in
set_option maxHeartbeats 4000000 in
theorem sameLegs_any (u v : Value) (l m : List Lg) (w : World) (hu : LegL w u l) (hv : LegL w v m) (hl : l.length ≤ 1000) (hm : m.length ≤ 1000) :
    Calls Tryz.prog 52 #[u, v] w fun e w' => e = .returned (.bool (sameL l m)) ∧ Below w.heap.size w w' := by
  obtain ⟨A, c, rfl, hA⟩ := hu
  obtain ⟨A', c', rfl, hA'⟩ := hv
  have hL : LegL w (.slice A l.length c) l := ⟨A, c, rfl, hA⟩
  have hL' : LegL w (.slice A' m.length c') m := ⟨A', c', rfl, hA'⟩
  clear hA hA'
  by_cases hlen : l.length = m.length
  · have HM : Hid (l.length = m.length) := Lib.hid hlen
    have hq : ((l.length : Int) != (m.length : Int)) = false := by rw [hlen]; simp
    clear hlen
    go_enter Tryz.func52, Tryz.ntmps52
    go_wp2
    go_loopw [5] (fun vi wr => ∃ k : Nat, k ≤ l.length ∧ vi = .int .i64 k ∧ Hid (sameL l m = sameL (l.drop k) (m.drop k)) ∧ SW w wr) (fun vi _ => l.length - (intOf vi).toNat)
    case atStart => exact ⟨0, Nat.zero_le _, rfl, Lib.hid rfl, Below.refl _ _⟩
    case round =>
      obtain ⟨k, hk, rfl, HK, hS⟩ := hrel
      by_cases hlt : k < l.length
      · obtain ⟨b, o, x, rfl, _, hx, c0, c1, c2, c3, c4⟩ := LegL.get (hL.more hS) hlt
        obtain ⟨b', o', y, rfl, _, hy, d0, d1, d2, d3, d4⟩ := LegL.get (hL'.more hS) (show k < m.length by have := HM.out; omega)
        have i2 : (k : Int) < (l.length : Int) := by omega
        have i3 : (k : Int) < (m.length : Int) := by have := HM.out; omega
        have HK2 := Lib.hid (HK.out.trans (sameL_drop l m hx hy))
        have f0 := SW.cell c0
        have f1 := SW.cell c1
        have f2 := SW.cell c2
        have f3 := SW.cell c3
        have f4 := SW.cell c4
        have g0 := SW.cell d0
        have g1 := SW.cell d1
        have g2 := SW.cell d2
        have g3 := SW.cell d3
        have g4 := SW.cell d4
        clear hx hy c0 c1 c2 c3 c4 d0 d1 d2 d3 d4 HK
        cases h1 : x.f.toList == y.f.toList
        · skip
          have HR : Hid (sameL l m = false) := Lib.hid (by rw [HK2.out]; unfold eqLg; simp [h1])
          clear HK2
          go_wp2
          have hNe : Nonempty (Wd (SW wr)) := ⟨⟨_, SW.drew _⟩⟩
          refine quietS (S := SW wr) (by kernel_rfl) (by kernel_rfl) (SW.drew _) ?_
          repeat (first | go_big_quiet_skip | (go_big_quiet_want; go_big_quiet_op; first | go_big_quiet_on | go_big_quiet_call ((fail))))
          refine wpQuiet_nil ?_
          rintro W ⟨⟨_, hW⟩, rfl⟩
          go_wp2
          go_ret
          exact ⟨ret_bool HR.out.symm, Below.trans hS (Below.mono hW hS.size)⟩
        · skip
          cases h2 : x.t.toList == y.t.toList
          · skip
            have HR : Hid (sameL l m = false) := Lib.hid (by rw [HK2.out]; unfold eqLg; simp [h1, h2])
            clear HK2
            go_wp2
            have hNe : Nonempty (Wd (SW wr)) := ⟨⟨_, SW.drew _⟩⟩
            refine quietS (S := SW wr) (by kernel_rfl) (by kernel_rfl) (SW.drew _) ?_
            repeat (first | go_big_quiet_skip | (go_big_quiet_want; go_big_quiet_op; first | go_big_quiet_on | go_big_quiet_call ((fail))))
            refine wpQuiet_nil ?_
            rintro W ⟨⟨_, hW⟩, rfl⟩
            go_wp2
            go_ret
            exact ⟨ret_bool HR.out.symm, Below.trans hS (Below.mono hW hS.size)⟩
          · skip
            by_cases h3 : x.dep = y.dep
            · have h3b : (x.dep == y.dep) = true := beq_iff_eq.2 h3
              by_cases h4 : x.arr = y.arr
              · have h4b : (x.arr == y.arr) = true := beq_iff_eq.2 h4
                cases h5 : x.eq.toList == y.eq.toList
                · skip
                  have HR : Hid (sameL l m = false) := Lib.hid (by rw [HK2.out]; unfold eqLg; simp [h1, h2, h3, h4, h5])
                  clear HK2
                  go_wp2
                  have hNe : Nonempty (Wd (SW wr)) := ⟨⟨_, SW.drew _⟩⟩
                  refine quietS (S := SW wr) (by kernel_rfl) (by kernel_rfl) (SW.drew _) ?_
                  repeat (first | go_big_quiet_skip | (go_big_quiet_want; go_big_quiet_op; first | go_big_quiet_on | go_big_quiet_call ((fail))))
                  refine wpQuiet_nil ?_
                  rintro W ⟨⟨_, hW⟩, rfl⟩
                  go_wp2
                  go_ret
                  exact ⟨ret_bool HR.out.symm, Below.trans hS (Below.mono hW hS.size)⟩
                · skip
                  have HR : Hid (sameL l m = sameL (l.drop (k + 1)) (m.drop (k + 1))) := Lib.hid (by rw [HK2.out, show eqLg x y = true by unfold eqLg; simp [h1, h2, h3, h4, h5], Bool.true_and])
                  clear HK2
                  go_wp2
                  have hNe : Nonempty (Wd (SW wr)) := ⟨⟨_, SW.drew _⟩⟩
                  refine quietS (S := SW wr) (by kernel_rfl) (by kernel_rfl) (SW.drew _) ?_
                  repeat (first | go_big_quiet_skip | (go_big_quiet_want; go_big_quiet_op; first | go_big_quiet_on | go_big_quiet_call ((fail))))
                  refine wpQuiet_nil ?_
                  rintro W ⟨⟨_, hW⟩, rfl⟩
                  go_wp2
                  go_roundw
                  case rel => exact ⟨k + 1, by omega, by go_num, HR, Below.trans hS (Below.mono hW hS.size)⟩
                  case measure => simp [intOf]; omega
              · have h4b : (x.arr == y.arr) = false := beq_eq_false_iff_ne.2 h4
                have HR : Hid (sameL l m = false) := Lib.hid (by rw [HK2.out]; unfold eqLg; simp [h1, h2, h3, h4])
                clear HK2
                go_wp2
                have hNe : Nonempty (Wd (SW wr)) := ⟨⟨_, SW.drew _⟩⟩
                refine quietS (S := SW wr) (by kernel_rfl) (by kernel_rfl) (SW.drew _) ?_
                repeat (first | go_big_quiet_skip | (go_big_quiet_want; go_big_quiet_op; first | go_big_quiet_on | go_big_quiet_call ((fail))))
                refine wpQuiet_nil ?_
                rintro W ⟨⟨_, hW⟩, rfl⟩
                go_wp2
                go_ret
                exact ⟨ret_bool HR.out.symm, Below.trans hS (Below.mono hW hS.size)⟩
            · have h3b : (x.dep == y.dep) = false := beq_eq_false_iff_ne.2 h3
              have HR : Hid (sameL l m = false) := Lib.hid (by rw [HK2.out]; unfold eqLg; simp [h1, h2, h3])
              clear HK2
              go_wp2
              have hNe : Nonempty (Wd (SW wr)) := ⟨⟨_, SW.drew _⟩⟩
              refine quietS (S := SW wr) (by kernel_rfl) (by kernel_rfl) (SW.drew _) ?_
              repeat (first | go_big_quiet_skip | (go_big_quiet_want; go_big_quiet_op; first | go_big_quiet_on | go_big_quiet_call ((fail))))
              refine wpQuiet_nil ?_
              rintro W ⟨⟨_, hW⟩, rfl⟩
              go_wp2
              go_ret
              exact ⟨ret_bool HR.out.symm, Below.trans hS (Below.mono hW hS.size)⟩
      · have HR : Hid (sameL l m = true) := Lib.hid (by
          rw [HK.out, List.drop_of_length_le (by omega), List.drop_of_length_le (by have := HM.out; omega)]
          rfl)
        go_wp2
        go_ret
        exact ⟨ret_bool HR.out.symm, hS⟩
  · have HR : Hid (sameL l m = false) := Lib.hid (sameL_len l m hlen)
    have hq : ((l.length : Int) != (m.length : Int)) = true := by simp; omega
    clear hlen
    go_enter Tryz.func52, Tryz.ntmps52
    go_wp2
    go_ret
    exact ⟨ret_bool HR.out.symm, Below.refl _ _⟩

end Go.Proofs.YtmmpalnalogfnaaGreatDoor

/- Walks of Same, of the program and of the reference. -/
namespace Go.Proofs.YtmmpalnalogfnaaGreatDoor
open Go.RowKit Go.Shelf
set_option linter.unusedSimpArgs false
set_option linter.unusedVariables false

def sameB (a b : FV) : Bool := (a.car.toList == b.car.toList) && ((a.num == b.num) && ((a.pf == b.pf) && ((a.pt == b.pt) && ((a.pd == b.pd) && sameL a.lg b.lg))))
theorem sameB_refl (a : FV) : sameB a a = true := by simp [sameB, sameL_refl]

set_option maxRecDepth 100000 in
set_option maxHeartbeats 4000000 in
theorem rsame_any7 (a b : FV) (w : World) (ha : LegL w (.slice a.A a.lg.length a.c) a.lg) (hb : LegL w (.slice b.A b.lg.length b.c) b.lg) (hl : a.lg.length ≤ 1000) (hm : b.lg.length ≤ 1000) :
    Calls Tryz.prog 15 #[encFl a, encFl b] w fun e w' => e = .returned (.bool (sameB a b)) ∧ Below w.heap.size w w' := by
  have hb0 : Below w.heap.size w ((w.alloc (.cells #[.string a.car, .int .i64 a.num, .int .i64 a.pf, .int .i64 a.pt, .int .i64 a.pd, .slice a.A a.lg.length a.c] fliT)).alloc (.cells #[.string b.car, .int .i64 b.num, .int .i64 b.pf, .int .i64 b.pt, .int .i64 b.pd, .slice b.A b.lg.length b.c] fliT)) :=
    ((Below.refl _ w).alloc (Nat.le_refl _) _).alloc (by simp) _
  have HC := Lib.hid (sameLegs_any _ _ a.lg b.lg _ (ha.more hb0) (hb.more hb0) hl hm)
  clear ha hb
  go_enter Tryz.func15, Tryz.ntmps15
  cases h1 : a.car.toList == b.car.toList
  · skip
    have HR : Hid (sameB a b = false) := Lib.hid (by unfold sameB; simp only [h1, Bool.false_and, Bool.true_and])
    clear HC
    go_wp2
    go_ret
    exact ⟨ret_bool HR.out.symm, hb0⟩
  · skip
    cases h2 : (a.num == b.num)
    · skip
      have HR : Hid (sameB a b = false) := Lib.hid (by unfold sameB; simp only [h1, h2, Bool.false_and, Bool.true_and])
      clear HC
      go_wp2
      go_ret
      exact ⟨ret_bool HR.out.symm, hb0⟩
    · skip
      cases h3 : (a.pf == b.pf)
      · skip
        have HR : Hid (sameB a b = false) := Lib.hid (by unfold sameB; simp only [h1, h2, h3, Bool.false_and, Bool.true_and])
        clear HC
        go_wp2
        go_ret
        exact ⟨ret_bool HR.out.symm, hb0⟩
      · skip
        cases h4 : (a.pt == b.pt)
        · skip
          have HR : Hid (sameB a b = false) := Lib.hid (by unfold sameB; simp only [h1, h2, h3, h4, Bool.false_and, Bool.true_and])
          clear HC
          go_wp2
          go_ret
          exact ⟨ret_bool HR.out.symm, hb0⟩
        · skip
          cases h5 : (a.pd == b.pd)
          · skip
            have HR : Hid (sameB a b = false) := Lib.hid (by unfold sameB; simp only [h1, h2, h3, h4, h5, Bool.false_and, Bool.true_and])
            clear HC
            go_wp2
            go_ret
            exact ⟨ret_bool HR.out.symm, hb0⟩
          · skip
            have HR : Hid (sameB a b = sameL a.lg b.lg) := Lib.hid (by unfold sameB; simp only [h1, h2, h3, h4, h5, Bool.false_and, Bool.true_and])
            go_wp2_with (first | (go_at_call 52; refine HC.out.mono ?_; rintro e w' ⟨rfl, hb'⟩))
            go_ret
            exact ⟨ret_bool HR.out.symm, hb0.trans (Below.mono hb' hb0.size)⟩

end Go.Proofs.YtmmpalnalogfnaaGreatDoor

/- Walk of checkTimes. -/
namespace Go.Proofs.YtmmpalnalogfnaaGreatDoor
open Go.RowKit Go.Shelf
set_option linter.unusedSimpArgs false
set_option linter.unusedVariables false

def dayW : ByteArray := ⟨#[100, 97, 121, 32]⟩
/-- the first day whose times are not ordered -/
def badD (l : List Air) (lg : List Lg) : List Int → List Flt
  | [] => []
  | d :: r => if ordT true 0 (timL l lg d) then badD l lg r else [(13, dayW ++ ⟨(printL d).toArray⟩)]
def timF (l : List Air) (f : FV) : List Flt := badD l f.lg (Per.daysQ (f.pf, f.pt, f.pd))
theorem badD_at {l : List Air} {lg : List Lg} {D : List Int} {k : Nat} (h : k < D.length) : badD l lg (D.drop k) = if ordT true 0 (timL l lg D[k]) then badD l lg (D.drop (k + 1)) else [(13, dayW ++ ⟨(printL D[k]).toArray⟩)] := by
  rw [List.drop_eq_getElem_cons h]
  rfl
theorem days_bd {q : Int × Int × Int} {d : Int} (h : d ∈ Per.daysQ q) : 0 ≤ d ∧ d < 36525 := by
  have h1 := (Per.hasQ_iff _ _).1 ((Per.daysQ_mem _ _).1 h)
  have h2 := Per.okQ_yes h1.1
  omega
theorem pdays_any (a b c : Int) (w : World) : Calls Tryz.prog 128 #[.agg #[.int .i64 a, .int .i64 b, .int .i64 c]] w fun e W' => ∃ v, e = .returned v ∧ Per.IntL W' v (Per.daysQ (a, b, c)) ∧ Below w.heap.size w W' :=
  (callsIn_wide.1 (Per.days_in (a, b, c) w)).mono (by rintro e w' ⟨v, rfl, h, hb⟩; exact ⟨v, rfl, .of_own h, hb⟩)

set_option maxRecDepth 100000 in
set_option maxHeartbeats 8000000 in
theorem checkTimes_any (p : PV) (f : FV) (w : World) (hl : p.l.length ≤ 40) (hL : AirL w p.A p.l) (hs : ∀ a ∈ p.l, a.shs.length ≤ 300) (hz : ∀ a ∈ p.l, OkZ a.off a.shs) (hG : LegL w (.slice f.A f.lg.length f.c) f.lg) (hn : f.lg.length ≤ 100)
    (hm : ∀ x ∈ f.lg, (-1000000 ≤ x.dep ∧ x.dep ≤ 1000000) ∧ -1000000 ≤ x.arr ∧ x.arr ≤ 1000000) :
    Calls Tryz.prog 92 #[encP p, encFl f] w fun e w' => ∃ v, e = .returned v ∧ FOwn w.heap.size w' v (timF p.l f) ∧ Below w.heap.size w w' := by
  have hb1 := bel_alloc w (.cells #[.slice p.A p.l.length p.ca, .slice p.D p.ds.length p.cd] placesT)
  have hb2 := bel_alloc (w.alloc (.cells #[.slice p.A p.l.length p.ca, .slice p.D p.ds.length p.cd] placesT)) (.cells #[.string f.car, .int .i64 f.num, .int .i64 f.pf, .int .i64 f.pt, .int .i64 f.pd, .slice f.A f.lg.length f.c] fliT)
  have hb0 := hb1.trans (hb2.mono hb1.size)
  have q2 := (cells_new (w.alloc (.cells #[.slice p.A p.l.length p.ca, .slice p.D p.ds.length p.cd] placesT)) #[.string f.car, .int .i64 f.num, .int .i64 f.pf, .int .i64 f.pt, .int .i64 f.pd, .slice f.A f.lg.length f.c] fliT 2).trans (show _ = some (.int .i64 f.pf) from rfl)
  have q3 := (cells_new (w.alloc (.cells #[.slice p.A p.l.length p.ca, .slice p.D p.ds.length p.cd] placesT)) #[.string f.car, .int .i64 f.num, .int .i64 f.pf, .int .i64 f.pt, .int .i64 f.pd, .slice f.A f.lg.length f.c] fliT 3).trans (show _ = some (.int .i64 f.pt) from rfl)
  have q4 := (cells_new (w.alloc (.cells #[.slice p.A p.l.length p.ca, .slice p.D p.ds.length p.cd] placesT)) #[.string f.car, .int .i64 f.num, .int .i64 f.pf, .int .i64 f.pt, .int .i64 f.pd, .slice f.A f.lg.length f.c] fliT 4).trans (show _ = some (.int .i64 f.pd) from rfl)
  rw [World.size_alloc] at q2 q3 q4
  have KN := Lib.hid (nonstops_any p f.A f.c f.lg _ hl (hL.more hb0) hs (hG.more hb0) hn)
  have HZ := Lib.hid hz
  have HM := Lib.hid hm
  obtain ⟨D, hD⟩ : ∃ D, D = Per.daysQ (f.pf, f.pt, f.pd) := ⟨_, rfl⟩
  have HT : Hid (timF p.l f = badD p.l f.lg D) := Lib.hid (by rw [hD]; rfl)
  have HB : Hid (∀ d ∈ D, 0 ≤ d ∧ d < 36525) := Lib.hid (by rw [hD]; exact fun d => days_bd)
  have HDl : D.length ≤ 800 := by rw [hD]; exact Per.daysQ_len _
  have KD := Lib.hid (pdays_any f.pf f.pt f.pd)
  rw [← hD] at KD
  clear hD hl hL hs hz hG hm
  go_enter Tryz.func92, Tryz.ntmps92
  go_wp2_with (first | (go_at_call 83; refine KN.out.mono ?_; rintro e w1 ⟨v1, L, rfl, hv1, hLn, hN, hbn⟩; have r2 := bel_cell hbn q2; have r3 := bel_cell hbn q3; have r4 := bel_cell hbn q4) | (go_at_call 128; refine (KD.out _).mono ?_; rintro e w2 ⟨v2, rfl, ⟨A2, c2, rfl, hI⟩, hbd⟩))
  have hS0 : Below w.heap.size w w2 := hb0.trans ((hbn.mono hb0.size).trans (hbd.mono (Nat.le_trans hb0.size hbn.size)))
  have HV := Lib.hid (hv1.more hbd)
  have HN := Lib.hid (fun k x n h h' => (hN k x n h h').more hbd)
  have HLn := Lib.hid hLn
  have HI := Lib.hid hI
  clear hv1 hN hLn hI KN q2 q3 q4 r2 r3 r4
  go_loopw [16] (fun vi wr => ∃ k : Nat, k ≤ D.length ∧ vi = .int .i64 k ∧ Hid (timF p.l f = badD p.l f.lg (D.drop k)) ∧ SW w2 wr) (fun vi _ => D.length - (intOf vi).toNat)
  case atStart => exact ⟨0, Nat.zero_le _, rfl, HT, Below.refl _ _⟩
  case round =>
    obtain ⟨k, hk, rfl, HK, hS⟩ := hrel
    by_cases hlt : k < D.length
    · have i1 : (k : Int) < (D.length : Int) := by omega
      obtain ⟨b, o, rfl, hlb, hc⟩ : ∃ b o, A2 = some ⟨b, o, none⟩ ∧ b < w2.heap.size ∧ w2.cell? ⟨b, o + k, none⟩ = some (.int .i64 D[k]) := by
        rcases HI.out with h | ⟨b, o, h1, h2, h3⟩
        · rw [h] at hlt; simp at hlt
        · exact ⟨b, o, h1, h2, h3 k hlt⟩
      have hcr := bel_cell hS hc
      have HK2 := Lib.hid (HK.out.trans (badD_at hlt))
      have hd := HB.out _ (List.getElem_mem hlt)
      generalize D[k] = d at *
      have KO := Lib.hid (isOrdered_any v1 p.l f.lg L d wr ((HV.out.more hS).rowL rtN.len) HLn.out (fun k x n h h' => (HN.out k x n h h').more hS) HZ.out hn (by omega) HM.out)
      cases ho : ordT true 0 (timL p.l f.lg d) <;> rw [ho] at KO HK2
      · obtain ⟨X, hX⟩ : ∃ X, X = (⟨(printL d).toArray⟩ : ByteArray) := ⟨_, rfl⟩
        have KP := Lib.hid (print_any d)
        rw [← hX] at KP
        have HR : Hid (timF p.l f = [] ++ pick (dayW ++ X) [13]) := Lib.hid (by rw [HK2.out, hX]; rfl)
        have hz : X.size ≤ 10 := by rw [hX]; exact Per.print_len10 d
        have A1 := fun W => run_string_add_sum (P := Tryz.prog) (w := W) (⟨#[100, 97, 121, 32]⟩ : ByteArray) X (by show 4 + X.size ≤ _; omega)
        clear hX HK2 HK ho hc
        go_wp2_with (first | (go_at_call 149; refine KO.out.mono ?_; rintro e w3 ⟨rfl, hb3⟩) | (go_at_call 96; refine (KP.out _).mono ?_; rintro e w4 ⟨rfl, hb4⟩) | (go_at_call 62; refine (fadd_any w.heap.size (.slice none 0 0) [] (dayW ++ X) w4.heap.size 1 1 [13] _ (ROwn.nil (by
          have h1 := hS0.size; have h2 := hS.size; have h3 := hb3.size; have h4 := hb4.size; rw [World.size_alloc]; omega)) rfl (by omega) (errs_new w4 [13] rfl) (by intro h; cases h) (by simp)).mono ?_; rintro e w8 ⟨v8, rfl, hO8, hC8⟩))
        go_ret
        refine ⟨v8, rfl, by rw [HR.out]; exact hO8, ?_⟩
        have h1 : Below w.heap.size w w4 := hS0.trans ((hS.mono hS0.size).trans ((hb3.mono (Nat.le_trans hS0.size hS.size)).trans (hb4.mono (Nat.le_trans hS0.size (Nat.le_trans hS.size hb3.size)))))
        have h5 := h1.trans ((bel_alloc w4 (.cells #[.int .i64 13] errT)).mono h1.size)
        exact h5.trans (hC8.below (ROwn.nil h5.size (e := fltT) (sz := 2) (enc := encF)))
      · have HR : Hid (timF p.l f = badD p.l f.lg (D.drop (k + 1))) := Lib.hid HK2.out
        clear HK2 HK ho hc
        go_wp2_with (go_at_call 149; refine KO.out.mono ?_; rintro e w3 ⟨rfl, hb3⟩)
        go_roundw
        case rel => exact ⟨k + 1, by omega, by go_num, HR, Below.trans hS (Below.mono hb3 hS.size)⟩
        case measure => simp [intOf]; omega
    · have HR : Hid (timF p.l f = []) := Lib.hid (by rw [HK.out, List.drop_of_length_le (by omega)]; rfl)
      have i1 : ¬ (k : Int) < (D.length : Int) := by omega
      go_wp2
      go_ret
      have h1 : Below w.heap.size w wr := hS0.trans (Below.mono hS hS0.size)
      exact ⟨_, rfl, by rw [HR.out]; exact ROwn.nil h1.size, h1⟩

end Go.Proofs.YtmmpalnalogfnaaGreatDoor
