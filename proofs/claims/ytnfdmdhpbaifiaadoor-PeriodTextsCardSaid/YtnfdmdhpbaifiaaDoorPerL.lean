/- Walk of the reference's Cut. -/
import Derived.Test.YtnfdmdhpbaifiaaDoorPerR
namespace Go.Proofs.YtnfdmdhpbaifiaaDoor
open Go.RowKit
set_option linter.unusedSimpArgs false
set_option linter.unusedVariables false

theorem strT : StrT Tryd.prog 35 9 := ⟨Tryd.underlying35, by kernel_rfl⟩
/-- the text from f to k -/
def midL (s : ByteArray) (f k : Nat) : List UInt8 := (s.extract f k).data.toList
theorem mid_snoc (s : ByteArray) (f k : Nat) (h : f ≤ k) (hk : k < s.size) : midL s f (k + 1) = midL s f k ++ [s[k]] := by
  unfold midL
  rw [Lib.extract_data, Lib.extract_data, show k + 1 - f = (k - f) + 1 by omega, List.take_succ_eq_append_getElem (by simp; omega)]
  simp [show f + (k - f) = k by omega]
  rfl
theorem mid_nil (s : ByteArray) (f : Nat) : midL s f f = [] := by
  unfold midL; rw [Lib.extract_data]; simp
abbrev listsOf (ss : List ByteArray) : List (List UInt8) := ss.map (·.data.toList)
theorem cut_start (s : ByteArray) : cutL s.data.toList = listsOf [] ++ glue (midL s 0 0) (cutL (s.data.toList.drop 0)) := by
  rw [mid_nil, glue_nil _ (cutL_ne _)]; rfl
theorem cut_at {s : ByteArray} {ss : List ByteArray} {f k : Nat} (hk : k < s.size) (h : cutL s.data.toList = listsOf ss ++ glue (midL s f k) (cutL (s.data.toList.drop k))) (hc : s[k] = 47) :
    cutL s.data.toList = listsOf (ss ++ [s.extract f k]) ++ glue (midL s (k + 1) (k + 1)) (cutL (s.data.toList.drop (k + 1))) := by
  rw [h, at_byte s k hk, hc, cut_hit, mid_nil, glue_nil _ (cutL_ne _)]
  simp [glue, midL]
theorem cut_on {s : ByteArray} {ss : List ByteArray} {f k : Nat} (hf : f ≤ k) (hk : k < s.size) (h : cutL s.data.toList = listsOf ss ++ glue (midL s f k) (cutL (s.data.toList.drop k))) (hc : s[k] ≠ 47) :
    cutL s.data.toList = listsOf ss ++ glue (midL s f (k + 1)) (cutL (s.data.toList.drop (k + 1))) := by
  rw [h, at_byte s k hk, cut_miss hc, glue_glue, mid_snoc s f k hf hk]
theorem cut_stop {s : ByteArray} {ss : List ByteArray} {f : Nat} (h : cutL s.data.toList = listsOf ss ++ glue (midL s f s.size) (cutL (s.data.toList.drop s.size))) :
    cutL s.data.toList = listsOf (ss ++ [s.extract f s.size]) := by
  rw [h, List.drop_eq_nil_of_le (by simp)]
  simp [glue, cutL, midL]

set_option maxRecDepth 100000 in
set_option maxHeartbeats 2000000 in
theorem cut_any (s : ByteArray) (w : World) (hs : s.size ≤ 1000) : Calls Tryd.prog 16 #[.string s, .int .u8 47] w fun e w' => ∃ v ss, e = .returned v ∧ StrL w' v ss ∧ cutL s.data.toList = listsOf ss ∧ Below w.heap.size w w' := by
  have h0 := Lib.hid (cut_start s)
  go_enter Tryd.func16, Tryd.ntmps16
  go_wp2
  go_loopw [5, 6, 7] (fun vo vf vi wr => ∃ (ss : List ByteArray) (f k : Nat), f ≤ k ∧ k ≤ s.size + 1 ∧ vf = .int .i64 (f : Int) ∧ vi = .int .i64 (k : Int) ∧ ss.length ≤ k ∧ SOwn 9 w.heap.size wr vo ss ∧ Below w.heap.size w wr ∧ Hid (k ≤ s.size → cutL s.data.toList = listsOf ss ++ glue (midL s f k) (cutL (s.data.toList.drop k))) ∧ Hid (k = s.size + 1 → cutL s.data.toList = listsOf ss)) (fun _ _ vi _ => s.size + 2 - (intOf vi).toNat)
  case atStart => exact ⟨[], 0, 0, by omega, by omega, rfl, rfl, by simp, SOwn.nil (Nat.le_refl _), Below.refl _ _, Lib.hid (fun _ => h0.out), Lib.hid (by omega)⟩
  case round =>
    obtain ⟨ss, f, k, hf, hk, rfl, rfl, hl, hO, hB, HC, HF⟩ := hrel
    by_cases hlt : k < s.size
    · have hk' : k ≤ s.size := by omega
      clear HF
      have i1 : (k : Int) ≤ (s.size : Int) := by omega
      have i2 : ((k : Int) == (s.size : Int)) = false := by rw [beq_eq_false_iff_ne]; omega
      by_cases c : s[k] = 47
      · have q1 : ((s[k].toNat : Int) == 47) = true := by rw [c]; rfl
        have HC2 := Lib.hid (cut_at hlt (HC.out hk') c)
        clear HC c
        go_wp2_with (at_builtin; refine wpList_sapp strT rfl _ _ rfl _ ss rfl (hO.alloc _) _ (s.extract f k) _ rfl (heap_alloc_new _ _) (by omega) ?_; intro v' w3 hO4 hb4)
        go_roundw
        case rel => exact ⟨ss ++ [s.extract f k], k + 1, k + 1, by omega, by omega, by go_num, by go_num, by simp; omega, hO4, (hB.alloc (by exact hB.size) _).trans (hb4), Lib.hid (fun _ => HC2.out), Lib.hid (by omega)⟩
        case measure => simp [intOf]; omega
      · have q1 : ((s[k].toNat : Int) == 47) = false := by
          rw [beq_eq_false_iff_ne]; intro e; exact c (UInt8.toNat_inj.1 (by have : (47 : UInt8).toNat = 47 := rfl; omega))
        have HC2 := Lib.hid (cut_on hf hlt (HC.out hk') c)
        clear HC c
        go_wp2
        go_roundw
        case rel => exact ⟨ss, f, k + 1, by omega, by omega, rfl, by go_num, by omega, hO, hB, Lib.hid (fun _ => HC2.out), Lib.hid (by omega)⟩
        case measure => simp [intOf]; omega
    · by_cases e : k = s.size
      · subst e
        have i1 : (s.size : Int) ≤ (s.size : Int) := by omega
        have HC2 := Lib.hid (cut_stop (HC.out (Nat.le_refl _)))
        clear HC HF
        go_wp2_with (at_builtin; refine wpList_sapp strT rfl _ _ rfl _ ss rfl (hO.alloc _) _ (s.extract f s.size) _ rfl (heap_alloc_new _ _) (by omega) ?_; intro v' w3 hO4 hb4)
        go_roundw
        case rel => exact ⟨ss ++ [s.extract f s.size], s.size + 1, s.size + 1, by omega, by omega, by go_num, by go_num, by simp; omega, hO4, (hB.alloc (by exact hB.size) _).trans (hb4), Lib.hid (by omega), Lib.hid (fun _ => HC2.out)⟩
        case measure => simp [intOf] <;> omega
      · have HR := Lib.hid (HF.out (by omega))
        have i1 : ¬ (k : Int) ≤ (s.size : Int) := by omega
        clear HC HF
        go_wp2
        go_ret
        exact ⟨_, rfl, ss, hO.strL, HR.out, hB⟩

end Go.Proofs.YtnfdmdhpbaifiaaDoor
