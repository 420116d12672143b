/- Walks of text.Number and text.Decimal, for a seat of any stage (stage 1's XTextF, apart from the texts before it). -/
import Derived.Test.YtalnocdgmcchaaaDoorRows
import Derived.Test.YtalnocdgmcchaaaDoorShelf
import Derived.Test.YtalnocdgmcchaaaDoorMem
import Derived.Test.YtalnocdgmcchaaaDoorPlainA
import Derived.Test.YtalnocdgmcchaaaDoorPlainB
import Derived.WalkKit
import Derived.WalkSpells
import Derived.WalkLawsBesides
import Derived.Lib.Hide
import Derived.BigQuiet
import Derived.Deep.QuietTactic
import Derived.Lib.OthersKept
import Derived.WalkSmall
import Derived.Lib.LaidTab
import Derived.Lib.AtoiErrMem
import Derived.Lib.AppendIntMem
namespace Go.Proofs.YtalnocdgmcchaaaDoor
open Go.RowKit
set_option linter.unusedSimpArgs false
set_option linter.unusedVariables false

/-! ### a digit -/
/-- all bytes from k on have a property -/
def allFrom (p : UInt8 → Bool) (s : ByteArray) (k : Nat) : Bool := (s.data.toList.drop k).all p
theorem allFrom_step (p : UInt8 → Bool) (s : ByteArray) (k : Nat) (h : k < s.size) : allFrom p s k = (p s[k] && allFrom p s (k + 1)) := by
  have e : s.data.toList.drop k = s[k] :: s.data.toList.drop (k + 1) := by
    rw [List.drop_eq_getElem_cons (by simpa using h)]; rfl
  simp only [allFrom, e, List.all_cons]
theorem allFrom_end (p : UInt8 → Bool) (s : ByteArray) (k : Nat) (h : s.size ≤ k) : allFrom p s k = true := by
  have e : s.data.toList.drop k = [] := List.drop_eq_nil_of_le (by simpa using h)
  simp only [allFrom, e, List.all_nil]
set_option maxHeartbeats 400000 in
theorem isDigit_any (c : UInt8) (w : World) : Calls Tryd.prog 60 #[.int .u8 c.toNat] w fun e w' => e = .returned (.bool (dgB c)) ∧ w = w' := by
  by_cases h1 : 48 ≤ (c.toNat : Int)
  · go_enter Tryd.func60, Tryd.ntmps60
    go_wp2
    go_ret
    exact ⟨ret_bool (by simp [dgB]; omega), rfl⟩
  · go_enter Tryd.func60, Tryd.ntmps60
    go_wp2
    go_ret
    exact ⟨ret_bool (by simp [dgB]; omega), rfl⟩
/-! ### the library's variables that are read: they stand as they were laid -/
theorem gRange : Tryd.prog.globalNamed "strconv.ErrRange" = some 3 := by kernel_rfl
theorem gPow : Tryd.prog.globalNamed "internal/strconv.uint64pow10" = some 4 := by kernel_rfl
structure Env (w : World) : Prop where
  rng : ∃ tp p, w.var? Tryd.prog "strconv.ErrRange" = some #[.iface tp p]
  pow : Lib.TabIs Tryd.prog w "internal/strconv.uint64pow10" .u64 Lib.pow10Tab
theorem var_lt {w : World} {n : String} {g : Nat} {cs : Array Value} (hg : Tryd.prog.globalNamed n = some g) (h : w.var? Tryd.prog n = some cs) : g < w.heap.size := by
  unfold World.var? at h
  simp only [hg, Option.bind_some] at h
  rcases Nat.lt_or_ge g w.heap.size with h' | h'
  · exact h'
  · rw [Array.getElem?_eq_none h'] at h; cases h
theorem Env.more {w w' : World} (h : Env w) (hb : Below w.heap.size w w') : Env w' := by
  obtain ⟨⟨tp, p, h1⟩, h2⟩ := h
  exact ⟨⟨tp, p, var?_below hb gRange (var_lt gRange h1) h1⟩, var?_below hb gPow (var_lt gPow h2) h2⟩

/-! ### the code's -/
def bodyA (s : ByteArray) : ByteArray := ⟨(bodyL s.data.toList).toArray⟩
theorem bodyA_list (s : ByteArray) : (bodyA s).data.toList = bodyL s.data.toList := by simp [bodyA]
theorem bodyL_le (l : List UInt8) : (bodyL l).length ≤ l.length := by
  cases l with
  | nil => simp [bodyL]
  | cons c r => simp only [bodyL]; split <;> simp
theorem bodyA_le (s : ByteArray) : (bodyA s).size ≤ s.size := by
  have h1 : (bodyA s).size = (bodyL s.data.toList).length := by simp [bodyA, ByteArray.size]
  have h2 := bodyL_le s.data.toList
  simp only [Array.length_toList, ByteArray.size_data] at h2
  omega
theorem trim_eq (l : List UInt8) : Lib.trimPrefix l [45] = bodyL l := by
  cases l with
  | nil => rfl
  | cons c r =>
    simp only [Lib.trimPrefix, Lib.hasPrefix, List.isPrefixOf, bodyL, Bool.and_true]
    by_cases h : c.toNat = 45
    · have : c = 45 := UInt8.toNat_inj.1 h
      subst this
      simp
    · have : ¬ (45 : UInt8) = c := fun e => h (by rw [← e]; rfl)
      simp [h, this]
theorem trim_any (s : ByteArray) (w : World) :
    Calls Tryd.prog 59 #[.string s, .string ⟨#[45]⟩] w fun e w' => e = .returned (.string (bodyA s)) ∧ w = w' := by
  refine (Tryd.strings_TrimPrefix s ⟨#[45]⟩ w).mono ?_
  rintro e w' ⟨rfl, rfl⟩
  refine ⟨?_, rfl⟩
  rw [bodyA, ← trim_eq]
theorem str_eq48 (s : ByteArray) : (s.toList == [48]) = (s.data.toList == [48]) := by rw [ByteArray.toList_eq]

theorem headZ_eq (D : ByteArray) (h : 0 < D.size) : headZ D.data.toList = decide (D[0].toNat = 48) := by
  rw [bytes_cons1 D h]; rfl
set_option maxRecDepth 100000 in
set_option maxHeartbeats 1000000 in
theorem isNumber_any (s : ByteArray) (w : World) (hs : s.size ≤ 40000) :
    Calls Tryd.prog 52 #[.string s] w fun e w' => e = .returned (.bool (formB s.data.toList)) ∧ w = w' := by
  have htrim : ∀ w, Calls Tryd.prog 59 #[.string s, .string ⟨#[45]⟩] w fun e w' => e = .returned (.string (bodyA s)) ∧ w = w' := trim_any s
  have hD := bodyA_list s
  have hDl := bodyA_le s
  generalize bodyA s = D at hD hDl htrim
  have HT := Lib.hid htrim
  have HF : Hid (formB s.data.toList = (!D.data.toList.isEmpty && allFrom dgB D 0 && (!headZ D.data.toList || s.data.toList == [48]))) := Lib.hid (by
    rw [formB, ← hD]; rfl)
  clear htrim hD
  by_cases h0 : 0 < D.size
  case neg =>
    have t1 := isEmpty_yes D (by omega)
    have HE : Hid (D.data.toList.isEmpty = true) := Lib.hid (by rw [← ByteArray.toList_eq]; exact t1)
    go_enter Tryd.func52, Tryd.ntmps52
    go_wp2_with (go_at_call 59; refine (HT.out _).mono ?_; rintro e w' ⟨rfl, rfl⟩)
    go_ret
    exact ⟨ret_bool (by rw [HF.out, HE.out]; rfl), rfl⟩
  have t1 := isEmpty_no D h0
  have HE : Hid (D.data.toList.isEmpty = false) := Lib.hid (by rw [← ByteArray.toList_eq]; exact t1)
  have HZ := Lib.hid (headZ_eq D h0)
  go_enter Tryd.func52, Tryd.ntmps52
  go_wp2_with (go_at_call 59; refine (HT.out _).mono ?_; rintro e w' ⟨rfl, rfl⟩)
  go_loop [11] (fun i => ∃ k : Nat, k ≤ D.size ∧ i = .int .i64 k ∧ allFrom dgB D 0 = allFrom dgB D k) (fun i => D.size - (intOf i).toNat)
  case atStart => exact ⟨0, Nat.zero_le _, rfl, rfl⟩
  case round =>
    obtain ⟨k, hk, rfl, he⟩ := hrel
    have He := Lib.hid he
    clear he
    by_cases hlt : k < D.size
    · have Hc := Lib.hid (allFrom_step dgB D k hlt)
      cases hc : dgB D[k]
      · go_wp2_with (go_at_call 60; refine (isDigit_any _ _).mono ?_; rintro e w' ⟨rfl, rfl⟩)
        go_ret
        exact ⟨ret_bool (by rw [HF.out, He.out, Hc.out, hc]; simp), rfl⟩
      · go_wp2_with (go_at_call 60; refine (isDigit_any _ _).mono ?_; rintro e w' ⟨rfl, rfl⟩)
        go_round
        case rel => exact ⟨k + 1, by omega, by go_num, by rw [He.out, Hc.out, hc]; rfl⟩
        case measure => simp [intOf]; omega
    · have Hc := Lib.hid (allFrom_end dgB D k (by omega))
      by_cases hz : D[0].toNat = 48
      · have hz1 : ((D[0].toNat : Int) != 48) = false := by simp; omega
        have HZ2 : Hid (headZ D.data.toList = true) := Lib.hid (by rw [HZ.out, hz]; rfl)
        clear hz
        go_wp2
        go_ret
        exact ⟨ret_bool (by rw [HF.out, HE.out, He.out, Hc.out, HZ2.out]; simp [ByteArray.toList_eq]), rfl⟩
      · have hz1 : ((D[0].toNat : Int) != 48) = true := by simp; omega
        have HZ2 : Hid (headZ D.data.toList = false) := Lib.hid (by rw [HZ.out]; simpa using hz)
        clear hz
        go_wp2
        go_ret
        exact ⟨ret_bool (by rw [HF.out, HE.out, He.out, Hc.out, HZ2.out]; rfl), rfl⟩

set_option maxRecDepth 100000 in
set_option maxHeartbeats 1000000 in
theorem number_any (s : ByteArray) (w : World) (hs : s.size ≤ 40000) (hE : Env w) :
    Calls Tryd.prog 42 #[.string s] w fun e w' => e = .returned (.tuple #[.int .i64 (numR s.data.toList).1, .int .i64 (numR s.data.toList).2]) ∧ Below w.heap.size w w' := by
  cases hf : formB s.data.toList
  · have HR : Hid (numR s.data.toList = (0, 3)) := Lib.hid (by simp [numR, hf])
    have HF := isNumber_any s w hs
    rw [hf] at HF
    have HF' := Lib.hid HF
    clear HF hf
    go_enter Tryd.func42, Tryd.ntmps42
    go_wp2_with (go_at_call 52; refine HF'.out.mono ?_; rintro e w' ⟨rfl, rfl⟩)
    go_ret2
    exact ⟨by rw [HR.out]; rfl, Below.refl _ _⟩
  · have HF := isNumber_any s w hs
    rw [hf] at HF
    have HF' := Lib.hid HF
    have ha := atoi_eq _ hf
    cases hfit : fitB s.data.toList
    · rw [hfit] at ha
      have HA : Hid (Lib.atoiAll s.data.toList = .range) := Lib.hid ha
      have HR : Hid (numR s.data.toList = (0, 4)) := Lib.hid (by simp [numR, hf, hfit])
      obtain ⟨tp, p, hv⟩ := hE.rng
      have HV := Lib.hid hv
      clear HF hf ha hfit hv
      go_enter Tryd.func42, Tryd.ntmps42
      go_wp2_with (first
        | (go_at_call 52; refine HF'.out.mono ?_; rintro e w' ⟨rfl, rfl⟩)
        | (go_at_call 53; refine (Tryd.strconv_Atoi_range_var _ (by omega) HA.out tp p _ HV.out).mono ?_; rintro e w2 ⟨N, rfl, _, _, hb⟩))
      go_ret2
      exact ⟨by rw [HR.out]; rfl, hb⟩
    · rw [hfit] at ha
      have HA : Hid (Lib.atoiAll s.data.toList = .ok (valI s.data.toList)) := Lib.hid ha
      have HR : Hid (numR s.data.toList = (valI s.data.toList, 0)) := Lib.hid (by simp [numR, hf, hfit])
      clear HF hf ha hfit
      generalize valI s.data.toList = v at *
      go_enter Tryd.func42, Tryd.ntmps42
      go_wp2_with (first
        | (go_at_call 52; refine HF'.out.mono ?_; rintro e w' ⟨rfl, rfl⟩)
        | (go_at_call 53; refine (Tryd.strconv_Atoi_ok _ (by omega) v HA.out _).mono ?_; rintro e w2 ⟨rfl, hb0⟩; have hb : Below w.heap.size w w2 := (by rcases hb0 with rfl | ⟨t, rfl⟩; exact Below.refl _ _; exact Lib.bytesWorld_below _ _ _); clear hb0))
      go_ret2
      exact ⟨by rw [HR.out]; rfl, hb⟩

set_option maxHeartbeats 1000000 in
theorem decimal_any (n : Int) (w : World) (h0 : -9223372036854775808 ≤ n) (h1 : n ≤ 9223372036854775807) (hE : Env w) :
    Calls Tryd.prog 43 #[.int .i64 n] w fun e w' => e = .returned (.string ⟨(Lib.itoa n).toArray⟩) ∧ Below w.heap.size w w' := by
  have HC := Lib.hid (Tryd.strconv_Itoa n h0 h1 w hE.pow)
  clear h0 h1
  go_enter Tryd.func43, Tryd.ntmps43
  go_wp2_with (go_at_call 54; refine HC.out.mono ?_; rintro e w' ⟨rfl, k, os, rfl⟩)
  go_ret
  exact ⟨rfl, Lib.below_grow _ _ (Nat.le_refl _) _ _⟩
end Go.Proofs.YtalnocdgmcchaaaDoor
