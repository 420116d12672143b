/- Walks of the leaves of package text and of its reference: letters, digits, codes. -/
import Derived.Test.YtkcdifanhdakhaaDoorRows
import Derived.Test.YtkcdifanhdakhaaDoorMem
import Derived.Test.YtkcdifanhdakhaaDoorPlainB
import Derived.WalkKit
import Derived.WalkSpells
import Derived.WalkLawsBesides
import Derived.Lib.Hide
namespace Go.Proofs.YtkcdifanhdakhaaDoor
open Go.RowKit
set_option linter.unusedSimpArgs false
set_option linter.unusedVariables false

/-- a byte is a capital letter, a digit -/
def upB (c : UInt8) : Bool := decide (65 ≤ (c.toNat : Int) ∧ (c.toNat : Int) ≤ 90)

set_option maxHeartbeats 400000 in
theorem isCapital_any (c : UInt8) (w : World) : Calls Tryd.prog 76 #[.int .u8 c.toNat] w fun e w' => e = .returned (.bool (upB c)) ∧ w = w' := by
  by_cases h1 : 65 ≤ (c.toNat : Int)
  · go_enter Tryd.func76, Tryd.ntmps76
    go_wp2
    go_ret
    exact ⟨ret_bool (by simp [upB]; omega), rfl⟩
  · go_enter Tryd.func76, Tryd.ntmps76
    go_wp2
    go_ret
    exact ⟨ret_bool (by simp [upB]; omega), rfl⟩
set_option maxHeartbeats 400000 in
theorem isDigit_any (c : UInt8) (w : World) : Calls Tryd.prog 88 #[.int .u8 c.toNat] w fun e w' => e = .returned (.bool (dgB c)) ∧ w = w' := by
  by_cases h1 : 48 ≤ (c.toNat : Int)
  · go_enter Tryd.func88, Tryd.ntmps88
    go_wp2
    go_ret
    exact ⟨ret_bool (by simp [dgB]; omega), rfl⟩
  · go_enter Tryd.func88, Tryd.ntmps88
    go_wp2
    go_ret
    exact ⟨ret_bool (by simp [dgB]; omega), rfl⟩
set_option maxHeartbeats 400000 in
theorem upper_any (c : UInt8) (w : World) : Calls Tryd.prog 83 #[.int .u8 c.toNat] w fun e w' => e = .returned (.bool (upB c)) ∧ w = w' := by
  by_cases h1 : 65 ≤ (c.toNat : Int)
  · go_enter Tryd.func83, Tryd.ntmps83
    go_wp2
    go_ret
    exact ⟨ret_bool (by simp [upB]; omega), rfl⟩
  · go_enter Tryd.func83, Tryd.ntmps83
    go_wp2
    go_ret
    exact ⟨ret_bool (by simp [upB]; omega), rfl⟩
/-- all bytes from k on have a property -/
def allFrom (p : UInt8 → Bool) (s : ByteArray) (k : Nat) : Bool := (s.data.toList.drop k).all p
theorem allFrom_step (p : UInt8 → Bool) (s : ByteArray) (k : Nat) (h : k < s.size) : allFrom p s k = (p s[k] && allFrom p s (k + 1)) := by
  have e : s.data.toList.drop k = s[k] :: s.data.toList.drop (k + 1) := by
    rw [List.drop_eq_getElem_cons (by simpa using h)]; rfl
  simp only [allFrom, e, List.all_cons]
theorem allFrom_end (p : UInt8 → Bool) (s : ByteArray) (k : Nat) (h : s.size ≤ k) : allFrom p s k = true := by
  have e : s.data.toList.drop k = [] := List.drop_eq_nil_of_le (by simpa using h)
  simp only [allFrom, e, List.all_nil]

/-- just n bytes, all of them capital letters -/
def capsB (s : ByteArray) (n : Int) : Bool := decide ((s.size : Int) = n) && allFrom upB s 0

set_option maxHeartbeats 400000 in
theorem capitals_any (s : ByteArray) (n : Int) (w : World) (hs : s.size ≤ maxLen) :
    Calls Tryd.prog 74 #[.string s, .int .i64 n] w fun e w' => e = .returned (.bool (capsB s n)) ∧ w = w' := by
  unfold maxLen at hs
  by_cases hn : (s.size : Int) = n
  · have h1 : ((s.size : Int) != n) = false := by simp [hn]
    have Hn := Lib.hid hn
    clear hn
    go_enter Tryd.func74, Tryd.ntmps74
    go_wp2
    go_loop [12] (fun i => ∃ k : Nat, k ≤ s.size ∧ i = .int .i64 k ∧ allFrom upB s 0 = allFrom upB s k) (fun i => s.size - (intOf i).toNat)
    case atStart => exact ⟨0, Nat.zero_le _, rfl, rfl⟩
    case round =>
      obtain ⟨k, hk, rfl, he⟩ := hrel
      have He := Lib.hid he
      clear he
      by_cases hlt : k < s.size
      · cases hc : upB s[k]
        · go_wp2_with (go_at_call 76; refine (isCapital_any _ _).mono ?_; rintro e w' ⟨rfl, rfl⟩)
          go_ret
          exact ⟨ret_bool (by simp [capsB, Hn.out, He.out, allFrom_step upB s k hlt, hc]), rfl⟩
        · have Hc := Lib.hid (allFrom_step upB s k hlt)
          go_wp2_with (go_at_call 76; refine (isCapital_any _ _).mono ?_; rintro e w' ⟨rfl, rfl⟩)
          go_round
          case rel => exact ⟨k + 1, by omega, by go_num, by rw [He.out, Hc.out, hc]; rfl⟩
          case measure => simp [intOf]; omega
      · go_wp2
        go_ret
        exact ⟨ret_bool (by simp [capsB, Hn.out, He.out, allFrom_end upB s k (by omega)]), rfl⟩
  · have h1 : ((s.size : Int) != n) = true := by simp [hn]
    go_enter Tryd.func74, Tryd.ntmps74
    go_wp2
    go_ret
    exact ⟨ret_bool (by simp [capsB, hn]), rfl⟩

set_option maxHeartbeats 400000 in
theorem letters_any (s : ByteArray) (n : Int) (w : World) (hs : s.size ≤ maxLen) :
    Calls Tryd.prog 68 #[.string s, .int .i64 n] w fun e w' => e = .returned (.bool (capsB s n)) ∧ w = w' := by
  unfold maxLen at hs
  go_enter Tryd.func68, Tryd.ntmps68
  go_wp2
  go_loop [5] (fun i => ∃ k : Nat, k ≤ s.size ∧ i = .int .i64 k ∧ allFrom upB s 0 = allFrom upB s k) (fun i => s.size - (intOf i).toNat)
  case atStart => exact ⟨0, Nat.zero_le _, rfl, rfl⟩
  case round =>
    obtain ⟨k, hk, rfl, he⟩ := hrel
    have He := Lib.hid he
    clear he
    by_cases hlt : k < s.size
    · cases hc : upB s[k]
      · go_wp2_with (go_at_call 83; refine (upper_any _ _).mono ?_; rintro e w' ⟨rfl, rfl⟩)
        go_ret
        exact ⟨ret_bool (by simp [capsB, He.out, allFrom_step upB s k hlt, hc]), rfl⟩
      · have Hc := Lib.hid (allFrom_step upB s k hlt)
        go_wp2_with (go_at_call 83; refine (upper_any _ _).mono ?_; rintro e w' ⟨rfl, rfl⟩)
        go_round
        case rel => exact ⟨k + 1, by omega, by go_num, by rw [He.out, Hc.out, hc]; rfl⟩
        case measure => simp [intOf]; omega
    · go_wp2
      go_ret
      refine ⟨ret_bool ?_, rfl⟩
      rw [capsB, He.out, allFrom_end upB s k (by omega), Bool.and_true]
      rfl

/-- capital letters and digits, from a to b of them -/
def cdB (c : UInt8) : Bool := upB c || dgB c
def codeB (s : ByteArray) (a b : Int) : Bool := decide (a ≤ (s.size : Int)) && decide ((s.size : Int) ≤ b) && allFrom cdB s 0

set_option maxHeartbeats 400000 in
theorem code_any (s : ByteArray) (a b : Int) (w : World) (hs : s.size ≤ maxLen) :
    Calls Tryd.prog 75 #[.string s, .int .i64 a, .int .i64 b] w fun e w' => e = .returned (.bool (codeB s a b)) ∧ w = w' := by
  unfold maxLen at hs
  by_cases h1 : (s.size : Int) < a
  · go_enter Tryd.func75, Tryd.ntmps75
    go_wp2
    go_ret
    exact ⟨ret_bool (by simp [codeB]; omega), rfl⟩
  · by_cases h2 : b < (s.size : Int)
    · go_enter Tryd.func75, Tryd.ntmps75
      go_wp2
      go_ret
      exact ⟨ret_bool (by simp [codeB]; omega), rfl⟩
    · go_enter Tryd.func75, Tryd.ntmps75
      go_wp2
      go_loop [20] (fun i => ∃ k : Nat, k ≤ s.size ∧ i = .int .i64 k ∧ allFrom cdB s 0 = allFrom cdB s k) (fun i => s.size - (intOf i).toNat)
      case atStart => exact ⟨0, Nat.zero_le _, rfl, rfl⟩
      case round =>
        obtain ⟨k, hk, rfl, he⟩ := hrel
        have He := Lib.hid he
        clear he
        by_cases hlt : k < s.size
        · have Hc := Lib.hid (allFrom_step cdB s k hlt)
          cases hc : upB s[k]
          · cases hd : dgB s[k]
            · go_wp2_with (first | (go_at_call 76; refine (isCapital_any _ _).mono ?_; rintro e w' ⟨rfl, rfl⟩) | (go_at_call 88; refine (isDigit_any _ _).mono ?_; rintro e w' ⟨rfl, rfl⟩))
              go_ret
              exact ⟨ret_bool (by simp [codeB, He.out, Hc.out, cdB, hc, hd]), rfl⟩
            · go_wp2_with (first | (go_at_call 76; refine (isCapital_any _ _).mono ?_; rintro e w' ⟨rfl, rfl⟩) | (go_at_call 88; refine (isDigit_any _ _).mono ?_; rintro e w' ⟨rfl, rfl⟩))
              go_round
              case rel => exact ⟨k + 1, by omega, by go_num, by rw [He.out, Hc.out, cdB, hc, hd]; rfl⟩
              case measure => simp [intOf]; omega
          · go_wp2_with (first | (go_at_call 76; refine (isCapital_any _ _).mono ?_; rintro e w' ⟨rfl, rfl⟩) | (go_at_call 88; refine (isDigit_any _ _).mono ?_; rintro e w' ⟨rfl, rfl⟩))
            go_round
            case rel => exact ⟨k + 1, by omega, by go_num, by rw [He.out, Hc.out, cdB, hc]; rfl⟩
            case measure => simp [intOf]; omega
        · go_wp2
          go_ret
          refine ⟨ret_bool ?_, rfl⟩
          have e1 : decide (a ≤ (s.size : Int)) = true := by simp; omega
          have e2 : decide ((s.size : Int) ≤ b) = true := by simp; omega
          rw [codeB, e1, e2, He.out, allFrom_end cdB s k (by omega)]
          rfl

/-- a carrier -/
def carB (s : ByteArray) : Bool := codeB s 2 2 && (upB (s.data.toList.getD 0 0) || upB (s.data.toList.getD 1 0))
theorem getD_eq (s : ByteArray) (k : Nat) (h : k < s.size) : s.data.toList.getD k 0 = s[k] := by
  rw [List.getD_eq_getElem?_getD, List.getElem?_eq_getElem (by simpa using h)]; rfl
set_option maxHeartbeats 400000 in
theorem carrier_any (s : ByteArray) (w : World) (hs : s.size ≤ maxLen) :
    Calls Tryd.prog 55 #[.string s] w fun e w' => e = .returned (.bool (carB s)) ∧ w = w' := by
  cases hc : codeB s 2 2
  · go_enter Tryd.func55, Tryd.ntmps55
    go_wp2_with (go_at_call 75; refine (code_any _ _ _ _ hs).mono ?_; rintro e w' ⟨rfl, rfl⟩)
    go_ret
    exact ⟨ret_bool (by simp [carB, hc]), rfl⟩
  · have h0 : 0 < s.size := by simp [codeB] at hc; omega
    have h1 : 1 < s.size := by simp [codeB] at hc; omega
    have E0 := Lib.hid (getD_eq s 0 h0)
    have E1 := Lib.hid (getD_eq s 1 h1)
    cases hu : upB s[0]
    · go_enter Tryd.func55, Tryd.ntmps55
      go_wp2_with (first | (go_at_call 75; refine (code_any _ _ _ _ hs).mono ?_; rintro e w' ⟨rfl, rfl⟩) | (go_at_call 76; refine (isCapital_any _ _).mono ?_; rintro e w' ⟨rfl, rfl⟩))
      go_ret
      exact ⟨ret_bool (by rw [carB, hc, E0.out, E1.out, hu]; rfl), rfl⟩
    · go_enter Tryd.func55, Tryd.ntmps55
      go_wp2_with (first | (go_at_call 75; refine (code_any _ _ _ _ hs).mono ?_; rintro e w' ⟨rfl, rfl⟩) | (go_at_call 76; refine (isCapital_any _ _).mono ?_; rintro e w' ⟨rfl, rfl⟩))
      go_ret
      exact ⟨ret_bool (by rw [carB, hc, E0.out, hu]; rfl), rfl⟩
/-- capital letters with single spaces between them; g: the beginning, or behind a space -/
def nm (g : Bool) : List UInt8 → Bool
  | [] => !g
  | c :: r => if upB c then nm false r else if c.toNat = 32 ∧ g = false then nm true r else false
def nameB (s : ByteArray) : Bool := decide (s.size ≤ 30) && nm true s.data.toList
def nmFrom (g : Bool) (s : ByteArray) (k : Nat) : Bool := nm g (s.data.toList.drop k)
theorem nmFrom_step (g : Bool) (s : ByteArray) (k : Nat) (h : k < s.size) :
    nmFrom g s k = if upB s[k] then nmFrom false s (k + 1) else if s[k].toNat = 32 ∧ g = false then nmFrom true s (k + 1) else false := by
  have e : s.data.toList.drop k = s[k] :: s.data.toList.drop (k + 1) := by
    rw [List.drop_eq_getElem_cons (by simpa using h)]; rfl
  simp only [nmFrom, e, nm]
theorem nmFrom_end (g : Bool) (s : ByteArray) (k : Nat) (h : s.size ≤ k) : nmFrom g s k = !g := by
  have e : s.data.toList.drop k = [] := List.drop_eq_nil_of_le (by simpa using h)
  simp only [nmFrom, e, nm]
theorem nmFrom_up (g : Bool) (s : ByteArray) (k : Nat) (h : k < s.size) (hu : upB s[k] = true) : nmFrom g s k = nmFrom false s (k + 1) := by
  rw [nmFrom_step g s k h, if_pos hu]
theorem nmFrom_gap (s : ByteArray) (k : Nat) (h : k < s.size) (hu : upB s[k] = false) (hc : s[k].toNat = 32) : nmFrom false s k = nmFrom true s (k + 1) := by
  rw [nmFrom_step false s k h, if_neg (by simp [hu]), if_pos ⟨hc, rfl⟩]
theorem nmFrom_bad (g : Bool) (s : ByteArray) (k : Nat) (h : k < s.size) (hu : upB s[k] = false) (hc : s[k].toNat ≠ 32 ∨ g = true) : nmFrom g s k = false := by
  rw [nmFrom_step g s k h, if_neg (by simp [hu]), if_neg]
  rintro ⟨h1, h2⟩
  rcases hc with hc | hc
  · exact hc h1
  · rw [hc] at h2; cases h2

/-- the byte at a place; 0 beyond the end -/
def bt (s : ByteArray) (k : Nat) : Nat := (s.data.toList.getD k 0).toNat
theorem bt_eq (s : ByteArray) (k : Nat) (h : k < s.size) : bt s k = s[k].toNat := by rw [bt, getD_eq s k h]
/-- behind a space, or at the beginning -/
def gapB (s : ByteArray) (k : Nat) : Bool := decide (k = 0 ∨ bt s (k - 1) = 32)
theorem upB_ne (c : UInt8) (h : upB c = true) : c.toNat ≠ 32 := by simp [upB] at h; omega

theorem nm_last (c : UInt8) (hc : c.toNat = 32) : ∀ (l : List UInt8) (g : Bool), nm g (l ++ [c]) = false
  | [], g => by cases g <;> simp [nm, hc, upB]
  | d :: r, g => by
    simp only [List.cons_append, nm, nm_last c hc r]
    cases upB d <;> simp
theorem nmFrom_last (s : ByteArray) (h : 0 < s.size) (hc : (s[s.size - 1]'(by omega)).toNat = 32) : nmFrom true s 0 = false := by
  have e : s.data.toList = s.data.toList.take (s.size - 1) ++ [s[s.size - 1]'(by omega)] := by
    have h1 : s.data.toList.length = s.size := by simp
    conv => lhs; rw [← List.take_length (l := s.data.toList), h1, show s.size = s.size - 1 + 1 from by omega]
    rw [List.take_succ_eq_append_getElem (by simp; omega)]; rfl
  rw [nmFrom, List.drop_zero, e]
  exact nm_last _ hc _ _
theorem gapB_zero (s : ByteArray) : gapB s 0 = true := by simp [gapB]
theorem gapB_succ (s : ByteArray) (k : Nat) (h : k < s.size) : gapB s (k + 1) = decide (s[k].toNat = 32) := by
  simp [gapB, bt_eq s k h]

end Go.Proofs.YtkcdifanhdakhaaDoor
