/- Words and walks that the laws below ask: TextA, PlaA, PlaB, PlaM, PlaQ, PlaH, OwnR, OwnS, PlaK. -/
import Derived.Test.YtdpcjafkahhecaaGreatDoorRows
import Derived.WalkKit
import Derived.WalkSpells
import Derived.WalkLawsBesides
import Derived.Lib.Hide
import Derived.Shelf.Abstract
import Derived.Deep.LoopGhost
import Derived.Maps.OwnSet
import Derived.Deep.RegionHeld3
import Derived.Deep.AppendLies
import Derived.Laws.OwnMore
import Derived.Test.YtdpcjafkahhecaaGreatDoorPk1
/- Walks of the leaves of package text and of its reference: letters, digits, codes. -/
namespace Go.Proofs.YtdpcjafkahhecaaGreatDoor
open Go.RowKit
set_option linter.unusedSimpArgs false
set_option linter.unusedVariables false

/-- a byte is a capital letter, a digit -/
def upB (c : UInt8) : Bool := decide (65 ≤ (c.toNat : Int) ∧ (c.toNat : Int) ≤ 90)

set_option maxHeartbeats 400000 in
theorem isCapital_any (c : UInt8) (w : World) : Calls Tryz.prog 65 #[.int .u8 c.toNat] w fun e w' => e = .returned (.bool (upB c)) ∧ w = w' := by
  by_cases h1 : 65 ≤ (c.toNat : Int)
  · go_enter Tryz.func65, Tryz.ntmps65
    go_wp2
    go_ret
    exact ⟨ret_bool (by simp [upB]; omega), rfl⟩
  · go_enter Tryz.func65, Tryz.ntmps65
    go_wp2
    go_ret
    exact ⟨ret_bool (by simp [upB]; omega), rfl⟩
set_option maxHeartbeats 400000 in
theorem isDigit_any (c : UInt8) (w : World) : Calls Tryz.prog 105 #[.int .u8 c.toNat] w fun e w' => e = .returned (.bool (dgB c)) ∧ w = w' := by
  by_cases h1 : 48 ≤ (c.toNat : Int)
  · go_enter Tryz.func105, Tryz.ntmps105
    go_wp2
    go_ret
    exact ⟨ret_bool (by simp [dgB]; omega), rfl⟩
  · go_enter Tryz.func105, Tryz.ntmps105
    go_wp2
    go_ret
    exact ⟨ret_bool (by simp [dgB]; omega), rfl⟩
set_option maxHeartbeats 400000 in
theorem upper_any (c : UInt8) (w : World) : Calls Tryz.prog 106 #[.int .u8 c.toNat] w fun e w' => e = .returned (.bool (upB c)) ∧ w = w' := by
  by_cases h1 : 65 ≤ (c.toNat : Int)
  · go_enter Tryz.func106, Tryz.ntmps106
    go_wp2
    go_ret
    exact ⟨ret_bool (by simp [upB]; omega), rfl⟩
  · go_enter Tryz.func106, Tryz.ntmps106
    go_wp2
    go_ret
    exact ⟨ret_bool (by simp [upB]; omega), rfl⟩
set_option maxHeartbeats 400000 in
theorem digit_any (c : UInt8) (w : World) : Calls Tryz.prog 120 #[.int .u8 c.toNat] w fun e w' => e = .returned (.bool (dgB c)) ∧ w = w' := by
  by_cases h1 : 48 ≤ (c.toNat : Int)
  · go_enter Tryz.func120, Tryz.ntmps120
    go_wp2
    go_ret
    exact ⟨ret_bool (by simp [dgB]; omega), rfl⟩
  · go_enter Tryz.func120, Tryz.ntmps120
    go_wp2
    go_ret
    exact ⟨ret_bool (by simp [dgB]; omega), rfl⟩

/-- all bytes from k on have a property -/
def allFrom (p : UInt8 → Bool) (s : ByteArray) (k : Nat) : Bool := (s.data.toList.drop k).all p
theorem allFrom_step (p : UInt8 → Bool) (s : ByteArray) (k : Nat) (h : k < s.size) : allFrom p s k = (p s[k] && allFrom p s (k + 1)) := by
  have e : s.data.toList.drop k = s[k] :: s.data.toList.drop (k + 1) := by
    rw [List.drop_eq_getElem_cons (by simpa using h)]; rfl
  simp only [allFrom, e, List.all_cons]
theorem allFrom_end (p : UInt8 → Bool) (s : ByteArray) (k : Nat) (h : s.size ≤ k) : allFrom p s k = true := by
  have e : s.data.toList.drop k = [] := List.drop_eq_nil_of_le (by simpa using h)
  simp only [allFrom, e, List.all_nil]

/-- just n bytes, all of them capital letters -/
def capsB (s : ByteArray) (n : Int) : Bool := decide ((s.size : Int) = n) && allFrom upB s 0

set_option maxHeartbeats 400000 in
theorem letters_any (s : ByteArray) (n : Int) (w : World) (hs : s.size ≤ maxLen) :
    Calls Tryz.prog 118 #[.string s, .int .i64 n] w fun e w' => e = .returned (.bool (capsB s n)) ∧ w = w' := by
  unfold maxLen at hs
  go_enter Tryz.func118, Tryz.ntmps118
  go_wp2
  go_loop [5] (fun i => ∃ k : Nat, k ≤ s.size ∧ i = .int .i64 k ∧ allFrom upB s 0 = allFrom upB s k) (fun i => s.size - (intOf i).toNat)
  case atStart => exact ⟨0, Nat.zero_le _, rfl, rfl⟩
  case round =>
    obtain ⟨k, hk, rfl, he⟩ := hrel
    have He := Lib.hid he
    clear he
    by_cases hlt : k < s.size
    · cases hc : upB s[k]
      · go_wp2_with (go_at_call 106; refine (upper_any _ _).mono ?_; rintro e w' ⟨rfl, rfl⟩)
        go_ret
        exact ⟨ret_bool (by simp [capsB, He.out, allFrom_step upB s k hlt, hc]), rfl⟩
      · have Hc := Lib.hid (allFrom_step upB s k hlt)
        go_wp2_with (go_at_call 106; refine (upper_any _ _).mono ?_; rintro e w' ⟨rfl, rfl⟩)
        go_round
        case rel => exact ⟨k + 1, by omega, by go_num, by rw [He.out, Hc.out, hc]; rfl⟩
        case measure => simp [intOf]; omega
    · go_wp2
      go_ret
      refine ⟨ret_bool ?_, rfl⟩
      rw [capsB, He.out, allFrom_end upB s k (by omega), Bool.and_true]
      rfl

/-- capital letters and digits, from a to b of them -/
def cdB (c : UInt8) : Bool := upB c || dgB c
def codeB (s : ByteArray) (a b : Int) : Bool := decide (a ≤ (s.size : Int)) && decide ((s.size : Int) ≤ b) && allFrom cdB s 0

set_option maxHeartbeats 400000 in
theorem code_any (s : ByteArray) (a b : Int) (w : World) (hs : s.size ≤ maxLen) :
    Calls Tryz.prog 64 #[.string s, .int .i64 a, .int .i64 b] w fun e w' => e = .returned (.bool (codeB s a b)) ∧ w = w' := by
  unfold maxLen at hs
  by_cases h1 : (s.size : Int) < a
  · go_enter Tryz.func64, Tryz.ntmps64
    go_wp2
    go_ret
    exact ⟨ret_bool (by simp [codeB]; omega), rfl⟩
  · by_cases h2 : b < (s.size : Int)
    · go_enter Tryz.func64, Tryz.ntmps64
      go_wp2
      go_ret
      exact ⟨ret_bool (by simp [codeB]; omega), rfl⟩
    · go_enter Tryz.func64, Tryz.ntmps64
      go_wp2
      go_loop [20] (fun i => ∃ k : Nat, k ≤ s.size ∧ i = .int .i64 k ∧ allFrom cdB s 0 = allFrom cdB s k) (fun i => s.size - (intOf i).toNat)
      case atStart => exact ⟨0, Nat.zero_le _, rfl, rfl⟩
      case round =>
        obtain ⟨k, hk, rfl, he⟩ := hrel
        have He := Lib.hid he
        clear he
        by_cases hlt : k < s.size
        · have Hc := Lib.hid (allFrom_step cdB s k hlt)
          cases hc : upB s[k]
          · cases hd : dgB s[k]
            · go_wp2_with (first | (go_at_call 65; refine (isCapital_any _ _).mono ?_; rintro e w' ⟨rfl, rfl⟩) | (go_at_call 105; refine (isDigit_any _ _).mono ?_; rintro e w' ⟨rfl, rfl⟩))
              go_ret
              exact ⟨ret_bool (by simp [codeB, He.out, Hc.out, cdB, hc, hd]), rfl⟩
            · go_wp2_with (first | (go_at_call 65; refine (isCapital_any _ _).mono ?_; rintro e w' ⟨rfl, rfl⟩) | (go_at_call 105; refine (isDigit_any _ _).mono ?_; rintro e w' ⟨rfl, rfl⟩))
              go_round
              case rel => exact ⟨k + 1, by omega, by go_num, by rw [He.out, Hc.out, cdB, hc, hd]; rfl⟩
              case measure => simp [intOf]; omega
          · go_wp2_with (first | (go_at_call 65; refine (isCapital_any _ _).mono ?_; rintro e w' ⟨rfl, rfl⟩) | (go_at_call 105; refine (isDigit_any _ _).mono ?_; rintro e w' ⟨rfl, rfl⟩))
            go_round
            case rel => exact ⟨k + 1, by omega, by go_num, by rw [He.out, Hc.out, cdB, hc]; rfl⟩
            case measure => simp [intOf]; omega
        · go_wp2
          go_ret
          refine ⟨ret_bool ?_, rfl⟩
          have e1 : decide (a ≤ (s.size : Int)) = true := by simp; omega
          have e2 : decide ((s.size : Int) ≤ b) = true := by simp; omega
          rw [codeB, e1, e2, He.out, allFrom_end cdB s k (by omega)]
          rfl

set_option maxHeartbeats 400000 in
theorem rcode_any (s : ByteArray) (a b : Int) (w : World) (hs : s.size ≤ maxLen) :
    Calls Tryz.prog 90 #[.string s, .int .i64 a, .int .i64 b] w fun e w' => e = .returned (.bool (codeB s a b)) ∧ w = w' := by
  unfold maxLen at hs
  go_enter Tryz.func90, Tryz.ntmps90
  go_wp2
  go_loop [7] (fun i => ∃ k : Nat, k ≤ s.size ∧ i = .int .i64 k ∧ allFrom cdB s 0 = allFrom cdB s k) (fun i => s.size - (intOf i).toNat)
  case atStart => exact ⟨0, Nat.zero_le _, rfl, rfl⟩
  case round =>
    obtain ⟨k, hk, rfl, he⟩ := hrel
    have He := Lib.hid he
    clear he
    by_cases hlt : k < s.size
    · have Hc := Lib.hid (allFrom_step cdB s k hlt)
      cases hc : upB s[k]
      · cases hd : dgB s[k]
        · go_wp2_with (first | (go_at_call 106; refine (upper_any _ _).mono ?_; rintro e w' ⟨rfl, rfl⟩) | (go_at_call 120; refine (digit_any _ _).mono ?_; rintro e w' ⟨rfl, rfl⟩))
          go_ret
          exact ⟨ret_bool (by simp [codeB, He.out, Hc.out, cdB, hc, hd]), rfl⟩
        · go_wp2_with (first | (go_at_call 106; refine (upper_any _ _).mono ?_; rintro e w' ⟨rfl, rfl⟩) | (go_at_call 120; refine (digit_any _ _).mono ?_; rintro e w' ⟨rfl, rfl⟩))
          go_round
          case rel => exact ⟨k + 1, by omega, by go_num, by rw [He.out, Hc.out, cdB, hc, hd]; rfl⟩
          case measure => simp [intOf]; omega
      · go_wp2_with (first | (go_at_call 106; refine (upper_any _ _).mono ?_; rintro e w' ⟨rfl, rfl⟩) | (go_at_call 120; refine (digit_any _ _).mono ?_; rintro e w' ⟨rfl, rfl⟩))
        go_round
        case rel => exact ⟨k + 1, by omega, by go_num, by rw [He.out, Hc.out, cdB, hc]; rfl⟩
        case measure => simp [intOf]; omega
    · have hfin : codeB s a b = (decide (a ≤ (s.size : Int)) && decide ((s.size : Int) ≤ b)) := by rw [codeB, He.out, allFrom_end cdB s k (by omega), Bool.and_true]
      have Hfin := Lib.hid hfin
      clear hfin
      by_cases h1 : a ≤ (s.size : Int)
      · go_wp2
        go_ret
        exact ⟨ret_bool (by rw [Hfin.out]; simp [h1]), rfl⟩
      · go_wp2
        go_ret
        exact ⟨ret_bool (by rw [Hfin.out]; simp; omega), rfl⟩

/-- a carrier -/
def carB (s : ByteArray) : Bool := codeB s 2 2 && (upB (s.data.toList.getD 0 0) || upB (s.data.toList.getD 1 0))
theorem getD_eq (s : ByteArray) (k : Nat) (h : k < s.size) : s.data.toList.getD k 0 = s[k] := by
  rw [List.getD_eq_getElem?_getD, List.getElem?_eq_getElem (by simpa using h)]; rfl
set_option maxHeartbeats 400000 in
theorem carrier_any (s : ByteArray) (w : World) (hs : s.size ≤ maxLen) :
    Calls Tryz.prog 36 #[.string s] w fun e w' => e = .returned (.bool (carB s)) ∧ w = w' := by
  cases hc : codeB s 2 2
  · go_enter Tryz.func36, Tryz.ntmps36
    go_wp2_with (go_at_call 64; refine (code_any _ _ _ _ hs).mono ?_; rintro e w' ⟨rfl, rfl⟩)
    go_ret
    exact ⟨ret_bool (by simp [carB, hc]), rfl⟩
  · have h0 : 0 < s.size := by simp [codeB] at hc; omega
    have h1 : 1 < s.size := by simp [codeB] at hc; omega
    have E0 := Lib.hid (getD_eq s 0 h0)
    have E1 := Lib.hid (getD_eq s 1 h1)
    cases hu : upB s[0]
    · go_enter Tryz.func36, Tryz.ntmps36
      go_wp2_with (first | (go_at_call 64; refine (code_any _ _ _ _ hs).mono ?_; rintro e w' ⟨rfl, rfl⟩) | (go_at_call 65; refine (isCapital_any _ _).mono ?_; rintro e w' ⟨rfl, rfl⟩))
      go_ret
      exact ⟨ret_bool (by rw [carB, hc, E0.out, E1.out, hu]; rfl), rfl⟩
    · go_enter Tryz.func36, Tryz.ntmps36
      go_wp2_with (first | (go_at_call 64; refine (code_any _ _ _ _ hs).mono ?_; rintro e w' ⟨rfl, rfl⟩) | (go_at_call 65; refine (isCapital_any _ _).mono ?_; rintro e w' ⟨rfl, rfl⟩))
      go_ret
      exact ⟨ret_bool (by rw [carB, hc, E0.out, hu]; rfl), rfl⟩
set_option maxHeartbeats 400000 in
theorem rcarrier_any (s : ByteArray) (w : World) (hs : s.size ≤ maxLen) :
    Calls Tryz.prog 66 #[.string s] w fun e w' => e = .returned (.bool (carB s)) ∧ w = w' := by
  cases hc : codeB s 2 2
  · go_enter Tryz.func66, Tryz.ntmps66
    go_wp2_with (go_at_call 90; refine (rcode_any _ _ _ _ hs).mono ?_; rintro e w' ⟨rfl, rfl⟩)
    go_ret
    exact ⟨ret_bool (by simp [carB, hc]), rfl⟩
  · have h0 : 0 < s.size := by simp [codeB] at hc; omega
    have h1 : 1 < s.size := by simp [codeB] at hc; omega
    have E0 := Lib.hid (getD_eq s 0 h0)
    have E1 := Lib.hid (getD_eq s 1 h1)
    cases hu : upB s[0]
    · go_enter Tryz.func66, Tryz.ntmps66
      go_wp2_with (first | (go_at_call 90; refine (rcode_any _ _ _ _ hs).mono ?_; rintro e w' ⟨rfl, rfl⟩) | (go_at_call 106; refine (upper_any _ _).mono ?_; rintro e w' ⟨rfl, rfl⟩))
      go_ret
      exact ⟨ret_bool (by rw [carB, hc, E0.out, E1.out, hu]; rfl), rfl⟩
    · go_enter Tryz.func66, Tryz.ntmps66
      go_wp2_with (first | (go_at_call 90; refine (rcode_any _ _ _ _ hs).mono ?_; rintro e w' ⟨rfl, rfl⟩) | (go_at_call 106; refine (upper_any _ _).mono ?_; rintro e w' ⟨rfl, rfl⟩))
      go_ret
      exact ⟨ret_bool (by rw [carB, hc, E0.out, hu]; rfl), rfl⟩

/-- capital letters with single spaces between them; g: the beginning, or behind a space -/
def nm (g : Bool) : List UInt8 → Bool
  | [] => !g
  | c :: r => if upB c then nm false r else if c.toNat = 32 ∧ g = false then nm true r else false
/-- the byte at a place; 0 beyond the end -/
def bt (s : ByteArray) (k : Nat) : Nat := (s.data.toList.getD k 0).toNat
end Go.Proofs.YtdpcjafkahhecaaGreatDoor

/- Words for places in memory; walks of the leaves of package places: the searches by code and by city, City, Country. -/
namespace Go.Proofs.YtdpcjafkahhecaaGreatDoor
open Go.RowKit Go.Shelf
set_option linter.unusedSimpArgs false
set_option linter.unusedVariables false

theorem bel_cell {w w' : World} {a : Addr} {v : Value} (h : Below w.heap.size w w') (hc : w.cell? a = some v) : w'.cell? a = some v := (h.cell (World.block_lt_of_cell? _ _ hc)).trans hc
theorem bel_get {w5 : World} {a : Addr} {v : Value} (h : w5.cell? a = some v) (W : World) (hS : SW w5 W) : W.cell? a = some v := bel_cell hS h
abbrev placesT : TypeId := 25
abbrev airT : TypeId := 102
abbrev dstT : TypeId := 137
/-- an airport -/
structure Air where
  code : ByteArray
  city : ByteArray
  land : ByteArray
  off : Int
  A : Option Addr
  c : Nat
  shs : Shs
abbrev encA (a : Air) : Value := .agg #[.string a.code, .string a.city, .string a.land, .int .i64 a.off, .slice a.A a.shs.length a.c]
abbrev encD (d : Dst) : Value := .agg #[.string d.f, .string d.t, .int .i64 d.m]
structure OkA (a : Air) : Prop where
  code : a.code.size ≤ maxLen
  city : a.city.size ≤ maxLen
  land : a.land.size ≤ maxLen
  len : a.shs.length < 9223372036854775808
  at' : ∀ k, k < a.shs.length → -9223372036854775808 ≤ shA a.shs k ∧ shA a.shs k ≤ 9223372036854775807
structure OkD (d : Dst) : Prop where
  f : d.f.size ≤ maxLen
  t : d.t.size ≤ maxLen
/-- the airport a lies at cell j of block b -/
structure AirAt (w : World) (b j : Nat) (a : Air) : Prop where
  c0 : w.cell? ⟨b, j, none⟩ = some (.string a.code)
  c1 : w.cell? ⟨b, j + 1, none⟩ = some (.string a.city)
  c2 : w.cell? ⟨b, j + 2, none⟩ = some (.string a.land)
  c3 : w.cell? ⟨b, j + 3, none⟩ = some (.int .i64 a.off)
  c4 : w.cell? ⟨b, j + 4, none⟩ = some (.slice a.A a.shs.length a.c)
  sh : ShL w a.A a.shs
theorem AirAt.more {w w' : World} {b j : Nat} {a : Air} (h : AirAt w b j a) (hb : Below w.heap.size w w') : AirAt w' b j a :=
  ⟨bel_cell hb h.c0, bel_cell hb h.c1, bel_cell hb h.c2, bel_cell hb h.c3, bel_cell hb h.c4, h.sh.more hb⟩
structure DstAt (w : World) (b j : Nat) (d : Dst) : Prop where
  c0 : w.cell? ⟨b, j, none⟩ = some (.string d.f)
  c1 : w.cell? ⟨b, j + 1, none⟩ = some (.string d.t)
  c2 : w.cell? ⟨b, j + 2, none⟩ = some (.int .i64 d.m)
theorem DstAt.more {w w' : World} {b j : Nat} {d : Dst} (h : DstAt w b j d) (hb : Below w.heap.size w w') : DstAt w' b j d := ⟨bel_cell hb h.c0, bel_cell hb h.c1, bel_cell hb h.c2⟩
/-- the airports l lie in the row at A -/
def AirL (w : World) (A : Option Addr) (l : List Air) : Prop := l = [] ∨ ∃ b o, A = some ⟨b, o, none⟩ ∧ b < w.heap.size ∧ ∀ i a, l[i]? = some a → AirAt w b (o + i * 5) a
def DstL (w : World) (A : Option Addr) (l : List Dst) : Prop := l = [] ∨ ∃ b o, A = some ⟨b, o, none⟩ ∧ b < w.heap.size ∧ ∀ i a, l[i]? = some a → DstAt w b (o + i * 3) a
theorem AirL.more {w w' : World} {A : Option Addr} {l : List Air} (h : AirL w A l) (hb : Below w.heap.size w w') : AirL w' A l := by
  rcases h with h | ⟨b, o, rfl, hlt, hc⟩
  · exact .inl h
  · exact .inr ⟨b, o, rfl, Nat.lt_of_lt_of_le hlt hb.size, fun i a hi => (hc i a hi).more hb⟩
theorem DstL.more {w w' : World} {A : Option Addr} {l : List Dst} (h : DstL w A l) (hb : Below w.heap.size w w') : DstL w' A l := by
  rcases h with h | ⟨b, o, rfl, hlt, hc⟩
  · exact .inl h
  · exact .inr ⟨b, o, rfl, Nat.lt_of_lt_of_le hlt hb.size, fun i a hi => (hc i a hi).more hb⟩
theorem AirL.at {w : World} {A : Option Addr} {l : List Air} (h : AirL w A l) {k : Nat} (hk : k < l.length) : ∃ b o a, A = some ⟨b, o, none⟩ ∧ b < w.heap.size ∧ l[k]? = some a ∧ AirAt w b (o + k * 5) a := by
  rcases h with h | ⟨b, o, hA, hlt, hc⟩
  · rw [h] at hk; simp at hk
  · exact ⟨b, o, l[k], hA, hlt, List.getElem?_eq_getElem hk, hc k _ (List.getElem?_eq_getElem hk)⟩
theorem DstL.at {w : World} {A : Option Addr} {l : List Dst} (h : DstL w A l) {k : Nat} (hk : k < l.length) : ∃ b o a, A = some ⟨b, o, none⟩ ∧ b < w.heap.size ∧ l[k]? = some a ∧ DstAt w b (o + k * 3) a := by
  rcases h with h | ⟨b, o, hA, hlt, hc⟩
  · rw [h] at hk; simp at hk
  · exact ⟨b, o, l[k], hA, hlt, List.getElem?_eq_getElem hk, hc k _ (List.getElem?_eq_getElem hk)⟩
/-- places by value -/
structure PV where
  A : Option Addr
  ca : Nat
  l : List Air
  D : Option Addr
  cd : Nat
  ds : List Dst
abbrev encP (p : PV) : Value := .agg #[.slice p.A p.l.length p.ca, .slice p.D p.ds.length p.cd]
structure PlL (w : World) (p : PV) : Prop where
  air : AirL w p.A p.l
  dst : DstL w p.D p.ds
theorem PlL.more {w w' : World} {p : PV} (h : PlL w p) (hb : Below w.heap.size w w') : PlL w' p := ⟨h.air.more hb, h.dst.more hb⟩
set_option maxHeartbeats 400000 in
theorem rusable_any (d : Dst) (w : World) : Calls Tryz.prog 88 #[encD d] w fun e w' => e = .returned (.bool (useB d)) ∧ Below w.heap.size w w' := by
  have HU : Hid (useB d = (decide (1 ≤ d.m) && decide (d.m ≤ 20000))) := Lib.hid rfl
  by_cases h1 : 1 ≤ d.m
  all_goals
    go_enter Tryz.func88, Tryz.ntmps88
    go_wp2
    go_ret
    exact ⟨ret_bool (by rw [HU.out]; first | (simp [h1]; done) | (simp [h1]; omega)), bel_alloc _ _⟩
/-! ### slices.IndexFunc -/
/-- the first place of which p says true -/
def idxA (p : Air → Bool) : List Air → Int
  | [] => -1
  | a :: r => if p a then 0 else if idxA p r < 0 then -1 else idxA p r + 1
theorem idxA_find (p : Air → Bool) : ∀ l : List Air, (idxA p l = -1 ∧ l.find? p = none) ∨ ∃ (k : Nat) (a : Air), idxA p l = (k : Int) ∧ l[k]? = some a ∧ l.find? p = some a ∧ k < l.length
  | [] => .inl ⟨rfl, rfl⟩
  | a :: r => by
    cases h : p a
    · rcases idxA_find p r with ⟨h1, h2⟩ | ⟨k, x, h1, h2, h3, h4⟩
      · left
        exact ⟨by simp [idxA, h, h1], by simp [List.find?_cons, h, h2]⟩
      · right
        refine ⟨k + 1, x, ?_, by simpa using h2, by simp [List.find?_cons, h, h3], by simpa using h4⟩
        simp only [idxA, h, h1]
        rw [if_neg (by simp), if_neg (by omega)]
        omega
    · right
      exact ⟨0, a, by simp [idxA, h], by simp, by simp [List.find?_cons, h], by simp⟩
theorem idxA_yes {p : Air → Bool} {l : List Air} {k : Nat} {a : Air} (h : ∀ (j : Nat) (x : Air), j < k → l[j]? = some x → p x = false) (hk : l[k]? = some a) (hp : p a = true) : idxA p l = (k : Int) := by
  induction l generalizing k with
  | nil => simp at hk
  | cons b r ih =>
    cases k with
    | zero => simp at hk; subst hk; simp [idxA, hp]
    | succ k =>
      have h0 := h 0 b (by omega) (by simp)
      have := ih (k := k) (fun j x hj hx => h (j + 1) x (by omega) (by simpa using hx)) (by simpa using hk)
      simp only [idxA, h0, this]
      rw [if_neg (by simp), if_neg (by omega)]
      omega
theorem idxA_no {p : Air → Bool} {l : List Air} (h : ∀ (j : Nat) (x : Air), l[j]? = some x → p x = false) : idxA p l = -1 := by
  induction l with
  | nil => rfl
  | cons b r ih =>
    have h0 := h 0 b (by simp)
    have := ih (fun j x hx => h (j + 1) x (by simpa using hx))
    simp [idxA, h0, this]

set_option maxHeartbeats 4000000 in
set_option maxRecDepth 100000 in
theorem index_any (g : Nat) (cb : Array Value) (A : Option Addr) (c : Nat) (l : List Air) (p : Air → Bool) (w : World) (eg : ∀ args w, (callFunc g args).run Tryz.prog w = .ok (.enter g args) w) (hl : l.length ≤ 40) (hL : AirL w A l)
    (hf : ∀ (a : Air) (W : World), a ∈ l → Below w.heap.size w W → Calls Tryz.prog g (#[encA a] ++ cb) W fun e w' => e = .returned (.bool (p a)) ∧ Below W.heap.size W w') :
    Calls Tryz.prog 145 #[.slice A l.length c, .func (.func g) #[] cb] w fun e w' => e = .returned (.int .i64 (idxA p l)) ∧ Below w.heap.size w w' := by
  have HF := Lib.hid hf
  have HI : Hid (∀ (k : Nat) (a : Air), (∀ (j : Nat) (x : Air), j < k → l[j]? = some x → p x = false) → l[k]? = some a → p a = true → idxA p l = (k : Int)) := Lib.hid (fun k a => idxA_yes)
  have HN : Hid ((∀ (j : Nat) (x : Air), l[j]? = some x → p x = false) → idxA p l = -1) := Lib.hid idxA_no
  clear hf
  generalize idxA p l = r at *
  go_enter Tryz.func145, Tryz.ntmps145
  go_wp2
  go_loopw [8] (fun vi wr => ∃ k : Nat, k ≤ l.length ∧ vi = .int .i64 k ∧ Hid (∀ (j : Nat) (x : Air), j < k → l[j]? = some x → p x = false) ∧ Below w.heap.size w wr) (fun vi _ => l.length - (intOf vi).toNat)
  case atStart => exact ⟨0, Nat.zero_le _, rfl, Lib.hid (fun j x hj => absurd hj (Nat.not_lt_zero _)), Below.refl _ _⟩
  case round =>
    obtain ⟨k, hk, rfl, HK, hb⟩ := hrel
    by_cases hlt : k < l.length
    · obtain ⟨b, off, a, rfl, hgl, hka, ha⟩ := (hL.more hb).at hlt
      have i2 : (k : Int) < (l.length : Int) := by omega
      obtain ⟨z0, z1, z2, z3, z4, zs⟩ := ha
      have hc := HF.out a wr (List.mem_of_getElem? hka) hb
      cases hp : p a <;> rw [hp] at hc
      · have HP := Lib.hid hp
        have HA := Lib.hid hka
        clear hp hka
        go_wp2_with (refine hc.mono ?_; rintro e w' ⟨rfl, hb'⟩)
        go_roundw
        case rel =>
          refine ⟨k + 1, by omega, by go_num, Lib.hid (fun j x hj hx => ?_), hb.trans (hb'.mono hb.size)⟩
          by_cases hjk : j = k
          · subst hjk
            rw [HA.out] at hx
            cases hx
            exact HP.out
          · exact HK.out j x (by omega) hx
        case measure => simp [intOf]; omega
      · have HR := Lib.hid (HI.out k a HK.out hka hp)
        clear hp hka
        go_wp2_with (refine hc.mono ?_; rintro e w' ⟨rfl, hb'⟩)
        go_ret
        exact ⟨by rw [HR.out]; rfl, hb.trans (hb'.mono hb.size)⟩
    · have HR := Lib.hid (HN.out (fun j x hx => HK.out j x (by have := (List.getElem?_eq_some_iff.1 hx).1; omega) hx))
      go_wp2
      go_ret
      exact ⟨by rw [HR.out]; rfl, hb⟩

end Go.Proofs.YtdpcjafkahhecaaGreatDoor

/- Walks of the closures, of byCode, byCity, City and Country. -/
namespace Go.Proofs.YtdpcjafkahhecaaGreatDoor
open Go.RowKit Go.Shelf
set_option linter.unusedSimpArgs false
set_option linter.unusedVariables false

abbrev noB : ByteArray := ⟨#[]⟩
def airZ : Air := ⟨noB, noB, noB, 0, none, 0, []⟩
/-- texts are equal -/
def eqS (s t : ByteArray) : Bool := s.toList == t.toList
theorem eqS_iff (s t : ByteArray) : eqS s t = true ↔ s = t := by
  unfold eqS
  rw [beq_iff_eq, ByteArray.toList_eq, ByteArray.toList_eq]
  constructor
  · intro h
    have := congrArg List.toArray h
    simp at this
    cases s; cases t
    simpa using this
  · rintro rfl; rfl
def findC (l : List Air) (s : ByteArray) : Option Air := l.find? fun a => eqS a.code s
def findT (l : List Air) (s : ByteArray) : Option Air := l.find? fun a => eqS a.city s
set_option maxHeartbeats 400000 in
theorem codec_any (a : Air) (s : ByteArray) (B : Nat) (W : World) (z : W.cell? ⟨B, 0, none⟩ = some (.string s)) :
    Calls Tryz.prog 146 #[encA a, .pointer (some ⟨B, 0, none⟩)] W fun e w' => e = .returned (.bool (eqS a.code s)) ∧ Below W.heap.size W w' := by
  have hlt := World.block_lt_of_cell? _ _ z
  have z' := (Below.cell (bel_alloc W (.cells #[.string a.code, .string a.city, .string a.land, .int .i64 a.off, .slice a.A a.shs.length a.c] airT)) (p := ⟨B, 0, none⟩) hlt).trans z
  go_enter Tryz.func146, Tryz.ntmps146
  go_wp2
  go_ret
  exact ⟨rfl, bel_alloc _ _⟩
theorem eg_code : ∀ args w, (callFunc 146 args).run Tryz.prog w = .ok (.enter 146 args) w := enters_of Tryz.func146 (by kernel_rfl) rfl
/-- the two boxes that byCode makes: the places' and the text's -/
def B2 (w : World) (p : PV) (s : ByteArray) : World := (w.alloc (.cells #[.slice p.A p.l.length p.ca, .slice p.D p.ds.length p.cd] placesT)).alloc (.cells #[.string s] 9)
theorem B2.bel (w : World) (p : PV) (s : ByteArray) : Below w.heap.size w (B2 w p s) := (bel_alloc _ _).alloc (by simp) _
theorem B2.zs (w : World) (p : PV) (s : ByteArray) : (B2 w p s).cell? ⟨w.heap.size + 1, 0, none⟩ = some (.string s) := by
  have h := cells_new (w.alloc (.cells #[.slice p.A p.l.length p.ca, .slice p.D p.ds.length p.cd] placesT)) #[.string s] 9 0
  rw [World.size_alloc] at h
  exact h
set_option maxHeartbeats 1000000 in
theorem byCode_any (p : PV) (s : ByteArray) (w : World) (hl : p.l.length ≤ 40) (hL : AirL w p.A p.l) :
    Calls Tryz.prog 135 #[encP p, .string s] w fun e w' => e = .returned (.int .i64 (idxA (fun a => eqS a.code s) p.l)) ∧ Below w.heap.size w w' := by
  have CI := Lib.hid (index_any _ #[.pointer (some ⟨w.heap.size + 1, 0, none⟩)] p.A p.ca p.l (fun a => eqS a.code s) (B2 w p s) eg_code hl (hL.more (B2.bel w p s))
    (fun a W ha hW => codec_any a s _ W (bel_cell hW (B2.zs w p s))))
  have hb := B2.bel w p s
  unfold B2 at *
  generalize idxA (fun a => eqS a.code s) p.l = r at *
  go_enter Tryz.func135, Tryz.ntmps135
  go_wp2_with (go_at_call 145; refine CI.out.mono ?_; rintro e w' ⟨rfl, hb'⟩)
  go_ret
  exact ⟨rfl, hb.trans (hb'.mono hb.size)⟩
end Go.Proofs.YtdpcjafkahhecaaGreatDoor

/- A map that the call makes, as a plain function from keys to values, whatever its elements are. -/
namespace Go.Proofs.YtdpcjafkahhecaaGreatDoor
open Go.RowKit Go.Maps Go.MapKept
open Go.WideElems (Fit rd rg pl rd_key rd_val rg_of rd_mk)
open Go.ChangeMaps (setBlock putKey notKey heap_setBlock_same heap_setBlock_other)
open Go.WideMaps (keyOf_string_mk)
set_option linter.unusedSimpArgs false
set_option linter.unusedVariables false
set_option linter.unusedSectionVars false

/-- an element, read as the value that it is -/
def Rh (v : Value) : Option (DataW Value × List MemPlace) := some (.held v, [])
theorem rd_h' {P : Program} {k : TypeId} {x : MapEntry} {l : Lit} (h : keyOf P k x.key = some l) : rd P k Rh x = some (l, .held x.val) := by
  unfold rd
  rw [h]
  rfl
theorem rd_h {P : Program} {k : TypeId} {x : MapEntry} {l : Lit} (h : keyOf P k x.key = some l) : rg P k Rh x = (l, .held x.val) := rg_of (rd_h' h)

section
variable {κ : Type} [DecidableEq κ] {P : Program} {k t e : TypeId} {en : κ → Value} {w w' : World} {b n : Nat} {g : κ → Option Value}
/-- block b is a map of at most n entries: at key c it has g c -/
def MapK (P : Program) (k : TypeId) (en : κ → Value) (w : World) (b n : Nat) (g : κ → Option Value) : Prop :=
  ∃ es clock, w.heap[b]? = some (.map es clock) ∧ Fit P k Rh es clock ∧ es.size ≤ n ∧ ∀ c v, g c = some v ↔ ∃ x ∈ es.toList, x.key = en c ∧ x.val = v
theorem MapK.made (w : World) (P : Program) (k : TypeId) (en : κ → Value) : MapK P k en (w.alloc (.map #[] 0)) w.heap.size 0 (fun _ => none) :=
  ⟨#[], 0, (MapKept.heap_alloc w _).1, ⟨by simp, stamped_empty 0, by simp⟩, Nat.le_refl _, by simp⟩
theorem MapK.lt (h : MapK P k en w b n g) : b < w.heap.size := by
  obtain ⟨es, clock, hb, _⟩ := h
  exact (Array.getElem?_eq_some_iff.1 hb).1
theorem MapK.same (h : MapK P k en w b n g) (he : w'.heap[b]? = w.heap[b]?) : MapK P k en w' b n g := by
  obtain ⟨es, clock, hb, r⟩ := h
  exact ⟨es, clock, he.trans hb, r⟩
theorem MapK.more (h : MapK P k en w b n g) (hb : Below w.heap.size w w') : MapK P k en w' b n g := h.same (hb.block b h.lt)
theorem MapK.grown {row : Option Nat} (h : MapK P k en w b n g) (hg : w.grownBy w' row) (hne : some b ≠ row) : MapK P k en w' b n g := h.same (hg.block b h.lt hne)
theorem MapK.look (h : MapK P k en w b n g) (K : Keyed P k) (ht : P.underlying t = some (.map k e)) {z : Value} (hz : (zeroValue e).run P w = .ok z w) {c : κ} {kl : Lit} (hkey : keyOf P k (en c) = some kl) (ok : Bool) :
    (Instr.lookup t (.map (some b)) (en c) ok).run P w = .ok (if ok then .tuple #[(g c).getD z, .bool (g c).isSome] else (g c).getD z) w := by
  obtain ⟨es, clock, hb, F, _, hg⟩ := h
  rcases Maps.fit_look ok K ht hz hb F hkey with ⟨hrun, hno, _⟩ | ⟨e0, y, hm, he, hrun, _⟩
  · have hn : g c = none := by
      cases hc : g c with
      | none => rfl
      | some v =>
        obtain ⟨x, hx, hxe, _⟩ := (hg c v).1 hc
        exact absurd hxe (hno x hx)
    rw [hrun, hn]
    rfl
  · have hs : g c = some e0.val := (hg c _).2 ⟨e0, hm, he, rfl⟩
    rw [hrun, hs]
    rfl
theorem MapK.store (h : MapK P k en w b n g) (K : Keyed P k) (hen : ∀ c c', en c = en c' → c = c') (ht : P.underlying t = some (.map k e)) (hn : n < maxLen) {c : κ} {kl : Lit} (hkey : keyOf P k (en c) = some kl) (val : Value) :
    ∃ w', (Instr.mapUpdate t (.map (some b)) (en c) val).run P w = .ok () w' ∧ MapK P k en w' b (n + 1) (fun c' => if c' = c then some val else g c') ∧ w.grownBy w' (some b) := by
  obtain ⟨es, clock, hb, F, hs, hg⟩ := h
  obtain ⟨es', clock', hrun, F', hput, _, _, hmem⟩ := Maps.fit_store (R' := Rh) K ht hb F (Nat.lt_of_le_of_lt hs hn) (fun _ _ _ _ hz => hz) hkey (show Rh val = some (.held val, []) from rfl)
  refine ⟨_, hrun, ⟨es', clock', heap_setBlock_same hb _, F', ?_, fun c' v => ?_⟩, ⟨rfl, rfl, rfl, by simp [setBlock], fun i _ hi => heap_setBlock_other hb _ (fun e => hi (by rw [e]))⟩⟩
  · have e1 : es'.size = ((es'.toList.map (rg P k Rh)).foldr DataW.insert []).length := by rw [length_sorted]; simp
    rw [e1, hput]
    unfold putKey
    rw [length_insert]
    have e2 := List.length_filter_le (notKey kl) ((es.toList.map (rg P k Rh)).foldr DataW.insert [])
    rw [length_sorted] at e2
    simp at e2
    omega
  · -- who stands among the new entries
    have back : ∀ x, x ∈ es.toList → x.key ≠ en c → ∃ x' ∈ es'.toList, x'.key = x.key ∧ x'.val = x.val := by
      intro x hx hne
      obtain ⟨y, hy⟩ := F.reads x hx
      have hk := rd_key hy
      have h1 : rg P k Rh x ∈ (es'.toList.map (rg P k Rh)).foldr DataW.insert [] := by
        rw [hput]
        unfold putKey
        refine ChangeMaps.mem_insert_iff.2 (.inr (List.mem_filter.2 ⟨(WideShapes.sorted_perm _).mem_iff.2 (List.mem_map.2 ⟨x, hx, rfl⟩), ?_⟩))
        refine (notKey_iff (K.key hkey)).2 fun e1 => hne ?_
        rw [rd_h hk] at e1
        dsimp only at e1
        rw [e1] at hk
        exact K.inj hk hkey
      obtain ⟨x', hx', he'⟩ := List.mem_map.1 ((WideShapes.sorted_perm _).mem_iff.1 h1)
      obtain ⟨y', hy'⟩ := F'.reads x' hx'
      have hk' := rd_key hy'
      rw [rd_h hk, rd_h hk'] at he'
      simp only [Prod.mk.injEq, DataW.held.injEq] at he'
      refine ⟨x', hx', ?_, he'.2⟩
      rw [he'.1] at hk'
      exact K.inj hk' hk
    have new : ∃ x' ∈ es'.toList, x'.key = en c ∧ x'.val = val := by
      have h1 : ((kl, .held val) : Lit × DataW Value) ∈ (es'.toList.map (rg P k Rh)).foldr DataW.insert [] := by
        rw [hput]
        unfold putKey
        exact ChangeMaps.mem_insert_iff.2 (.inl rfl)
      obtain ⟨x', hx', he'⟩ := List.mem_map.1 ((WideShapes.sorted_perm _).mem_iff.1 h1)
      obtain ⟨y', hy'⟩ := F'.reads x' hx'
      have hk' := rd_key hy'
      rw [rd_h hk'] at he'
      simp only [Prod.mk.injEq, DataW.held.injEq] at he'
      refine ⟨x', hx', ?_, he'.2⟩
      rw [he'.1] at hk'
      exact K.inj hk' hkey
    have once : ∀ x ∈ es'.toList, ∀ x' ∈ es'.toList, x.key = x'.key → x.val = x'.val := by
      intro x hx x' hx' hxx
      have hn := ((stamped_iff es' clock').1 F'.stamped).2.2
      apply Classical.byContradiction
      intro hv
      have hne : x ≠ x' := fun e => hv (by rw [e])
      have := List.pairwise_iff_getElem.1 hn
      obtain ⟨i, hi, rfl⟩ := List.getElem_of_mem hx
      obtain ⟨j, hj, rfl⟩ := List.getElem_of_mem hx'
      rcases Nat.lt_trichotomy i j with h | h | h
      · exact this i j hi hj h hxx
      · subst h; exact hne rfl
      · exact this j i hj hi h hxx.symm
    by_cases hc : c' = c
    · subst hc
      show (if c' = c' then some val else g c') = some v ↔ _
      rw [if_pos rfl]
      obtain ⟨x', h1, h2, h3⟩ := new
      constructor
      · intro h
        cases h
        exact ⟨x', h1, h2, h3⟩
      · rintro ⟨x, hx, hxe, rfl⟩
        rw [once x hx x' h1 (hxe.trans h2.symm), h3]
    · show (if c' = c then some val else g c') = some v ↔ _
      rw [if_neg hc, hg]
      constructor
      · rintro ⟨x, hx, hxe, rfl⟩
        obtain ⟨x', h1, h2, h3⟩ := back x hx (fun e => hc (hen _ _ (hxe.symm.trans e)))
        exact ⟨x', h1, h2.trans hxe, h3⟩
      · rintro ⟨x, hx, hxe, rfl⟩
        rcases hmem x hx with ⟨h1, _⟩ | ⟨h1, _⟩
        · exact ⟨x, h1, hxe, rfl⟩
        · exact absurd (hen _ _ (hxe.symm.trans h1)) hc
/-- 'm[k] = v' at the operation -/
theorem wpList_put {ops : Array Oper} {rest : List Oper} {o : Oper} {a : Act} {Q : Exit → Act → World → Prop} (hgd : o.guard = none) (m x v : Operand) (t : TypeId) (hop : o.op = Op.mapUpdate t m x v)
    (K : Keyed P k) (hen : ∀ c c', en c = en c' → c = c') (ht : P.underlying t = some (.map k e)) (hm : a.eval m = .map (some b)) (h : MapK P k en w b n g) (hn : n < maxLen) (c : κ) (kl : Lit) (hx : a.eval x = en c) (hkey : keyOf P k (en c) = some kl)
    (hK : ∀ w', MapK P k en w' b (n + 1) (fun c' => if c' = c then some (a.eval v) else g c') → w.grownBy w' (some b) → wpList P ops Q rest (a.put o.dst undef) w') : wpList P ops Q (o :: rest) a w := by
  refine wpList_plain hgd fun K' hK' => ?_
  obtain ⟨w', hrun, r1, r2⟩ := h.store (val := a.eval v) K hen ht hn hkey
  unfold Oper.wp
  simp [execOp, hop, hm, hx, hrun, Result.andThen]
  exact hK' _ _ (hK w' r1 r2)
end

end Go.Proofs.YtdpcjafkahhecaaGreatDoor

/- Plain facts on a heap of stops. -/
namespace Go.Proofs.YtdpcjafkahhecaaGreatDoor
set_option linter.unusedSimpArgs false
set_option linter.unusedVariables false

def el (l : List Stp) (i : Nat) : Stp := l.getD i (⟨#[]⟩, 0)
def key (l : List Stp) (i : Nat) : Nat := (el l i).2
/-- the first n are a heap -/
def HeapB (l : List Stp) (n : Nat) : Prop := ∀ i, 0 < i → i < n → key l ((i - 1) / 2) ≤ key l i
def UpX (l : List Stp) (j : Nat) : Prop :=
  (∀ i, 0 < i → i < l.length → i ≠ j → key l ((i - 1) / 2) ≤ key l i) ∧ (∀ i, 0 < i → i < l.length → (i - 1) / 2 = j → 0 < j → key l ((j - 1) / 2) ≤ key l i)
theorem UpX.done {l : List Stp} {j : Nat} (h : UpX l j) (hj : j = 0 ∨ key l ((j - 1) / 2) ≤ key l j) : HeapB l l.length := by
  intro i h0 hi
  by_cases e : i = j
  · subst e
    rcases hj with h | h
    · omega
    · exact h
  · exact h.1 i h0 hi e
def DownX (l : List Stp) (n i : Nat) : Prop :=
  (∀ k, 0 < k → k < n → (k - 1) / 2 ≠ i → key l ((k - 1) / 2) ≤ key l k) ∧ (∀ k, 0 < k → k < n → (k - 1) / 2 = i → 0 < i → key l ((i - 1) / 2) ≤ key l k)
theorem DownX.done {l : List Stp} {n i : Nat} (h : DownX l n i) (hc : ∀ k, 0 < k → k < n → (k - 1) / 2 = i → key l i ≤ key l k) : HeapB l n := by
  intro k h0 hk
  by_cases e : (k - 1) / 2 = i
  · rw [e]
    exact hc k h0 hk e
  · exact h.1 k h0 hk e
theorem HeapB.min {l : List Stp} {n : Nat} (h : HeapB l n) : ∀ k, k < n → key l 0 ≤ key l k := by
  intro k
  induction k using Nat.strongRecOn with
  | ind k ih =>
    intro hk
    by_cases e : k = 0
    · subst e; exact Nat.le_refl _
    · exact Nat.le_trans (ih ((k - 1) / 2) (by omega) (by omega)) (h k (by omega) hk)
end Go.Proofs.YtdpcjafkahhecaaGreatDoor

/- Walks of the queue's methods. -/
namespace Go.Proofs.YtdpcjafkahhecaaGreatDoor
open Go.RowKit Go.Shelf
set_option linter.unusedSimpArgs false
set_option linter.unusedVariables false

/-- of the blocks that are there, none has turned but those of which X holds -/
structure But (w w' : World) (X : Nat → Prop) : Prop where
  os : w'.os = w.os
  tape : w'.tape = w.tape
  output : w'.output = w.output
  size : w.heap.size ≤ w'.heap.size
  block : ∀ k, k < w.heap.size → ¬ X k → w'.heap[k]? = w.heap[k]?
theorem But.refl (w : World) (X : Nat → Prop) : But w w X := ⟨rfl, rfl, rfl, Nat.le_refl _, fun _ _ _ => rfl⟩
theorem But.trans {w w' w'' : World} {X Y : Nat → Prop} (h : But w w' X) (h' : But w' w'' Y) (hx : ∀ k, k < w.heap.size → Y k → X k) : But w w'' X :=
  ⟨h'.os.trans h.os, h'.tape.trans h.tape, h'.output.trans h.output, Nat.le_trans h.size h'.size, fun k hk hn => (h'.block k (Nat.lt_of_lt_of_le hk h.size) fun hy => hn (hx k hk hy)).trans (h.block k hk hn)⟩
theorem But.of_below {w w' : World} {X : Nat → Prop} (h : Below w.heap.size w w') : But w w' X := ⟨h.os, h.tape, h.output, h.size, fun k hk _ => h.block k hk⟩
theorem But.below {w w' : World} {X : Nat → Prop} (h : But w w' X) {B : Nat} (hB : B ≤ w.heap.size) (hx : ∀ k, k < B → ¬ X k) : Below B w w' := ⟨h.os, h.tape, h.output, h.size, fun k hk => h.block k (Nat.lt_of_lt_of_le hk hB) (hx k hk)⟩
theorem But.setCell (w : World) (r j : Nat) (v : Value) : But w (w.setCell ⟨r, j, none⟩ v) (fun k => k = r) := by
  refine ⟨?_, ?_, ?_, ?_, fun k _ hk => heap_setCell_other w _ k v hk⟩ <;> simp [World.setCell] <;> (try split) <;> simp
end Go.Proofs.YtdpcjafkahhecaaGreatDoor

/- Rows of a call's own, whatever their elements are: a kit for append, for reading and for what a call has changed. -/
namespace Go.Proofs.YtdpcjafkahhecaaGreatDoor
open Go.RowKit Go.Shelf
set_option linter.unusedSimpArgs false
set_option linter.unusedVariables false

section
variable {α : Type} {enc : α → List Value}
def cellsR (enc : α → List Value) (l : List α) : List Value := l.flatMap enc
theorem cellsR_len {sz : Nat} (h : ∀ x, (enc x).length = sz) (l : List α) : (cellsR enc l).length = l.length * sz := by
  induction l with
  | nil => simp [cellsR]
  | cons x r ih =>
    simp only [cellsR, List.flatMap_cons, List.length_append, List.length_cons, h] at ih ⊢
    rw [ih, Nat.add_mul]; omega
theorem cellsR_app (l m : List α) : cellsR enc (l ++ m) = cellsR enc l ++ cellsR enc m := by simp [cellsR]
theorem cellsR_one (x : α) : cellsR enc [x] = enc x := by simp [cellsR]
theorem cellsR_at {sz : Nat} (h : ∀ x, (enc x).length = sz) : ∀ (l : List α) (i j : Nat) (x : α) (u : Value), l[i]? = some x → (enc x)[j]? = some u → (cellsR enc l)[i * sz + j]? = some u
  | [], i, j, x, u, hi, _ => by simp at hi
  | y :: r, 0, j, x, u, hi, hu => by
    simp at hi
    subst hi
    have hj : j < (enc y).length := (List.getElem?_eq_some_iff.1 hu).1
    simp only [cellsR, List.flatMap_cons, Nat.zero_mul, Nat.zero_add]
    rw [List.getElem?_append_left hj]
    exact hu
  | y :: r, i + 1, j, x, u, hi, hu => by
    have ih := cellsR_at h r i j x u (by simpa using hi) hu
    have e : (i + 1) * sz + j = (enc y).length + (i * sz + j) := by rw [h, Nat.add_mul]; omega
    simp only [cellsR, List.flatMap_cons] at ih ⊢
    rw [e, List.getElem?_append_right (by omega), Nat.add_sub_cancel_left]
    exact ih
/-- what a row's type must be -/
structure RT (P : Program) (t e : TypeId) (sz : Nat) (enc : α → List Value) : Prop where
  ht : P.underlying t = some (.slice e)
  info : ∃ z bytes, (P.info? e).map (fun i => (i.zero, i.size, i.bytes)) = some (some z, sz, bytes) ∧ z.cells.size = sz ∧ bytes ≤ 1000
  len : ∀ x, (enc x).length = sz
  one : ∀ x, ∀ u ∈ enc x, u.oneCell' = true
  pos : 0 < sz
/-- a row of the call's own -/
structure ROwn (e : TypeId) (sz : Nat) (enc : α → List Value) (B : Nat) (w : World) (v : Value) (l : List α) : Prop where
  own : w.ownsRow B e sz v l.length (cellsR enc l)
  base : B ≤ w.heap.size
/-- the slice value v holds the elements l -/
def RowL (sz : Nat) (enc : α → List Value) (w : World) (v : Value) (l : List α) : Prop :=
  ∃ A c, v = .slice A l.length c ∧ (l = [] ∨ ∃ b o, A = some ⟨b, o, none⟩ ∧ b < w.heap.size ∧ ∀ i x j u, l[i]? = some x → (enc x)[j]? = some u → w.cell? ⟨b, o + i * sz + j, none⟩ = some u)
variable {e : TypeId} {sz B : Nat} {w w' : World} {v : Value} {l : List α}
theorem ROwn.nil (hB : B ≤ w.heap.size) : ROwn e sz enc B w (.slice none 0 0) [] := ⟨World.ownsRow_nil _ _ _ _, hB⟩
theorem ROwn.more (h : ROwn e sz enc B w v l) (hb : Below w.heap.size w w') : ROwn e sz enc B w' v l := ⟨own_more h.own hb, Nat.le_trans h.base hb.size⟩
theorem ROwn.alloc (h : ROwn e sz enc B w v l) (o : Obj) : ROwn e sz enc B (w.alloc o) v l := h.more (bel_alloc w o)
theorem RowL.more (h : RowL sz enc w v l) (hb : Below w.heap.size w w') : RowL sz enc w' v l := by
  obtain ⟨A, c, rfl, h⟩ := h
  refine ⟨A, c, rfl, ?_⟩
  rcases h with h | ⟨b, o, rfl, hlt, hc⟩
  · exact .inl h
  · exact .inr ⟨b, o, rfl, Nat.lt_of_lt_of_le hlt hb.size, fun i x j u hi hu => (hb.cell (p := ⟨b, o + i * sz + j, none⟩) hlt).trans (hc i x j u hi hu)⟩
theorem ROwn.rowL (h : ROwn e sz enc B w v l) (hlen : ∀ x, (enc x).length = sz) : RowL sz enc w v l := by
  cases l with
  | nil =>
    rcases h.own.2 with ⟨rfl, _⟩ | ⟨g, cap, cur, rfl, _⟩
    · exact ⟨none, 0, rfl, .inl rfl⟩
    · exact ⟨_, cap, rfl, .inl rfl⟩
  | cons x r =>
    obtain ⟨g, cap, rfl, _, hlt⟩ := h.own.form (by simp)
    have hadd : ∀ j, (⟨g, 0, none⟩ : Addr).add j = ⟨g, 0 + j, none⟩ := fun j => by unfold Addr.add; split <;> simp_all
    refine ⟨_, cap, rfl, .inr ⟨g, 0, rfl, hlt, fun i y j u hi hu => ?_⟩⟩
    have h0 := h.own.cells (g := g) rfl _ _ (cellsR_at hlen _ i j y u hi hu)
    rw [hadd] at h0
    rw [Nat.add_assoc]
    exact h0
/-- an element of a row -/
theorem RowL.at (h : RowL sz enc w v l) {A : Option Addr} {n c : Nat} (hv : v = .slice A n c) {k : Nat} (hk : k < l.length) : ∃ b o, A = some ⟨b, o, none⟩ ∧ b < w.heap.size ∧ ∀ j u, (enc l[k])[j]? = some u → w.cell? ⟨b, o + k * sz + j, none⟩ = some u := by
  obtain ⟨A', c', rfl, h⟩ := h
  simp only [Value.slice.injEq] at hv
  obtain ⟨rfl, rfl, rfl⟩ := hv
  rcases h with h | ⟨b, o, rfl, hlt, hc⟩
  · rw [h] at hk; simp at hk
  · exact ⟨b, o, rfl, hlt, fun j u hu => hc k _ j u (List.getElem?_eq_getElem hk) hu⟩
/-- a row literal -/
theorem RowL.new (w : World) (l : List α) (e : TypeId) (hlen : ∀ x, (enc x).length = sz) {cs : Array Value} (hcs : cs = (cellsR enc l).toArray) (c : Nat) : RowL sz enc (w.alloc (.cells cs e)) (.slice (some ⟨w.heap.size, 0, none⟩) l.length c) l := by
  subst hcs
  refine ⟨_, c, rfl, .inr ⟨w.heap.size, 0, rfl, by simp, fun i x j u hi hu => ?_⟩⟩
  rw [cells_new, List.getElem?_toArray, Nat.zero_add]
  exact cellsR_at hlen l i j x u hi hu
theorem ROwn.new (h : B ≤ w.heap.size) (l : List α) (hlen : ∀ x, (enc x).length = sz) {cs : Array Value} (hcs : cs = (cellsR enc l).toArray) (hm : l.length ≤ 1000000) : ROwn e sz enc B (w.alloc (.cells cs e)) (.slice (some ⟨w.heap.size, 0, none⟩) l.length l.length) l := by
  subst hcs
  refine ⟨⟨cellsR_len hlen l, .inr ⟨w.heap.size, l.length, (cellsR enc l).toArray, rfl, h, heap_alloc_new w _, Nat.le_refl _, by unfold maxLen; omega, by simp [cellsR_len hlen], ?_⟩⟩, by simp; omega⟩
  rw [List.take_of_length_le (by simp [cellsR_len hlen])]

/-- what a step has changed: of the blocks that were there, v's own alone; and v' lies there, or in a new one -/
structure Chg (w w' : World) (v v' : Value) : Prop where
  but : But w w' (fun k => v.ownBlock = some k)
  own : ∀ g, v'.ownBlock = some g → v.ownBlock = some g ∨ w.heap.size ≤ g
theorem Chg.refl (w : World) (v : Value) : Chg w w v v := ⟨But.refl _ _, fun g h => .inl h⟩
theorem Chg.of_below {w w' : World} {v : Value} (h : Below w.heap.size w w') : Chg w w' v v := ⟨But.of_below h, fun g h => .inl h⟩
theorem Chg.trans {w w1 w2 : World} {v v1 v2 : Value} (h : Chg w w1 v v1) (h' : Chg w1 w2 v1 v2) : Chg w w2 v v2 where
  but := h.but.trans h'.but (fun k hk hv => by
    rcases h.own k hv with h1 | h1
    · exact h1
    · omega)
  own g hg := by
    rcases h'.own g hg with h1 | h1
    · exact h.own g h1
    · exact .inr (Nat.le_trans h.but.size h1)
theorem ROwn.low (h : ROwn e sz enc B w v l) {k : Nat} (hk : v.ownBlock = some k) : B ≤ k ∧ k < w.heap.size := h.own.lt k hk
theorem Chg.below {v' : Value} (h : Chg w w' v v') (hF : ROwn e sz enc B w v l) : Below B w w' :=
  h.but.below hF.base (fun k hk hv => by have := (hF.low hv).1; omega)
theorem Chg.cell {w w' : World} {v v' : Value} (h : Chg w w' v v') {a : Addr} {x : Value} (hc : w.cell? a = some x) (hne : v.ownBlock ≠ some a.block) : w'.cell? a = some x :=
  (World.cell?_of_block (h.but.block a.block (World.block_lt_of_cell? _ _ hc) hne)).trans hc
theorem ROwn.app {P : Program} {t : TypeId} (T : RT P t e sz enc) {g cap' : Nat} {W w1 : World} {m : List α} (h : ROwn e sz enc B w v l) (hW : Below w.heap.size w W) {n : Nat} (hn : n = l.length + m.length)
    (hown : w1.ownsRow B e sz (.slice (some ⟨g, 0, none⟩) n cap') n (cellsR enc l ++ cellsR enc m)) (hgrow : W.grownBy w1 v.ownBlock) (hloc : v.ownBlock = some g ∨ g = W.heap.size) :
    ROwn e sz enc B w1 (.slice (some ⟨g, 0, none⟩) n cap') (l ++ m) ∧ Chg w w1 v (.slice (some ⟨g, 0, none⟩) n cap') := by
  have hs := hW.size
  refine ⟨⟨by rw [cellsR_app, List.length_append, ← hn]; exact hown, Nat.le_trans h.base (Nat.le_trans hs hgrow.size)⟩, ⟨⟨hgrow.os.trans hW.os, hgrow.tape.trans hW.tape, hgrow.output.trans hW.output, Nat.le_trans hs hgrow.size, fun k hk hn => (hgrow.block k (Nat.lt_of_lt_of_le hk hs) (fun e => hn e.symm)).trans (hW.block k hk)⟩, fun k hk => ?_⟩⟩
  have e : k = g := by
    have : (Value.slice (some ⟨g, 0, none⟩) n cap').ownBlock = some g := rfl
    rw [this] at hk
    exact (Option.some.inj hk).symm
  subst e
  rcases hloc with h1 | h1
  · exact .inl h1
  · exact .inr (by omega)
section
variable {P : Program} {t : TypeId}
/-- 'append(v, x)' in a plain region; w0: the world in which the row stood, before x was laid beside it -/
theorem wpList_rapp (T : RT P t e sz enc) {w0 : World} {ops : Array Oper} {rest : List Oper} {o : Oper} {a : Act} {Q : Exit → Act → World → Prop} (hgd : o.guard = none) (s x : Operand)
    (ho : o.op = .call { callee := .builtin .append, args := #[s, x], argTypes := #[t, t] }) (h0 : ROwn e sz enc B w0 v l) (hs : a.eval s = v) (hW : Below w0.heap.size w0 w)
    (b : Nat) (new : α) (c : Nat) (hx : a.eval x = .slice (some ⟨b, 0, none⟩) 1 c) {cs : Array Value} (hcs : cs = (enc new).toArray) (hb : w.heap[b]? = some (.cells cs e (0, 0)))
    (hlim : l.length ≤ 100000000)
    (h : ∀ v' w', ROwn e sz enc B w' v' (l ++ [new]) → Chg w0 w' v v' → wpList P ops Q rest (a.put o.dst v') w') : wpList P ops Q (o :: rest) a w := by
  obtain ⟨z, bytes, hinfo, hzc, hby⟩ := T.info
  obtain ⟨i, hi, hz, hz1, hz2⟩ := info_parts hinfo
  subst hcs
  refine wpList_append_lies w hgd s x t ho B e i z sz bytes T.ht hi hz hz1 hz2 hzc T.pos v l.length (cellsR enc l) hs (h0.more hW).own ⟨b, 0, none⟩ 1 c (cellsR enc [new]) hx
    (by rw [cellsR_one, T.len]; omega) (by rw [cellsR_one]; exact World.news_of_block hb) (by rw [cellsR_one]; exact T.one new) (by omega) (by unfold maxLen; omega) ?_ (h0.more hW).base w.heap.size rfl ?_
  · have : (l.length + 1) * bytes ≤ (l.length + 1) * 1000 := Nat.mul_le_mul_left _ hby
    omega
  · intro g cap w' hown hgrow hloc _
    obtain ⟨r1, r2⟩ := h0.app T hW (m := [new]) rfl hown hgrow hloc
    exact h _ _ r1 r2
/-- the same at a step of a region that draws its order -/
theorem step_rapp (T : RT P t e sz enc) {w0 : World} {ops : Array Oper} {o : Oper} {a : Act} {K : Act → World → Prop} {Q : Exit → Act → World → Prop} {E : Prop} (hgd : o.guard = none) (s x : Operand)
    (ho : o.op = .call { callee := .builtin .append, args := #[s, x], argTypes := #[t, t] }) (h0 : ROwn e sz enc B w0 v l) (hs : a.eval s = v) (hW : Below w0.heap.size w0 w)
    (b : Nat) (new : α) (c : Nat) (hx : a.eval x = .slice (some ⟨b, 0, none⟩) 1 c) {cs : Array Value} (hcs : cs = (enc new).toArray) (hb : w.heap[b]? = some (.cells cs e (0, 0)))
    (hlim : l.length ≤ 100000000)
    (h : ∀ v' w', ROwn e sz enc B w' v' (l ++ [new]) → Chg w0 w' v v' → K (a.put o.dst v') w') : if Region.wanted o (yielded ops a.tmps) = true then Oper.wp P o a w K Q else E := by
  obtain ⟨z, bytes, hinfo, hzc, hby⟩ := T.info
  obtain ⟨i, hi, hz, hz1, hz2⟩ := info_parts hinfo
  subst hcs
  refine step_append_lies w hgd s x t ho B e i z sz bytes T.ht hi hz hz1 hz2 hzc T.pos v l.length (cellsR enc l) hs (h0.more hW).own ⟨b, 0, none⟩ 1 c (cellsR enc [new]) hx
    (by rw [cellsR_one, T.len]; omega) (by rw [cellsR_one]; exact World.news_of_block hb) (by rw [cellsR_one]; exact T.one new) (by omega) (by unfold maxLen; omega) ?_ (h0.more hW).base w.heap.size rfl ?_
  · have : (l.length + 1) * bytes ≤ (l.length + 1) * 1000 := Nat.mul_le_mul_left _ hby
    omega
  · intro g cap w' hown hgrow hloc _
    obtain ⟨r1, r2⟩ := h0.app T hW (m := [new]) rfl hown hgrow hloc
    exact h _ _ r1 r2
theorem news_of_row {w : World} {b o : Nat} {m : List α} (hlen : ∀ x, (enc x).length = sz) (hpos : 0 < sz) (hc : ∀ i x j u, m[i]? = some x → (enc x)[j]? = some u → w.cell? ⟨b, o + i * sz + j, none⟩ = some u) :
    ∀ j u, (cellsR enc m)[j]? = some u → w.cell? ((⟨b, o, none⟩ : Addr).add j) = some u := by
  intro j u hu
  have hadd : (⟨b, o, none⟩ : Addr).add j = ⟨b, o + j, none⟩ := by unfold Addr.add; split <;> simp_all
  rw [hadd]
  have hj : j < (cellsR enc m).length := (List.getElem?_eq_some_iff.1 hu).1
  rw [cellsR_len hlen] at hj
  have hi : j / sz < m.length := Nat.div_lt_of_lt_mul (by rw [Nat.mul_comm]; exact hj)
  have hm : j % sz < sz := Nat.mod_lt _ hpos
  have hd : (j / sz) * sz + j % sz = j := by rw [Nat.mul_comm]; exact Nat.div_add_mod j sz
  have hg := cellsR_at hlen m (j / sz) (j % sz) m[j / sz] ((enc m[j / sz])[j % sz]'(by rw [hlen]; exact hm)) (List.getElem?_eq_getElem hi) (List.getElem?_eq_getElem _)
  rw [hd, hu] at hg
  have := hc (j / sz) m[j / sz] (j % sz) _ (List.getElem?_eq_getElem hi) (List.getElem?_eq_getElem (by rw [hlen]; exact hm))
  rw [Nat.add_assoc, hd] at this
  rw [this, hg]
/-- 'append(v, x...)' at the operation, x not empty -/
theorem wpList_rapps (T : RT P t e sz enc) {ops : Array Oper} {rest : List Oper} {o : Oper} {a : Act} {Q : Exit → Act → World → Prop} (hgd : o.guard = none) (s x : Operand)
    (ho : o.op = .call { callee := .builtin .append, args := #[s, x], argTypes := #[t, t] }) (h0 : ROwn e sz enc B w v l) (hs : a.eval s = v)
    (b off : Nat) (m : List α) (n c : Nat) (hx : a.eval x = .slice (some ⟨b, off, none⟩) n c) (hn : n = m.length) (hm : 0 < n) (hc : ∀ i x j u, m[i]? = some x → (enc x)[j]? = some u → w.cell? ⟨b, off + i * sz + j, none⟩ = some u)
    (hlim : l.length + m.length ≤ 100000000)
    (h : ∀ v' w', ROwn e sz enc B w' v' (l ++ m) → Chg w w' v v' → wpList P ops Q rest (a.put o.dst v') w') : wpList P ops Q (o :: rest) a w := by
  obtain ⟨z, bytes, hinfo, hzc, hby⟩ := T.info
  obtain ⟨i, hi, hz, hz1, hz2⟩ := info_parts hinfo
  refine wpList_append_lies w hgd s x t ho B e i z sz bytes T.ht hi hz hz1 hz2 hzc T.pos v l.length (cellsR enc l) hs h0.own ⟨b, off, none⟩ n c (cellsR enc m) hx
    (by rw [cellsR_len T.len, hn]) (news_of_row T.len T.pos hc) ?_ hm (by unfold maxLen; omega) ?_ h0.base w.heap.size rfl ?_
  · intro u hu
    obtain ⟨y, _, hy⟩ := List.mem_flatMap.1 hu
    exact T.one y u hy
  · have : (l.length + n) * bytes ≤ (l.length + n) * 1000 := Nat.mul_le_mul_left _ hby
    omega
  · intro g cap w' hown hgrow hloc _
    obtain ⟨r1, r2⟩ := h0.app T (Below.refl _ _) (m := m) (by rw [hn]) hown hgrow hloc
    exact h _ _ r1 r2
end
end
end Go.Proofs.YtdpcjafkahhecaaGreatDoor

/- 'append(v, x...)' for rows of a call's own, whatever x holds. -/
namespace Go.Proofs.YtdpcjafkahhecaaGreatDoor
open Go.RowKit Go.Shelf
set_option linter.unusedSimpArgs false
set_option linter.unusedVariables false

section
variable {α : Type} {enc : α → List Value} {e : TypeId} {sz B : Nat} {w w' : World} {v : Value} {l : List α} {P : Program} {t : TypeId}
theorem run_app0 (T : RT P t e sz enc) (ty : TypeId) (h : ROwn e sz enc B w v l) (A : Option Addr) (c : Nat) : (Builtin.append_ #[t, t] ty #[v, .slice A 0 c]).run P w = .ok v w := by
  obtain ⟨z, bytes, hinfo, hzc, hby⟩ := T.info
  obtain ⟨i, hi, hz, hz1, hz2⟩ := info_parts hinfo
  have ht := T.ht
  rcases h.own.2 with ⟨rfl, h1⟩ | ⟨g, cap, cur, rfl, _, _, hnc, _⟩
  · cases A <;> simp [Builtin.append_, run_underlying ht, sizeOf, typeInfo, hi, Builtin.lenOf, Builtin.firstCells, h1, loadCells, loadCellsFrom]
  · cases A <;> simp [Builtin.append_, run_underlying ht, sizeOf, typeInfo, hi, Builtin.lenOf, Builtin.firstCells, hnc, storeCells, loadCells, loadCellsFrom]
theorem wp_rappl (T : RT P t e sz enc) {o : Oper} {a : Act} {K : Act → World → Prop} {Q : Exit → Act → World → Prop} (s x : Operand)
    (ho : o.op = .call { callee := .builtin .append, args := #[s, x], argTypes := #[t, t] }) (h0 : ROwn e sz enc B w v l) (hs : a.eval s = v) (m : List α) (u : Value) (hx : a.eval x = u) (hm : RowL sz enc w u m)
    (hlim : l.length + m.length ≤ 100000000)
    (h : ∀ v' w', ROwn e sz enc B w' v' (l ++ m) → Chg w w' v v' → K (a.put o.dst v') w') : o.wp P a w K Q := by
  obtain ⟨A, c, rfl, hm⟩ := hm
  rcases hm with rfl | ⟨b, off, rfl, hlt, hc⟩
  · have hr := run_app0 T o.type h0 A c
    have hx : a.eval x = .slice A 0 c := hx
    unfold Oper.wp execOp
    simp only [ho, resolve, invoke, builtin, Sem.run_bind, Sem.run_pure, Result.andThen_ok, List.map_toArray, List.map_cons, List.map_nil, hs, hx, hr]
    exact h v w (by rw [List.append_nil]; exact h0) (Chg.refl _ _)
  · rcases Nat.eq_zero_or_pos m.length with h1 | h1
    · have : m = [] := List.eq_nil_of_length_eq_zero h1
      subst this
      have hr := run_app0 T o.type h0 (some ⟨b, off, none⟩) c
      have hx : a.eval x = .slice (some ⟨b, off, none⟩) 0 c := hx
      unfold Oper.wp execOp
      simp only [ho, resolve, invoke, builtin, Sem.run_bind, Sem.run_pure, Result.andThen_ok, List.map_toArray, List.map_cons, List.map_nil, hs, hx, hr]
      exact h v w (by rw [List.append_nil]; exact h0) (Chg.refl _ _)
    · obtain ⟨z, bytes, hinfo, hzc, hby⟩ := T.info
      obtain ⟨i, hi, hz, hz1, hz2⟩ := info_parts hinfo
      refine wp_append_lies w s x t ho B e i z sz bytes T.ht hi hz hz1 hz2 hzc T.pos v l.length (cellsR enc l) hs h0.own ⟨b, off, none⟩ m.length c (cellsR enc m) hx
        (by rw [cellsR_len T.len]) (news_of_row T.len T.pos hc) ?_ h1 (by unfold maxLen; omega) ?_ h0.base w.heap.size rfl ?_
      · intro u hu
        obtain ⟨y, _, hy⟩ := List.mem_flatMap.1 hu
        exact T.one y u hy
      · have : (l.length + m.length) * bytes ≤ (l.length + m.length) * 1000 := Nat.mul_le_mul_left _ hby
        omega
      · intro g cap w' hown hgrow hloc _
        obtain ⟨r1, r2⟩ := h0.app T (Below.refl _ _) (m := m) rfl hown hgrow hloc
        exact h _ _ r1 r2
theorem wpList_rappl (T : RT P t e sz enc) {ops : Array Oper} {rest : List Oper} {o : Oper} {a : Act} {Q : Exit → Act → World → Prop} (hgd : o.guard = none) (s x : Operand)
    (ho : o.op = .call { callee := .builtin .append, args := #[s, x], argTypes := #[t, t] }) (h0 : ROwn e sz enc B w v l) (hs : a.eval s = v) (m : List α) (u : Value) (hx : a.eval x = u) (hm : RowL sz enc w u m)
    (hlim : l.length + m.length ≤ 100000000)
    (h : ∀ v' w', ROwn e sz enc B w' v' (l ++ m) → Chg w w' v v' → wpList P ops Q rest (a.put o.dst v') w') : wpList P ops Q (o :: rest) a w :=
  wpList_plain hgd fun _ hK => wp_rappl T s x ho h0 hs m u hx hm hlim fun v' w' h1 h2 => hK _ _ (h v' w' h1 h2)
end
end Go.Proofs.YtdpcjafkahhecaaGreatDoor

/- Walks of hasCodes and, where there is nothing to report, of report. -/
namespace Go.Proofs.YtdpcjafkahhecaaGreatDoor
open Go.RowKit Go.Shelf
set_option linter.unusedSimpArgs false
set_option linter.unusedVariables false

def codesB (a : Air) : Bool := capsB a.code 3 && capsB a.city 3 && capsB a.land 2
end Go.Proofs.YtdpcjafkahhecaaGreatDoor
