/- Words and walks that the laws below ask: Mem, CalP, CalA, CalQ, CalD, ZonP, ZonA, ZonB, PlaP, PlainB. -/
import Derived.WalkKit
import Derived.WalkSpells
import Derived.WalkLawsBesides
import Derived.Deep.AppendLies
import Derived.Lib.UnsafeStr
import Derived.Lib.BufferWrite
import Derived.Lib.AppendStr
import Derived.Lib.Hide
import Derived.Test.YtdpcjafkahhecaaGreatDoorRows
import Derived.OwnWalk
import Derived.Deep.WholeRow
import Derived.BigQuiet
import Derived.Deep.QuietTactic
import Derived.IntWalk
import Derived.Lib.AtoiAll
import Derived.Lib.ItoaNum
/- Words for memory that a call makes: a buffer of bytes that is appended to (over any program). -/
namespace Go.Proofs.YtdpcjafkahhecaaGreatDoor
open Go.RowKit
set_option linter.unusedSimpArgs false
set_option linter.unusedVariables false

theorem ret_bool {a b : Bool} (h : a = b) : Ending.returned (.bool a) = .returned (.bool b) := by rw [h]
theorem ret_int {k : IntKind} {a b : Int} (h : a = b) : Ending.returned (.int k a) = .returned (.int k b) := by rw [h]
theorem below_drewN {B : Nat} {a w : World} (h : Below B a w) (n : Nat) : Below B a (w.drewN n) := ⟨h.os, h.tape, h.output, h.size, h.block⟩

/-- the slice value v holds the bytes l, in a row of the call's own blocks (from B on); of the blocks below B nothing has turned since a -/
structure Buf (e : TypeId) (B : Nat) (a w : World) (v : Value) (l : List UInt8) : Prop where
  own : w.ownsRow B e 1 v l.length (Lib.byteCells l)
  bel : Below B a w
  base : B ≤ w.heap.size

theorem Buf.nil {e : TypeId} {B : Nat} {a w : World} (h : Below B a w) (hB : B ≤ w.heap.size) : Buf e B a w (.slice none 0 0) [] := ⟨World.ownsRow_nil _ _ _ _, h, hB⟩
theorem Buf.alloc {e : TypeId} {B : Nat} {a w : World} {v : Value} {l : List UInt8} (h : Buf e B a w v l) (o : Obj) : Buf e B a (w.alloc o) v l :=
  ⟨h.own.alloc o, h.bel.alloc h.base o, by have := h.base; simp; omega⟩
theorem Buf.drew {e : TypeId} {B : Nat} {a w : World} {v : Value} {l : List UInt8} (h : Buf e B a w v l) : Buf e B a w.drew v l := ⟨h.own, h.bel.drew, h.base⟩
theorem Buf.drewN {e : TypeId} {B : Nat} {a w : World} {v : Value} {l : List UInt8} (h : Buf e B a w v l) (n : Nat) : Buf e B a (w.drewN n) v l := ⟨h.own, below_drewN h.bel n, h.base⟩
/-- a buffer that holds something is not nil -/
theorem Buf.form {e : TypeId} {B : Nat} {a w : World} {v : Value} {l : List UInt8} (h : Buf e B a w v l) (hl : l ≠ []) : ∃ g cap, v = .slice (some ⟨g, 0, none⟩) l.length cap ∧ B ≤ g ∧ g < w.heap.size :=
  h.own.form (by cases l with
    | nil => exact absurd rfl hl
    | cons _ _ => simp)
theorem Buf.cells {e : TypeId} {B : Nat} {a w : World} {l : List UInt8} {g n cap : Nat} (h : Buf e B a w (.slice (some ⟨g, 0, none⟩) n cap) l) :
    ∀ j (hj : j < l.length), w.cell? ((⟨g, 0, none⟩ : Addr).add j) = some (.int .u8 (l[j].toNat : Int)) := fun j hj =>
  h.own.cells (g := g) rfl j _ (by simp [Lib.byteCells, hj])

section
variable {P : Program} {t e : TypeId}
end
/-- a slice literal of bytes -/
theorem Buf.new {e : TypeId} {B : Nat} {a w : World} (h : Below B a w) (hB : B ≤ w.heap.size) (l : List UInt8) {cs : Array Value} (hcs : cs = (Lib.byteCells l).toArray) {n : Nat} (hn : n = l.length) (hm : l.length ≤ 140737488355328) :
    Buf e B a (w.alloc (.cells cs e)) (.slice (some ⟨w.heap.size, 0, none⟩) n n) l := by
  subst hn hcs
  refine ⟨⟨by simp [Lib.byteCells], .inr ⟨w.heap.size, l.length, (Lib.byteCells l).toArray, rfl, hB, heap_alloc_new w _, Nat.le_refl _, by unfold maxLen; omega, by simp [Lib.byteCells], ?_⟩⟩, h.alloc hB _, by simp; omega⟩
  rw [List.take_of_length_le (by simp [Lib.byteCells])]
/-- a buffer stands while nothing that is there turns -/
theorem own_more {e : TypeId} {B size : Nat} {w w' : World} {v : Value} {n : Nat} {xs : List Value} (h : w.ownsRow B e size v n xs) (hb : Below w.heap.size w w') : w'.ownsRow B e size v n xs := by
  refine h.kept (row := none) ⟨hb.os, hb.tape, hb.output, hb.size, fun k hk _ => hb.block k hk⟩ ?_
  cases hv : v.ownBlock
  · exact .inl rfl
  · exact .inr (by simp)
theorem Buf.more {e : TypeId} {B : Nat} {a w w' : World} {v : Value} {l : List UInt8} (h : Buf e B a w v l) (hb : Below w.heap.size w w') : Buf e B a w' v l :=
  ⟨own_more h.own hb, h.bel.trans (hb.mono h.base), Nat.le_trans h.base hb.size⟩
/-- the slice value v holds the texts ss, in memory that lies in w -/
def StrL (w : World) (v : Value) (ss : List ByteArray) : Prop :=
  ∃ A c, v = .slice A ss.length c ∧ (ss = [] ∨ ∃ b o, A = some ⟨b, o, none⟩ ∧ b < w.heap.size ∧ ∀ i (h : i < ss.length), w.cell? ⟨b, o + i, none⟩ = some (.string ss[i]))
theorem StrL.more {w w' : World} {v : Value} {ss : List ByteArray} (h : StrL w v ss) (hb : Below w.heap.size w w') : StrL w' v ss := by
  obtain ⟨A, c, rfl, h⟩ := h
  refine ⟨A, c, rfl, ?_⟩
  rcases h with h | ⟨b, o, rfl, hlt, hc⟩
  · exact .inl h
  · exact .inr ⟨b, o, rfl, Nat.lt_of_lt_of_le hlt hb.size, fun i hi => (hb.cell (p := ⟨b, o + i, none⟩) hlt).trans (hc i hi)⟩
theorem StrL.alloc {w : World} {v : Value} {ss : List ByteArray} (h : StrL w v ss) (o : Obj) : StrL (w.alloc o) v ss := h.more ((Below.refl _ _).alloc (Nat.le_refl _) _)
structure SOwn (e : TypeId) (B : Nat) (w : World) (v : Value) (ss : List ByteArray) : Prop where
  own : w.ownsRow B e 1 v ss.length (ss.map .string)
  base : B ≤ w.heap.size
theorem SOwn.nil {e : TypeId} {B : Nat} {w : World} (hB : B ≤ w.heap.size) : SOwn e B w (.slice none 0 0) [] := ⟨World.ownsRow_nil _ _ _ _, hB⟩
theorem SOwn.more {e : TypeId} {B : Nat} {w w' : World} {v : Value} {ss : List ByteArray} (h : SOwn e B w v ss) (hb : Below w.heap.size w w') : SOwn e B w' v ss :=
  ⟨own_more h.own hb, Nat.le_trans h.base hb.size⟩
theorem SOwn.alloc {e : TypeId} {B : Nat} {w : World} {v : Value} {ss : List ByteArray} (h : SOwn e B w v ss) (o : Obj) : SOwn e B (w.alloc o) v ss := h.more ((Below.refl _ _).alloc (Nat.le_refl _) _)
theorem own_below' {e : TypeId} {size B : Nat} {w : World} {v : Value} {n : Nat} {xs : List Value} (h : w.ownsRow B e size v n xs) : ∀ k, v.ownBlock = some k → B ≤ k := fun k hk => (h.lt k hk).1
section
variable {P : Program} {t e : TypeId}
end
section
variable {P : Program} {t e d : TypeId}
end
end Go.Proofs.YtdpcjafkahhecaaGreatDoor

/- Plain facts on days and dates: integers alone; nothing of the program. -/
namespace Go.Proofs.YtdpcjafkahhecaaGreatDoor

/-- the days of a month, before a year, before a month of a year -/
def lenP (y m : Int) : Int := if m = 4 ∨ m = 6 ∨ m = 9 ∨ m = 11 then 30 else if m = 2 then (if y % 4 = 0 then 29 else 28) else 31
def ysP (y : Int) : Int := (1461 * (y - 2000) + 3) / 4
def lp (y : Int) : Int := if y % 4 = 0 then 1 else 0
def befP (y m : Int) : Int := if m ≤ 1 then 0 else if m = 2 then 31 else (153 * (m - 3) + 2) / 5 + 59 + lp y
theorem lp_two (y : Int) : lp y = 0 ∨ lp y = 1 := by unfold lp; split <;> simp
theorem len_lp (y m : Int) : lenP y m = if m = 4 ∨ m = 6 ∨ m = 9 ∨ m = 11 then 30 else if m = 2 then 28 + lp y else 31 := by
  unfold lenP lp; split
  · rfl
  · split
    · split <;> rfl
    · rfl
theorem len_range (y m : Int) : 28 ≤ lenP y m ∧ lenP y m ≤ 31 := by
  rw [len_lp]; have := lp_two y
  split
  · omega
  · split <;> omega
theorem bef_one (y : Int) : befP y 1 = 0 := by simp [befP]
theorem bef_next (y m : Int) (h1 : 1 ≤ m) (h2 : m ≤ 12) : befP y (m + 1) = befP y m + lenP y m := by
  have h : m = 1 ∨ m = 2 ∨ m = 3 ∨ m = 4 ∨ m = 5 ∨ m = 6 ∨ m = 7 ∨ m = 8 ∨ m = 9 ∨ m = 10 ∨ m = 11 ∨ m = 12 := by omega
  rw [len_lp]
  rcases h with rfl | rfl | rfl | rfl | rfl | rfl | rfl | rfl | rfl | rfl | rfl | rfl <;> simp [befP] <;> omega
theorem bef_all (y : Int) : befP y 13 = 365 + lp y := by
  have e : befP y 13 = (153 * (13 - 3) + 2) / 5 + 59 + lp y := by simp [befP]
  rw [e]; omega
theorem ys_next (y : Int) : ysP (y + 1) = ysP y + befP y 13 := by
  rw [bef_all]
  have h : y % 4 = 0 ∨ y % 4 = 1 ∨ y % 4 = 2 ∨ y % 4 = 3 := by omega
  unfold ysP lp
  rcases h with h | h | h | h <;> simp only [h] <;> simp <;> omega
theorem ys_first : ysP 2000 = 0 := by decide
theorem ys_last : ysP 2100 = 36525 := by decide
theorem ys_mono (y z : Int) (h : y ≤ z) : ysP y ≤ ysP z := by unfold ysP; omega
theorem bef_mono (y m k : Int) (h1 : 1 ≤ m) (h2 : m ≤ k) (h3 : k ≤ 13) : befP y m ≤ befP y k := by
  have := lp_two y
  unfold befP
  split <;> split <;> (try split) <;> (try split) <;> omega
theorem bef_lt (y m k : Int) (h1 : 1 ≤ m) (h2 : m < k) (h3 : k ≤ 13) : befP y m + lenP y m ≤ befP y k := by
  rw [← bef_next y m h1 (by omega)]
  exact bef_mono y _ _ (by omega) (by omega) h3

/-- a date that there is; its day; the day of a date or the error -/
def okP (y m d : Int) : Bool := decide (2000 ≤ y ∧ y ≤ 2099 ∧ 1 ≤ m ∧ m ≤ 12 ∧ 1 ≤ d ∧ d ≤ lenP y m)
def numP (y m d : Int) : Int := ysP y + befP y m + d - 1
theorem ok_yes {y m d : Int} (h : okP y m d = true) : 2000 ≤ y ∧ y ≤ 2099 ∧ 1 ≤ m ∧ m ≤ 12 ∧ 1 ≤ d ∧ d ≤ lenP y m := by simpa [okP] using h
theorem ok_mk {y m d : Int} (h : 2000 ≤ y ∧ y ≤ 2099 ∧ 1 ≤ m ∧ m ≤ 12 ∧ 1 ≤ d ∧ d ≤ lenP y m) : okP y m d = true := by simpa [okP] using h
/-- where a date's day lies: in its year, in its month -/
theorem num_in {y m d : Int} (h : okP y m d = true) : ysP y ≤ numP y m d ∧ numP y m d < ysP (y + 1) ∧ befP y m ≤ numP y m d - ysP y ∧ numP y m d - ysP y < befP y m + lenP y m ∧ 0 ≤ numP y m d ∧ numP y m d < 36525 := by
  obtain ⟨h1, h2, h3, h4, h5, h6⟩ := ok_yes h
  have a := bef_lt y m 13 h3 (by omega) (by omega)
  have b := bef_mono y 1 m (by omega) h3 (by omega)
  rw [bef_one] at b
  have c := ys_next y
  have e := ys_mono 2000 y h1
  have f := ys_mono (y + 1) 2100 (by omega)
  rw [ys_first] at e
  rw [ys_last] at f
  unfold numP
  omega
theorem num_inj {y m d y' m' d' : Int} (h : okP y m d = true) (h' : okP y' m' d' = true) (he : numP y m d = numP y' m' d') : y = y' ∧ m = m' ∧ d = d' := by
  have a := num_in h
  have a' := num_in h'
  obtain ⟨h1, h2, h3, h4, h5, h6⟩ := ok_yes h
  obtain ⟨h1', h2', h3', h4', h5', h6'⟩ := ok_yes h'
  have ey : y = y' := by
    rcases Int.lt_trichotomy y y' with c | c | c
    · have := ys_mono (y + 1) y' (by omega); omega
    · exact c
    · have := ys_mono (y' + 1) y (by omega); omega
  subst ey
  have em : m = m' := by
    rcases Int.lt_trichotomy m m' with c | c | c
    · have := bef_lt y m m' h3 c (by omega); omega
    · exact c
    · have := bef_lt y m' m h3' c (by omega); omega
  subst em
  unfold numP at he
  exact ⟨rfl, rfl, by omega⟩
/-- the year, the month and the day of the month of a day -/
def yOf (n : Int) : Int := 2000 + 4 * n / 1461
def mOf (y r : Int) : Int := if r < befP y 2 then 1 else if r < befP y 3 then 2 else if r < befP y 4 then 3 else if r < befP y 5 then 4 else if r < befP y 6 then 5 else if r < befP y 7 then 6
  else if r < befP y 8 then 7 else if r < befP y 9 then 8 else if r < befP y 10 then 9 else if r < befP y 11 then 10 else if r < befP y 12 then 11 else 12
theorem yOf_in (n : Int) : ysP (yOf n) ≤ n ∧ n < ysP (yOf n + 1) := by unfold ysP yOf; omega
theorem mOf_in (y r : Int) (h0 : 0 ≤ r) (h1 : r < befP y 13) : 1 ≤ mOf y r ∧ mOf y r ≤ 12 ∧ befP y (mOf y r) ≤ r ∧ r < befP y (mOf y r + 1) := by
  unfold mOf
  repeat' split
  all_goals first | (refine ⟨by omega, by omega, ?_, ?_⟩ <;> simp [befP] at * <;> omega) | skip
def dateOf (n : Int) : Int × Int × Int := (yOf n, mOf (yOf n) (n - ysP (yOf n)), n - ysP (yOf n) - befP (yOf n) (mOf (yOf n) (n - ysP (yOf n))) + 1)
def isDayB (n : Int) : Bool := decide (0 ≤ n ∧ n < 36525)
def dateR (n : Int) : Int × Int × Int := if isDayB n then dateOf n else (0, 0, 0)
theorem date_ok (n : Int) (h0 : 0 ≤ n) (h1 : n < 36525) : okP (dateOf n).1 (dateOf n).2.1 (dateOf n).2.2 = true ∧ numP (dateOf n).1 (dateOf n).2.1 (dateOf n).2.2 = n := by
  have a := yOf_in n
  rw [ys_next] at a
  have b := mOf_in (yOf n) (n - ysP (yOf n)) (by omega) (by omega)
  have c := bef_next (yOf n) (mOf (yOf n) (n - ysP (yOf n))) b.1 b.2.1
  refine ⟨ok_mk ?_, ?_⟩
  · simp only [dateOf]
    have : 2000 ≤ yOf n ∧ yOf n ≤ 2099 := by unfold yOf; omega
    omega
  · simp only [dateOf, numP]; omega
theorem date_of {n y m d : Int} (h : okP y m d = true) (hn : numP y m d = n) : dateR n = (y, m, d) := by
  have a := num_in h
  have h0 : 0 ≤ n ∧ n < 36525 := by omega
  obtain ⟨h1, h2⟩ := date_ok n h0.1 h0.2
  obtain ⟨e1, e2, e3⟩ := num_inj h1 h (by rw [h2, hn])
  rw [dateR, if_pos (by simp [isDayB, h0])]
  exact Prod.ext e1 (Prod.ext e2 e3)
theorem date_in {n : Int} (h : isDayB n = true) : okP (dateR n).1 (dateR n).2.1 (dateR n).2.2 = true ∧ numP (dateR n).1 (dateR n).2.1 (dateR n).2.2 = n := by
  have h' : 0 ≤ n ∧ n < 36525 := by simpa [isDayB] using h
  rw [dateR, if_pos h]
  exact date_ok n h'.1 h'.2
theorem date_out {n : Int} (h : isDayB n = false) : dateR n = (0, 0, 0) := by simp [dateR, h]
end Go.Proofs.YtdpcjafkahhecaaGreatDoor

/- Walks of the small functions of package calendar, beside the reference's. -/
namespace Go.Proofs.YtdpcjafkahhecaaGreatDoor
open Go.RowKit
set_option linter.unusedSimpArgs false
set_option linter.unusedVariables false

theorem tmod_pos (a b : Int) (h : 0 ≤ a) : a.tmod b = a % b := Int.tmod_eq_emod_of_nonneg h

end Go.Proofs.YtdpcjafkahhecaaGreatDoor

/- Plain facts on digits, dates and times as text: lists of bytes alone; nothing of the program. -/
namespace Go.Proofs.YtdpcjafkahhecaaGreatDoor
set_option linter.unusedSimpArgs false
set_option linter.unusedVariables false

/-- two digits -/
def d1 (n : Int) : UInt8 := UInt8.ofNat (48 + n / 10).toNat
def d2 (n : Int) : UInt8 := UInt8.ofNat (48 + n % 10).toNat
def twoL (n : Int) : List UInt8 := [d1 n, d2 n]
theorem d1_nat (n : Int) (h0 : 0 ≤ n) (h1 : n ≤ 99) : ((d1 n).toNat : Int) = 48 + n / 10 := by
  rw [d1, UInt8.toNat_ofNat']; omega
theorem d2_nat (n : Int) (h0 : 0 ≤ n) (h1 : n ≤ 99) : ((d2 n).toNat : Int) = 48 + n % 10 := by
  rw [d2, UInt8.toNat_ofNat']; omega
/-- a day's date as text, a minute as text -/
def dateL (y m d : Int) : List UInt8 := twoL (y / 100) ++ twoL (y % 100) ++ [45] ++ twoL m ++ [45] ++ twoL d
def printL (n : Int) : List UInt8 := if isDayB n then dateL (dateR n).1 (dateR n).2.1 (dateR n).2.2 else []
end Go.Proofs.YtdpcjafkahhecaaGreatDoor

/- Walks of divide, Split, Weekday, of two digits, beside the reference's. -/
namespace Go.Proofs.YtdpcjafkahhecaaGreatDoor
open Go.RowKit
set_option linter.unusedSimpArgs false
set_option linter.unusedVariables false

/-- how the program's own division lies beside the floor -/
theorem tdiv_bounds (a b : Int) (hb : 2 ≤ b) (h0 : -9223372036854775808 ≤ a) (h1 : a ≤ 9223372036854775807) : -4611686018427387904 ≤ a.tdiv b ∧ a.tdiv b ≤ 4611686018427387904 := by
  have h := Int.natAbs_tdiv a b
  have h2 : a.natAbs / b.natAbs ≤ a.natAbs / 2 := Nat.div_le_div_left (by omega) (by omega)
  have h3 : (a.tdiv b).natAbs ≤ a.natAbs / 2 := by rw [h]; exact h2
  generalize a.tdiv b = q at h3
  omega
theorem tmod_bounds (a b : Int) (hb : 2 ≤ b) : -b < a.tmod b ∧ a.tmod b < b := ⟨Int.lt_tmod_of_pos a (by omega), Int.tmod_lt_of_pos a (by omega)⟩
theorem floor_low (a b : Int) (hb : 2 ≤ b) (h : a.tmod b < 0) : a / b = a.tdiv b - 1 ∧ a % b = a.tmod b + b := by
  have h1 := Int.mul_tdiv_add_tmod a b
  have h2 := tmod_bounds a b hb
  refine (Int.ediv_emod_unique (by omega)).2 ⟨?_, by omega, by omega⟩
  rw [Int.mul_sub, Int.mul_one]
  omega
theorem floor_up (a b : Int) (hb : 2 ≤ b) (h : 0 ≤ a.tmod b) : a / b = a.tdiv b ∧ a % b = a.tmod b := by
  have h1 := Int.mul_tdiv_add_tmod a b
  have h2 := tmod_bounds a b hb
  exact (Int.ediv_emod_unique (by omega)).2 ⟨by omega, by omega, by omega⟩

set_option maxHeartbeats 1000000 in
theorem divide_any (a b : Int) (w : World) (h0 : -9223372036854775808 ≤ a) (h1 : a ≤ 9223372036854775807) (hb : b = 7 ∨ b = 1440) : Calls Tryz.prog 112 #[.int .i64 a, .int .i64 b] w fun e w' => e = .returned (.tuple #[.int .i64 (a / b), .int .i64 (a % b)]) ∧ Below w.heap.size w w' := by
  have b1 := tdiv_bounds a b (by omega) h0 h1
  have b2 := tmod_bounds a b (by omega)
  by_cases h : a.tmod b < 0
  · have HF := Lib.hid (floor_low a b (by omega) h)
    rcases hb with rfl | rfl
    all_goals
      go_enter Tryz.func112, Tryz.ntmps112
      go_wp2
      go_quiet (fail)
      go_wp2
      go_ret2
      exact ⟨by rw [HF.out.1, HF.out.2]; rfl, below_drewN (Below.refl _ _) _⟩
  · have HF := Lib.hid (floor_up a b (by omega) (by omega))
    rcases hb with rfl | rfl
    all_goals
      go_enter Tryz.func112, Tryz.ntmps112
      go_wp2
      go_quiet (fail)
      go_wp2
      go_ret2
      exact ⟨by rw [HF.out.1, HF.out.2]; rfl, below_drewN (Below.refl _ _) _⟩
/-- the weekday of any number -/
def weekP (n : Int) : Int := (n + 5) % 7
theorem week_of (n : Int) : (n.tmod 7 + 5) % 7 = weekP n := by
  have h1 := Int.mul_tdiv_add_tmod n 7
  unfold weekP
  omega
set_option maxHeartbeats 1000000 in
theorem weekday_any (n : Int) (w : World) (h0 : -9223372036854775808 ≤ n) (h1 : n ≤ 9223372036854775807) : Calls Tryz.prog 77 #[.int .i64 n] w fun e w' => e = .returned (.int .i64 (weekP n)) ∧ Below w.heap.size w w' := by
  have b2 := tmod_bounds n 7 (by omega)
  have CD := Lib.hid (fun w => divide_any (n.tmod 7 + 5) 7 w (by omega) (by omega) (.inl rfl))
  have HW := Lib.hid (week_of n)
  go_enter Tryz.func77, Tryz.ntmps77
  go_wp2_with (go_at_call 112; refine (CD.out _).mono ?_; rintro e w' ⟨rfl, hb⟩)
  go_ret
  exact ⟨by rw [← HW.out]; rfl, hb⟩
set_option maxHeartbeats 1000000 in
theorem rweekday_any (n : Int) (w : World) (h0 : -9223372036854775808 ≤ n) (h1 : n ≤ 9223372036854775807) : Calls Tryz.prog 113 #[.int .i64 n] w fun e w' => e = .returned (.int .i64 (weekP n)) ∧ w = w' := by
  have b2 := tmod_bounds n 7 (by omega)
  have HW : Hid ((n.tmod 7 + 12) % 7 = weekP n) := Lib.hid (by
    have h1 := Int.mul_tdiv_add_tmod n 7
    unfold weekP
    omega)
  go_enter Tryz.func113, Tryz.ntmps113
  go_wp2
  go_ret
  exact ⟨by rw [← HW.out]; rfl, rfl⟩

theorem two_text (n : Int) (h0 : 0 ≤ n) (h1 : n ≤ 99) (w : World) :
    (convert 174 9 (.slice (some ⟨w.heap.size, 0, none⟩) 2 2)).run Tryz.prog (w.alloc (.cells #[.int .u8 (48 + n / 10), .int .u8 (48 + n % 10)] 5)) = .ok (.string ⟨#[d1 n, d2 n]⟩) (w.alloc (.cells #[.int .u8 (48 + n / 10), .int .u8 (48 + n % 10)] 5)) := by
  have h := run_convert_bytes_back (P := Tryz.prog) (w.alloc (.cells #[.int .u8 (48 + n / 10), .int .u8 (48 + n % 10)] 5)) 174 9 5 ⟨w.heap.size, 0, none⟩ 2 (twoL n) Tryz.underlying174 Tryz.underlying5 Tryz.underlying9 ?_
  · exact h
  · intro j hj
    have hadd : (⟨w.heap.size, 0, none⟩ : Addr).add j = ⟨w.heap.size, j, none⟩ := by unfold Addr.add; split <;> simp_all
    rw [hadd, cell_of_row _ _ j _ _ (0, 0) (heap_alloc_last w _), ← d1_nat n h0 h1, ← d2_nat n h0 h1]
    have hj2 : j = 0 ∨ j = 1 := by have : (twoL n).length = 2 := rfl; omega
    rcases hj2 with rfl | rfl <;> rfl
set_option maxHeartbeats 1000000 in
theorem rtwo_any (n : Int) (w : World) (h0 : 0 ≤ n) (h1 : n ≤ 99) : Calls Tryz.prog 123 #[.int .i64 n] w fun e w' => e = .returned (.string ⟨(twoL n).toArray⟩) ∧ Below w.heap.size w w' := by
  have HT := two_text n h0 h1
  go_enter Tryz.func123, Tryz.ntmps123
  go_wp2
  go_ret
  exact ⟨rfl, (Below.refl _ _).alloc (Nat.le_refl _) _⟩

end Go.Proofs.YtdpcjafkahhecaaGreatDoor

/- Plain facts on time zones: the error, offsets, the search for the first place, local minutes; the reference's ways. -/
namespace Go.Proofs.YtdpcjafkahhecaaGreatDoor
set_option linter.unusedSimpArgs false
set_option linter.unusedVariables false

abbrev Shs := List (Int × Int)
def shA (l : Shs) (k : Nat) : Int := (l.getD k (0, 0)).1
def shF (l : Shs) (k : Nat) : Int := (l.getD k (0, 0)).2
/-- the offset before shift k -/
def shB (o : Int) (l : Shs) (k : Nat) : Int := if k = 0 then o else shF l (k - 1)
def offB (n : Int) : Bool := decide (-840 ≤ n) && decide (n ≤ 840)
/-- shift k is outside the time, or too early -/
def badT (l : Shs) (k : Nat) : Bool := decide (shA l k < 0) || decide (52596000 ≤ shA l k) || (decide (0 < k) && decide (shA l k - shA l (k - 1) < 2880))
def errAt (l : Shs) : Nat → Nat → Int
  | 0, _ => 0
  | n + 1, k => if badT l k then 13 else if offB (shF l k) then errAt l n (k + 1) else 2
def errZ (o : Int) (l : Shs) : Int := if 256 < l.length then 4 else if offB o then errAt l l.length 0 else 2
theorem errAt_step (l : Shs) (k n : Nat) (h : n = l.length - k) (hk : k < l.length) : errAt l n k = if badT l k then 13 else if offB (shF l k) then errAt l (l.length - (k + 1)) (k + 1) else 2 := by
  obtain ⟨m, rfl⟩ : ∃ m, n = m + 1 := ⟨n - 1, by omega⟩
  rw [errAt, show l.length - (k + 1) = m by omega]
structure OkZ (o : Int) (l : Shs) : Prop where
  len : l.length ≤ 256
  off : -840 ≤ o ∧ o ≤ 840
  at' : ∀ k, k < l.length → 0 ≤ shA l k ∧ shA l k < 52596000
  gap : ∀ k, k + 1 < l.length → shA l k + 2880 ≤ shA l (k + 1)
  shift : ∀ k, k < l.length → -840 ≤ shF l k ∧ shF l k ≤ 840
theorem offB_iff (n : Int) : offB n = true ↔ -840 ≤ n ∧ n ≤ 840 := by simp [offB]
theorem errAt_ok (l : Shs) : ∀ n k, k + n = l.length → errAt l n k = 0 → ∀ j, k ≤ j → j < l.length → badT l j = false ∧ offB (shF l j) = true
  | 0, k, h, _, j, h1, h2 => by omega
  | n + 1, k, h, he, j, h1, h2 => by
    rw [errAt] at he
    cases hb : badT l k <;> rw [hb] at he
    · cases ho : offB (shF l k) <;> rw [ho] at he
      · simp at he
      · by_cases hj : j = k
        · subst hj; exact ⟨hb, ho⟩
        · exact errAt_ok l n (k + 1) (by omega) (by simpa using he) j (by omega) h2
    · simp at he
theorem errZ_ok {o : Int} {l : Shs} (h : errZ o l = 0) : OkZ o l := by
  rw [errZ] at h
  by_cases h1 : 256 < l.length
  · rw [if_pos h1] at h; omega
  rw [if_neg h1] at h
  cases ho : offB o <;> rw [ho] at h
  · simp at h
  have h2 := errAt_ok l l.length 0 (by omega) (by simpa using h)
  refine ⟨by omega, (offB_iff o).1 ho, fun k hk => ?_, fun k hk => ?_, fun k hk => (offB_iff _).1 (h2 k (by omega) hk).2⟩
  · have := (h2 k (by omega) hk).1
    simp [badT] at this
    omega
  · have := (h2 (k + 1) (by omega) hk).1
    simp [badT] at this
    omega
theorem OkZ.before {o : Int} {l : Shs} (h : OkZ o l) (k : Nat) (hk : k ≤ l.length) : -840 ≤ shB o l k ∧ shB o l k ≤ 840 := by
  unfold shB
  split
  · exact h.off
  · exact h.shift _ (by omega)
theorem shB_succ (o : Int) (l : Shs) (k : Nat) : shB o l (k + 1) = shF l k := by simp [shB]
theorem OkZ.asc {o : Int} {l : Shs} (h : OkZ o l) : ∀ j k, j + k < l.length → shA l j + 2880 * k ≤ shA l (j + k)
  | j, 0, _ => by simp
  | j, k + 1, hk => by
    have := h.asc j k (by omega)
    have := h.gap (j + k) (by omega)
    rw [show j + (k + 1) = j + k + 1 by omega]
    omega
theorem OkZ.asc' {o : Int} {l : Shs} (h : OkZ o l) (j k : Nat) (hj : j < k) (hk : k < l.length) : shA l j + 2880 ≤ shA l k := by
  have := h.asc j (k - j) (by omega)
  rw [show j + (k - j) = k by omega] at this
  have : (1 : Int) ≤ ((k - j : Nat) : Int) := by omega
  omega

/-! ### the first place of which p says true -/
def fstP (p : Nat → Bool) : Nat → Nat → Nat
  | 0, k => k
  | n + 1, k => if p k then k else fstP p n (k + 1)
theorem fstP_is (p : Nat → Bool) (c m : Nat) : ∀ n k, k ≤ c → k + n = m → c ≤ m → (∀ t, t < c → p t = false) → (∀ t, c ≤ t → t < m → p t = true) → fstP p n k = c
  | 0, k, h1, h2, h3, _, _ => by rw [fstP]; omega
  | n + 1, k, h1, h2, h3, h4, h5 => by
    rw [fstP]
    by_cases hk : k = c
    · subst hk; rw [h5 k (by omega) (by omega)]; rfl
    · rw [h4 k (by omega)]; exact fstP_is p c m n (k + 1) (by omega) (by omega) h3 h4 h5
theorem fstP_spec (p : Nat → Bool) (m : Nat) (mono : ∀ a b, a ≤ b → b < m → p a = true → p b = true) : ∀ n k, k + n = m → (∀ t, t < k → p t = false) →
    fstP p n k ≤ m ∧ (∀ t, t < fstP p n k → p t = false) ∧ (∀ t, fstP p n k ≤ t → t < m → p t = true)
  | 0, k, h, h1 => ⟨by rw [fstP]; omega, by rw [fstP]; exact h1, by rw [fstP]; intros; omega⟩
  | n + 1, k, h, h1 => by
    rw [fstP]
    cases hp : p k
    · simp only [Bool.false_eq_true, if_false]
      exact fstP_spec p m mono n (k + 1) (by omega) (fun t ht => if h2 : t = k then h2 ▸ hp else h1 t (by omega))
    · simp only [if_true]
      exact ⟨by omega, h1, fun t ht hm => mono k t ht hm hp⟩

def utcN (o : Int) (l : Shs) (x : Int) : Nat := fstP (fun i => decide (x < shA l i + shB o l i)) l.length 0
def utcZ (o : Int) (l : Shs) (x : Int) : Int := if utcN o l x = 0 then x - shB o l (utcN o l x) else max (x - shB o l (utcN o l x)) (shA l (utcN o l x - 1))
theorem utc_mono {o : Int} {l : Shs} (h : OkZ o l) (x : Int) (a b : Nat) (hab : a ≤ b) (hb : b < l.length) (hp : decide (x < shA l a + shB o l a) = true) : decide (x < shA l b + shB o l b) = true := by
  simp only [decide_eq_true_eq] at hp ⊢
  by_cases he : a = b
  · subst he; exact hp
  · have := h.asc' a b (by omega) hb
    have := h.before a (by omega)
    have := h.before b (by omega)
    omega
theorem utcN_spec {o : Int} {l : Shs} (h : OkZ o l) (x : Int) : utcN o l x ≤ l.length ∧ (∀ t, t < utcN o l x → shA l t + shB o l t ≤ x) ∧ (∀ t, utcN o l x ≤ t → t < l.length → x < shA l t + shB o l t) := by
  obtain ⟨h1, h2, h3⟩ := fstP_spec _ l.length (utc_mono h x) l.length 0 (by omega) (by intros; omega)
  exact ⟨h1, fun t ht => by have := h2 t ht; simp at this; omega, fun t ht hm => by have := h3 t ht hm; simpa using this⟩
def rut (l : Shs) (x : Int) : Nat → Nat → Int → Int
  | 0, _, u => u
  | n + 1, k, u => if u < shA l k then u else rut l x n (k + 1) (max (shA l k) (x - shF l k))
theorem rut_step (l : Shs) (x u : Int) (k n : Nat) (h : n = l.length - k) (hk : k < l.length) : rut l x n k u = if u < shA l k then u else rut l x (l.length - (k + 1)) (k + 1) (max (shA l k) (x - shF l k)) := by
  obtain ⟨m, rfl⟩ : ∃ m, n = m + 1 := ⟨n - 1, by omega⟩
  rw [rut, show l.length - (k + 1) = m by omega]
theorem rut_end (l : Shs) (x u : Int) (k n : Nat) (h : n = 0) : rut l x n k u = u := by subst h; rfl
/-- the reference's minute before it looks at shift k -/
def utcAt (o : Int) (l : Shs) (x : Int) (k : Nat) : Int := if k = 0 then x - shB o l k else max (x - shB o l k) (shA l (k - 1))
theorem rut_is {o : Int} {l : Shs} (h : OkZ o l) (x : Int) : rut l x l.length 0 (x - o) = utcZ o l x := by
  obtain ⟨h1, h2, h3⟩ := utcN_spec h x
  have hz : utcZ o l x = utcAt o l x (utcN o l x) := rfl
  rw [hz]
  generalize utcN o l x = c at *
  have : ∀ n k, k + n = l.length → k ≤ c → rut l x n k (utcAt o l x k) = utcAt o l x c := by
    intro n
    induction n with
    | zero => intro k hk hc; rw [rut, show k = c by omega]
    | succ n ih =>
      intro k hk hc
      rw [rut]
      by_cases hkc : k = c
      · subst hkc
        have h4 := h3 k (Nat.le_refl _) (by omega)
        rw [if_pos]
        unfold utcAt
        split
        · omega
        · have := h.asc' (k - 1) k (by omega) (by omega)
          omega
      · have h4 := h2 k (by omega)
        rw [if_neg]
        · have e : utcAt o l x (k + 1) = max (shA l k) (x - shF l k) := by
            unfold utcAt
            rw [if_neg (by omega), shB_succ, show k + 1 - 1 = k by omega]
            omega
          rw [← e]
          exact ih (k + 1) (by omega) (by omega)
        · unfold utcAt
          split <;> omega
  exact this l.length 0 (by omega) (by omega)
end Go.Proofs.YtdpcjafkahhecaaGreatDoor

/- Walks of zone.Check and the reference's, with the words for a zone in memory. -/
namespace Go.Proofs.YtdpcjafkahhecaaGreatDoor
open Go.RowKit
set_option linter.unusedSimpArgs false
set_option linter.unusedVariables false

theorem bel_alloc (w : World) (o : Obj) : Below w.heap.size w (w.alloc o) := (Below.refl _ w).alloc (Nat.le_refl _) o
theorem bel_acc {f : Nat} {args : Array Value} {w w1 : World} {R : Ending → Prop} (h : Calls Tryz.prog f args w1 fun e w' => R e ∧ Below w1.heap.size w1 w') (hb : Below w.heap.size w w1) :
    Calls Tryz.prog f args w1 fun e w' => R e ∧ Below w.heap.size w w' := h.mono (by rintro e w' ⟨hr, h⟩; exact ⟨hr, hb.trans (h.mono hb.size)⟩)
abbrev zoneT : TypeId := 100
abbrev shiftT : TypeId := 166
/-- the shifts l lie in the row at A -/
def ShL (w : World) (A : Option Addr) (l : Shs) : Prop :=
  l = [] ∨ ∃ b o, A = some ⟨b, o, none⟩ ∧ b < w.heap.size ∧ ∀ i, i < l.length → w.cell? ⟨b, o + i * 2, none⟩ = some (.int .i64 (shA l i)) ∧ w.cell? ⟨b, o + i * 2 + 1, none⟩ = some (.int .i64 (shF l i))
theorem ShL.more {w w' : World} {A : Option Addr} {l : Shs} (h : ShL w A l) (hb : Below w.heap.size w w') : ShL w' A l := by
  rcases h with h | ⟨b, o, rfl, hlt, hc⟩
  · exact .inl h
  · exact .inr ⟨b, o, rfl, Nat.lt_of_lt_of_le hlt hb.size, fun i hi => ⟨(hb.cell (p := ⟨b, o + i * 2, none⟩) hlt).trans (hc i hi).1, (hb.cell (p := ⟨b, o + i * 2 + 1, none⟩) hlt).trans (hc i hi).2⟩⟩
theorem ShL.at {w : World} {A : Option Addr} {l : Shs} (h : ShL w A l) {k : Nat} (hk : k < l.length) :
    ∃ b o, A = some ⟨b, o, none⟩ ∧ b < w.heap.size ∧ ∀ i, i < l.length → w.cell? ⟨b, o + i * 2, none⟩ = some (.int .i64 (shA l i)) ∧ w.cell? ⟨b, o + i * 2 + 1, none⟩ = some (.int .i64 (shF l i)) := by
  rcases h with h | h
  · rw [h] at hk; simp at hk
  · exact h
abbrev encZ (o : Int) (A : Option Addr) (n c : Nat) : Value := .agg #[.int .i64 o, .slice A n c]

set_option maxHeartbeats 400000 in
theorem rOff_any (n : Int) (w : World) : Calls Tryz.prog 119 #[.int .i64 n] w fun e w' => e = .returned (.bool (offB n)) ∧ w = w' := by
  by_cases h1 : -840 ≤ n
  all_goals
    go_enter Tryz.func119, Tryz.ntmps119
    go_wp2
    go_ret
    exact ⟨ret_bool (by simp [offB]; omega), rfl⟩
def timeB (n : Int) : Bool := decide (0 ≤ n) && decide (n < 52596000)
/-! ### worlds that have only grown since w5, as a class: quiet walks of drawn regions -/
abbrev SW (w5 : World) : World → Prop := fun W => Below w5.heap.size w5 W
structure Wd (S : World → Prop) where
  w : World
  ok : S w
theorem quietS {P : Program} {S : World → Prop} {id : Nat} {Q : Exit → Act → World → Prop} {a : Act} {w : World} {l : List Oper} (hm : P.follows .mixedOrders = true) (hB : Region.lexB .any l.toArray = true) (hC : S w.drew)
    (h : wpQuiet P l.toArray (fun w' => ∃ x : Wd S, w' = x.w) (fun a' => ∀ w', (∃ x : Wd S, w' = x.w) → Q .normal a' w') l a) : (Code.region id l.toArray true).wp P Q a w :=
  wp_region_quiet (C := fun w' => ∃ x : Wd S, w' = x.w) hm hB ⟨⟨_, hC⟩, rfl⟩ (by simpa using h)
theorem quiet_S {P : Program} {f : FuncId} {args : Array Value} {W : World} {S : World → Prop} {v : Value} (h : Calls P f args W fun e w' => e = .returned v ∧ S w') :
    Calls P f args W fun e w'' => e = .returned v ∧ ∃ x : Wd S, w'' = x.w := h.mono (by rintro e w' ⟨he, hs⟩; exact ⟨he, ⟨w', hs⟩, rfl⟩)
theorem SW.cell {w5 : World} {a : Addr} {v : Value} (h : w5.cell? a = some v) (x : Wd (SW w5)) : x.w.cell? a = some v := (Below.cell (show Below w5.heap.size w5 x.w from x.ok) (World.block_lt_of_cell? w5 _ h)).trans h
theorem SW.call {f : Nat} {args : Array Value} {w5 : World} {v : Value} (h : ∀ W, Below w5.heap.size w5 W → Calls Tryz.prog f args W fun e w' => e = .returned v ∧ Below W.heap.size W w') (W : World) (hW : SW w5 W) :
    Calls Tryz.prog f args W fun e w' => e = .returned v ∧ SW w5 w' := (h W hW).mono (by rintro e w' ⟨he, hb⟩; exact ⟨he, hW.trans (hb.mono hW.size)⟩)
theorem SW.drew (w5 : World) : SW w5 w5.drew := (Below.refl _ _).drew
theorem cells_new (w : World) (cs : Array Value) (t : TypeId) (j : Nat) : (w.alloc (.cells cs t)).cell? ⟨w.heap.size, j, none⟩ = cs[j]? := cell_of_row _ _ j _ _ (0, 0) (heap_alloc_new w (.cells cs t))

end Go.Proofs.YtdpcjafkahhecaaGreatDoor

/- Walk of the reference's Check. -/
namespace Go.Proofs.YtdpcjafkahhecaaGreatDoor
open Go.RowKit
set_option linter.unusedSimpArgs false
set_option linter.unusedVariables false

set_option maxRecDepth 100000 in
set_option maxHeartbeats 2000000 in
theorem rcheck_any (o : Int) (A : Option Addr) (c : Nat) (l : Shs) (w : World) (hl : l.length < 9223372036854775808) (hL : ShL w A l) (hr : ∀ k, k < l.length → -9223372036854775808 ≤ shA l k ∧ shA l k ≤ 9223372036854775807) :
    Calls Tryz.prog 86 #[encZ o A l.length c] w fun e w' => e = .returned (.int .i64 (errZ o l)) ∧ Below w.heap.size w w' := by
  by_cases h1 : 256 < l.length
  · have i1 : (256 : Int) < (l.length : Int) := by omega
    have HR : Hid (errZ o l = 4) := Lib.hid (by rw [errZ, if_pos h1])
    clear h1
    go_enter Tryz.func86, Tryz.ntmps86
    go_wp2
    go_ret
    exact ⟨by rw [HR.out]; rfl, bel_alloc _ _⟩
  have i1 : (l.length : Int) ≤ 256 := by omega
  cases ho : offB o
  · have HR : Hid (errZ o l = 2) := Lib.hid (by rw [errZ, if_neg h1, ho]; rfl)
    have C1 := Lib.hid (fun w => ho ▸ rOff_any o w)
    clear h1 ho
    go_enter Tryz.func86, Tryz.ntmps86
    go_wp2_with (go_at_call 119; refine (C1.out _).mono ?_; rintro e w' ⟨rfl, rfl⟩)
    go_ret
    exact ⟨by rw [HR.out]; rfl, bel_alloc _ _⟩
  have HR : Hid (errZ o l = errAt l l.length 0) := Lib.hid (by rw [errZ, if_neg h1, ho]; rfl)
  have C1 := Lib.hid (fun w => ho ▸ rOff_any o w)
  clear h1 ho
  go_enter Tryz.func86, Tryz.ntmps86
  go_wp2_with (go_at_call 119; refine (C1.out _).mono ?_; rintro e w' ⟨rfl, rfl⟩)
  have hL0 := hL.more (bel_alloc w (.cells #[.int .i64 o, .slice A l.length c] zoneT))
  have z0 := cells_new w #[.int .i64 o, .slice A l.length c] zoneT 0
  have z1 := cells_new w #[.int .i64 o, .slice A l.length c] zoneT 1
  have hbw := bel_alloc w (.cells #[.int .i64 o, .slice A l.length c] zoneT)
  simp only [List.getElem?_toArray, List.getElem?_cons_zero, List.getElem?_cons_succ] at z0 z1
  clear hL C1
  generalize hw0 : w.alloc (.cells #[.int .i64 o, .slice A l.length c] zoneT) = w0 at *
  go_loopw [3] (fun vi wr => ∃ k : Nat, k ≤ l.length ∧ vi = .int .i64 k ∧ Hid (errZ o l = errAt l (l.length - k) k) ∧ (0 < k → 0 ≤ shA l (k - 1) ∧ shA l (k - 1) < 52596000) ∧ Below w0.heap.size w0 wr) (fun vi _ => l.length - (intOf vi).toNat)
  case atStart => exact ⟨0, Nat.zero_le _, rfl, HR, by omega, Below.refl _ _⟩
  case round =>
    obtain ⟨k, hk, rfl, HK, hp, hb⟩ := hrel
    by_cases hlt : k < l.length
    · obtain ⟨g, off, rfl, hgl, hcc⟩ := hL0.at hlt
      have i2 : (k : Int) < (l.length : Int) := by omega
      have HS := Lib.hid (HK.out.trans (errAt_step l k _ rfl hlt))
      obtain ⟨g0, g1⟩ := hcc k hlt
      have hrk := hr k hlt
      have CO := Lib.hid (fun W => rOff_any (shF l k) W)
      have gm : 0 < k → w0.cell? ⟨g, off + (k - 1) * 2, none⟩ = some (.int .i64 (shA l (k - 1))) := fun h => (hcc (k - 1) (by omega)).1
      have hbad : Hid (badT l k = (!timeB (shA l k) || (decide (0 < k) && decide (shA l k - shA l (k - 1) < 2880)))) := Lib.hid (by
        simp only [badT, timeB]
        congr 1
        rw [Bool.eq_iff_iff]; simp)
      clear hcc HK hr hL0
      have gk0 := (hb.cell (p := ⟨g, off + k * 2, none⟩) hgl).trans g0
      have gk1 := (hb.cell (p := ⟨g, off + k * 2 + 1, none⟩) hgl).trans g1
      generalize hak : shA l k = a at *
      have HA := Lib.hid hak
      clear hak
      generalize shF l k = f at *
      have hgr : g < wr.heap.size := Nat.lt_of_lt_of_le hgl hb.size
      have hgr2 : g ≠ wr.heap.size := by omega
      have hb5 : Below wr.heap.size wr (wr.alloc (.cells #[.int .i64 a, .int .i64 f] shiftT)) := bel_alloc _ _
      have hB : Below w.heap.size w (wr.alloc (.cells #[.int .i64 a, .int .i64 f] shiftT)) := hbw.trans ((hb.alloc hb.size _).mono hbw.size)
      have q0 := SW.cell (cells_new wr #[.int .i64 a, .int .i64 f] shiftT 0)
      have q1 := SW.cell (cells_new wr #[.int .i64 a, .int .i64 f] shiftT 1)
      have q2 := SW.cell (hb5.cell (World.block_lt_of_cell? _ _ ((hb.cell (World.block_lt_of_cell? _ _ z1)).trans z1)) |>.trans ((hb.cell (World.block_lt_of_cell? _ _ z1)).trans z1))
      have c1 := cells_new wr #[.int .i64 a, .int .i64 f] shiftT 1
      simp only [List.getElem?_toArray, List.getElem?_cons_zero, List.getElem?_cons_succ] at q0 q1 c1
      have g2 := (hb.cell (World.block_lt_of_cell? _ _ z1)).trans z1
      by_cases n1 : a < 0
      · have ht : timeB a = false := by simp [timeB]; omega
        have d1 : decide (a < 0) = true := decide_eq_true n1
        have HR2 : Hid (errZ o l = 13) := Lib.hid (by rw [HS.out, hbad.out, ht]; rfl)
        clear HS hbad ht hp gm hw0
        go_wp2
        have hNe : Nonempty (Wd (SW (wr.alloc (.cells #[.int .i64 a, .int .i64 f] shiftT)))) := ⟨⟨_, SW.drew _⟩⟩
        refine quietS (S := SW (wr.alloc (.cells #[.int .i64 a, .int .i64 f] shiftT))) (by kernel_rfl) (by kernel_rfl) (SW.drew _) ?_
        repeat (first | go_big_quiet_skip | (go_big_quiet_want; go_big_quiet_op; first | go_big_quiet_on | go_big_quiet_call ((fail))))
        refine wpQuiet_nil ?_
        rintro W ⟨⟨_, hW⟩, rfl⟩
        go_wp2
        go_ret
        exact ⟨by rw [HR2.out]; rfl, hB.trans (hW.mono hB.size)⟩
      by_cases n2 : 52596000 ≤ a
      · have ht : timeB a = false := by simp [timeB]; omega
        have d1 : decide (a < 0) = false := decide_eq_false n1
        have d2 : decide (52596000 ≤ a) = true := decide_eq_true n2
        have HR2 : Hid (errZ o l = 13) := Lib.hid (by rw [HS.out, hbad.out, ht]; rfl)
        clear HS hbad ht hp gm hw0
        go_wp2
        have hNe : Nonempty (Wd (SW (wr.alloc (.cells #[.int .i64 a, .int .i64 f] shiftT)))) := ⟨⟨_, SW.drew _⟩⟩
        refine quietS (S := SW (wr.alloc (.cells #[.int .i64 a, .int .i64 f] shiftT))) (by kernel_rfl) (by kernel_rfl) (SW.drew _) ?_
        repeat (first | go_big_quiet_skip | (go_big_quiet_want; go_big_quiet_op; first | go_big_quiet_on | go_big_quiet_call ((fail))))
        refine wpQuiet_nil ?_
        rintro W ⟨⟨_, hW⟩, rfl⟩
        go_wp2
        go_ret
        exact ⟨by rw [HR2.out]; rfl, hB.trans (hW.mono hB.size)⟩
      have ht : timeB a = true := by simp [timeB]; omega
      have d1 : decide (a < 0) = false := decide_eq_false n1
      have d2 : decide (52596000 ≤ a) = false := decide_eq_false n2
      have ha : 0 ≤ a ∧ a < 52596000 := by omega
      by_cases h0 : 0 < k
      · have q3 := SW.cell ((hb5.cell hgr).trans ((hb.cell hgl).trans (gm h0)))
        have hp' := hp h0
        have i3 : (0 : Int) < (k : Int) := by omega
        have i4 : (0 : Int) ≤ (k : Int) - 1 := by omega
        have i5 : (k : Int) - 1 < (l.length : Int) := by omega
        have i6 : ((k : Int) - 1).toNat = k - 1 := by omega
        generalize shA l (k - 1) = pr at *
        by_cases hg : a - pr < 2880
        · have HR2 : Hid (errZ o l = 13) := Lib.hid (by rw [HS.out, hbad.out, ht]; simp [h0, hg])
          clear HS hbad ht hp gm hw0
          go_wp2
          have hNe : Nonempty (Wd (SW (wr.alloc (.cells #[.int .i64 a, .int .i64 f] shiftT)))) := ⟨⟨_, SW.drew _⟩⟩
          refine quietS (S := SW (wr.alloc (.cells #[.int .i64 a, .int .i64 f] shiftT))) (by kernel_rfl) (by kernel_rfl) (SW.drew _) ?_
          repeat (first | go_big_quiet_skip | (go_big_quiet_want; go_big_quiet_op; first | go_big_quiet_on | go_big_quiet_call ((fail))))
          refine wpQuiet_nil ?_
          rintro W ⟨⟨_, hW⟩, rfl⟩
          go_wp2
          go_ret
          exact ⟨by rw [HR2.out]; rfl, hB.trans (hW.mono hB.size)⟩
        · cases ho : offB f
          · have HR2 : Hid (errZ o l = 2) := Lib.hid (by rw [HS.out, hbad.out, ht]; simp [h0, hg, ho])
            rw [ho] at CO
            clear HS hbad ht hp gm ho hw0
            go_wp2
            have hNe : Nonempty (Wd (SW (wr.alloc (.cells #[.int .i64 a, .int .i64 f] shiftT)))) := ⟨⟨_, SW.drew _⟩⟩
            refine quietS (S := SW (wr.alloc (.cells #[.int .i64 a, .int .i64 f] shiftT))) (by kernel_rfl) (by kernel_rfl) (SW.drew _) ?_
            repeat (first | go_big_quiet_skip | (go_big_quiet_want; go_big_quiet_op; first | go_big_quiet_on | go_big_quiet_call ((fail))))
            refine wpQuiet_nil ?_
            rintro W ⟨⟨_, hW⟩, rfl⟩
            have q4 := q1 ⟨_, hW⟩
            dsimp only at q4
            go_wp2_with (go_at_call 119; refine (CO.out _).mono ?_; rintro e w' ⟨rfl, rfl⟩)
            go_ret
            exact ⟨by rw [HR2.out]; rfl, hB.trans (hW.mono hB.size)⟩
          · have HR2 : Hid (errZ o l = errAt l (l.length - (k + 1)) (k + 1)) := Lib.hid (by rw [HS.out, hbad.out, ht]; simp [h0, hg, ho])
            rw [ho] at CO
            clear HS hbad ht hp gm ho hw0
            go_wp2
            have hNe : Nonempty (Wd (SW (wr.alloc (.cells #[.int .i64 a, .int .i64 f] shiftT)))) := ⟨⟨_, SW.drew _⟩⟩
            refine quietS (S := SW (wr.alloc (.cells #[.int .i64 a, .int .i64 f] shiftT))) (by kernel_rfl) (by kernel_rfl) (SW.drew _) ?_
            repeat (first | go_big_quiet_skip | (go_big_quiet_want; go_big_quiet_op; first | go_big_quiet_on | go_big_quiet_call ((fail))))
            refine wpQuiet_nil ?_
            rintro W ⟨⟨_, hW⟩, rfl⟩
            have q4 := q1 ⟨_, hW⟩
            dsimp only at q4
            go_wp2_with (go_at_call 119; refine (CO.out _).mono ?_; rintro e w' ⟨rfl, rfl⟩)
            go_roundw
            case rel => exact ⟨k + 1, by omega, by go_num, HR2, fun _ => by rw [Nat.add_sub_cancel, HA.out]; exact ha, hb.trans ((hb5.trans (hW.mono hb5.size)).mono hb.size)⟩
            case measure => simp [intOf]; omega
      · have i3 : ¬ (0 : Int) < (k : Int) := by omega
        cases ho : offB f
        · have HR2 : Hid (errZ o l = 2) := Lib.hid (by rw [HS.out, hbad.out, ht]; simp [h0, ho])
          rw [ho] at CO
          clear HS hbad ht hp gm ho hw0
          go_wp2
          have hNe : Nonempty (Wd (SW (wr.alloc (.cells #[.int .i64 a, .int .i64 f] shiftT)))) := ⟨⟨_, SW.drew _⟩⟩
          refine quietS (S := SW (wr.alloc (.cells #[.int .i64 a, .int .i64 f] shiftT))) (by kernel_rfl) (by kernel_rfl) (SW.drew _) ?_
          repeat (first | go_big_quiet_skip | (go_big_quiet_want; go_big_quiet_op; first | go_big_quiet_on | go_big_quiet_call ((fail))))
          refine wpQuiet_nil ?_
          rintro W ⟨⟨_, hW⟩, rfl⟩
          have q4 := q1 ⟨_, hW⟩
          dsimp only at q4
          go_wp2_with (go_at_call 119; refine (CO.out _).mono ?_; rintro e w' ⟨rfl, rfl⟩)
          go_ret
          exact ⟨by rw [HR2.out]; rfl, hB.trans (hW.mono hB.size)⟩
        · have HR2 : Hid (errZ o l = errAt l (l.length - (k + 1)) (k + 1)) := Lib.hid (by rw [HS.out, hbad.out, ht]; simp [h0, ho])
          rw [ho] at CO
          clear HS hbad ht hp gm ho hw0
          go_wp2
          have hNe : Nonempty (Wd (SW (wr.alloc (.cells #[.int .i64 a, .int .i64 f] shiftT)))) := ⟨⟨_, SW.drew _⟩⟩
          refine quietS (S := SW (wr.alloc (.cells #[.int .i64 a, .int .i64 f] shiftT))) (by kernel_rfl) (by kernel_rfl) (SW.drew _) ?_
          repeat (first | go_big_quiet_skip | (go_big_quiet_want; go_big_quiet_op; first | go_big_quiet_on | go_big_quiet_call ((fail))))
          refine wpQuiet_nil ?_
          rintro W ⟨⟨_, hW⟩, rfl⟩
          have q4 := q1 ⟨_, hW⟩
          dsimp only at q4
          go_wp2_with (go_at_call 119; refine (CO.out _).mono ?_; rintro e w' ⟨rfl, rfl⟩)
          go_roundw
          case rel => exact ⟨k + 1, by omega, by go_num, HR2, fun _ => by rw [Nat.add_sub_cancel, HA.out]; exact ha, hb.trans ((hb5.trans (hW.mono hb5.size)).mono hb.size)⟩
          case measure => simp [intOf]; omega
    · have g2 := (hb.cell (World.block_lt_of_cell? _ _ z1)).trans z1
      go_wp2
      go_ret
      exact ⟨by rw [HK.out, show l.length - k = 0 by omega]; rfl, hbw.trans (hb.mono hbw.size)⟩

end Go.Proofs.YtdpcjafkahhecaaGreatDoor

/- Plain facts on places: ways along distances, the shortest one, cities, violations. -/
namespace Go.Proofs.YtdpcjafkahhecaaGreatDoor
set_option linter.unusedSimpArgs false
set_option linter.unusedVariables false

/-- a distance -/
structure Dst where
  f : ByteArray
  t : ByteArray
  m : Int
def useB (d : Dst) : Bool := decide (1 ≤ d.m) && decide (d.m ≤ 20000)
abbrev Edg := ByteArray × ByteArray × Nat
/-- there is a way of this length -/
inductive Wy (E : List Edg) (a : ByteArray) : ByteArray → Nat → Prop
  | here : Wy E a a 0
  | on {b c : ByteArray} {n w : Nat} : Wy E a b n → (b, c, w) ∈ E → Wy E a c (n + w)
/-- the shortest way has this length -/
def Dis (E : List Edg) (a b : ByteArray) (n : Nat) : Prop := Wy E a b n ∧ ∀ m, Wy E a b m → n ≤ m
theorem Wy.trans {E : List Edg} {a b c : ByteArray} {n m : Nat} (h : Wy E a b n) (h' : Wy E b c m) : Wy E a c (n + m) := by
  induction h' with
  | here => exact h
  | on _ he ih => rw [← Nat.add_assoc]; exact .on ih he
theorem Dis.uniq {E : List Edg} {a b : ByteArray} {n m : Nat} (h : Dis E a b n) (h' : Dis E a b m) : n = m := Nat.le_antisymm (h.2 _ h'.1) (h'.2 _ h.1)
open Classical in
/-- the length of the shortest way, if there is a way -/
noncomputable def disO (E : List Edg) (a b : ByteArray) : Option Nat := if h : ∃ n, Dis E a b n then some h.choose else none
theorem disO_some {E : List Edg} {a b : ByteArray} {n : Nat} (h : Dis E a b n) : disO E a b = some n := by
  have hx : ∃ n, Dis E a b n := ⟨n, h⟩
  unfold disO
  rw [dif_pos hx]
  exact congrArg some (hx.choose_spec.uniq h)
theorem disO_none {E : List Edg} {a b : ByteArray} (h : ∀ n, ¬ Wy E a b n) : disO E a b = none := by
  unfold disO
  rw [dif_neg (fun ⟨n, hn⟩ => h n hn.1)]
/-! ### the search by the nearest city first -/
abbrev Stp := ByteArray × Nat
/-- R: the cities that were reached; q: what is still to be looked at -/
structure Dij (E : List Edg) (a to : ByteArray) (R : ByteArray → Prop) (q : List Stp) : Prop where
  way : ∀ c m, (c, m) ∈ q → Wy E a c m
  at' : ∀ c, R c → ∃ m, Dis E a c m
  on : ∀ b, R b → ∀ n, Dis E a b n → ∀ c w, (b, c, w) ∈ E → (∃ m, m ≤ n + w ∧ (c, m) ∈ q) ∨ (R c ∧ ∃ m, Dis E a c m ∧ m ≤ n + w)
  start : R a ∨ (a, 0) ∈ q
  to' : ¬ R to
theorem Dij.far {E : List Edg} {a to : ByteArray} {R : ByteArray → Prop} {q : List Stp} (I : Dij E a to R q) {c : ByteArray} {n : Nat} (h : Wy E a c n) : (R c ∧ ∃ m, Dis E a c m ∧ m ≤ n) ∨ ∃ y k, (y, k) ∈ q ∧ k ≤ n := by
  induction h with
  | here =>
    rcases I.start with h | h
    · exact .inl ⟨h, 0, ⟨.here, fun m _ => Nat.zero_le _⟩, Nat.le_refl _⟩
    · exact .inr ⟨_, _, h, Nat.le_refl _⟩
  | @on b c n w hb he ih =>
    rcases ih with ⟨hr, m, hd, hm⟩ | ⟨y, k, hy, hk⟩
    · rcases I.on b hr m hd c w he with ⟨k, hk, hq⟩ | ⟨hc, k, hd', hk⟩
      · exact .inr ⟨c, k, hq, by omega⟩
      · exact .inl ⟨hc, k, hd', by omega⟩
    · exact .inr ⟨y, k, hy, by omega⟩
theorem Dij.none {E : List Edg} {a to : ByteArray} {R : ByteArray → Prop} (I : Dij E a to R []) : disO E a to = none :=
  disO_none fun n hn => by
    rcases I.far hn with ⟨h, _⟩ | ⟨y, k, h, _⟩
    · exact I.to' h
    · simp at h
theorem Dij.skip {E : List Edg} {a to : ByteArray} {R : ByteArray → Prop} {q q' : List Stp} {c : ByteArray} {m : Nat} (I : Dij E a to R q) (hp : q.Perm ((c, m) :: q')) (hc : R c) : Dij E a to R q' := by
  obtain ⟨d, hd⟩ := I.at' c hc
  have hw := I.way c m (hp.mem_iff.2 (by simp))
  have hle := hd.2 m hw
  refine ⟨fun x n h => I.way x n (hp.mem_iff.2 (by simp [h])), I.at', fun b hb n hn x w he => ?_, ?_, I.to'⟩
  · rcases I.on b hb n hn x w he with ⟨k, hk, hq⟩ | h
    · rcases List.mem_cons.1 (hp.mem_iff.1 hq) with e | h
      · cases e
        exact .inr ⟨hc, d, hd, by omega⟩
      · exact .inl ⟨k, hk, h⟩
    · exact .inr h
  · rcases I.start with h | h
    · exact .inl h
    · rcases List.mem_cons.1 (hp.mem_iff.1 h) with e | h
      · cases e
        exact .inl hc
      · exact .inr h
/-! ### the reference's search: distances are followed until nothing becomes shorter -/
/-- l: the cities that were reached, with a way's length -/
structure Rel (E : List Edg) (a : ByteArray) (l : List Stp) : Prop where
  way : ∀ c m, (c, m) ∈ l → Wy E a c m
  start : (a, 0) ∈ l
  one : l.Pairwise fun x y => x.1 ≠ y.1
def atL (l : List Stp) (c : ByteArray) : Option Nat := (l.find? fun x => decide (x.1 = c)).map (·.2)
theorem atL_mem {l : List Stp} (h1 : l.Pairwise fun x y => x.1 ≠ y.1) {c : ByteArray} {m : Nat} : atL l c = some m ↔ (c, m) ∈ l := by
  induction l with
  | nil => simp [atL]
  | cons x r ih =>
    obtain ⟨h2, h3⟩ := List.pairwise_cons.1 h1
    obtain ⟨xc, xm⟩ := x
    by_cases h : xc = c
    · subst h
      have : ∀ m', (xc, m') ∉ r := fun m' hm => h2 _ hm rfl
      simp [atL, this]
      exact eq_comm
    · have h' : ¬ c = xc := fun e => h e.symm
      simp only [atL, List.find?_cons, h, decide_false, List.mem_cons, Prod.mk.injEq, h', false_and, false_or]
      exact ih h3
theorem atL_none {l : List Stp} {c : ByteArray} : atL l c = none ↔ ∀ m, (c, m) ∉ l := by
  simp only [atL, Option.map_eq_none_iff, List.find?_eq_none, decide_eq_true_eq]
  exact ⟨fun h m hm => h _ hm rfl, fun h x hx e => h x.2 (by rw [← e]; exact hx)⟩
/-- nothing becomes shorter: these are the shortest ways -/
theorem Rel.done {E : List Edg} {a : ByteArray} {l : List Stp} (I : Rel E a l) (h : ∀ b c w n, (b, c, w) ∈ E → (b, n) ∈ l → ∃ m, (c, m) ∈ l ∧ m ≤ n + w) (to : ByteArray) : disO E a to = atL l to := by
  have all : ∀ c n, Wy E a c n → ∃ m, (c, m) ∈ l ∧ m ≤ n := by
    intro c n hw
    induction hw with
    | here =>
      exact ⟨0, I.start, Nat.le_refl _⟩
    | @on b c n w hb he ih =>
      obtain ⟨m, hm, hle⟩ := ih
      obtain ⟨k, hk, hle'⟩ := h b c w m he hm
      exact ⟨k, hk, by omega⟩
  cases hl : atL l to with
  | none =>
    refine disO_none fun n hn => ?_
    obtain ⟨m, hm, _⟩ := all to n hn
    exact atL_none.1 hl m hm
  | some m =>
    have hm := (atL_mem I.one).1 hl
    refine disO_some ⟨I.way _ _ hm, fun n hn => ?_⟩
    obtain ⟨k, hk, hle⟩ := all to n hn
    have := (atL_mem I.one).2 hk
    rw [hl] at this
    cases this
    exact hle

/-- a way to a city is noted, if it is new or shorter -/
def putL : List Stp → ByteArray → Nat → List Stp
  | [], c, m => [(c, m)]
  | x :: r, c, m => if x.1 = c then (if x.2 ≤ m then x :: r else (c, m) :: r) else x :: putL r c m
def newL : List Stp → ByteArray → Nat → Bool
  | [], _, _ => true
  | x :: r, c, m => if x.1 = c then decide (m < x.2) else newL r c m
theorem putL_same : ∀ (l : List Stp) (c : ByteArray) (m : Nat), newL l c m = false → putL l c m = l
  | [], c, m, h => by simp [newL] at h
  | x :: r, c, m, h => by
    by_cases e : x.1 = c
    · simp [newL, e] at h
      simp [putL, e, h]
    · simp [newL, e] at h
      simp [putL, e, putL_same r c m h]
theorem putL_mem : ∀ (l : List Stp) (c : ByteArray) (m : Nat) (x : Stp), x ∈ putL l c m → x ∈ l ∨ x = (c, m)
  | [], c, m, x, h => by simp [putL] at h; exact .inr h
  | y :: r, c, m, x, h => by
    by_cases e : y.1 = c
    · by_cases hm : y.2 ≤ m
      · simp only [putL, e, if_true, hm] at h
        exact .inl h
      · simp only [putL, e, if_true, hm, if_false] at h
        rcases List.mem_cons.1 h with h | h
        · exact .inr h
        · exact .inl (by simp [h])
    · simp only [putL, e, if_false] at h
      rcases List.mem_cons.1 h with h | h
      · exact .inl (by simp [h])
      · rcases putL_mem r c m x h with h | h
        · exact .inl (by simp [h])
        · exact .inr h
theorem putL_keep : ∀ (l : List Stp) (c : ByteArray) (m : Nat) (x : Stp), x ∈ l → x.1 ≠ c ∨ x.2 ≤ m → x ∈ putL l c m
  | [], c, m, x, h, _ => by simp at h
  | y :: r, c, m, x, h, hx => by
    by_cases e : y.1 = c
    · by_cases hm : y.2 ≤ m
      · simp only [putL, e, if_true, hm]
        exact h
      · simp only [putL, e, if_true, hm, if_false]
        rcases List.mem_cons.1 h with rfl | h
        · rcases hx with hx | hx
          · exact absurd e hx
          · exact absurd hx hm
        · simp [h]
    · simp only [putL, e, if_false]
      rcases List.mem_cons.1 h with rfl | h
      · simp
      · simp [putL_keep r c m x h hx]
theorem putL_one : ∀ (l : List Stp) (c : ByteArray) (m : Nat), l.Pairwise (fun x y => x.1 ≠ y.1) → (putL l c m).Pairwise fun x y => x.1 ≠ y.1
  | [], c, m, h => by simp [putL]
  | x :: r, c, m, h => by
    obtain ⟨h1, h2⟩ := List.pairwise_cons.1 h
    by_cases e : x.1 = c
    · by_cases hm : x.2 ≤ m
      · simp only [putL, e, if_true, hm]
        exact h
      · simp only [putL, e, if_true, hm, if_false]
        exact List.pairwise_cons.2 ⟨fun y hy => by rw [← e]; exact h1 y hy, h2⟩
    · simp only [putL, e, if_false]
      refine List.pairwise_cons.2 ⟨fun y hy => ?_, putL_one r c m h2⟩
      rcases putL_mem r c m y hy with h | rfl
      · exact h1 y h
      · exact e
def sumL (l : List Stp) : Nat := (l.map (·.2)).sum
theorem putL_meas : ∀ (l : List Stp) (c : ByteArray) (m : Nat), newL l c m = true → ((putL l c m).length = l.length ∧ sumL (putL l c m) < sumL l ∧ ∃ k, (c, k) ∈ l ∧ m < k) ∨ ((putL l c m).length = l.length + 1 ∧ sumL (putL l c m) = sumL l + m)
  | [], c, m, h => by right; simp [putL, sumL]
  | x :: r, c, m, h => by
    by_cases e : x.1 = c
    · simp [newL, e] at h
      left
      refine ⟨?_, ?_, x.2, by rw [← e]; simp, h⟩
      · simp only [putL, e, if_true, if_neg (show ¬ x.2 ≤ m by omega), List.length_cons]
      · simp only [putL, e, if_true, if_neg (show ¬ x.2 ≤ m by omega), sumL, List.map_cons, List.sum_cons]
        omega
    · simp [newL, e] at h
      rcases putL_meas r c m h with ⟨h1, h2, k, h3, h4⟩ | ⟨h1, h2⟩
      · left
        refine ⟨?_, ?_, k, by simp [h3], h4⟩
        · simp only [putL, e, if_false, List.length_cons, h1]
        · simp only [putL, e, if_false, sumL, List.map_cons, List.sum_cons] at h2 ⊢
          omega
      · right
        simp only [putL, e, if_false, List.length_cons, sumL, List.map_cons, List.sum_cons] at h1 h2 ⊢
        omega
theorem Rel.put {E : List Edg} {a : ByteArray} {l : List Stp} (I : Rel E a l) {b c : ByteArray} {n w : Nat} (hb : (b, n) ∈ l) (he : (b, c, w) ∈ E) : Rel E a (putL l c (n + w)) where
  way x m h := by
    rcases putL_mem l c _ _ h with h | e
    · exact I.way x m h
    · cases e
      exact (I.way b n hb).on he
  start := putL_keep l c _ _ I.start (.inr (Nat.zero_le _))
  one := putL_one l c _ I.one
/-- distinct cities of a list that has them all -/
theorem nodup_le {α : Type} [DecidableEq α] : ∀ (l m : List α), l.Nodup → (∀ x ∈ l, x ∈ m) → l.length ≤ m.length
  | [], m, _, _ => by simp
  | x :: r, m, h, hs => by
    obtain ⟨h1, h2⟩ := List.nodup_cons.1 h
    have := nodup_le r (m.erase x) h2 fun y hy => (List.mem_erase_of_ne (fun e => h1 (by rw [← e]; exact hy))).2 (hs y (by simp [hy]))
    have e := List.length_erase_of_mem (hs x (by simp))
    have hp := List.length_pos_of_mem (hs x (by simp))
    simp only [List.length_cons]
    omega
theorem Wy.end' {E : List Edg} {a c : ByteArray} {n : Nat} (h : Wy E a c n) : c = a ∨ c ∈ E.map (·.2.1) := by
  cases h with
  | here => exact .inl rfl
  | on _ he => exact .inr (List.mem_map.2 ⟨_, he, rfl⟩)
theorem Rel.len {E : List Edg} {a : ByteArray} {l : List Stp} (I : Rel E a l) : l.length ≤ E.length + 1 := by
  have h := nodup_le (l.map (·.1)) (a :: E.map (·.2.1)) (List.pairwise_map.2 I.one) (fun x hx => by
    obtain ⟨⟨c, m⟩, hm, rfl⟩ := List.mem_map.1 hx
    exact List.mem_cons.2 (I.way c m hm).end')
  simpa using h
/-- no way that was noted is longer than this -/
def capL (l : List Stp) : Prop := ∀ c m, (c, m) ∈ l → m + 20000 ≤ 20000 * l.length
theorem capL.put {l : List Stp} (h : capL l) {b c : ByteArray} {n w : Nat} (hb : (b, n) ∈ l) (hw : w ≤ 20000) : capL (putL l c (n + w)) := by
  intro x m hx
  have hn := h b n hb
  cases hz : newL l c (n + w)
  · rw [putL_same l c _ hz] at hx ⊢
    exact h x m hx
  · rcases putL_meas l c (n + w) hz with ⟨e, _, k, hk, hlt⟩ | ⟨e, _⟩
    · rw [e]
      rcases putL_mem l c _ _ hx with h1 | h1
      · exact h x m h1
      · cases h1
        have := h c k hk
        omega
    · rw [e]
      rcases putL_mem l c _ _ hx with h1 | h1
      · have := h x m h1
        omega
      · cases h1
        omega

end Go.Proofs.YtdpcjafkahhecaaGreatDoor

/- Plain facts on numbers as text. -/
namespace Go.Proofs.YtdpcjafkahhecaaGreatDoor
set_option linter.unusedSimpArgs false
set_option linter.unusedVariables false

def dgB (c : UInt8) : Bool := decide (48 ≤ (c.toNat : Int) ∧ (c.toNat : Int) ≤ 57)
/-! ### what is written is read -/
theorem decDigits_step (u : Nat) (h : 10 ≤ u) : Lib.decDigits u = Lib.decDigits (u / 10) ++ [UInt8.ofNat (48 + u % 10)] := by
  rw [Lib.decDigits, dif_neg (by omega)]
theorem decDigits_small (u : Nat) (h : u < 10) : Lib.decDigits u = [UInt8.ofNat (48 + u)] := by
  rw [Lib.decDigits, dif_pos h]
end Go.Proofs.YtdpcjafkahhecaaGreatDoor
