/- Words and walks that the laws below ask: Mem, CalP, CalA, CalQ, CalD, ZonP, ZonA, ZonB, PlaP, PlainB, TextA, PlaA, PlaB, PlaM, PlaQ, PlaH, OwnR, OwnS, PlaK, FltP, FltA. -/
import Derived.WalkKit
import Derived.WalkSpells
import Derived.WalkLawsBesides
import Derived.Deep.AppendLies
import Derived.Lib.UnsafeStr
import Derived.Lib.BufferWrite
import Derived.Lib.AppendStr
import Derived.Lib.Hide
import Derived.Test.YtmmpalnalogfnaaRows
import Derived.OwnWalk
import Derived.Deep.WholeRow
import Derived.BigQuiet
import Derived.Deep.QuietTactic
import Derived.IntWalk
import Derived.Lib.AtoiAll
import Derived.Lib.ItoaNum
import Derived.Shelf.Abstract
import Derived.Deep.LoopGhost
import Derived.Maps.OwnSet
import Derived.Deep.RegionHeld3
import Derived.Laws.OwnMore
/- Words for memory that a call makes: a buffer of bytes that is appended to (over any program). -/
namespace Go.Proofs.Ytmmpalnalogfnaa
open Go.RowKit
set_option linter.unusedSimpArgs false
set_option linter.unusedVariables false

theorem ret_bool {a b : Bool} (h : a = b) : Ending.returned (.bool a) = .returned (.bool b) := by rw [h]
theorem ret_int {k : IntKind} {a b : Int} (h : a = b) : Ending.returned (.int k a) = .returned (.int k b) := by rw [h]
theorem below_drewN {B : Nat} {a w : World} (h : Below B a w) (n : Nat) : Below B a (w.drewN n) := ⟨h.os, h.tape, h.output, h.size, h.block⟩

/-- the slice value v holds the bytes l, in a row of the call's own blocks (from B on); of the blocks below B nothing has turned since a -/
structure Buf (e : TypeId) (B : Nat) (a w : World) (v : Value) (l : List UInt8) : Prop where
  own : w.ownsRow B e 1 v l.length (Lib.byteCells l)
  bel : Below B a w
  base : B ≤ w.heap.size

theorem Buf.nil {e : TypeId} {B : Nat} {a w : World} (h : Below B a w) (hB : B ≤ w.heap.size) : Buf e B a w (.slice none 0 0) [] := ⟨World.ownsRow_nil _ _ _ _, h, hB⟩
theorem Buf.alloc {e : TypeId} {B : Nat} {a w : World} {v : Value} {l : List UInt8} (h : Buf e B a w v l) (o : Obj) : Buf e B a (w.alloc o) v l :=
  ⟨h.own.alloc o, h.bel.alloc h.base o, by have := h.base; simp; omega⟩
theorem Buf.drew {e : TypeId} {B : Nat} {a w : World} {v : Value} {l : List UInt8} (h : Buf e B a w v l) : Buf e B a w.drew v l := ⟨h.own, h.bel.drew, h.base⟩
theorem Buf.drewN {e : TypeId} {B : Nat} {a w : World} {v : Value} {l : List UInt8} (h : Buf e B a w v l) (n : Nat) : Buf e B a (w.drewN n) v l := ⟨h.own, below_drewN h.bel n, h.base⟩
/-- a buffer that holds something is not nil -/
theorem Buf.form {e : TypeId} {B : Nat} {a w : World} {v : Value} {l : List UInt8} (h : Buf e B a w v l) (hl : l ≠ []) : ∃ g cap, v = .slice (some ⟨g, 0, none⟩) l.length cap ∧ B ≤ g ∧ g < w.heap.size :=
  h.own.form (by cases l with
    | nil => exact absurd rfl hl
    | cons _ _ => simp)
theorem Buf.cells {e : TypeId} {B : Nat} {a w : World} {l : List UInt8} {g n cap : Nat} (h : Buf e B a w (.slice (some ⟨g, 0, none⟩) n cap) l) :
    ∀ j (hj : j < l.length), w.cell? ((⟨g, 0, none⟩ : Addr).add j) = some (.int .u8 (l[j].toNat : Int)) := fun j hj =>
  h.own.cells (g := g) rfl j _ (by simp [Lib.byteCells, hj])

section
variable {P : Program} {t e : TypeId}
end
/-- a slice literal of bytes -/
theorem Buf.new {e : TypeId} {B : Nat} {a w : World} (h : Below B a w) (hB : B ≤ w.heap.size) (l : List UInt8) {cs : Array Value} (hcs : cs = (Lib.byteCells l).toArray) {n : Nat} (hn : n = l.length) (hm : l.length ≤ 140737488355328) :
    Buf e B a (w.alloc (.cells cs e)) (.slice (some ⟨w.heap.size, 0, none⟩) n n) l := by
  subst hn hcs
  refine ⟨⟨by simp [Lib.byteCells], .inr ⟨w.heap.size, l.length, (Lib.byteCells l).toArray, rfl, hB, heap_alloc_new w _, Nat.le_refl _, by unfold maxLen; omega, by simp [Lib.byteCells], ?_⟩⟩, h.alloc hB _, by simp; omega⟩
  rw [List.take_of_length_le (by simp [Lib.byteCells])]
/-- a buffer stands while nothing that is there turns -/
theorem own_more {e : TypeId} {B size : Nat} {w w' : World} {v : Value} {n : Nat} {xs : List Value} (h : w.ownsRow B e size v n xs) (hb : Below w.heap.size w w') : w'.ownsRow B e size v n xs := by
  refine h.kept (row := none) ⟨hb.os, hb.tape, hb.output, hb.size, fun k hk _ => hb.block k hk⟩ ?_
  cases hv : v.ownBlock
  · exact .inl rfl
  · exact .inr (by simp)
theorem Buf.more {e : TypeId} {B : Nat} {a w w' : World} {v : Value} {l : List UInt8} (h : Buf e B a w v l) (hb : Below w.heap.size w w') : Buf e B a w' v l :=
  ⟨own_more h.own hb, h.bel.trans (hb.mono h.base), Nat.le_trans h.base hb.size⟩
/-- the slice value v holds the texts ss, in memory that lies in w -/
def StrL (w : World) (v : Value) (ss : List ByteArray) : Prop :=
  ∃ A c, v = .slice A ss.length c ∧ (ss = [] ∨ ∃ b o, A = some ⟨b, o, none⟩ ∧ b < w.heap.size ∧ ∀ i (h : i < ss.length), w.cell? ⟨b, o + i, none⟩ = some (.string ss[i]))
theorem StrL.more {w w' : World} {v : Value} {ss : List ByteArray} (h : StrL w v ss) (hb : Below w.heap.size w w') : StrL w' v ss := by
  obtain ⟨A, c, rfl, h⟩ := h
  refine ⟨A, c, rfl, ?_⟩
  rcases h with h | ⟨b, o, rfl, hlt, hc⟩
  · exact .inl h
  · exact .inr ⟨b, o, rfl, Nat.lt_of_lt_of_le hlt hb.size, fun i hi => (hb.cell (p := ⟨b, o + i, none⟩) hlt).trans (hc i hi)⟩
theorem StrL.alloc {w : World} {v : Value} {ss : List ByteArray} (h : StrL w v ss) (o : Obj) : StrL (w.alloc o) v ss := h.more ((Below.refl _ _).alloc (Nat.le_refl _) _)
structure SOwn (e : TypeId) (B : Nat) (w : World) (v : Value) (ss : List ByteArray) : Prop where
  own : w.ownsRow B e 1 v ss.length (ss.map .string)
  base : B ≤ w.heap.size
theorem SOwn.nil {e : TypeId} {B : Nat} {w : World} (hB : B ≤ w.heap.size) : SOwn e B w (.slice none 0 0) [] := ⟨World.ownsRow_nil _ _ _ _, hB⟩
theorem SOwn.more {e : TypeId} {B : Nat} {w w' : World} {v : Value} {ss : List ByteArray} (h : SOwn e B w v ss) (hb : Below w.heap.size w w') : SOwn e B w' v ss :=
  ⟨own_more h.own hb, Nat.le_trans h.base hb.size⟩
theorem SOwn.alloc {e : TypeId} {B : Nat} {w : World} {v : Value} {ss : List ByteArray} (h : SOwn e B w v ss) (o : Obj) : SOwn e B (w.alloc o) v ss := h.more ((Below.refl _ _).alloc (Nat.le_refl _) _)
theorem own_below' {e : TypeId} {size B : Nat} {w : World} {v : Value} {n : Nat} {xs : List Value} (h : w.ownsRow B e size v n xs) : ∀ k, v.ownBlock = some k → B ≤ k := fun k hk => (h.lt k hk).1
section
variable {P : Program} {t e : TypeId}
end
section
variable {P : Program} {t e d : TypeId}
end
end Go.Proofs.Ytmmpalnalogfnaa

/- Plain facts on days and dates: integers alone; nothing of the program. -/
namespace Go.Proofs.Ytmmpalnalogfnaa

/-- the days of a month, before a year, before a month of a year -/
def lenP (y m : Int) : Int := if m = 4 ∨ m = 6 ∨ m = 9 ∨ m = 11 then 30 else if m = 2 then (if y % 4 = 0 then 29 else 28) else 31
def ysP (y : Int) : Int := (1461 * (y - 2000) + 3) / 4
def lp (y : Int) : Int := if y % 4 = 0 then 1 else 0
def befP (y m : Int) : Int := if m ≤ 1 then 0 else if m = 2 then 31 else (153 * (m - 3) + 2) / 5 + 59 + lp y
theorem lp_two (y : Int) : lp y = 0 ∨ lp y = 1 := by unfold lp; split <;> simp
theorem len_lp (y m : Int) : lenP y m = if m = 4 ∨ m = 6 ∨ m = 9 ∨ m = 11 then 30 else if m = 2 then 28 + lp y else 31 := by
  unfold lenP lp; split
  · rfl
  · split
    · split <;> rfl
    · rfl
theorem len_range (y m : Int) : 28 ≤ lenP y m ∧ lenP y m ≤ 31 := by
  rw [len_lp]; have := lp_two y
  split
  · omega
  · split <;> omega
theorem bef_one (y : Int) : befP y 1 = 0 := by simp [befP]
theorem bef_next (y m : Int) (h1 : 1 ≤ m) (h2 : m ≤ 12) : befP y (m + 1) = befP y m + lenP y m := by
  have h : m = 1 ∨ m = 2 ∨ m = 3 ∨ m = 4 ∨ m = 5 ∨ m = 6 ∨ m = 7 ∨ m = 8 ∨ m = 9 ∨ m = 10 ∨ m = 11 ∨ m = 12 := by omega
  rw [len_lp]
  rcases h with rfl | rfl | rfl | rfl | rfl | rfl | rfl | rfl | rfl | rfl | rfl | rfl <;> simp [befP] <;> omega
theorem bef_all (y : Int) : befP y 13 = 365 + lp y := by
  have e : befP y 13 = (153 * (13 - 3) + 2) / 5 + 59 + lp y := by simp [befP]
  rw [e]; omega
theorem ys_next (y : Int) : ysP (y + 1) = ysP y + befP y 13 := by
  rw [bef_all]
  have h : y % 4 = 0 ∨ y % 4 = 1 ∨ y % 4 = 2 ∨ y % 4 = 3 := by omega
  unfold ysP lp
  rcases h with h | h | h | h <;> simp only [h] <;> simp <;> omega
theorem ys_first : ysP 2000 = 0 := by decide
theorem ys_last : ysP 2100 = 36525 := by decide
theorem ys_mono (y z : Int) (h : y ≤ z) : ysP y ≤ ysP z := by unfold ysP; omega
theorem bef_mono (y m k : Int) (h1 : 1 ≤ m) (h2 : m ≤ k) (h3 : k ≤ 13) : befP y m ≤ befP y k := by
  have := lp_two y
  unfold befP
  split <;> split <;> (try split) <;> (try split) <;> omega
theorem bef_lt (y m k : Int) (h1 : 1 ≤ m) (h2 : m < k) (h3 : k ≤ 13) : befP y m + lenP y m ≤ befP y k := by
  rw [← bef_next y m h1 (by omega)]
  exact bef_mono y _ _ (by omega) (by omega) h3

/-- a date that there is; its day; the day of a date or the error -/
def okP (y m d : Int) : Bool := decide (2000 ≤ y ∧ y ≤ 2099 ∧ 1 ≤ m ∧ m ≤ 12 ∧ 1 ≤ d ∧ d ≤ lenP y m)
def numP (y m d : Int) : Int := ysP y + befP y m + d - 1
theorem ok_yes {y m d : Int} (h : okP y m d = true) : 2000 ≤ y ∧ y ≤ 2099 ∧ 1 ≤ m ∧ m ≤ 12 ∧ 1 ≤ d ∧ d ≤ lenP y m := by simpa [okP] using h
theorem ok_mk {y m d : Int} (h : 2000 ≤ y ∧ y ≤ 2099 ∧ 1 ≤ m ∧ m ≤ 12 ∧ 1 ≤ d ∧ d ≤ lenP y m) : okP y m d = true := by simpa [okP] using h
/-- where a date's day lies: in its year, in its month -/
theorem num_in {y m d : Int} (h : okP y m d = true) : ysP y ≤ numP y m d ∧ numP y m d < ysP (y + 1) ∧ befP y m ≤ numP y m d - ysP y ∧ numP y m d - ysP y < befP y m + lenP y m ∧ 0 ≤ numP y m d ∧ numP y m d < 36525 := by
  obtain ⟨h1, h2, h3, h4, h5, h6⟩ := ok_yes h
  have a := bef_lt y m 13 h3 (by omega) (by omega)
  have b := bef_mono y 1 m (by omega) h3 (by omega)
  rw [bef_one] at b
  have c := ys_next y
  have e := ys_mono 2000 y h1
  have f := ys_mono (y + 1) 2100 (by omega)
  rw [ys_first] at e
  rw [ys_last] at f
  unfold numP
  omega
theorem num_inj {y m d y' m' d' : Int} (h : okP y m d = true) (h' : okP y' m' d' = true) (he : numP y m d = numP y' m' d') : y = y' ∧ m = m' ∧ d = d' := by
  have a := num_in h
  have a' := num_in h'
  obtain ⟨h1, h2, h3, h4, h5, h6⟩ := ok_yes h
  obtain ⟨h1', h2', h3', h4', h5', h6'⟩ := ok_yes h'
  have ey : y = y' := by
    rcases Int.lt_trichotomy y y' with c | c | c
    · have := ys_mono (y + 1) y' (by omega); omega
    · exact c
    · have := ys_mono (y' + 1) y (by omega); omega
  subst ey
  have em : m = m' := by
    rcases Int.lt_trichotomy m m' with c | c | c
    · have := bef_lt y m m' h3 c (by omega); omega
    · exact c
    · have := bef_lt y m' m h3' c (by omega); omega
  subst em
  unfold numP at he
  exact ⟨rfl, rfl, by omega⟩
/-- the year, the month and the day of the month of a day -/
def yOf (n : Int) : Int := 2000 + 4 * n / 1461
def mOf (y r : Int) : Int := if r < befP y 2 then 1 else if r < befP y 3 then 2 else if r < befP y 4 then 3 else if r < befP y 5 then 4 else if r < befP y 6 then 5 else if r < befP y 7 then 6
  else if r < befP y 8 then 7 else if r < befP y 9 then 8 else if r < befP y 10 then 9 else if r < befP y 11 then 10 else if r < befP y 12 then 11 else 12
theorem yOf_in (n : Int) : ysP (yOf n) ≤ n ∧ n < ysP (yOf n + 1) := by unfold ysP yOf; omega
theorem mOf_in (y r : Int) (h0 : 0 ≤ r) (h1 : r < befP y 13) : 1 ≤ mOf y r ∧ mOf y r ≤ 12 ∧ befP y (mOf y r) ≤ r ∧ r < befP y (mOf y r + 1) := by
  unfold mOf
  repeat' split
  all_goals first | (refine ⟨by omega, by omega, ?_, ?_⟩ <;> simp [befP] at * <;> omega) | skip
def dateOf (n : Int) : Int × Int × Int := (yOf n, mOf (yOf n) (n - ysP (yOf n)), n - ysP (yOf n) - befP (yOf n) (mOf (yOf n) (n - ysP (yOf n))) + 1)
def isDayB (n : Int) : Bool := decide (0 ≤ n ∧ n < 36525)
def dateR (n : Int) : Int × Int × Int := if isDayB n then dateOf n else (0, 0, 0)
theorem date_ok (n : Int) (h0 : 0 ≤ n) (h1 : n < 36525) : okP (dateOf n).1 (dateOf n).2.1 (dateOf n).2.2 = true ∧ numP (dateOf n).1 (dateOf n).2.1 (dateOf n).2.2 = n := by
  have a := yOf_in n
  rw [ys_next] at a
  have b := mOf_in (yOf n) (n - ysP (yOf n)) (by omega) (by omega)
  have c := bef_next (yOf n) (mOf (yOf n) (n - ysP (yOf n))) b.1 b.2.1
  refine ⟨ok_mk ?_, ?_⟩
  · simp only [dateOf]
    have : 2000 ≤ yOf n ∧ yOf n ≤ 2099 := by unfold yOf; omega
    omega
  · simp only [dateOf, numP]; omega
theorem date_of {n y m d : Int} (h : okP y m d = true) (hn : numP y m d = n) : dateR n = (y, m, d) := by
  have a := num_in h
  have h0 : 0 ≤ n ∧ n < 36525 := by omega
  obtain ⟨h1, h2⟩ := date_ok n h0.1 h0.2
  obtain ⟨e1, e2, e3⟩ := num_inj h1 h (by rw [h2, hn])
  rw [dateR, if_pos (by simp [isDayB, h0])]
  exact Prod.ext e1 (Prod.ext e2 e3)
theorem date_in {n : Int} (h : isDayB n = true) : okP (dateR n).1 (dateR n).2.1 (dateR n).2.2 = true ∧ numP (dateR n).1 (dateR n).2.1 (dateR n).2.2 = n := by
  have h' : 0 ≤ n ∧ n < 36525 := by simpa [isDayB] using h
  rw [dateR, if_pos h]
  exact date_ok n h'.1 h'.2
theorem date_out {n : Int} (h : isDayB n = false) : dateR n = (0, 0, 0) := by simp [dateR, h]
end Go.Proofs.Ytmmpalnalogfnaa

/- Walks of the small functions of package calendar, beside the reference's. -/
namespace Go.Proofs.Ytmmpalnalogfnaa
open Go.RowKit
set_option linter.unusedSimpArgs false
set_option linter.unusedVariables false

theorem tmod_pos (a b : Int) (h : 0 ≤ a) : a.tmod b = a % b := Int.tmod_eq_emod_of_nonneg h

set_option maxHeartbeats 400000 in
theorem isDay_any (a : Int) (w : World) : Calls Try.prog 52 #[.int .i64 a] w fun e w' => e = .returned (.bool (isDayB a)) ∧ w = w' := by
  by_cases h1 : (0 : Int) ≤ a
  · go_enter Try.func52, Try.ntmps52
    go_wp2
    go_ret
    exact ⟨ret_bool (by simp [isDayB]; omega), rfl⟩
  · go_enter Try.func52, Try.ntmps52
    go_wp2
    go_ret
    exact ⟨ret_bool (by simp [isDayB]; omega), rfl⟩
set_option maxHeartbeats 400000 in
theorem yearStart_any (y : Int) (w : World) (h0 : 2000 ≤ y) (h1 : y ≤ 2100) : Calls Try.prog 75 #[.int .i64 y] w fun e w' => e = .returned (.int .i64 (ysP y)) ∧ w = w' := by
  go_enter Try.func75, Try.ntmps75
  go_wp2
  go_ret
  exact ⟨ret_int (by rfl), rfl⟩
/-- the days of the months, as the program lays them -/
def lensA (y : Int) : Array Value := #[.int .i64 31, .int .i64 (28 + lp y), .int .i64 31, .int .i64 30, .int .i64 31, .int .i64 30, .int .i64 31, .int .i64 31, .int .i64 30, .int .i64 31, .int .i64 30, .int .i64 31]
theorem lensA_at (y : Int) (i : Nat) (h : i < 12) : (lensA y)[i]? = some (.int .i64 (lenP y ((i : Int) + 1))) := by
  have : i = 0 ∨ i = 1 ∨ i = 2 ∨ i = 3 ∨ i = 4 ∨ i = 5 ∨ i = 6 ∨ i = 7 ∨ i = 8 ∨ i = 9 ∨ i = 10 ∨ i = 11 := by omega
  rw [len_lp]
  rcases this with rfl | rfl | rfl | rfl | rfl | rfl | rfl | rfl | rfl | rfl | rfl | rfl <;> rfl
set_option maxHeartbeats 400000 in
theorem months_any (y : Int) (w : World) (h0 : 2000 ≤ y) (h1 : y ≤ 2100) :
    Calls Try.prog 76 #[.int .i64 y] w fun e w' => e = .returned (.agg (lensA y)) ∧ w' = (w.alloc (.cells (lensA y) 108)).alloc (.cells (lensA y) 108) := by
  by_cases h : y % 4 = 0
  · have hl : lp y = 1 := by simp [lp, h]
    have ha : Hid (lensA y = #[.int .i64 31, .int .i64 29, .int .i64 31, .int .i64 30, .int .i64 31, .int .i64 30, .int .i64 31, .int .i64 31, .int .i64 30, .int .i64 31, .int .i64 30, .int .i64 31]) := Lib.hid (by simp [lensA, hl])
    clear hl
    go_enter Try.func76, Try.ntmps76
    go_wp2
    refine bodyPost_ret (v := .agg (lensA y)) ?_ rfl ⟨rfl, ?_⟩
    · rw [ha.out]; simp [results, Try.results76, go_sem]
    · rw [ha.out]
  · have hl : lp y = 0 := by simp [lp, h]
    have ha : Hid (lensA y = #[.int .i64 31, .int .i64 28, .int .i64 31, .int .i64 30, .int .i64 31, .int .i64 30, .int .i64 31, .int .i64 31, .int .i64 30, .int .i64 31, .int .i64 30, .int .i64 31]) := Lib.hid (by simp [lensA, hl])
    clear hl
    go_enter Try.func76, Try.ntmps76
    go_wp2
    refine bodyPost_ret (v := .agg (lensA y)) ?_ rfl ⟨rfl, ?_⟩
    · rw [ha.out]; simp [results, Try.results76, go_sem]
    · rw [ha.out]

end Go.Proofs.Ytmmpalnalogfnaa

/- Plain facts on digits, dates and times as text: lists of bytes alone; nothing of the program. -/
namespace Go.Proofs.Ytmmpalnalogfnaa
set_option linter.unusedSimpArgs false
set_option linter.unusedVariables false

/-- two digits -/
def d1 (n : Int) : UInt8 := UInt8.ofNat (48 + n / 10).toNat
def d2 (n : Int) : UInt8 := UInt8.ofNat (48 + n % 10).toNat
def twoL (n : Int) : List UInt8 := [d1 n, d2 n]
theorem d1_nat (n : Int) (h0 : 0 ≤ n) (h1 : n ≤ 99) : ((d1 n).toNat : Int) = 48 + n / 10 := by
  rw [d1, UInt8.toNat_ofNat']; omega
theorem d2_nat (n : Int) (h0 : 0 ≤ n) (h1 : n ≤ 99) : ((d2 n).toNat : Int) = 48 + n % 10 := by
  rw [d2, UInt8.toNat_ofNat']; omega
/-- a day's date as text, a minute as text -/
def dateL (y m d : Int) : List UInt8 := twoL (y / 100) ++ twoL (y % 100) ++ [45] ++ twoL m ++ [45] ++ twoL d
def printL (n : Int) : List UInt8 := if isDayB n then dateL (dateR n).1 (dateR n).2.1 (dateR n).2.2 else []
end Go.Proofs.Ytmmpalnalogfnaa

/- Walks of divide, Split, Weekday, of two digits, beside the reference's. -/
namespace Go.Proofs.Ytmmpalnalogfnaa
open Go.RowKit
set_option linter.unusedSimpArgs false
set_option linter.unusedVariables false

/-- how the program's own division lies beside the floor -/
theorem tdiv_bounds (a b : Int) (hb : 2 ≤ b) (h0 : -9223372036854775808 ≤ a) (h1 : a ≤ 9223372036854775807) : -4611686018427387904 ≤ a.tdiv b ∧ a.tdiv b ≤ 4611686018427387904 := by
  have h := Int.natAbs_tdiv a b
  have h2 : a.natAbs / b.natAbs ≤ a.natAbs / 2 := Nat.div_le_div_left (by omega) (by omega)
  have h3 : (a.tdiv b).natAbs ≤ a.natAbs / 2 := by rw [h]; exact h2
  generalize a.tdiv b = q at h3
  omega
theorem tmod_bounds (a b : Int) (hb : 2 ≤ b) : -b < a.tmod b ∧ a.tmod b < b := ⟨Int.lt_tmod_of_pos a (by omega), Int.tmod_lt_of_pos a (by omega)⟩
theorem floor_low (a b : Int) (hb : 2 ≤ b) (h : a.tmod b < 0) : a / b = a.tdiv b - 1 ∧ a % b = a.tmod b + b := by
  have h1 := Int.mul_tdiv_add_tmod a b
  have h2 := tmod_bounds a b hb
  refine (Int.ediv_emod_unique (by omega)).2 ⟨?_, by omega, by omega⟩
  rw [Int.mul_sub, Int.mul_one]
  omega
theorem floor_up (a b : Int) (hb : 2 ≤ b) (h : 0 ≤ a.tmod b) : a / b = a.tdiv b ∧ a % b = a.tmod b := by
  have h1 := Int.mul_tdiv_add_tmod a b
  have h2 := tmod_bounds a b hb
  exact (Int.ediv_emod_unique (by omega)).2 ⟨by omega, by omega, by omega⟩

set_option maxHeartbeats 1000000 in
theorem divide_any (a b : Int) (w : World) (h0 : -9223372036854775808 ≤ a) (h1 : a ≤ 9223372036854775807) (hb : b = 7 ∨ b = 1440) : Calls Try.prog 51 #[.int .i64 a, .int .i64 b] w fun e w' => e = .returned (.tuple #[.int .i64 (a / b), .int .i64 (a % b)]) ∧ Below w.heap.size w w' := by
  have b1 := tdiv_bounds a b (by omega) h0 h1
  have b2 := tmod_bounds a b (by omega)
  by_cases h : a.tmod b < 0
  · have HF := Lib.hid (floor_low a b (by omega) h)
    rcases hb with rfl | rfl
    all_goals
      go_enter Try.func51, Try.ntmps51
      go_wp2
      go_quiet (fail)
      go_wp2
      go_ret2
      exact ⟨by rw [HF.out.1, HF.out.2]; rfl, below_drewN (Below.refl _ _) _⟩
  · have HF := Lib.hid (floor_up a b (by omega) (by omega))
    rcases hb with rfl | rfl
    all_goals
      go_enter Try.func51, Try.ntmps51
      go_wp2
      go_quiet (fail)
      go_wp2
      go_ret2
      exact ⟨by rw [HF.out.1, HF.out.2]; rfl, below_drewN (Below.refl _ _) _⟩
/-- the weekday of any number -/
def weekP (n : Int) : Int := (n + 5) % 7
theorem week_of (n : Int) : (n.tmod 7 + 5) % 7 = weekP n := by
  have h1 := Int.mul_tdiv_add_tmod n 7
  unfold weekP
  omega
set_option maxHeartbeats 1000000 in
theorem weekday_any (n : Int) (w : World) (h0 : -9223372036854775808 ≤ n) (h1 : n ≤ 9223372036854775807) : Calls Try.prog 26 #[.int .i64 n] w fun e w' => e = .returned (.int .i64 (weekP n)) ∧ Below w.heap.size w w' := by
  have b2 := tmod_bounds n 7 (by omega)
  have CD := Lib.hid (fun w => divide_any (n.tmod 7 + 5) 7 w (by omega) (by omega) (.inl rfl))
  have HW := Lib.hid (week_of n)
  go_enter Try.func26, Try.ntmps26
  go_wp2_with (go_at_call 51; refine (CD.out _).mono ?_; rintro e w' ⟨rfl, hb⟩)
  go_ret
  exact ⟨by rw [← HW.out]; rfl, hb⟩
set_option maxHeartbeats 1000000 in
theorem rweekday_any (n : Int) (w : World) (h0 : -9223372036854775808 ≤ n) (h1 : n ≤ 9223372036854775807) : Calls Try.prog 84 #[.int .i64 n] w fun e w' => e = .returned (.int .i64 (weekP n)) ∧ w = w' := by
  have b2 := tmod_bounds n 7 (by omega)
  have HW : Hid ((n.tmod 7 + 12) % 7 = weekP n) := Lib.hid (by
    have h1 := Int.mul_tdiv_add_tmod n 7
    unfold weekP
    omega)
  go_enter Try.func84, Try.ntmps84
  go_wp2
  go_ret
  exact ⟨by rw [← HW.out]; rfl, rfl⟩

theorem two_text (n : Int) (h0 : 0 ≤ n) (h1 : n ≤ 99) (w : World) :
    (convert 107 9 (.slice (some ⟨w.heap.size, 0, none⟩) 2 2)).run Try.prog (w.alloc (.cells #[.int .u8 (48 + n / 10), .int .u8 (48 + n % 10)] 5)) = .ok (.string ⟨#[d1 n, d2 n]⟩) (w.alloc (.cells #[.int .u8 (48 + n / 10), .int .u8 (48 + n % 10)] 5)) := by
  have h := run_convert_bytes_back (P := Try.prog) (w.alloc (.cells #[.int .u8 (48 + n / 10), .int .u8 (48 + n % 10)] 5)) 107 9 5 ⟨w.heap.size, 0, none⟩ 2 (twoL n) Try.underlying107 Try.underlying5 Try.underlying9 ?_
  · exact h
  · intro j hj
    have hadd : (⟨w.heap.size, 0, none⟩ : Addr).add j = ⟨w.heap.size, j, none⟩ := by unfold Addr.add; split <;> simp_all
    rw [hadd, cell_of_row _ _ j _ _ (0, 0) (heap_alloc_last w _), ← d1_nat n h0 h1, ← d2_nat n h0 h1]
    have hj2 : j = 0 ∨ j = 1 := by have : (twoL n).length = 2 := rfl; omega
    rcases hj2 with rfl | rfl <;> rfl
set_option maxHeartbeats 1000000 in
theorem two_any (n : Int) (w : World) (h0 : 0 ≤ n) (h1 : n ≤ 99) : Calls Try.prog 54 #[.int .i64 n] w fun e w' => e = .returned (.string ⟨(twoL n).toArray⟩) ∧ Below w.heap.size w w' := by
  have HT := two_text n h0 h1
  go_enter Try.func54, Try.ntmps54
  go_wp2
  go_ret
  exact ⟨rfl, (Below.refl _ _).alloc (Nat.le_refl _) _⟩
set_option maxHeartbeats 1000000 in
theorem rtwo_any (n : Int) (w : World) (h0 : 0 ≤ n) (h1 : n ≤ 99) : Calls Try.prog 49 #[.int .i64 n] w fun e w' => e = .returned (.string ⟨(twoL n).toArray⟩) ∧ Below w.heap.size w w' := by
  have HT := two_text n h0 h1
  go_enter Try.func49, Try.ntmps49
  go_wp2
  go_ret
  exact ⟨rfl, (Below.refl _ _).alloc (Nat.le_refl _) _⟩

end Go.Proofs.Ytmmpalnalogfnaa

/- Plain facts on time zones: the error, offsets, the search for the first place, local minutes; the reference's ways. -/
namespace Go.Proofs.Ytmmpalnalogfnaa
set_option linter.unusedSimpArgs false
set_option linter.unusedVariables false

abbrev Shs := List (Int × Int)
def shA (l : Shs) (k : Nat) : Int := (l.getD k (0, 0)).1
def shF (l : Shs) (k : Nat) : Int := (l.getD k (0, 0)).2
/-- the offset before shift k -/
def shB (o : Int) (l : Shs) (k : Nat) : Int := if k = 0 then o else shF l (k - 1)
def offB (n : Int) : Bool := decide (-840 ≤ n) && decide (n ≤ 840)
/-- shift k is outside the time, or too early -/
def badT (l : Shs) (k : Nat) : Bool := decide (shA l k < 0) || decide (52596000 ≤ shA l k) || (decide (0 < k) && decide (shA l k - shA l (k - 1) < 2880))
def errAt (l : Shs) : Nat → Nat → Int
  | 0, _ => 0
  | n + 1, k => if badT l k then 13 else if offB (shF l k) then errAt l n (k + 1) else 2
def errZ (o : Int) (l : Shs) : Int := if 256 < l.length then 4 else if offB o then errAt l l.length 0 else 2
theorem errAt_step (l : Shs) (k n : Nat) (h : n = l.length - k) (hk : k < l.length) : errAt l n k = if badT l k then 13 else if offB (shF l k) then errAt l (l.length - (k + 1)) (k + 1) else 2 := by
  obtain ⟨m, rfl⟩ : ∃ m, n = m + 1 := ⟨n - 1, by omega⟩
  rw [errAt, show l.length - (k + 1) = m by omega]
structure OkZ (o : Int) (l : Shs) : Prop where
  len : l.length ≤ 256
  off : -840 ≤ o ∧ o ≤ 840
  at' : ∀ k, k < l.length → 0 ≤ shA l k ∧ shA l k < 52596000
  gap : ∀ k, k + 1 < l.length → shA l k + 2880 ≤ shA l (k + 1)
  shift : ∀ k, k < l.length → -840 ≤ shF l k ∧ shF l k ≤ 840
theorem offB_iff (n : Int) : offB n = true ↔ -840 ≤ n ∧ n ≤ 840 := by simp [offB]
theorem errAt_ok (l : Shs) : ∀ n k, k + n = l.length → errAt l n k = 0 → ∀ j, k ≤ j → j < l.length → badT l j = false ∧ offB (shF l j) = true
  | 0, k, h, _, j, h1, h2 => by omega
  | n + 1, k, h, he, j, h1, h2 => by
    rw [errAt] at he
    cases hb : badT l k <;> rw [hb] at he
    · cases ho : offB (shF l k) <;> rw [ho] at he
      · simp at he
      · by_cases hj : j = k
        · subst hj; exact ⟨hb, ho⟩
        · exact errAt_ok l n (k + 1) (by omega) (by simpa using he) j (by omega) h2
    · simp at he
theorem errZ_ok {o : Int} {l : Shs} (h : errZ o l = 0) : OkZ o l := by
  rw [errZ] at h
  by_cases h1 : 256 < l.length
  · rw [if_pos h1] at h; omega
  rw [if_neg h1] at h
  cases ho : offB o <;> rw [ho] at h
  · simp at h
  have h2 := errAt_ok l l.length 0 (by omega) (by simpa using h)
  refine ⟨by omega, (offB_iff o).1 ho, fun k hk => ?_, fun k hk => ?_, fun k hk => (offB_iff _).1 (h2 k (by omega) hk).2⟩
  · have := (h2 k (by omega) hk).1
    simp [badT] at this
    omega
  · have := (h2 (k + 1) (by omega) hk).1
    simp [badT] at this
    omega
theorem OkZ.before {o : Int} {l : Shs} (h : OkZ o l) (k : Nat) (hk : k ≤ l.length) : -840 ≤ shB o l k ∧ shB o l k ≤ 840 := by
  unfold shB
  split
  · exact h.off
  · exact h.shift _ (by omega)
theorem shB_succ (o : Int) (l : Shs) (k : Nat) : shB o l (k + 1) = shF l k := by simp [shB]
theorem OkZ.asc {o : Int} {l : Shs} (h : OkZ o l) : ∀ j k, j + k < l.length → shA l j + 2880 * k ≤ shA l (j + k)
  | j, 0, _ => by simp
  | j, k + 1, hk => by
    have := h.asc j k (by omega)
    have := h.gap (j + k) (by omega)
    rw [show j + (k + 1) = j + k + 1 by omega]
    omega
theorem OkZ.asc' {o : Int} {l : Shs} (h : OkZ o l) (j k : Nat) (hj : j < k) (hk : k < l.length) : shA l j + 2880 ≤ shA l k := by
  have := h.asc j (k - j) (by omega)
  rw [show j + (k - j) = k by omega] at this
  have : (1 : Int) ≤ ((k - j : Nat) : Int) := by omega
  omega

/-! ### the first place of which p says true -/
def fstP (p : Nat → Bool) : Nat → Nat → Nat
  | 0, k => k
  | n + 1, k => if p k then k else fstP p n (k + 1)
theorem fstP_is (p : Nat → Bool) (c m : Nat) : ∀ n k, k ≤ c → k + n = m → c ≤ m → (∀ t, t < c → p t = false) → (∀ t, c ≤ t → t < m → p t = true) → fstP p n k = c
  | 0, k, h1, h2, h3, _, _ => by rw [fstP]; omega
  | n + 1, k, h1, h2, h3, h4, h5 => by
    rw [fstP]
    by_cases hk : k = c
    · subst hk; rw [h5 k (by omega) (by omega)]; rfl
    · rw [h4 k (by omega)]; exact fstP_is p c m n (k + 1) (by omega) (by omega) h3 h4 h5
theorem fstP_spec (p : Nat → Bool) (m : Nat) (mono : ∀ a b, a ≤ b → b < m → p a = true → p b = true) : ∀ n k, k + n = m → (∀ t, t < k → p t = false) →
    fstP p n k ≤ m ∧ (∀ t, t < fstP p n k → p t = false) ∧ (∀ t, fstP p n k ≤ t → t < m → p t = true)
  | 0, k, h, h1 => ⟨by rw [fstP]; omega, by rw [fstP]; exact h1, by rw [fstP]; intros; omega⟩
  | n + 1, k, h, h1 => by
    rw [fstP]
    cases hp : p k
    · simp only [Bool.false_eq_true, if_false]
      exact fstP_spec p m mono n (k + 1) (by omega) (fun t ht => if h2 : t = k then h2 ▸ hp else h1 t (by omega))
    · simp only [if_true]
      exact ⟨by omega, h1, fun t ht hm => mono k t ht hm hp⟩

/-! ### what the program finds -/
def offN (l : Shs) (u : Int) : Nat := fstP (fun i => decide (u < shA l i)) l.length 0
def utcN (o : Int) (l : Shs) (x : Int) : Nat := fstP (fun i => decide (x < shA l i + shB o l i)) l.length 0
def lastN (l : Shs) (x : Int) : Nat := fstP (fun i => decide (x < shA l i + shF l i)) l.length 0
def offZ (o : Int) (l : Shs) (u : Int) : Int := shB o l (offN l u)
def utcZ (o : Int) (l : Shs) (x : Int) : Int := if utcN o l x = 0 then x - shB o l (utcN o l x) else max (x - shB o l (utcN o l x)) (shA l (utcN o l x - 1))
def lastZ (o : Int) (l : Shs) (x : Int) : Int := if lastN l x < l.length then min (x - shB o l (lastN l x)) (shA l (lastN l x) - 1) else x - shB o l (lastN l x)
theorem off_mono {o : Int} {l : Shs} (h : OkZ o l) (u : Int) (a b : Nat) (hab : a ≤ b) (hb : b < l.length) (hp : decide (u < shA l a) = true) : decide (u < shA l b) = true := by
  simp only [decide_eq_true_eq] at hp ⊢
  by_cases he : a = b
  · subst he; exact hp
  · have := h.asc' a b (by omega) hb; omega
theorem utc_mono {o : Int} {l : Shs} (h : OkZ o l) (x : Int) (a b : Nat) (hab : a ≤ b) (hb : b < l.length) (hp : decide (x < shA l a + shB o l a) = true) : decide (x < shA l b + shB o l b) = true := by
  simp only [decide_eq_true_eq] at hp ⊢
  by_cases he : a = b
  · subst he; exact hp
  · have := h.asc' a b (by omega) hb
    have := h.before a (by omega)
    have := h.before b (by omega)
    omega
theorem last_mono {o : Int} {l : Shs} (h : OkZ o l) (x : Int) (a b : Nat) (hab : a ≤ b) (hb : b < l.length) (hp : decide (x < shA l a + shF l a) = true) : decide (x < shA l b + shF l b) = true := by
  simp only [decide_eq_true_eq] at hp ⊢
  by_cases he : a = b
  · subst he; exact hp
  · have := h.asc' a b (by omega) hb
    have := h.shift a (by omega)
    have := h.shift b (by omega)
    omega
theorem offN_spec {o : Int} {l : Shs} (h : OkZ o l) (u : Int) : offN l u ≤ l.length ∧ (∀ t, t < offN l u → shA l t ≤ u) ∧ (∀ t, offN l u ≤ t → t < l.length → u < shA l t) := by
  obtain ⟨h1, h2, h3⟩ := fstP_spec _ l.length (off_mono h u) l.length 0 (by omega) (by intros; omega)
  exact ⟨h1, fun t ht => by have := h2 t ht; simp at this; omega, fun t ht hm => by have := h3 t ht hm; simpa using this⟩
theorem utcN_spec {o : Int} {l : Shs} (h : OkZ o l) (x : Int) : utcN o l x ≤ l.length ∧ (∀ t, t < utcN o l x → shA l t + shB o l t ≤ x) ∧ (∀ t, utcN o l x ≤ t → t < l.length → x < shA l t + shB o l t) := by
  obtain ⟨h1, h2, h3⟩ := fstP_spec _ l.length (utc_mono h x) l.length 0 (by omega) (by intros; omega)
  exact ⟨h1, fun t ht => by have := h2 t ht; simp at this; omega, fun t ht hm => by have := h3 t ht hm; simpa using this⟩
theorem lastN_spec {o : Int} {l : Shs} (h : OkZ o l) (x : Int) : lastN l x ≤ l.length ∧ (∀ t, t < lastN l x → shA l t + shF l t ≤ x) ∧ (∀ t, lastN l x ≤ t → t < l.length → x < shA l t + shF l t) := by
  obtain ⟨h1, h2, h3⟩ := fstP_spec _ l.length (last_mono h x) l.length 0 (by omega) (by intros; omega)
  exact ⟨h1, fun t ht => by have := h2 t ht; simp at this; omega, fun t ht hm => by have := h3 t ht hm; simpa using this⟩

def rut (l : Shs) (x : Int) : Nat → Nat → Int → Int
  | 0, _, u => u
  | n + 1, k, u => if u < shA l k then u else rut l x n (k + 1) (max (shA l k) (x - shF l k))
theorem rut_step (l : Shs) (x u : Int) (k n : Nat) (h : n = l.length - k) (hk : k < l.length) : rut l x n k u = if u < shA l k then u else rut l x (l.length - (k + 1)) (k + 1) (max (shA l k) (x - shF l k)) := by
  obtain ⟨m, rfl⟩ : ∃ m, n = m + 1 := ⟨n - 1, by omega⟩
  rw [rut, show l.length - (k + 1) = m by omega]
theorem rut_end (l : Shs) (x u : Int) (k n : Nat) (h : n = 0) : rut l x n k u = u := by subst h; rfl
/-- the reference's minute before it looks at shift k -/
def utcAt (o : Int) (l : Shs) (x : Int) (k : Nat) : Int := if k = 0 then x - shB o l k else max (x - shB o l k) (shA l (k - 1))
theorem rut_is {o : Int} {l : Shs} (h : OkZ o l) (x : Int) : rut l x l.length 0 (x - o) = utcZ o l x := by
  obtain ⟨h1, h2, h3⟩ := utcN_spec h x
  have hz : utcZ o l x = utcAt o l x (utcN o l x) := rfl
  rw [hz]
  generalize utcN o l x = c at *
  have : ∀ n k, k + n = l.length → k ≤ c → rut l x n k (utcAt o l x k) = utcAt o l x c := by
    intro n
    induction n with
    | zero => intro k hk hc; rw [rut, show k = c by omega]
    | succ n ih =>
      intro k hk hc
      rw [rut]
      by_cases hkc : k = c
      · subst hkc
        have h4 := h3 k (Nat.le_refl _) (by omega)
        rw [if_pos]
        unfold utcAt
        split
        · omega
        · have := h.asc' (k - 1) k (by omega) (by omega)
          omega
      · have h4 := h2 k (by omega)
        rw [if_neg]
        · have e : utcAt o l x (k + 1) = max (shA l k) (x - shF l k) := by
            unfold utcAt
            rw [if_neg (by omega), shB_succ, show k + 1 - 1 = k by omega]
            omega
          rw [← e]
          exact ih (k + 1) (by omega) (by omega)
        · unfold utcAt
          split <;> omega
  exact this l.length 0 (by omega) (by omega)
theorem near {o : Int} {l : Shs} (h : OkZ o l) (x : Int) : utcN o l x ≤ lastN l x + 1 ∧ lastN l x ≤ utcN o l x + 1 := by
  obtain ⟨h1, h2, h3⟩ := utcN_spec h x
  obtain ⟨g1, g2, g3⟩ := lastN_spec h x
  generalize utcN o l x = c at *
  generalize lastN l x = d at *
  constructor
  · apply Nat.le_of_not_lt
    intro hlt
    have a1 := g3 d (Nat.le_refl _) (by omega)
    have a2 := h2 (d + 1) (by omega)
    rw [shB_succ] at a2
    have := h.gap d (by omega)
    omega
  · apply Nat.le_of_not_lt
    intro hlt
    have a1 := h3 c (Nat.le_refl _) (by omega)
    have a2 := g2 (c + 1) (by omega)
    have := h.gap c (by omega)
    have := h.before c (by omega)
    have := h.shift (c + 1) (by omega)
    omega
theorem ends {o : Int} {l : Shs} (h : OkZ o l) (x : Int) : (utcZ o l x ≤ lastZ o l x ↔ utcN o l x ≤ lastN l x) ∧ (utcZ o l x < lastZ o l x ↔ utcN o l x < lastN l x) := by
  obtain ⟨n1, n2⟩ := near h x
  obtain ⟨h1, h2, h3⟩ := utcN_spec h x
  obtain ⟨g1, g2, g3⟩ := lastN_spec h x
  unfold utcZ lastZ
  generalize utcN o l x = c at *
  generalize lastN l x = d at *
  have hcase : c = d + 1 ∨ c = d ∨ d = c + 1 := by omega
  rcases hcase with rfl | rfl | rfl
  · have a1 := g3 d (Nat.le_refl _) (by omega)
    have a2 := h2 d (by omega)
    rw [if_neg (by omega), if_pos (by omega), shB_succ, show d + 1 - 1 = d by omega]
    omega
  · have e1 : c = 0 ∨ shA l (c - 1) ≤ x - shB o l c := by
      by_cases hc : c = 0
      · exact .inl hc
      · have a2 := g2 (c - 1) (by omega)
        refine .inr ?_
        unfold shB
        rw [if_neg hc]
        omega
    have e2 : c < l.length → x - shB o l c < shA l c := fun hc => by have := h3 c (Nat.le_refl _) hc; omega
    split <;> split <;> omega
  · have e1 : c = 0 ∨ shA l (c - 1) ≤ x - shB o l c := by
      by_cases hc : c = 0
      · exact .inl hc
      · have a2 := g2 (c - 1) (by omega)
        refine .inr ?_
        unfold shB
        rw [if_neg hc]
        omega
    have a1 := h3 c (Nat.le_refl _) (by omega)
    have a2 := g2 c (by omega)
    have e3 : c + 1 < l.length → x - shB o l (c + 1) < shA l (c + 1) := fun hc => by have := h3 (c + 1) (by omega) hc; omega
    rw [shB_succ] at *
    split <;> split <;> omega
end Go.Proofs.Ytmmpalnalogfnaa

/- Walks of zone.Check and the reference's, with the words for a zone in memory. -/
namespace Go.Proofs.Ytmmpalnalogfnaa
open Go.RowKit
set_option linter.unusedSimpArgs false
set_option linter.unusedVariables false

theorem bel_alloc (w : World) (o : Obj) : Below w.heap.size w (w.alloc o) := (Below.refl _ w).alloc (Nat.le_refl _) o
theorem bel_acc {f : Nat} {args : Array Value} {w w1 : World} {R : Ending → Prop} (h : Calls Try.prog f args w1 fun e w' => R e ∧ Below w1.heap.size w1 w') (hb : Below w.heap.size w w1) :
    Calls Try.prog f args w1 fun e w' => R e ∧ Below w.heap.size w w' := h.mono (by rintro e w' ⟨hr, h⟩; exact ⟨hr, hb.trans (h.mono hb.size)⟩)
abbrev zoneT : TypeId := 44
abbrev shiftT : TypeId := 80
/-- the shifts l lie in the row at A -/
def ShL (w : World) (A : Option Addr) (l : Shs) : Prop :=
  l = [] ∨ ∃ b o, A = some ⟨b, o, none⟩ ∧ b < w.heap.size ∧ ∀ i, i < l.length → w.cell? ⟨b, o + i * 2, none⟩ = some (.int .i64 (shA l i)) ∧ w.cell? ⟨b, o + i * 2 + 1, none⟩ = some (.int .i64 (shF l i))
theorem ShL.more {w w' : World} {A : Option Addr} {l : Shs} (h : ShL w A l) (hb : Below w.heap.size w w') : ShL w' A l := by
  rcases h with h | ⟨b, o, rfl, hlt, hc⟩
  · exact .inl h
  · exact .inr ⟨b, o, rfl, Nat.lt_of_lt_of_le hlt hb.size, fun i hi => ⟨(hb.cell (p := ⟨b, o + i * 2, none⟩) hlt).trans (hc i hi).1, (hb.cell (p := ⟨b, o + i * 2 + 1, none⟩) hlt).trans (hc i hi).2⟩⟩
theorem ShL.at {w : World} {A : Option Addr} {l : Shs} (h : ShL w A l) {k : Nat} (hk : k < l.length) :
    ∃ b o, A = some ⟨b, o, none⟩ ∧ b < w.heap.size ∧ ∀ i, i < l.length → w.cell? ⟨b, o + i * 2, none⟩ = some (.int .i64 (shA l i)) ∧ w.cell? ⟨b, o + i * 2 + 1, none⟩ = some (.int .i64 (shF l i)) := by
  rcases h with h | h
  · rw [h] at hk; simp at hk
  · exact h
abbrev encZ (o : Int) (A : Option Addr) (n c : Nat) : Value := .agg #[.int .i64 o, .slice A n c]

set_option maxHeartbeats 400000 in
theorem rOff_any (n : Int) (w : World) : Calls Try.prog 83 #[.int .i64 n] w fun e w' => e = .returned (.bool (offB n)) ∧ w = w' := by
  by_cases h1 : -840 ≤ n
  all_goals
    go_enter Try.func83, Try.ntmps83
    go_wp2
    go_ret
    exact ⟨ret_bool (by simp [offB]; omega), rfl⟩
def timeB (n : Int) : Bool := decide (0 ≤ n) && decide (n < 52596000)
/-! ### worlds that have only grown since w5, as a class: quiet walks of drawn regions -/
abbrev SW (w5 : World) : World → Prop := fun W => Below w5.heap.size w5 W
structure Wd (S : World → Prop) where
  w : World
  ok : S w
theorem quietS {P : Program} {S : World → Prop} {id : Nat} {Q : Exit → Act → World → Prop} {a : Act} {w : World} {l : List Oper} (hm : P.follows .mixedOrders = true) (hB : Region.lexB .any l.toArray = true) (hC : S w.drew)
    (h : wpQuiet P l.toArray (fun w' => ∃ x : Wd S, w' = x.w) (fun a' => ∀ w', (∃ x : Wd S, w' = x.w) → Q .normal a' w') l a) : (Code.region id l.toArray true).wp P Q a w :=
  wp_region_quiet (C := fun w' => ∃ x : Wd S, w' = x.w) hm hB ⟨⟨_, hC⟩, rfl⟩ (by simpa using h)
theorem quiet_S {P : Program} {f : FuncId} {args : Array Value} {W : World} {S : World → Prop} {v : Value} (h : Calls P f args W fun e w' => e = .returned v ∧ S w') :
    Calls P f args W fun e w'' => e = .returned v ∧ ∃ x : Wd S, w'' = x.w := h.mono (by rintro e w' ⟨he, hs⟩; exact ⟨he, ⟨w', hs⟩, rfl⟩)
theorem SW.cell {w5 : World} {a : Addr} {v : Value} (h : w5.cell? a = some v) (x : Wd (SW w5)) : x.w.cell? a = some v := (Below.cell (show Below w5.heap.size w5 x.w from x.ok) (World.block_lt_of_cell? w5 _ h)).trans h
theorem SW.call {f : Nat} {args : Array Value} {w5 : World} {v : Value} (h : ∀ W, Below w5.heap.size w5 W → Calls Try.prog f args W fun e w' => e = .returned v ∧ Below W.heap.size W w') (W : World) (hW : SW w5 W) :
    Calls Try.prog f args W fun e w' => e = .returned v ∧ SW w5 w' := (h W hW).mono (by rintro e w' ⟨he, hb⟩; exact ⟨he, hW.trans (hb.mono hW.size)⟩)
theorem SW.drew (w5 : World) : SW w5 w5.drew := (Below.refl _ _).drew
theorem cells_new (w : World) (cs : Array Value) (t : TypeId) (j : Nat) : (w.alloc (.cells cs t)).cell? ⟨w.heap.size, j, none⟩ = cs[j]? := cell_of_row _ _ j _ _ (0, 0) (heap_alloc_new w (.cells cs t))

end Go.Proofs.Ytmmpalnalogfnaa

/- Walk of the reference's Check. -/
namespace Go.Proofs.Ytmmpalnalogfnaa
open Go.RowKit
set_option linter.unusedSimpArgs false
set_option linter.unusedVariables false

set_option maxRecDepth 100000 in
set_option maxHeartbeats 2000000 in
theorem rcheck_any (o : Int) (A : Option Addr) (c : Nat) (l : Shs) (w : World) (hl : l.length < 9223372036854775808) (hL : ShL w A l) (hr : ∀ k, k < l.length → -9223372036854775808 ≤ shA l k ∧ shA l k ≤ 9223372036854775807) :
    Calls Try.prog 69 #[encZ o A l.length c] w fun e w' => e = .returned (.int .i64 (errZ o l)) ∧ Below w.heap.size w w' := by
  by_cases h1 : 256 < l.length
  · have i1 : (256 : Int) < (l.length : Int) := by omega
    have HR : Hid (errZ o l = 4) := Lib.hid (by rw [errZ, if_pos h1])
    clear h1
    go_enter Try.func69, Try.ntmps69
    go_wp2
    go_ret
    exact ⟨by rw [HR.out]; rfl, bel_alloc _ _⟩
  have i1 : (l.length : Int) ≤ 256 := by omega
  cases ho : offB o
  · have HR : Hid (errZ o l = 2) := Lib.hid (by rw [errZ, if_neg h1, ho]; rfl)
    have C1 := Lib.hid (fun w => ho ▸ rOff_any o w)
    clear h1 ho
    go_enter Try.func69, Try.ntmps69
    go_wp2_with (go_at_call 83; refine (C1.out _).mono ?_; rintro e w' ⟨rfl, rfl⟩)
    go_ret
    exact ⟨by rw [HR.out]; rfl, bel_alloc _ _⟩
  have HR : Hid (errZ o l = errAt l l.length 0) := Lib.hid (by rw [errZ, if_neg h1, ho]; rfl)
  have C1 := Lib.hid (fun w => ho ▸ rOff_any o w)
  clear h1 ho
  go_enter Try.func69, Try.ntmps69
  go_wp2_with (go_at_call 83; refine (C1.out _).mono ?_; rintro e w' ⟨rfl, rfl⟩)
  have hL0 := hL.more (bel_alloc w (.cells #[.int .i64 o, .slice A l.length c] zoneT))
  have z0 := cells_new w #[.int .i64 o, .slice A l.length c] zoneT 0
  have z1 := cells_new w #[.int .i64 o, .slice A l.length c] zoneT 1
  have hbw := bel_alloc w (.cells #[.int .i64 o, .slice A l.length c] zoneT)
  simp only [List.getElem?_toArray, List.getElem?_cons_zero, List.getElem?_cons_succ] at z0 z1
  clear hL C1
  generalize hw0 : w.alloc (.cells #[.int .i64 o, .slice A l.length c] zoneT) = w0 at *
  go_loopw [3] (fun vi wr => ∃ k : Nat, k ≤ l.length ∧ vi = .int .i64 k ∧ Hid (errZ o l = errAt l (l.length - k) k) ∧ (0 < k → 0 ≤ shA l (k - 1) ∧ shA l (k - 1) < 52596000) ∧ Below w0.heap.size w0 wr) (fun vi _ => l.length - (intOf vi).toNat)
  case atStart => exact ⟨0, Nat.zero_le _, rfl, HR, by omega, Below.refl _ _⟩
  case round =>
    obtain ⟨k, hk, rfl, HK, hp, hb⟩ := hrel
    by_cases hlt : k < l.length
    · obtain ⟨g, off, rfl, hgl, hcc⟩ := hL0.at hlt
      have i2 : (k : Int) < (l.length : Int) := by omega
      have HS := Lib.hid (HK.out.trans (errAt_step l k _ rfl hlt))
      obtain ⟨g0, g1⟩ := hcc k hlt
      have hrk := hr k hlt
      have CO := Lib.hid (fun W => rOff_any (shF l k) W)
      have gm : 0 < k → w0.cell? ⟨g, off + (k - 1) * 2, none⟩ = some (.int .i64 (shA l (k - 1))) := fun h => (hcc (k - 1) (by omega)).1
      have hbad : Hid (badT l k = (!timeB (shA l k) || (decide (0 < k) && decide (shA l k - shA l (k - 1) < 2880)))) := Lib.hid (by
        simp only [badT, timeB]
        congr 1
        rw [Bool.eq_iff_iff]; simp)
      clear hcc HK hr hL0
      have gk0 := (hb.cell (p := ⟨g, off + k * 2, none⟩) hgl).trans g0
      have gk1 := (hb.cell (p := ⟨g, off + k * 2 + 1, none⟩) hgl).trans g1
      generalize hak : shA l k = a at *
      have HA := Lib.hid hak
      clear hak
      generalize shF l k = f at *
      have hgr : g < wr.heap.size := Nat.lt_of_lt_of_le hgl hb.size
      have hgr2 : g ≠ wr.heap.size := by omega
      have hb5 : Below wr.heap.size wr (wr.alloc (.cells #[.int .i64 a, .int .i64 f] shiftT)) := bel_alloc _ _
      have hB : Below w.heap.size w (wr.alloc (.cells #[.int .i64 a, .int .i64 f] shiftT)) := hbw.trans ((hb.alloc hb.size _).mono hbw.size)
      have q0 := SW.cell (cells_new wr #[.int .i64 a, .int .i64 f] shiftT 0)
      have q1 := SW.cell (cells_new wr #[.int .i64 a, .int .i64 f] shiftT 1)
      have q2 := SW.cell (hb5.cell (World.block_lt_of_cell? _ _ ((hb.cell (World.block_lt_of_cell? _ _ z1)).trans z1)) |>.trans ((hb.cell (World.block_lt_of_cell? _ _ z1)).trans z1))
      have c1 := cells_new wr #[.int .i64 a, .int .i64 f] shiftT 1
      simp only [List.getElem?_toArray, List.getElem?_cons_zero, List.getElem?_cons_succ] at q0 q1 c1
      have g2 := (hb.cell (World.block_lt_of_cell? _ _ z1)).trans z1
      by_cases n1 : a < 0
      · have ht : timeB a = false := by simp [timeB]; omega
        have d1 : decide (a < 0) = true := decide_eq_true n1
        have HR2 : Hid (errZ o l = 13) := Lib.hid (by rw [HS.out, hbad.out, ht]; rfl)
        clear HS hbad ht hp gm hw0
        go_wp2
        have hNe : Nonempty (Wd (SW (wr.alloc (.cells #[.int .i64 a, .int .i64 f] shiftT)))) := ⟨⟨_, SW.drew _⟩⟩
        refine quietS (S := SW (wr.alloc (.cells #[.int .i64 a, .int .i64 f] shiftT))) (by kernel_rfl) (by kernel_rfl) (SW.drew _) ?_
        repeat (first | go_big_quiet_skip | (go_big_quiet_want; go_big_quiet_op; first | go_big_quiet_on | go_big_quiet_call ((fail))))
        refine wpQuiet_nil ?_
        rintro W ⟨⟨_, hW⟩, rfl⟩
        go_wp2
        go_ret
        exact ⟨by rw [HR2.out]; rfl, hB.trans (hW.mono hB.size)⟩
      by_cases n2 : 52596000 ≤ a
      · have ht : timeB a = false := by simp [timeB]; omega
        have d1 : decide (a < 0) = false := decide_eq_false n1
        have d2 : decide (52596000 ≤ a) = true := decide_eq_true n2
        have HR2 : Hid (errZ o l = 13) := Lib.hid (by rw [HS.out, hbad.out, ht]; rfl)
        clear HS hbad ht hp gm hw0
        go_wp2
        have hNe : Nonempty (Wd (SW (wr.alloc (.cells #[.int .i64 a, .int .i64 f] shiftT)))) := ⟨⟨_, SW.drew _⟩⟩
        refine quietS (S := SW (wr.alloc (.cells #[.int .i64 a, .int .i64 f] shiftT))) (by kernel_rfl) (by kernel_rfl) (SW.drew _) ?_
        repeat (first | go_big_quiet_skip | (go_big_quiet_want; go_big_quiet_op; first | go_big_quiet_on | go_big_quiet_call ((fail))))
        refine wpQuiet_nil ?_
        rintro W ⟨⟨_, hW⟩, rfl⟩
        go_wp2
        go_ret
        exact ⟨by rw [HR2.out]; rfl, hB.trans (hW.mono hB.size)⟩
      have ht : timeB a = true := by simp [timeB]; omega
      have d1 : decide (a < 0) = false := decide_eq_false n1
      have d2 : decide (52596000 ≤ a) = false := decide_eq_false n2
      have ha : 0 ≤ a ∧ a < 52596000 := by omega
      by_cases h0 : 0 < k
      · have q3 := SW.cell ((hb5.cell hgr).trans ((hb.cell hgl).trans (gm h0)))
        have hp' := hp h0
        have i3 : (0 : Int) < (k : Int) := by omega
        have i4 : (0 : Int) ≤ (k : Int) - 1 := by omega
        have i5 : (k : Int) - 1 < (l.length : Int) := by omega
        have i6 : ((k : Int) - 1).toNat = k - 1 := by omega
        generalize shA l (k - 1) = pr at *
        by_cases hg : a - pr < 2880
        · have HR2 : Hid (errZ o l = 13) := Lib.hid (by rw [HS.out, hbad.out, ht]; simp [h0, hg])
          clear HS hbad ht hp gm hw0
          go_wp2
          have hNe : Nonempty (Wd (SW (wr.alloc (.cells #[.int .i64 a, .int .i64 f] shiftT)))) := ⟨⟨_, SW.drew _⟩⟩
          refine quietS (S := SW (wr.alloc (.cells #[.int .i64 a, .int .i64 f] shiftT))) (by kernel_rfl) (by kernel_rfl) (SW.drew _) ?_
          repeat (first | go_big_quiet_skip | (go_big_quiet_want; go_big_quiet_op; first | go_big_quiet_on | go_big_quiet_call ((fail))))
          refine wpQuiet_nil ?_
          rintro W ⟨⟨_, hW⟩, rfl⟩
          go_wp2
          go_ret
          exact ⟨by rw [HR2.out]; rfl, hB.trans (hW.mono hB.size)⟩
        · cases ho : offB f
          · have HR2 : Hid (errZ o l = 2) := Lib.hid (by rw [HS.out, hbad.out, ht]; simp [h0, hg, ho])
            rw [ho] at CO
            clear HS hbad ht hp gm ho hw0
            go_wp2
            have hNe : Nonempty (Wd (SW (wr.alloc (.cells #[.int .i64 a, .int .i64 f] shiftT)))) := ⟨⟨_, SW.drew _⟩⟩
            refine quietS (S := SW (wr.alloc (.cells #[.int .i64 a, .int .i64 f] shiftT))) (by kernel_rfl) (by kernel_rfl) (SW.drew _) ?_
            repeat (first | go_big_quiet_skip | (go_big_quiet_want; go_big_quiet_op; first | go_big_quiet_on | go_big_quiet_call ((fail))))
            refine wpQuiet_nil ?_
            rintro W ⟨⟨_, hW⟩, rfl⟩
            have q4 := q1 ⟨_, hW⟩
            dsimp only at q4
            go_wp2_with (go_at_call 83; refine (CO.out _).mono ?_; rintro e w' ⟨rfl, rfl⟩)
            go_ret
            exact ⟨by rw [HR2.out]; rfl, hB.trans (hW.mono hB.size)⟩
          · have HR2 : Hid (errZ o l = errAt l (l.length - (k + 1)) (k + 1)) := Lib.hid (by rw [HS.out, hbad.out, ht]; simp [h0, hg, ho])
            rw [ho] at CO
            clear HS hbad ht hp gm ho hw0
            go_wp2
            have hNe : Nonempty (Wd (SW (wr.alloc (.cells #[.int .i64 a, .int .i64 f] shiftT)))) := ⟨⟨_, SW.drew _⟩⟩
            refine quietS (S := SW (wr.alloc (.cells #[.int .i64 a, .int .i64 f] shiftT))) (by kernel_rfl) (by kernel_rfl) (SW.drew _) ?_
            repeat (first | go_big_quiet_skip | (go_big_quiet_want; go_big_quiet_op; first | go_big_quiet_on | go_big_quiet_call ((fail))))
            refine wpQuiet_nil ?_
            rintro W ⟨⟨_, hW⟩, rfl⟩
            have q4 := q1 ⟨_, hW⟩
            dsimp only at q4
            go_wp2_with (go_at_call 83; refine (CO.out _).mono ?_; rintro e w' ⟨rfl, rfl⟩)
            go_roundw
            case rel => exact ⟨k + 1, by omega, by go_num, HR2, fun _ => by rw [Nat.add_sub_cancel, HA.out]; exact ha, hb.trans ((hb5.trans (hW.mono hb5.size)).mono hb.size)⟩
            case measure => simp [intOf]; omega
      · have i3 : ¬ (0 : Int) < (k : Int) := by omega
        cases ho : offB f
        · have HR2 : Hid (errZ o l = 2) := Lib.hid (by rw [HS.out, hbad.out, ht]; simp [h0, ho])
          rw [ho] at CO
          clear HS hbad ht hp gm ho hw0
          go_wp2
          have hNe : Nonempty (Wd (SW (wr.alloc (.cells #[.int .i64 a, .int .i64 f] shiftT)))) := ⟨⟨_, SW.drew _⟩⟩
          refine quietS (S := SW (wr.alloc (.cells #[.int .i64 a, .int .i64 f] shiftT))) (by kernel_rfl) (by kernel_rfl) (SW.drew _) ?_
          repeat (first | go_big_quiet_skip | (go_big_quiet_want; go_big_quiet_op; first | go_big_quiet_on | go_big_quiet_call ((fail))))
          refine wpQuiet_nil ?_
          rintro W ⟨⟨_, hW⟩, rfl⟩
          have q4 := q1 ⟨_, hW⟩
          dsimp only at q4
          go_wp2_with (go_at_call 83; refine (CO.out _).mono ?_; rintro e w' ⟨rfl, rfl⟩)
          go_ret
          exact ⟨by rw [HR2.out]; rfl, hB.trans (hW.mono hB.size)⟩
        · have HR2 : Hid (errZ o l = errAt l (l.length - (k + 1)) (k + 1)) := Lib.hid (by rw [HS.out, hbad.out, ht]; simp [h0, ho])
          rw [ho] at CO
          clear HS hbad ht hp gm ho hw0
          go_wp2
          have hNe : Nonempty (Wd (SW (wr.alloc (.cells #[.int .i64 a, .int .i64 f] shiftT)))) := ⟨⟨_, SW.drew _⟩⟩
          refine quietS (S := SW (wr.alloc (.cells #[.int .i64 a, .int .i64 f] shiftT))) (by kernel_rfl) (by kernel_rfl) (SW.drew _) ?_
          repeat (first | go_big_quiet_skip | (go_big_quiet_want; go_big_quiet_op; first | go_big_quiet_on | go_big_quiet_call ((fail))))
          refine wpQuiet_nil ?_
          rintro W ⟨⟨_, hW⟩, rfl⟩
          have q4 := q1 ⟨_, hW⟩
          dsimp only at q4
          go_wp2_with (go_at_call 83; refine (CO.out _).mono ?_; rintro e w' ⟨rfl, rfl⟩)
          go_roundw
          case rel => exact ⟨k + 1, by omega, by go_num, HR2, fun _ => by rw [Nat.add_sub_cancel, HA.out]; exact ha, hb.trans ((hb5.trans (hW.mono hb5.size)).mono hb.size)⟩
          case measure => simp [intOf]; omega
    · have g2 := (hb.cell (World.block_lt_of_cell? _ _ z1)).trans z1
      go_wp2
      go_ret
      exact ⟨by rw [HK.out, show l.length - k = 0 by omega]; rfl, hbw.trans (hb.mono hbw.size)⟩

end Go.Proofs.Ytmmpalnalogfnaa

/- Plain facts on places: ways along distances, the shortest one, cities, violations. -/
namespace Go.Proofs.Ytmmpalnalogfnaa
set_option linter.unusedSimpArgs false
set_option linter.unusedVariables false

/-- a distance -/
structure Dst where
  f : ByteArray
  t : ByteArray
  m : Int
def useB (d : Dst) : Bool := decide (1 ≤ d.m) && decide (d.m ≤ 20000)
abbrev Edg := ByteArray × ByteArray × Nat
/-- there is a way of this length -/
inductive Wy (E : List Edg) (a : ByteArray) : ByteArray → Nat → Prop
  | here : Wy E a a 0
  | on {b c : ByteArray} {n w : Nat} : Wy E a b n → (b, c, w) ∈ E → Wy E a c (n + w)
/-- the shortest way has this length -/
def Dis (E : List Edg) (a b : ByteArray) (n : Nat) : Prop := Wy E a b n ∧ ∀ m, Wy E a b m → n ≤ m
theorem Wy.trans {E : List Edg} {a b c : ByteArray} {n m : Nat} (h : Wy E a b n) (h' : Wy E b c m) : Wy E a c (n + m) := by
  induction h' with
  | here => exact h
  | on _ he ih => rw [← Nat.add_assoc]; exact .on ih he
theorem Dis.uniq {E : List Edg} {a b : ByteArray} {n m : Nat} (h : Dis E a b n) (h' : Dis E a b m) : n = m := Nat.le_antisymm (h.2 _ h'.1) (h'.2 _ h.1)
open Classical in
/-- the length of the shortest way, if there is a way -/
noncomputable def disO (E : List Edg) (a b : ByteArray) : Option Nat := if h : ∃ n, Dis E a b n then some h.choose else none
theorem disO_some {E : List Edg} {a b : ByteArray} {n : Nat} (h : Dis E a b n) : disO E a b = some n := by
  have hx : ∃ n, Dis E a b n := ⟨n, h⟩
  unfold disO
  rw [dif_pos hx]
  exact congrArg some (hx.choose_spec.uniq h)
theorem disO_none {E : List Edg} {a b : ByteArray} (h : ∀ n, ¬ Wy E a b n) : disO E a b = none := by
  unfold disO
  rw [dif_neg (fun ⟨n, hn⟩ => h n hn.1)]
/-! ### the search by the nearest city first -/
abbrev Stp := ByteArray × Nat
/-- what a city's distances lead to -/
def adj (E : List Edg) (c : ByteArray) : List Stp := (E.filter fun e => decide (e.1 = c)).map (·.2)
theorem adj_mem {E : List Edg} {b c : ByteArray} {w : Nat} : (c, w) ∈ adj E b ↔ (b, c, w) ∈ E := by
  simp only [adj, List.mem_map, List.mem_filter, decide_eq_true_eq]
  constructor
  · rintro ⟨⟨x, y, z⟩, ⟨h, rfl⟩, he⟩
    cases he
    exact h
  · intro h
    exact ⟨(b, c, w), ⟨h, rfl⟩, rfl⟩
/-- R: the cities that were reached; q: what is still to be looked at -/
structure Dij (E : List Edg) (a to : ByteArray) (R : ByteArray → Prop) (q : List Stp) : Prop where
  way : ∀ c m, (c, m) ∈ q → Wy E a c m
  at' : ∀ c, R c → ∃ m, Dis E a c m
  on : ∀ b, R b → ∀ n, Dis E a b n → ∀ c w, (b, c, w) ∈ E → (∃ m, m ≤ n + w ∧ (c, m) ∈ q) ∨ (R c ∧ ∃ m, Dis E a c m ∧ m ≤ n + w)
  start : R a ∨ (a, 0) ∈ q
  to' : ¬ R to
theorem Dij.far {E : List Edg} {a to : ByteArray} {R : ByteArray → Prop} {q : List Stp} (I : Dij E a to R q) {c : ByteArray} {n : Nat} (h : Wy E a c n) : (R c ∧ ∃ m, Dis E a c m ∧ m ≤ n) ∨ ∃ y k, (y, k) ∈ q ∧ k ≤ n := by
  induction h with
  | here =>
    rcases I.start with h | h
    · exact .inl ⟨h, 0, ⟨.here, fun m _ => Nat.zero_le _⟩, Nat.le_refl _⟩
    · exact .inr ⟨_, _, h, Nat.le_refl _⟩
  | @on b c n w hb he ih =>
    rcases ih with ⟨hr, m, hd, hm⟩ | ⟨y, k, hy, hk⟩
    · rcases I.on b hr m hd c w he with ⟨k, hk, hq⟩ | ⟨hc, k, hd', hk⟩
      · exact .inr ⟨c, k, hq, by omega⟩
      · exact .inl ⟨hc, k, hd', by omega⟩
    · exact .inr ⟨y, k, hy, by omega⟩
theorem Dij.none {E : List Edg} {a to : ByteArray} {R : ByteArray → Prop} (I : Dij E a to R []) : disO E a to = none :=
  disO_none fun n hn => by
    rcases I.far hn with ⟨h, _⟩ | ⟨y, k, h, _⟩
    · exact I.to' h
    · simp at h
theorem Dij.near {E : List Edg} {a to : ByteArray} {R : ByteArray → Prop} {q q' : List Stp} {c : ByteArray} {m : Nat} (I : Dij E a to R q) (hp : q.Perm ((c, m) :: q')) (hmin : ∀ x ∈ q, m ≤ x.2) (hc : ¬ R c) : Dis E a c m := by
  refine ⟨I.way c m (hp.mem_iff.2 (by simp)), fun n hn => ?_⟩
  rcases I.far hn with ⟨h, _⟩ | ⟨y, k, h, hk⟩
  · exact absurd h hc
  · exact Nat.le_trans (hmin _ h) hk
theorem Dij.skip {E : List Edg} {a to : ByteArray} {R : ByteArray → Prop} {q q' : List Stp} {c : ByteArray} {m : Nat} (I : Dij E a to R q) (hp : q.Perm ((c, m) :: q')) (hc : R c) : Dij E a to R q' := by
  obtain ⟨d, hd⟩ := I.at' c hc
  have hw := I.way c m (hp.mem_iff.2 (by simp))
  have hle := hd.2 m hw
  refine ⟨fun x n h => I.way x n (hp.mem_iff.2 (by simp [h])), I.at', fun b hb n hn x w he => ?_, ?_, I.to'⟩
  · rcases I.on b hb n hn x w he with ⟨k, hk, hq⟩ | h
    · rcases List.mem_cons.1 (hp.mem_iff.1 hq) with e | h
      · cases e
        exact .inr ⟨hc, d, hd, by omega⟩
      · exact .inl ⟨k, hk, h⟩
    · exact .inr h
  · rcases I.start with h | h
    · exact .inl h
    · rcases List.mem_cons.1 (hp.mem_iff.1 h) with e | h
      · cases e
        exact .inl hc
      · exact .inr h
/-- a city is reached: its distances are looked at -/
theorem Dij.grow {E : List Edg} {a to : ByteArray} {R : ByteArray → Prop} {q q' q'' : List Stp} {c : ByteArray} {m : Nat} (I : Dij E a to R q) (hp : q.Perm ((c, m) :: q')) (hmin : ∀ x ∈ q, m ≤ x.2) (hc : ¬ R c) (ht : c ≠ to)
    (hq : q''.Perm (q' ++ (adj E c).map fun x => (x.1, m + x.2))) : Dij E a to (fun x => R x ∨ x = c) q'' := by
  have hd := I.near hp hmin hc
  have new : ∀ x w, (c, x, w) ∈ E → (x, m + w) ∈ q'' := fun x w h => hq.mem_iff.2 (List.mem_append.2 (.inr (List.mem_map.2 ⟨(x, w), adj_mem.2 h, rfl⟩)))
  have old : ∀ x, x ∈ q' → x ∈ q'' := fun x h => hq.mem_iff.2 (List.mem_append.2 (.inl h))
  refine ⟨fun x n h => ?_, fun x h => ?_, fun b hb n hn x w he => ?_, ?_, fun h => h.elim I.to' fun e => ht e.symm⟩
  · rcases List.mem_append.1 (hq.mem_iff.1 h) with h | h
    · exact I.way x n (hp.mem_iff.2 (by simp [h]))
    · obtain ⟨⟨y, w⟩, hy, e⟩ := List.mem_map.1 h
      cases e
      exact hd.1.on (adj_mem.1 hy)
  · rcases h with h | rfl
    · exact I.at' x h
    · exact ⟨m, hd⟩
  · rcases hb with hb | rfl
    · rcases I.on b hb n hn x w he with ⟨k, hk, h⟩ | ⟨h1, h2⟩
      · rcases List.mem_cons.1 (hp.mem_iff.1 h) with e | h
        · cases e
          exact .inr ⟨.inr rfl, m, hd, hk⟩
        · exact .inl ⟨k, hk, old _ h⟩
      · exact .inr ⟨.inl h1, h2⟩
    · obtain rfl := hd.uniq hn
      exact .inl ⟨m + w, Nat.le_refl _, new x w he⟩
  · rcases I.start with h | h
    · exact .inl (.inl h)
    · rcases List.mem_cons.1 (hp.mem_iff.1 h) with e | h
      · cases e
        exact .inl (.inr rfl)
      · exact .inr (old _ h)
/-! ### the reference's search: distances are followed until nothing becomes shorter -/
/-- l: the cities that were reached, with a way's length -/
structure Rel (E : List Edg) (a : ByteArray) (l : List Stp) : Prop where
  way : ∀ c m, (c, m) ∈ l → Wy E a c m
  start : (a, 0) ∈ l
  one : l.Pairwise fun x y => x.1 ≠ y.1
def atL (l : List Stp) (c : ByteArray) : Option Nat := (l.find? fun x => decide (x.1 = c)).map (·.2)
theorem atL_mem {l : List Stp} (h1 : l.Pairwise fun x y => x.1 ≠ y.1) {c : ByteArray} {m : Nat} : atL l c = some m ↔ (c, m) ∈ l := by
  induction l with
  | nil => simp [atL]
  | cons x r ih =>
    obtain ⟨h2, h3⟩ := List.pairwise_cons.1 h1
    obtain ⟨xc, xm⟩ := x
    by_cases h : xc = c
    · subst h
      have : ∀ m', (xc, m') ∉ r := fun m' hm => h2 _ hm rfl
      simp [atL, this]
      exact eq_comm
    · have h' : ¬ c = xc := fun e => h e.symm
      simp only [atL, List.find?_cons, h, decide_false, List.mem_cons, Prod.mk.injEq, h', false_and, false_or]
      exact ih h3
theorem atL_none {l : List Stp} {c : ByteArray} : atL l c = none ↔ ∀ m, (c, m) ∉ l := by
  simp only [atL, Option.map_eq_none_iff, List.find?_eq_none, decide_eq_true_eq]
  exact ⟨fun h m hm => h _ hm rfl, fun h x hx e => h x.2 (by rw [← e]; exact hx)⟩
/-- nothing becomes shorter: these are the shortest ways -/
theorem Rel.done {E : List Edg} {a : ByteArray} {l : List Stp} (I : Rel E a l) (h : ∀ b c w n, (b, c, w) ∈ E → (b, n) ∈ l → ∃ m, (c, m) ∈ l ∧ m ≤ n + w) (to : ByteArray) : disO E a to = atL l to := by
  have all : ∀ c n, Wy E a c n → ∃ m, (c, m) ∈ l ∧ m ≤ n := by
    intro c n hw
    induction hw with
    | here =>
      exact ⟨0, I.start, Nat.le_refl _⟩
    | @on b c n w hb he ih =>
      obtain ⟨m, hm, hle⟩ := ih
      obtain ⟨k, hk, hle'⟩ := h b c w m he hm
      exact ⟨k, hk, by omega⟩
  cases hl : atL l to with
  | none =>
    refine disO_none fun n hn => ?_
    obtain ⟨m, hm, _⟩ := all to n hn
    exact atL_none.1 hl m hm
  | some m =>
    have hm := (atL_mem I.one).1 hl
    refine disO_some ⟨I.way _ _ hm, fun n hn => ?_⟩
    obtain ⟨k, hk, hle⟩ := all to n hn
    have := (atL_mem I.one).2 hk
    rw [hl] at this
    cases this
    exact hle

/-- a way to a city is noted, if it is new or shorter -/
def putL : List Stp → ByteArray → Nat → List Stp
  | [], c, m => [(c, m)]
  | x :: r, c, m => if x.1 = c then (if x.2 ≤ m then x :: r else (c, m) :: r) else x :: putL r c m
def newL : List Stp → ByteArray → Nat → Bool
  | [], _, _ => true
  | x :: r, c, m => if x.1 = c then decide (m < x.2) else newL r c m
theorem putL_same : ∀ (l : List Stp) (c : ByteArray) (m : Nat), newL l c m = false → putL l c m = l
  | [], c, m, h => by simp [newL] at h
  | x :: r, c, m, h => by
    by_cases e : x.1 = c
    · simp [newL, e] at h
      simp [putL, e, h]
    · simp [newL, e] at h
      simp [putL, e, putL_same r c m h]
theorem putL_mem : ∀ (l : List Stp) (c : ByteArray) (m : Nat) (x : Stp), x ∈ putL l c m → x ∈ l ∨ x = (c, m)
  | [], c, m, x, h => by simp [putL] at h; exact .inr h
  | y :: r, c, m, x, h => by
    by_cases e : y.1 = c
    · by_cases hm : y.2 ≤ m
      · simp only [putL, e, if_true, hm] at h
        exact .inl h
      · simp only [putL, e, if_true, hm, if_false] at h
        rcases List.mem_cons.1 h with h | h
        · exact .inr h
        · exact .inl (by simp [h])
    · simp only [putL, e, if_false] at h
      rcases List.mem_cons.1 h with h | h
      · exact .inl (by simp [h])
      · rcases putL_mem r c m x h with h | h
        · exact .inl (by simp [h])
        · exact .inr h
theorem putL_keep : ∀ (l : List Stp) (c : ByteArray) (m : Nat) (x : Stp), x ∈ l → x.1 ≠ c ∨ x.2 ≤ m → x ∈ putL l c m
  | [], c, m, x, h, _ => by simp at h
  | y :: r, c, m, x, h, hx => by
    by_cases e : y.1 = c
    · by_cases hm : y.2 ≤ m
      · simp only [putL, e, if_true, hm]
        exact h
      · simp only [putL, e, if_true, hm, if_false]
        rcases List.mem_cons.1 h with rfl | h
        · rcases hx with hx | hx
          · exact absurd e hx
          · exact absurd hx hm
        · simp [h]
    · simp only [putL, e, if_false]
      rcases List.mem_cons.1 h with rfl | h
      · simp
      · simp [putL_keep r c m x h hx]
theorem putL_one : ∀ (l : List Stp) (c : ByteArray) (m : Nat), l.Pairwise (fun x y => x.1 ≠ y.1) → (putL l c m).Pairwise fun x y => x.1 ≠ y.1
  | [], c, m, h => by simp [putL]
  | x :: r, c, m, h => by
    obtain ⟨h1, h2⟩ := List.pairwise_cons.1 h
    by_cases e : x.1 = c
    · by_cases hm : x.2 ≤ m
      · simp only [putL, e, if_true, hm]
        exact h
      · simp only [putL, e, if_true, hm, if_false]
        exact List.pairwise_cons.2 ⟨fun y hy => by rw [← e]; exact h1 y hy, h2⟩
    · simp only [putL, e, if_false]
      refine List.pairwise_cons.2 ⟨fun y hy => ?_, putL_one r c m h2⟩
      rcases putL_mem r c m y hy with h | rfl
      · exact h1 y h
      · exact e
def sumL (l : List Stp) : Nat := (l.map (·.2)).sum
theorem putL_meas : ∀ (l : List Stp) (c : ByteArray) (m : Nat), newL l c m = true → ((putL l c m).length = l.length ∧ sumL (putL l c m) < sumL l ∧ ∃ k, (c, k) ∈ l ∧ m < k) ∨ ((putL l c m).length = l.length + 1 ∧ sumL (putL l c m) = sumL l + m)
  | [], c, m, h => by right; simp [putL, sumL]
  | x :: r, c, m, h => by
    by_cases e : x.1 = c
    · simp [newL, e] at h
      left
      refine ⟨?_, ?_, x.2, by rw [← e]; simp, h⟩
      · simp only [putL, e, if_true, if_neg (show ¬ x.2 ≤ m by omega), List.length_cons]
      · simp only [putL, e, if_true, if_neg (show ¬ x.2 ≤ m by omega), sumL, List.map_cons, List.sum_cons]
        omega
    · simp [newL, e] at h
      rcases putL_meas r c m h with ⟨h1, h2, k, h3, h4⟩ | ⟨h1, h2⟩
      · left
        refine ⟨?_, ?_, k, by simp [h3], h4⟩
        · simp only [putL, e, if_false, List.length_cons, h1]
        · simp only [putL, e, if_false, sumL, List.map_cons, List.sum_cons] at h2 ⊢
          omega
      · right
        simp only [putL, e, if_false, List.length_cons, sumL, List.map_cons, List.sum_cons] at h1 h2 ⊢
        omega
theorem Rel.put {E : List Edg} {a : ByteArray} {l : List Stp} (I : Rel E a l) {b c : ByteArray} {n w : Nat} (hb : (b, n) ∈ l) (he : (b, c, w) ∈ E) : Rel E a (putL l c (n + w)) where
  way x m h := by
    rcases putL_mem l c _ _ h with h | e
    · exact I.way x m h
    · cases e
      exact (I.way b n hb).on he
  start := putL_keep l c _ _ I.start (.inr (Nat.zero_le _))
  one := putL_one l c _ I.one
/-- distinct cities of a list that has them all -/
theorem nodup_le {α : Type} [DecidableEq α] : ∀ (l m : List α), l.Nodup → (∀ x ∈ l, x ∈ m) → l.length ≤ m.length
  | [], m, _, _ => by simp
  | x :: r, m, h, hs => by
    obtain ⟨h1, h2⟩ := List.nodup_cons.1 h
    have := nodup_le r (m.erase x) h2 fun y hy => (List.mem_erase_of_ne (fun e => h1 (by rw [← e]; exact hy))).2 (hs y (by simp [hy]))
    have e := List.length_erase_of_mem (hs x (by simp))
    have hp := List.length_pos_of_mem (hs x (by simp))
    simp only [List.length_cons]
    omega
theorem Wy.end' {E : List Edg} {a c : ByteArray} {n : Nat} (h : Wy E a c n) : c = a ∨ c ∈ E.map (·.2.1) := by
  cases h with
  | here => exact .inl rfl
  | on _ he => exact .inr (List.mem_map.2 ⟨_, he, rfl⟩)
theorem Rel.len {E : List Edg} {a : ByteArray} {l : List Stp} (I : Rel E a l) : l.length ≤ E.length + 1 := by
  have h := nodup_le (l.map (·.1)) (a :: E.map (·.2.1)) (List.pairwise_map.2 I.one) (fun x hx => by
    obtain ⟨⟨c, m⟩, hm, rfl⟩ := List.mem_map.1 hx
    exact List.mem_cons.2 (I.way c m hm).end')
  simpa using h
/-- no way that was noted is longer than this -/
def capL (l : List Stp) : Prop := ∀ c m, (c, m) ∈ l → m + 20000 ≤ 20000 * l.length
theorem capL.put {l : List Stp} (h : capL l) {b c : ByteArray} {n w : Nat} (hb : (b, n) ∈ l) (hw : w ≤ 20000) : capL (putL l c (n + w)) := by
  intro x m hx
  have hn := h b n hb
  cases hz : newL l c (n + w)
  · rw [putL_same l c _ hz] at hx ⊢
    exact h x m hx
  · rcases putL_meas l c (n + w) hz with ⟨e, _, k, hk, hlt⟩ | ⟨e, _⟩
    · rw [e]
      rcases putL_mem l c _ _ hx with h1 | h1
      · exact h x m h1
      · cases h1
        have := h c k hk
        omega
    · rw [e]
      rcases putL_mem l c _ _ hx with h1 | h1
      · have := h x m h1
        omega
      · cases h1
        omega

end Go.Proofs.Ytmmpalnalogfnaa

/- Plain facts on numbers as text. -/
namespace Go.Proofs.Ytmmpalnalogfnaa
set_option linter.unusedSimpArgs false
set_option linter.unusedVariables false

def dgB (c : UInt8) : Bool := decide (48 ≤ (c.toNat : Int) ∧ (c.toNat : Int) ≤ 57)
/-! ### what is written is read -/
theorem decDigits_step (u : Nat) (h : 10 ≤ u) : Lib.decDigits u = Lib.decDigits (u / 10) ++ [UInt8.ofNat (48 + u % 10)] := by
  rw [Lib.decDigits, dif_neg (by omega)]
theorem decDigits_small (u : Nat) (h : u < 10) : Lib.decDigits u = [UInt8.ofNat (48 + u)] := by
  rw [Lib.decDigits, dif_pos h]
end Go.Proofs.Ytmmpalnalogfnaa

/- Walks of the leaves of package text and of its reference: letters, digits, codes. -/
namespace Go.Proofs.Ytmmpalnalogfnaa
open Go.RowKit
set_option linter.unusedSimpArgs false
set_option linter.unusedVariables false

/-- a byte is a capital letter, a digit -/
def upB (c : UInt8) : Bool := decide (65 ≤ (c.toNat : Int) ∧ (c.toNat : Int) ≤ 90)

set_option maxHeartbeats 400000 in
theorem upper_any (c : UInt8) (w : World) : Calls Try.prog 44 #[.int .u8 c.toNat] w fun e w' => e = .returned (.bool (upB c)) ∧ w = w' := by
  by_cases h1 : 65 ≤ (c.toNat : Int)
  · go_enter Try.func44, Try.ntmps44
    go_wp2
    go_ret
    exact ⟨ret_bool (by simp [upB]; omega), rfl⟩
  · go_enter Try.func44, Try.ntmps44
    go_wp2
    go_ret
    exact ⟨ret_bool (by simp [upB]; omega), rfl⟩
set_option maxHeartbeats 400000 in
theorem digit_any (c : UInt8) (w : World) : Calls Try.prog 45 #[.int .u8 c.toNat] w fun e w' => e = .returned (.bool (dgB c)) ∧ w = w' := by
  by_cases h1 : 48 ≤ (c.toNat : Int)
  · go_enter Try.func45, Try.ntmps45
    go_wp2
    go_ret
    exact ⟨ret_bool (by simp [dgB]; omega), rfl⟩
  · go_enter Try.func45, Try.ntmps45
    go_wp2
    go_ret
    exact ⟨ret_bool (by simp [dgB]; omega), rfl⟩

/-- all bytes from k on have a property -/
def allFrom (p : UInt8 → Bool) (s : ByteArray) (k : Nat) : Bool := (s.data.toList.drop k).all p
theorem allFrom_step (p : UInt8 → Bool) (s : ByteArray) (k : Nat) (h : k < s.size) : allFrom p s k = (p s[k] && allFrom p s (k + 1)) := by
  have e : s.data.toList.drop k = s[k] :: s.data.toList.drop (k + 1) := by
    rw [List.drop_eq_getElem_cons (by simpa using h)]; rfl
  simp only [allFrom, e, List.all_cons]
theorem allFrom_end (p : UInt8 → Bool) (s : ByteArray) (k : Nat) (h : s.size ≤ k) : allFrom p s k = true := by
  have e : s.data.toList.drop k = [] := List.drop_eq_nil_of_le (by simpa using h)
  simp only [allFrom, e, List.all_nil]

/-- just n bytes, all of them capital letters -/
def capsB (s : ByteArray) (n : Int) : Bool := decide ((s.size : Int) = n) && allFrom upB s 0

set_option maxHeartbeats 400000 in
theorem letters_any (s : ByteArray) (n : Int) (w : World) (hs : s.size ≤ maxLen) :
    Calls Try.prog 82 #[.string s, .int .i64 n] w fun e w' => e = .returned (.bool (capsB s n)) ∧ w = w' := by
  unfold maxLen at hs
  go_enter Try.func82, Try.ntmps82
  go_wp2
  go_loop [5] (fun i => ∃ k : Nat, k ≤ s.size ∧ i = .int .i64 k ∧ allFrom upB s 0 = allFrom upB s k) (fun i => s.size - (intOf i).toNat)
  case atStart => exact ⟨0, Nat.zero_le _, rfl, rfl⟩
  case round =>
    obtain ⟨k, hk, rfl, he⟩ := hrel
    have He := Lib.hid he
    clear he
    by_cases hlt : k < s.size
    · cases hc : upB s[k]
      · go_wp2_with (go_at_call 44; refine (upper_any _ _).mono ?_; rintro e w' ⟨rfl, rfl⟩)
        go_ret
        exact ⟨ret_bool (by simp [capsB, He.out, allFrom_step upB s k hlt, hc]), rfl⟩
      · have Hc := Lib.hid (allFrom_step upB s k hlt)
        go_wp2_with (go_at_call 44; refine (upper_any _ _).mono ?_; rintro e w' ⟨rfl, rfl⟩)
        go_round
        case rel => exact ⟨k + 1, by omega, by go_num, by rw [He.out, Hc.out, hc]; rfl⟩
        case measure => simp [intOf]; omega
    · go_wp2
      go_ret
      refine ⟨ret_bool ?_, rfl⟩
      rw [capsB, He.out, allFrom_end upB s k (by omega), Bool.and_true]
      rfl

/-- capital letters and digits, from a to b of them -/
def cdB (c : UInt8) : Bool := upB c || dgB c
def codeB (s : ByteArray) (a b : Int) : Bool := decide (a ≤ (s.size : Int)) && decide ((s.size : Int) ≤ b) && allFrom cdB s 0

set_option maxHeartbeats 400000 in
theorem rcode_any (s : ByteArray) (a b : Int) (w : World) (hs : s.size ≤ maxLen) :
    Calls Try.prog 16 #[.string s, .int .i64 a, .int .i64 b] w fun e w' => e = .returned (.bool (codeB s a b)) ∧ w = w' := by
  unfold maxLen at hs
  go_enter Try.func16, Try.ntmps16
  go_wp2
  go_loop [7] (fun i => ∃ k : Nat, k ≤ s.size ∧ i = .int .i64 k ∧ allFrom cdB s 0 = allFrom cdB s k) (fun i => s.size - (intOf i).toNat)
  case atStart => exact ⟨0, Nat.zero_le _, rfl, rfl⟩
  case round =>
    obtain ⟨k, hk, rfl, he⟩ := hrel
    have He := Lib.hid he
    clear he
    by_cases hlt : k < s.size
    · have Hc := Lib.hid (allFrom_step cdB s k hlt)
      cases hc : upB s[k]
      · cases hd : dgB s[k]
        · go_wp2_with (first | (go_at_call 44; refine (upper_any _ _).mono ?_; rintro e w' ⟨rfl, rfl⟩) | (go_at_call 45; refine (digit_any _ _).mono ?_; rintro e w' ⟨rfl, rfl⟩))
          go_ret
          exact ⟨ret_bool (by simp [codeB, He.out, Hc.out, cdB, hc, hd]), rfl⟩
        · go_wp2_with (first | (go_at_call 44; refine (upper_any _ _).mono ?_; rintro e w' ⟨rfl, rfl⟩) | (go_at_call 45; refine (digit_any _ _).mono ?_; rintro e w' ⟨rfl, rfl⟩))
          go_round
          case rel => exact ⟨k + 1, by omega, by go_num, by rw [He.out, Hc.out, cdB, hc, hd]; rfl⟩
          case measure => simp [intOf]; omega
      · go_wp2_with (first | (go_at_call 44; refine (upper_any _ _).mono ?_; rintro e w' ⟨rfl, rfl⟩) | (go_at_call 45; refine (digit_any _ _).mono ?_; rintro e w' ⟨rfl, rfl⟩))
        go_round
        case rel => exact ⟨k + 1, by omega, by go_num, by rw [He.out, Hc.out, cdB, hc]; rfl⟩
        case measure => simp [intOf]; omega
    · have hfin : codeB s a b = (decide (a ≤ (s.size : Int)) && decide ((s.size : Int) ≤ b)) := by rw [codeB, He.out, allFrom_end cdB s k (by omega), Bool.and_true]
      have Hfin := Lib.hid hfin
      clear hfin
      by_cases h1 : a ≤ (s.size : Int)
      · go_wp2
        go_ret
        exact ⟨ret_bool (by rw [Hfin.out]; simp [h1]), rfl⟩
      · go_wp2
        go_ret
        exact ⟨ret_bool (by rw [Hfin.out]; simp; omega), rfl⟩

/-- a carrier -/
def carB (s : ByteArray) : Bool := codeB s 2 2 && (upB (s.data.toList.getD 0 0) || upB (s.data.toList.getD 1 0))
theorem getD_eq (s : ByteArray) (k : Nat) (h : k < s.size) : s.data.toList.getD k 0 = s[k] := by
  rw [List.getD_eq_getElem?_getD, List.getElem?_eq_getElem (by simpa using h)]; rfl
set_option maxHeartbeats 400000 in
theorem rcarrier_any (s : ByteArray) (w : World) (hs : s.size ≤ maxLen) :
    Calls Try.prog 41 #[.string s] w fun e w' => e = .returned (.bool (carB s)) ∧ w = w' := by
  cases hc : codeB s 2 2
  · go_enter Try.func41, Try.ntmps41
    go_wp2_with (go_at_call 16; refine (rcode_any _ _ _ _ hs).mono ?_; rintro e w' ⟨rfl, rfl⟩)
    go_ret
    exact ⟨ret_bool (by simp [carB, hc]), rfl⟩
  · have h0 : 0 < s.size := by simp [codeB] at hc; omega
    have h1 : 1 < s.size := by simp [codeB] at hc; omega
    have E0 := Lib.hid (getD_eq s 0 h0)
    have E1 := Lib.hid (getD_eq s 1 h1)
    cases hu : upB s[0]
    · go_enter Try.func41, Try.ntmps41
      go_wp2_with (first | (go_at_call 16; refine (rcode_any _ _ _ _ hs).mono ?_; rintro e w' ⟨rfl, rfl⟩) | (go_at_call 44; refine (upper_any _ _).mono ?_; rintro e w' ⟨rfl, rfl⟩))
      go_ret
      exact ⟨ret_bool (by rw [carB, hc, E0.out, E1.out, hu]; rfl), rfl⟩
    · go_enter Try.func41, Try.ntmps41
      go_wp2_with (first | (go_at_call 16; refine (rcode_any _ _ _ _ hs).mono ?_; rintro e w' ⟨rfl, rfl⟩) | (go_at_call 44; refine (upper_any _ _).mono ?_; rintro e w' ⟨rfl, rfl⟩))
      go_ret
      exact ⟨ret_bool (by rw [carB, hc, E0.out, hu]; rfl), rfl⟩

/-- capital letters with single spaces between them; g: the beginning, or behind a space -/
def nm (g : Bool) : List UInt8 → Bool
  | [] => !g
  | c :: r => if upB c then nm false r else if c.toNat = 32 ∧ g = false then nm true r else false
end Go.Proofs.Ytmmpalnalogfnaa

/- Words for places in memory; walks of the leaves of package places: the searches by code and by city, City, Country. -/
namespace Go.Proofs.Ytmmpalnalogfnaa
open Go.RowKit Go.Shelf
set_option linter.unusedSimpArgs false
set_option linter.unusedVariables false

theorem bel_cell {w w' : World} {a : Addr} {v : Value} (h : Below w.heap.size w w') (hc : w.cell? a = some v) : w'.cell? a = some v := (h.cell (World.block_lt_of_cell? _ _ hc)).trans hc
theorem bel_get {w5 : World} {a : Addr} {v : Value} (h : w5.cell? a = some v) (W : World) (hS : SW w5 W) : W.cell? a = some v := bel_cell hS h
abbrev placesT : TypeId := 25
abbrev airT : TypeId := 46
abbrev dstT : TypeId := 105
/-- an airport -/
structure Air where
  code : ByteArray
  city : ByteArray
  land : ByteArray
  off : Int
  A : Option Addr
  c : Nat
  shs : Shs
abbrev encA (a : Air) : Value := .agg #[.string a.code, .string a.city, .string a.land, .int .i64 a.off, .slice a.A a.shs.length a.c]
abbrev encD (d : Dst) : Value := .agg #[.string d.f, .string d.t, .int .i64 d.m]
structure OkA (a : Air) : Prop where
  code : a.code.size ≤ maxLen
  city : a.city.size ≤ maxLen
  land : a.land.size ≤ maxLen
  len : a.shs.length < 9223372036854775808
  at' : ∀ k, k < a.shs.length → -9223372036854775808 ≤ shA a.shs k ∧ shA a.shs k ≤ 9223372036854775807
structure OkD (d : Dst) : Prop where
  f : d.f.size ≤ maxLen
  t : d.t.size ≤ maxLen
/-- the airport a lies at cell j of block b -/
structure AirAt (w : World) (b j : Nat) (a : Air) : Prop where
  c0 : w.cell? ⟨b, j, none⟩ = some (.string a.code)
  c1 : w.cell? ⟨b, j + 1, none⟩ = some (.string a.city)
  c2 : w.cell? ⟨b, j + 2, none⟩ = some (.string a.land)
  c3 : w.cell? ⟨b, j + 3, none⟩ = some (.int .i64 a.off)
  c4 : w.cell? ⟨b, j + 4, none⟩ = some (.slice a.A a.shs.length a.c)
  sh : ShL w a.A a.shs
theorem AirAt.more {w w' : World} {b j : Nat} {a : Air} (h : AirAt w b j a) (hb : Below w.heap.size w w') : AirAt w' b j a :=
  ⟨bel_cell hb h.c0, bel_cell hb h.c1, bel_cell hb h.c2, bel_cell hb h.c3, bel_cell hb h.c4, h.sh.more hb⟩
structure DstAt (w : World) (b j : Nat) (d : Dst) : Prop where
  c0 : w.cell? ⟨b, j, none⟩ = some (.string d.f)
  c1 : w.cell? ⟨b, j + 1, none⟩ = some (.string d.t)
  c2 : w.cell? ⟨b, j + 2, none⟩ = some (.int .i64 d.m)
theorem DstAt.more {w w' : World} {b j : Nat} {d : Dst} (h : DstAt w b j d) (hb : Below w.heap.size w w') : DstAt w' b j d := ⟨bel_cell hb h.c0, bel_cell hb h.c1, bel_cell hb h.c2⟩
/-- the airports l lie in the row at A -/
def AirL (w : World) (A : Option Addr) (l : List Air) : Prop := l = [] ∨ ∃ b o, A = some ⟨b, o, none⟩ ∧ b < w.heap.size ∧ ∀ i a, l[i]? = some a → AirAt w b (o + i * 5) a
def DstL (w : World) (A : Option Addr) (l : List Dst) : Prop := l = [] ∨ ∃ b o, A = some ⟨b, o, none⟩ ∧ b < w.heap.size ∧ ∀ i a, l[i]? = some a → DstAt w b (o + i * 3) a
theorem AirL.more {w w' : World} {A : Option Addr} {l : List Air} (h : AirL w A l) (hb : Below w.heap.size w w') : AirL w' A l := by
  rcases h with h | ⟨b, o, rfl, hlt, hc⟩
  · exact .inl h
  · exact .inr ⟨b, o, rfl, Nat.lt_of_lt_of_le hlt hb.size, fun i a hi => (hc i a hi).more hb⟩
theorem DstL.more {w w' : World} {A : Option Addr} {l : List Dst} (h : DstL w A l) (hb : Below w.heap.size w w') : DstL w' A l := by
  rcases h with h | ⟨b, o, rfl, hlt, hc⟩
  · exact .inl h
  · exact .inr ⟨b, o, rfl, Nat.lt_of_lt_of_le hlt hb.size, fun i a hi => (hc i a hi).more hb⟩
theorem AirL.at {w : World} {A : Option Addr} {l : List Air} (h : AirL w A l) {k : Nat} (hk : k < l.length) : ∃ b o a, A = some ⟨b, o, none⟩ ∧ b < w.heap.size ∧ l[k]? = some a ∧ AirAt w b (o + k * 5) a := by
  rcases h with h | ⟨b, o, hA, hlt, hc⟩
  · rw [h] at hk; simp at hk
  · exact ⟨b, o, l[k], hA, hlt, List.getElem?_eq_getElem hk, hc k _ (List.getElem?_eq_getElem hk)⟩
theorem DstL.at {w : World} {A : Option Addr} {l : List Dst} (h : DstL w A l) {k : Nat} (hk : k < l.length) : ∃ b o a, A = some ⟨b, o, none⟩ ∧ b < w.heap.size ∧ l[k]? = some a ∧ DstAt w b (o + k * 3) a := by
  rcases h with h | ⟨b, o, hA, hlt, hc⟩
  · rw [h] at hk; simp at hk
  · exact ⟨b, o, l[k], hA, hlt, List.getElem?_eq_getElem hk, hc k _ (List.getElem?_eq_getElem hk)⟩
/-- places by value -/
structure PV where
  A : Option Addr
  ca : Nat
  l : List Air
  D : Option Addr
  cd : Nat
  ds : List Dst
abbrev encP (p : PV) : Value := .agg #[.slice p.A p.l.length p.ca, .slice p.D p.ds.length p.cd]
structure PlL (w : World) (p : PV) : Prop where
  air : AirL w p.A p.l
  dst : DstL w p.D p.ds
theorem PlL.more {w w' : World} {p : PV} (h : PlL w p) (hb : Below w.heap.size w w') : PlL w' p := ⟨h.air.more hb, h.dst.more hb⟩
structure OkP (p : PV) : Prop where
  air : ∀ a ∈ p.l, OkA a
  dst : ∀ d ∈ p.ds, OkD d
  la : p.l.length ≤ 40
  ld : p.ds.length ≤ 60

set_option maxHeartbeats 400000 in
theorem rusable_any (d : Dst) (w : World) : Calls Try.prog 71 #[encD d] w fun e w' => e = .returned (.bool (useB d)) ∧ Below w.heap.size w w' := by
  have HU : Hid (useB d = (decide (1 ≤ d.m) && decide (d.m ≤ 20000))) := Lib.hid rfl
  by_cases h1 : 1 ≤ d.m
  all_goals
    go_enter Try.func71, Try.ntmps71
    go_wp2
    go_ret
    exact ⟨ret_bool (by rw [HU.out]; first | (simp [h1]; done) | (simp [h1]; omega)), bel_alloc _ _⟩
/-! ### slices.IndexFunc -/
/-- the first place of which p says true -/
def idxA (p : Air → Bool) : List Air → Int
  | [] => -1
  | a :: r => if p a then 0 else if idxA p r < 0 then -1 else idxA p r + 1
theorem idxA_find (p : Air → Bool) : ∀ l : List Air, (idxA p l = -1 ∧ l.find? p = none) ∨ ∃ (k : Nat) (a : Air), idxA p l = (k : Int) ∧ l[k]? = some a ∧ l.find? p = some a ∧ k < l.length
  | [] => .inl ⟨rfl, rfl⟩
  | a :: r => by
    cases h : p a
    · rcases idxA_find p r with ⟨h1, h2⟩ | ⟨k, x, h1, h2, h3, h4⟩
      · left
        exact ⟨by simp [idxA, h, h1], by simp [List.find?_cons, h, h2]⟩
      · right
        refine ⟨k + 1, x, ?_, by simpa using h2, by simp [List.find?_cons, h, h3], by simpa using h4⟩
        simp only [idxA, h, h1]
        rw [if_neg (by simp), if_neg (by omega)]
        omega
    · right
      exact ⟨0, a, by simp [idxA, h], by simp, by simp [List.find?_cons, h], by simp⟩
theorem idxA_yes {p : Air → Bool} {l : List Air} {k : Nat} {a : Air} (h : ∀ (j : Nat) (x : Air), j < k → l[j]? = some x → p x = false) (hk : l[k]? = some a) (hp : p a = true) : idxA p l = (k : Int) := by
  induction l generalizing k with
  | nil => simp at hk
  | cons b r ih =>
    cases k with
    | zero => simp at hk; subst hk; simp [idxA, hp]
    | succ k =>
      have h0 := h 0 b (by omega) (by simp)
      have := ih (k := k) (fun j x hj hx => h (j + 1) x (by omega) (by simpa using hx)) (by simpa using hk)
      simp only [idxA, h0, this]
      rw [if_neg (by simp), if_neg (by omega)]
      omega
theorem idxA_no {p : Air → Bool} {l : List Air} (h : ∀ (j : Nat) (x : Air), l[j]? = some x → p x = false) : idxA p l = -1 := by
  induction l with
  | nil => rfl
  | cons b r ih =>
    have h0 := h 0 b (by simp)
    have := ih (fun j x hx => h (j + 1) x (by simpa using hx))
    simp [idxA, h0, this]

set_option maxHeartbeats 4000000 in
set_option maxRecDepth 100000 in
theorem index_any (g : Nat) (cb : Array Value) (A : Option Addr) (c : Nat) (l : List Air) (p : Air → Bool) (w : World) (eg : ∀ args w, (callFunc g args).run Try.prog w = .ok (.enter g args) w) (hl : l.length ≤ 40) (hL : AirL w A l)
    (hf : ∀ (a : Air) (W : World), a ∈ l → Below w.heap.size w W → Calls Try.prog g (#[encA a] ++ cb) W fun e w' => e = .returned (.bool (p a)) ∧ Below W.heap.size W w') :
    Calls Try.prog 60 #[.slice A l.length c, .func (.func g) #[] cb] w fun e w' => e = .returned (.int .i64 (idxA p l)) ∧ Below w.heap.size w w' := by
  have HF := Lib.hid hf
  have HI : Hid (∀ (k : Nat) (a : Air), (∀ (j : Nat) (x : Air), j < k → l[j]? = some x → p x = false) → l[k]? = some a → p a = true → idxA p l = (k : Int)) := Lib.hid (fun k a => idxA_yes)
  have HN : Hid ((∀ (j : Nat) (x : Air), l[j]? = some x → p x = false) → idxA p l = -1) := Lib.hid idxA_no
  clear hf
  generalize idxA p l = r at *
  go_enter Try.func60, Try.ntmps60
  go_wp2
  go_loopw [8] (fun vi wr => ∃ k : Nat, k ≤ l.length ∧ vi = .int .i64 k ∧ Hid (∀ (j : Nat) (x : Air), j < k → l[j]? = some x → p x = false) ∧ Below w.heap.size w wr) (fun vi _ => l.length - (intOf vi).toNat)
  case atStart => exact ⟨0, Nat.zero_le _, rfl, Lib.hid (fun j x hj => absurd hj (Nat.not_lt_zero _)), Below.refl _ _⟩
  case round =>
    obtain ⟨k, hk, rfl, HK, hb⟩ := hrel
    by_cases hlt : k < l.length
    · obtain ⟨b, off, a, rfl, hgl, hka, ha⟩ := (hL.more hb).at hlt
      have i2 : (k : Int) < (l.length : Int) := by omega
      obtain ⟨z0, z1, z2, z3, z4, zs⟩ := ha
      have hc := HF.out a wr (List.mem_of_getElem? hka) hb
      cases hp : p a <;> rw [hp] at hc
      · have HP := Lib.hid hp
        have HA := Lib.hid hka
        clear hp hka
        go_wp2_with (refine hc.mono ?_; rintro e w' ⟨rfl, hb'⟩)
        go_roundw
        case rel =>
          refine ⟨k + 1, by omega, by go_num, Lib.hid (fun j x hj hx => ?_), hb.trans (hb'.mono hb.size)⟩
          by_cases hjk : j = k
          · subst hjk
            rw [HA.out] at hx
            cases hx
            exact HP.out
          · exact HK.out j x (by omega) hx
        case measure => simp [intOf]; omega
      · have HR := Lib.hid (HI.out k a HK.out hka hp)
        clear hp hka
        go_wp2_with (refine hc.mono ?_; rintro e w' ⟨rfl, hb'⟩)
        go_ret
        exact ⟨by rw [HR.out]; rfl, hb.trans (hb'.mono hb.size)⟩
    · have HR := Lib.hid (HN.out (fun j x hx => HK.out j x (by have := (List.getElem?_eq_some_iff.1 hx).1; omega) hx))
      go_wp2
      go_ret
      exact ⟨by rw [HR.out]; rfl, hb⟩

end Go.Proofs.Ytmmpalnalogfnaa

/- Walks of the closures, of byCode, byCity, City and Country. -/
namespace Go.Proofs.Ytmmpalnalogfnaa
open Go.RowKit Go.Shelf
set_option linter.unusedSimpArgs false
set_option linter.unusedVariables false

abbrev noB : ByteArray := ⟨#[]⟩
def airZ : Air := ⟨noB, noB, noB, 0, none, 0, []⟩
/-- texts are equal -/
def eqS (s t : ByteArray) : Bool := s.toList == t.toList
theorem eqS_iff (s t : ByteArray) : eqS s t = true ↔ s = t := by
  unfold eqS
  rw [beq_iff_eq, ByteArray.toList_eq, ByteArray.toList_eq]
  constructor
  · intro h
    have := congrArg List.toArray h
    simp at this
    cases s; cases t
    simpa using this
  · rintro rfl; rfl
def findC (l : List Air) (s : ByteArray) : Option Air := l.find? fun a => eqS a.code s
def findT (l : List Air) (s : ByteArray) : Option Air := l.find? fun a => eqS a.city s
set_option maxHeartbeats 400000 in
theorem codec_any (a : Air) (s : ByteArray) (B : Nat) (W : World) (z : W.cell? ⟨B, 0, none⟩ = some (.string s)) :
    Calls Try.prog 61 #[encA a, .pointer (some ⟨B, 0, none⟩)] W fun e w' => e = .returned (.bool (eqS a.code s)) ∧ Below W.heap.size W w' := by
  have hlt := World.block_lt_of_cell? _ _ z
  have z' := (Below.cell (bel_alloc W (.cells #[.string a.code, .string a.city, .string a.land, .int .i64 a.off, .slice a.A a.shs.length a.c] airT)) (p := ⟨B, 0, none⟩) hlt).trans z
  go_enter Try.func61, Try.ntmps61
  go_wp2
  go_ret
  exact ⟨rfl, bel_alloc _ _⟩
theorem eg_code : ∀ args w, (callFunc 61 args).run Try.prog w = .ok (.enter 61 args) w := enters_of Try.func61 (by kernel_rfl) rfl
/-- the two boxes that byCode makes: the places' and the text's -/
def B2 (w : World) (p : PV) (s : ByteArray) : World := (w.alloc (.cells #[.slice p.A p.l.length p.ca, .slice p.D p.ds.length p.cd] placesT)).alloc (.cells #[.string s] 9)
theorem B2.bel (w : World) (p : PV) (s : ByteArray) : Below w.heap.size w (B2 w p s) := (bel_alloc _ _).alloc (by simp) _
theorem B2.zs (w : World) (p : PV) (s : ByteArray) : (B2 w p s).cell? ⟨w.heap.size + 1, 0, none⟩ = some (.string s) := by
  have h := cells_new (w.alloc (.cells #[.slice p.A p.l.length p.ca, .slice p.D p.ds.length p.cd] placesT)) #[.string s] 9 0
  rw [World.size_alloc] at h
  exact h
set_option maxHeartbeats 1000000 in
theorem byCode_any (p : PV) (s : ByteArray) (w : World) (hl : p.l.length ≤ 40) (hL : AirL w p.A p.l) :
    Calls Try.prog 34 #[encP p, .string s] w fun e w' => e = .returned (.int .i64 (idxA (fun a => eqS a.code s) p.l)) ∧ Below w.heap.size w w' := by
  have CI := Lib.hid (index_any _ #[.pointer (some ⟨w.heap.size + 1, 0, none⟩)] p.A p.ca p.l (fun a => eqS a.code s) (B2 w p s) eg_code hl (hL.more (B2.bel w p s))
    (fun a W ha hW => codec_any a s _ W (bel_cell hW (B2.zs w p s))))
  have hb := B2.bel w p s
  unfold B2 at *
  generalize idxA (fun a => eqS a.code s) p.l = r at *
  go_enter Try.func34, Try.ntmps34
  go_wp2_with (go_at_call 60; refine CI.out.mono ?_; rintro e w' ⟨rfl, hb'⟩)
  go_ret
  exact ⟨rfl, hb.trans (hb'.mono hb.size)⟩
end Go.Proofs.Ytmmpalnalogfnaa

/- A map that the call makes, as a plain function from keys to values, whatever its elements are. -/
namespace Go.Proofs.Ytmmpalnalogfnaa
open Go.RowKit Go.Maps Go.MapKept
open Go.WideElems (Fit rd rg pl rd_key rd_val rg_of rd_mk)
open Go.ChangeMaps (setBlock putKey notKey heap_setBlock_same heap_setBlock_other)
open Go.WideMaps (keyOf_string_mk)
set_option linter.unusedSimpArgs false
set_option linter.unusedVariables false
set_option linter.unusedSectionVars false

/-- an element, read as the value that it is -/
def Rh (v : Value) : Option (DataW Value × List MemPlace) := some (.held v, [])
section
variable {κ : Type} [DecidableEq κ] {P : Program} {k t e : TypeId} {en : κ → Value} {w w' : World} {b n : Nat} {g : κ → Option Value}
/-- block b is a map of at most n entries: at key c it has g c -/
def MapK (P : Program) (k : TypeId) (en : κ → Value) (w : World) (b n : Nat) (g : κ → Option Value) : Prop :=
  ∃ es clock, w.heap[b]? = some (.map es clock) ∧ Fit P k Rh es clock ∧ es.size ≤ n ∧ ∀ c v, g c = some v ↔ ∃ x ∈ es.toList, x.key = en c ∧ x.val = v
theorem MapK.lt (h : MapK P k en w b n g) : b < w.heap.size := by
  obtain ⟨es, clock, hb, _⟩ := h
  exact (Array.getElem?_eq_some_iff.1 hb).1
theorem MapK.same (h : MapK P k en w b n g) (he : w'.heap[b]? = w.heap[b]?) : MapK P k en w' b n g := by
  obtain ⟨es, clock, hb, r⟩ := h
  exact ⟨es, clock, he.trans hb, r⟩
theorem MapK.more (h : MapK P k en w b n g) (hb : Below w.heap.size w w') : MapK P k en w' b n g := h.same (hb.block b h.lt)
theorem MapK.grown {row : Option Nat} (h : MapK P k en w b n g) (hg : w.grownBy w' row) (hne : some b ≠ row) : MapK P k en w' b n g := h.same (hg.block b h.lt hne)
end

end Go.Proofs.Ytmmpalnalogfnaa

/- Plain facts on a heap of stops. -/
namespace Go.Proofs.Ytmmpalnalogfnaa
set_option linter.unusedSimpArgs false
set_option linter.unusedVariables false

def el (l : List Stp) (i : Nat) : Stp := l.getD i (⟨#[]⟩, 0)
def key (l : List Stp) (i : Nat) : Nat := (el l i).2
/-- the first n are a heap -/
def HeapB (l : List Stp) (n : Nat) : Prop := ∀ i, 0 < i → i < n → key l ((i - 1) / 2) ≤ key l i
def UpX (l : List Stp) (j : Nat) : Prop :=
  (∀ i, 0 < i → i < l.length → i ≠ j → key l ((i - 1) / 2) ≤ key l i) ∧ (∀ i, 0 < i → i < l.length → (i - 1) / 2 = j → 0 < j → key l ((j - 1) / 2) ≤ key l i)
theorem UpX.done {l : List Stp} {j : Nat} (h : UpX l j) (hj : j = 0 ∨ key l ((j - 1) / 2) ≤ key l j) : HeapB l l.length := by
  intro i h0 hi
  by_cases e : i = j
  · subst e
    rcases hj with h | h
    · omega
    · exact h
  · exact h.1 i h0 hi e
def DownX (l : List Stp) (n i : Nat) : Prop :=
  (∀ k, 0 < k → k < n → (k - 1) / 2 ≠ i → key l ((k - 1) / 2) ≤ key l k) ∧ (∀ k, 0 < k → k < n → (k - 1) / 2 = i → 0 < i → key l ((i - 1) / 2) ≤ key l k)
theorem DownX.done {l : List Stp} {n i : Nat} (h : DownX l n i) (hc : ∀ k, 0 < k → k < n → (k - 1) / 2 = i → key l i ≤ key l k) : HeapB l n := by
  intro k h0 hk
  by_cases e : (k - 1) / 2 = i
  · rw [e]
    exact hc k h0 hk e
  · exact h.1 k h0 hk e
theorem HeapB.min {l : List Stp} {n : Nat} (h : HeapB l n) : ∀ k, k < n → key l 0 ≤ key l k := by
  intro k
  induction k using Nat.strongRecOn with
  | ind k ih =>
    intro hk
    by_cases e : k = 0
    · subst e; exact Nat.le_refl _
    · exact Nat.le_trans (ih ((k - 1) / 2) (by omega) (by omega)) (h k (by omega) hk)
end Go.Proofs.Ytmmpalnalogfnaa

/- Walks of the queue's methods. -/
namespace Go.Proofs.Ytmmpalnalogfnaa
open Go.RowKit Go.Shelf
set_option linter.unusedSimpArgs false
set_option linter.unusedVariables false

/-- of the blocks that are there, none has turned but those of which X holds -/
structure But (w w' : World) (X : Nat → Prop) : Prop where
  os : w'.os = w.os
  tape : w'.tape = w.tape
  output : w'.output = w.output
  size : w.heap.size ≤ w'.heap.size
  block : ∀ k, k < w.heap.size → ¬ X k → w'.heap[k]? = w.heap[k]?
theorem But.refl (w : World) (X : Nat → Prop) : But w w X := ⟨rfl, rfl, rfl, Nat.le_refl _, fun _ _ _ => rfl⟩
theorem But.trans {w w' w'' : World} {X Y : Nat → Prop} (h : But w w' X) (h' : But w' w'' Y) (hx : ∀ k, k < w.heap.size → Y k → X k) : But w w'' X :=
  ⟨h'.os.trans h.os, h'.tape.trans h.tape, h'.output.trans h.output, Nat.le_trans h.size h'.size, fun k hk hn => (h'.block k (Nat.lt_of_lt_of_le hk h.size) fun hy => hn (hx k hk hy)).trans (h.block k hk hn)⟩
theorem But.of_below {w w' : World} {X : Nat → Prop} (h : Below w.heap.size w w') : But w w' X := ⟨h.os, h.tape, h.output, h.size, fun k hk _ => h.block k hk⟩
theorem But.below {w w' : World} {X : Nat → Prop} (h : But w w' X) {B : Nat} (hB : B ≤ w.heap.size) (hx : ∀ k, k < B → ¬ X k) : Below B w w' := ⟨h.os, h.tape, h.output, h.size, fun k hk => h.block k (Nat.lt_of_lt_of_le hk hB) (hx k hk)⟩
theorem But.setCell (w : World) (r j : Nat) (v : Value) : But w (w.setCell ⟨r, j, none⟩ v) (fun k => k = r) := by
  refine ⟨?_, ?_, ?_, ?_, fun k _ hk => heap_setCell_other w _ k v hk⟩ <;> simp [World.setCell] <;> (try split) <;> simp
end Go.Proofs.Ytmmpalnalogfnaa

/- Rows of a call's own, whatever their elements are: a kit for append, for reading and for what a call has changed. -/
namespace Go.Proofs.Ytmmpalnalogfnaa
open Go.RowKit Go.Shelf
set_option linter.unusedSimpArgs false
set_option linter.unusedVariables false

section
variable {α : Type} {enc : α → List Value}
def cellsR (enc : α → List Value) (l : List α) : List Value := l.flatMap enc
theorem cellsR_len {sz : Nat} (h : ∀ x, (enc x).length = sz) (l : List α) : (cellsR enc l).length = l.length * sz := by
  induction l with
  | nil => simp [cellsR]
  | cons x r ih =>
    simp only [cellsR, List.flatMap_cons, List.length_append, List.length_cons, h] at ih ⊢
    rw [ih, Nat.add_mul]; omega
theorem cellsR_app (l m : List α) : cellsR enc (l ++ m) = cellsR enc l ++ cellsR enc m := by simp [cellsR]
theorem cellsR_one (x : α) : cellsR enc [x] = enc x := by simp [cellsR]
theorem cellsR_at {sz : Nat} (h : ∀ x, (enc x).length = sz) : ∀ (l : List α) (i j : Nat) (x : α) (u : Value), l[i]? = some x → (enc x)[j]? = some u → (cellsR enc l)[i * sz + j]? = some u
  | [], i, j, x, u, hi, _ => by simp at hi
  | y :: r, 0, j, x, u, hi, hu => by
    simp at hi
    subst hi
    have hj : j < (enc y).length := (List.getElem?_eq_some_iff.1 hu).1
    simp only [cellsR, List.flatMap_cons, Nat.zero_mul, Nat.zero_add]
    rw [List.getElem?_append_left hj]
    exact hu
  | y :: r, i + 1, j, x, u, hi, hu => by
    have ih := cellsR_at h r i j x u (by simpa using hi) hu
    have e : (i + 1) * sz + j = (enc y).length + (i * sz + j) := by rw [h, Nat.add_mul]; omega
    simp only [cellsR, List.flatMap_cons] at ih ⊢
    rw [e, List.getElem?_append_right (by omega), Nat.add_sub_cancel_left]
    exact ih
/-- what a row's type must be -/
structure RT (P : Program) (t e : TypeId) (sz : Nat) (enc : α → List Value) : Prop where
  ht : P.underlying t = some (.slice e)
  info : ∃ z bytes, (P.info? e).map (fun i => (i.zero, i.size, i.bytes)) = some (some z, sz, bytes) ∧ z.cells.size = sz ∧ bytes ≤ 1000
  len : ∀ x, (enc x).length = sz
  one : ∀ x, ∀ u ∈ enc x, u.oneCell' = true
  pos : 0 < sz
/-- a row of the call's own -/
structure ROwn (e : TypeId) (sz : Nat) (enc : α → List Value) (B : Nat) (w : World) (v : Value) (l : List α) : Prop where
  own : w.ownsRow B e sz v l.length (cellsR enc l)
  base : B ≤ w.heap.size
/-- the slice value v holds the elements l -/
def RowL (sz : Nat) (enc : α → List Value) (w : World) (v : Value) (l : List α) : Prop :=
  ∃ A c, v = .slice A l.length c ∧ (l = [] ∨ ∃ b o, A = some ⟨b, o, none⟩ ∧ b < w.heap.size ∧ ∀ i x j u, l[i]? = some x → (enc x)[j]? = some u → w.cell? ⟨b, o + i * sz + j, none⟩ = some u)
variable {e : TypeId} {sz B : Nat} {w w' : World} {v : Value} {l : List α}
theorem ROwn.nil (hB : B ≤ w.heap.size) : ROwn e sz enc B w (.slice none 0 0) [] := ⟨World.ownsRow_nil _ _ _ _, hB⟩
theorem ROwn.more (h : ROwn e sz enc B w v l) (hb : Below w.heap.size w w') : ROwn e sz enc B w' v l := ⟨own_more h.own hb, Nat.le_trans h.base hb.size⟩
theorem ROwn.alloc (h : ROwn e sz enc B w v l) (o : Obj) : ROwn e sz enc B (w.alloc o) v l := h.more (bel_alloc w o)
theorem RowL.more (h : RowL sz enc w v l) (hb : Below w.heap.size w w') : RowL sz enc w' v l := by
  obtain ⟨A, c, rfl, h⟩ := h
  refine ⟨A, c, rfl, ?_⟩
  rcases h with h | ⟨b, o, rfl, hlt, hc⟩
  · exact .inl h
  · exact .inr ⟨b, o, rfl, Nat.lt_of_lt_of_le hlt hb.size, fun i x j u hi hu => (hb.cell (p := ⟨b, o + i * sz + j, none⟩) hlt).trans (hc i x j u hi hu)⟩
theorem ROwn.rowL (h : ROwn e sz enc B w v l) (hlen : ∀ x, (enc x).length = sz) : RowL sz enc w v l := by
  cases l with
  | nil =>
    rcases h.own.2 with ⟨rfl, _⟩ | ⟨g, cap, cur, rfl, _⟩
    · exact ⟨none, 0, rfl, .inl rfl⟩
    · exact ⟨_, cap, rfl, .inl rfl⟩
  | cons x r =>
    obtain ⟨g, cap, rfl, _, hlt⟩ := h.own.form (by simp)
    have hadd : ∀ j, (⟨g, 0, none⟩ : Addr).add j = ⟨g, 0 + j, none⟩ := fun j => by unfold Addr.add; split <;> simp_all
    refine ⟨_, cap, rfl, .inr ⟨g, 0, rfl, hlt, fun i y j u hi hu => ?_⟩⟩
    have h0 := h.own.cells (g := g) rfl _ _ (cellsR_at hlen _ i j y u hi hu)
    rw [hadd] at h0
    rw [Nat.add_assoc]
    exact h0
/-- an element of a row -/
theorem RowL.at (h : RowL sz enc w v l) {A : Option Addr} {n c : Nat} (hv : v = .slice A n c) {k : Nat} (hk : k < l.length) : ∃ b o, A = some ⟨b, o, none⟩ ∧ b < w.heap.size ∧ ∀ j u, (enc l[k])[j]? = some u → w.cell? ⟨b, o + k * sz + j, none⟩ = some u := by
  obtain ⟨A', c', rfl, h⟩ := h
  simp only [Value.slice.injEq] at hv
  obtain ⟨rfl, rfl, rfl⟩ := hv
  rcases h with h | ⟨b, o, rfl, hlt, hc⟩
  · rw [h] at hk; simp at hk
  · exact ⟨b, o, rfl, hlt, fun j u hu => hc k _ j u (List.getElem?_eq_getElem hk) hu⟩
/-- a row literal -/
theorem RowL.new (w : World) (l : List α) (e : TypeId) (hlen : ∀ x, (enc x).length = sz) {cs : Array Value} (hcs : cs = (cellsR enc l).toArray) (c : Nat) : RowL sz enc (w.alloc (.cells cs e)) (.slice (some ⟨w.heap.size, 0, none⟩) l.length c) l := by
  subst hcs
  refine ⟨_, c, rfl, .inr ⟨w.heap.size, 0, rfl, by simp, fun i x j u hi hu => ?_⟩⟩
  rw [cells_new, List.getElem?_toArray, Nat.zero_add]
  exact cellsR_at hlen l i j x u hi hu
theorem ROwn.new (h : B ≤ w.heap.size) (l : List α) (hlen : ∀ x, (enc x).length = sz) {cs : Array Value} (hcs : cs = (cellsR enc l).toArray) (hm : l.length ≤ 1000000) : ROwn e sz enc B (w.alloc (.cells cs e)) (.slice (some ⟨w.heap.size, 0, none⟩) l.length l.length) l := by
  subst hcs
  refine ⟨⟨cellsR_len hlen l, .inr ⟨w.heap.size, l.length, (cellsR enc l).toArray, rfl, h, heap_alloc_new w _, Nat.le_refl _, by unfold maxLen; omega, by simp [cellsR_len hlen], ?_⟩⟩, by simp; omega⟩
  rw [List.take_of_length_le (by simp [cellsR_len hlen])]

/-- what a step has changed: of the blocks that were there, v's own alone; and v' lies there, or in a new one -/
structure Chg (w w' : World) (v v' : Value) : Prop where
  but : But w w' (fun k => v.ownBlock = some k)
  own : ∀ g, v'.ownBlock = some g → v.ownBlock = some g ∨ w.heap.size ≤ g
theorem Chg.refl (w : World) (v : Value) : Chg w w v v := ⟨But.refl _ _, fun g h => .inl h⟩
theorem Chg.of_below {w w' : World} {v : Value} (h : Below w.heap.size w w') : Chg w w' v v := ⟨But.of_below h, fun g h => .inl h⟩
theorem Chg.trans {w w1 w2 : World} {v v1 v2 : Value} (h : Chg w w1 v v1) (h' : Chg w1 w2 v1 v2) : Chg w w2 v v2 where
  but := h.but.trans h'.but (fun k hk hv => by
    rcases h.own k hv with h1 | h1
    · exact h1
    · omega)
  own g hg := by
    rcases h'.own g hg with h1 | h1
    · exact h.own g h1
    · exact .inr (Nat.le_trans h.but.size h1)
theorem ROwn.low (h : ROwn e sz enc B w v l) {k : Nat} (hk : v.ownBlock = some k) : B ≤ k ∧ k < w.heap.size := h.own.lt k hk
theorem Chg.below {v' : Value} (h : Chg w w' v v') (hF : ROwn e sz enc B w v l) : Below B w w' :=
  h.but.below hF.base (fun k hk hv => by have := (hF.low hv).1; omega)
theorem Chg.cell {w w' : World} {v v' : Value} (h : Chg w w' v v') {a : Addr} {x : Value} (hc : w.cell? a = some x) (hne : v.ownBlock ≠ some a.block) : w'.cell? a = some x :=
  (World.cell?_of_block (h.but.block a.block (World.block_lt_of_cell? _ _ hc) hne)).trans hc
theorem ROwn.app {P : Program} {t : TypeId} (T : RT P t e sz enc) {g cap' : Nat} {W w1 : World} {m : List α} (h : ROwn e sz enc B w v l) (hW : Below w.heap.size w W) {n : Nat} (hn : n = l.length + m.length)
    (hown : w1.ownsRow B e sz (.slice (some ⟨g, 0, none⟩) n cap') n (cellsR enc l ++ cellsR enc m)) (hgrow : W.grownBy w1 v.ownBlock) (hloc : v.ownBlock = some g ∨ g = W.heap.size) :
    ROwn e sz enc B w1 (.slice (some ⟨g, 0, none⟩) n cap') (l ++ m) ∧ Chg w w1 v (.slice (some ⟨g, 0, none⟩) n cap') := by
  have hs := hW.size
  refine ⟨⟨by rw [cellsR_app, List.length_append, ← hn]; exact hown, Nat.le_trans h.base (Nat.le_trans hs hgrow.size)⟩, ⟨⟨hgrow.os.trans hW.os, hgrow.tape.trans hW.tape, hgrow.output.trans hW.output, Nat.le_trans hs hgrow.size, fun k hk hn => (hgrow.block k (Nat.lt_of_lt_of_le hk hs) (fun e => hn e.symm)).trans (hW.block k hk)⟩, fun k hk => ?_⟩⟩
  have e : k = g := by
    have : (Value.slice (some ⟨g, 0, none⟩) n cap').ownBlock = some g := rfl
    rw [this] at hk
    exact (Option.some.inj hk).symm
  subst e
  rcases hloc with h1 | h1
  · exact .inl h1
  · exact .inr (by omega)
section
variable {P : Program} {t : TypeId}
/-- 'append(v, x)' in a plain region; w0: the world in which the row stood, before x was laid beside it -/
theorem wpList_rapp (T : RT P t e sz enc) {w0 : World} {ops : Array Oper} {rest : List Oper} {o : Oper} {a : Act} {Q : Exit → Act → World → Prop} (hgd : o.guard = none) (s x : Operand)
    (ho : o.op = .call { callee := .builtin .append, args := #[s, x], argTypes := #[t, t] }) (h0 : ROwn e sz enc B w0 v l) (hs : a.eval s = v) (hW : Below w0.heap.size w0 w)
    (b : Nat) (new : α) (c : Nat) (hx : a.eval x = .slice (some ⟨b, 0, none⟩) 1 c) {cs : Array Value} (hcs : cs = (enc new).toArray) (hb : w.heap[b]? = some (.cells cs e (0, 0)))
    (hlim : l.length ≤ 100000000)
    (h : ∀ v' w', ROwn e sz enc B w' v' (l ++ [new]) → Chg w0 w' v v' → wpList P ops Q rest (a.put o.dst v') w') : wpList P ops Q (o :: rest) a w := by
  obtain ⟨z, bytes, hinfo, hzc, hby⟩ := T.info
  obtain ⟨i, hi, hz, hz1, hz2⟩ := info_parts hinfo
  subst hcs
  refine wpList_append_lies w hgd s x t ho B e i z sz bytes T.ht hi hz hz1 hz2 hzc T.pos v l.length (cellsR enc l) hs (h0.more hW).own ⟨b, 0, none⟩ 1 c (cellsR enc [new]) hx
    (by rw [cellsR_one, T.len]; omega) (by rw [cellsR_one]; exact World.news_of_block hb) (by rw [cellsR_one]; exact T.one new) (by omega) (by unfold maxLen; omega) ?_ (h0.more hW).base w.heap.size rfl ?_
  · have : (l.length + 1) * bytes ≤ (l.length + 1) * 1000 := Nat.mul_le_mul_left _ hby
    omega
  · intro g cap w' hown hgrow hloc _
    obtain ⟨r1, r2⟩ := h0.app T hW (m := [new]) rfl hown hgrow hloc
    exact h _ _ r1 r2
/-- the same at a step of a region that draws its order -/
theorem step_rapp (T : RT P t e sz enc) {w0 : World} {ops : Array Oper} {o : Oper} {a : Act} {K : Act → World → Prop} {Q : Exit → Act → World → Prop} {E : Prop} (hgd : o.guard = none) (s x : Operand)
    (ho : o.op = .call { callee := .builtin .append, args := #[s, x], argTypes := #[t, t] }) (h0 : ROwn e sz enc B w0 v l) (hs : a.eval s = v) (hW : Below w0.heap.size w0 w)
    (b : Nat) (new : α) (c : Nat) (hx : a.eval x = .slice (some ⟨b, 0, none⟩) 1 c) {cs : Array Value} (hcs : cs = (enc new).toArray) (hb : w.heap[b]? = some (.cells cs e (0, 0)))
    (hlim : l.length ≤ 100000000)
    (h : ∀ v' w', ROwn e sz enc B w' v' (l ++ [new]) → Chg w0 w' v v' → K (a.put o.dst v') w') : if Region.wanted o (yielded ops a.tmps) = true then Oper.wp P o a w K Q else E := by
  obtain ⟨z, bytes, hinfo, hzc, hby⟩ := T.info
  obtain ⟨i, hi, hz, hz1, hz2⟩ := info_parts hinfo
  subst hcs
  refine step_append_lies w hgd s x t ho B e i z sz bytes T.ht hi hz hz1 hz2 hzc T.pos v l.length (cellsR enc l) hs (h0.more hW).own ⟨b, 0, none⟩ 1 c (cellsR enc [new]) hx
    (by rw [cellsR_one, T.len]; omega) (by rw [cellsR_one]; exact World.news_of_block hb) (by rw [cellsR_one]; exact T.one new) (by omega) (by unfold maxLen; omega) ?_ (h0.more hW).base w.heap.size rfl ?_
  · have : (l.length + 1) * bytes ≤ (l.length + 1) * 1000 := Nat.mul_le_mul_left _ hby
    omega
  · intro g cap w' hown hgrow hloc _
    obtain ⟨r1, r2⟩ := h0.app T hW (m := [new]) rfl hown hgrow hloc
    exact h _ _ r1 r2
theorem news_of_row {w : World} {b o : Nat} {m : List α} (hlen : ∀ x, (enc x).length = sz) (hpos : 0 < sz) (hc : ∀ i x j u, m[i]? = some x → (enc x)[j]? = some u → w.cell? ⟨b, o + i * sz + j, none⟩ = some u) :
    ∀ j u, (cellsR enc m)[j]? = some u → w.cell? ((⟨b, o, none⟩ : Addr).add j) = some u := by
  intro j u hu
  have hadd : (⟨b, o, none⟩ : Addr).add j = ⟨b, o + j, none⟩ := by unfold Addr.add; split <;> simp_all
  rw [hadd]
  have hj : j < (cellsR enc m).length := (List.getElem?_eq_some_iff.1 hu).1
  rw [cellsR_len hlen] at hj
  have hi : j / sz < m.length := Nat.div_lt_of_lt_mul (by rw [Nat.mul_comm]; exact hj)
  have hm : j % sz < sz := Nat.mod_lt _ hpos
  have hd : (j / sz) * sz + j % sz = j := by rw [Nat.mul_comm]; exact Nat.div_add_mod j sz
  have hg := cellsR_at hlen m (j / sz) (j % sz) m[j / sz] ((enc m[j / sz])[j % sz]'(by rw [hlen]; exact hm)) (List.getElem?_eq_getElem hi) (List.getElem?_eq_getElem _)
  rw [hd, hu] at hg
  have := hc (j / sz) m[j / sz] (j % sz) _ (List.getElem?_eq_getElem hi) (List.getElem?_eq_getElem (by rw [hlen]; exact hm))
  rw [Nat.add_assoc, hd] at this
  rw [this, hg]
end
end
end Go.Proofs.Ytmmpalnalogfnaa

/- 'append(v, x...)' for rows of a call's own, whatever x holds. -/
namespace Go.Proofs.Ytmmpalnalogfnaa
open Go.RowKit Go.Shelf
set_option linter.unusedSimpArgs false
set_option linter.unusedVariables false

section
variable {α : Type} {enc : α → List Value} {e : TypeId} {sz B : Nat} {w w' : World} {v : Value} {l : List α} {P : Program} {t : TypeId}
theorem run_app0 (T : RT P t e sz enc) (ty : TypeId) (h : ROwn e sz enc B w v l) (A : Option Addr) (c : Nat) : (Builtin.append_ #[t, t] ty #[v, .slice A 0 c]).run P w = .ok v w := by
  obtain ⟨z, bytes, hinfo, hzc, hby⟩ := T.info
  obtain ⟨i, hi, hz, hz1, hz2⟩ := info_parts hinfo
  have ht := T.ht
  rcases h.own.2 with ⟨rfl, h1⟩ | ⟨g, cap, cur, rfl, _, _, hnc, _⟩
  · cases A <;> simp [Builtin.append_, run_underlying ht, sizeOf, typeInfo, hi, Builtin.lenOf, Builtin.firstCells, h1, loadCells, loadCellsFrom]
  · cases A <;> simp [Builtin.append_, run_underlying ht, sizeOf, typeInfo, hi, Builtin.lenOf, Builtin.firstCells, hnc, storeCells, loadCells, loadCellsFrom]
theorem wp_rappl (T : RT P t e sz enc) {o : Oper} {a : Act} {K : Act → World → Prop} {Q : Exit → Act → World → Prop} (s x : Operand)
    (ho : o.op = .call { callee := .builtin .append, args := #[s, x], argTypes := #[t, t] }) (h0 : ROwn e sz enc B w v l) (hs : a.eval s = v) (m : List α) (u : Value) (hx : a.eval x = u) (hm : RowL sz enc w u m)
    (hlim : l.length + m.length ≤ 100000000)
    (h : ∀ v' w', ROwn e sz enc B w' v' (l ++ m) → Chg w w' v v' → K (a.put o.dst v') w') : o.wp P a w K Q := by
  obtain ⟨A, c, rfl, hm⟩ := hm
  rcases hm with rfl | ⟨b, off, rfl, hlt, hc⟩
  · have hr := run_app0 T o.type h0 A c
    have hx : a.eval x = .slice A 0 c := hx
    unfold Oper.wp execOp
    simp only [ho, resolve, invoke, builtin, Sem.run_bind, Sem.run_pure, Result.andThen_ok, List.map_toArray, List.map_cons, List.map_nil, hs, hx, hr]
    exact h v w (by rw [List.append_nil]; exact h0) (Chg.refl _ _)
  · rcases Nat.eq_zero_or_pos m.length with h1 | h1
    · have : m = [] := List.eq_nil_of_length_eq_zero h1
      subst this
      have hr := run_app0 T o.type h0 (some ⟨b, off, none⟩) c
      have hx : a.eval x = .slice (some ⟨b, off, none⟩) 0 c := hx
      unfold Oper.wp execOp
      simp only [ho, resolve, invoke, builtin, Sem.run_bind, Sem.run_pure, Result.andThen_ok, List.map_toArray, List.map_cons, List.map_nil, hs, hx, hr]
      exact h v w (by rw [List.append_nil]; exact h0) (Chg.refl _ _)
    · obtain ⟨z, bytes, hinfo, hzc, hby⟩ := T.info
      obtain ⟨i, hi, hz, hz1, hz2⟩ := info_parts hinfo
      refine wp_append_lies w s x t ho B e i z sz bytes T.ht hi hz hz1 hz2 hzc T.pos v l.length (cellsR enc l) hs h0.own ⟨b, off, none⟩ m.length c (cellsR enc m) hx
        (by rw [cellsR_len T.len]) (news_of_row T.len T.pos hc) ?_ h1 (by unfold maxLen; omega) ?_ h0.base w.heap.size rfl ?_
      · intro u hu
        obtain ⟨y, _, hy⟩ := List.mem_flatMap.1 hu
        exact T.one y u hy
      · have : (l.length + m.length) * bytes ≤ (l.length + m.length) * 1000 := Nat.mul_le_mul_left _ hby
        omega
      · intro g cap w' hown hgrow hloc _
        obtain ⟨r1, r2⟩ := h0.app T (Below.refl _ _) (m := m) rfl hown hgrow hloc
        exact h _ _ r1 r2
theorem wpList_rappl (T : RT P t e sz enc) {ops : Array Oper} {rest : List Oper} {o : Oper} {a : Act} {Q : Exit → Act → World → Prop} (hgd : o.guard = none) (s x : Operand)
    (ho : o.op = .call { callee := .builtin .append, args := #[s, x], argTypes := #[t, t] }) (h0 : ROwn e sz enc B w v l) (hs : a.eval s = v) (m : List α) (u : Value) (hx : a.eval x = u) (hm : RowL sz enc w u m)
    (hlim : l.length + m.length ≤ 100000000)
    (h : ∀ v' w', ROwn e sz enc B w' v' (l ++ m) → Chg w w' v v' → wpList P ops Q rest (a.put o.dst v') w') : wpList P ops Q (o :: rest) a w :=
  wpList_plain hgd fun _ hK => wp_rappl T s x ho h0 hs m u hx hm hlim fun v' w' h1 h2 => hK _ _ (h v' w' h1 h2)
end
end Go.Proofs.Ytmmpalnalogfnaa

/- Walks of hasCodes and, where there is nothing to report, of report. -/
namespace Go.Proofs.Ytmmpalnalogfnaa
open Go.RowKit Go.Shelf
set_option linter.unusedSimpArgs false
set_option linter.unusedVariables false

def codesB (a : Air) : Bool := capsB a.code 3 && capsB a.city 3 && capsB a.land 2
end Go.Proofs.Ytmmpalnalogfnaa

/- Plain facts on lists of violations, and on those of places. -/
namespace Go.Proofs.Ytmmpalnalogfnaa
open Go.RowKit Go.Shelf
set_option linter.unusedSimpArgs false
set_option linter.unusedVariables false

/-- a violation: its error, and where it is -/
abbrev Flt := Int × ByteArray
/-- the errors that are none are left out -/
def okE (es : List Int) : List Int := es.filter fun e => decide (e ≠ 0)
def pick (s : ByteArray) (es : List Int) : List Flt := (okE es).map fun e => (e, s)
theorem pick_app (s : ByteArray) (a b : List Int) : pick s (a ++ b) = pick s a ++ pick s b := by simp [pick, okE]
theorem pick_zero (s : ByteArray) : pick s [0] = [] := rfl
theorem pick_one (s : ByteArray) (e : Int) (h : e ≠ 0) : pick s [e] = [(e, s)] := by simp [pick, okE, h]
theorem pick_le (s : ByteArray) (es : List Int) : (pick s es).length ≤ es.length := by
  unfold pick okE
  rw [List.length_map]
  exact List.length_filter_le _ _

/-! ### the violations of places -/
/-- 'airport ' ¦ 'distance ' with an index behind it -/
def airW : ByteArray := ⟨#[97, 105, 114, 112, 111, 114, 116, 32]⟩
def dstW : ByteArray := ⟨#[100, 105, 115, 116, 97, 110, 99, 101, 32]⟩
def decA (i : Nat) : ByteArray := ⟨(Lib.itoa (i : Int)).toArray⟩
def movB (L : List Air) (a : Air) : Bool := L.any fun b => decide (b.city = a.city) && !decide (b.land = a.land)
def airE (L : List Air) (a : Air) : List Int :=
  [if codesB a then 0 else 5, if L.any (fun b => decide (b.code = a.code)) then 6 else 0, if movB L a then 8 else 0, errZ a.off a.shs]
/-- the violations of the first k airports -/
def airF (l : List Air) (k : Nat) : List Flt := (List.range k).flatMap fun i => match l[i]? with
  | some a => pick (airW ++ decA i) (airE (l.take i) a)
  | none => []
theorem airF_succ (l : List Air) (k : Nat) (a : Air) (h : l[k]? = some a) : airF l (k + 1) = airF l k ++ pick (airW ++ decA k) (airE (l.take k) a) := by
  simp [airF, List.range_succ, h]
theorem airF_le (l : List Air) : ∀ k, (airF l k).length ≤ 4 * k
  | 0 => by simp [airF]
  | k + 1 => by
    have ih := airF_le l k
    have e : airF l (k + 1) = airF l k ++ (match l[k]? with | some a => pick (airW ++ decA k) (airE (l.take k) a) | none => []) := by simp [airF, List.range_succ]
    rw [e, List.length_append]
    cases l[k]? with
    | none => simp; omega
    | some a =>
      have := pick_le (airW ++ decA k) (airE (l.take k) a)
      simp only [airE, List.length_cons, List.length_nil] at this ⊢
      omega
def twB (L : List Dst) (d : Dst) : Bool := L.any fun x => (decide (x.f = d.f) && decide (x.t = d.t)) || (decide (x.f = d.t) && decide (x.t = d.f))
def dstE (l : List Air) (L : List Dst) (d : Dst) : List Int :=
  [if l.any (fun b => decide (b.city = d.f)) && l.any (fun b => decide (b.city = d.t)) then 0 else 14, if twB L d then 6 else 0, if useB d && !decide (d.f = d.t) then 0 else 2]
def dstF (l : List Air) (ds : List Dst) (k : Nat) : List Flt := (List.range k).flatMap fun i => match ds[i]? with
  | some d => pick (dstW ++ decA i) (dstE l (ds.take i) d)
  | none => []
theorem dstF_zero (l : List Air) (ds : List Dst) : dstF l ds 0 = [] := rfl
theorem dstF_succ (l : List Air) (ds : List Dst) (k : Nat) (d : Dst) (h : ds[k]? = some d) : dstF l ds (k + 1) = dstF l ds k ++ pick (dstW ++ decA k) (dstE l (ds.take k) d) := by
  simp [dstF, List.range_succ, h]
theorem dstF_le (l : List Air) (ds : List Dst) : ∀ k, (dstF l ds k).length ≤ 3 * k
  | 0 => by simp [dstF]
  | k + 1 => by
    have ih := dstF_le l ds k
    have e : dstF l ds (k + 1) = dstF l ds k ++ (match ds[k]? with | some d => pick (dstW ++ decA k) (dstE l (ds.take k) d) | none => []) := by simp [dstF, List.range_succ]
    rw [e, List.length_append]
    cases ds[k]? with
    | none => simp; omega
    | some d =>
      have := pick_le (dstW ++ decA k) (dstE l (ds.take k) d)
      simp only [dstE, List.length_cons, List.length_nil] at this ⊢
      omega
/-- all violations of places -/
def chkP (p : PV) : List Flt := airF p.l p.l.length ++ dstF p.l p.ds p.ds.length

/-! ### the order of texts -/
theorem less_asym : ∀ x y : List UInt8, Op.bytesLess x y = true → Op.bytesLess y x = false
  | _, [], h => by simp [Op.bytesLess] at h
  | [], _ :: _, _ => rfl
  | a :: x, b :: y, h => by
    simp only [Op.bytesLess, Bool.or_eq_true, decide_eq_true_eq, Bool.and_eq_true, beq_iff_eq] at h
    have hlt : ∀ u v : UInt8, u < v ↔ u.toNat < v.toNat := fun u v => UInt8.lt_iff_toNat_lt
    rcases h with h | ⟨rfl, h⟩
    · have h1 : ¬ b < a := by rw [hlt] at h ⊢; omega
      have h2 : ¬ b = a := by rintro rfl; rw [hlt] at h; omega
      simp [Op.bytesLess, h1, h2]
    · have h1 : ¬ a < a := by rw [hlt]; omega
      simp [Op.bytesLess, h1, less_asym x y h]
theorem less_total : ∀ x y : List UInt8, Op.bytesLess x y = false → x ≠ y → Op.bytesLess y x = true
  | [], [], _, h => absurd rfl h
  | _ :: _, [], _, _ => rfl
  | [], _ :: _, h, _ => by simp [Op.bytesLess] at h
  | a :: x, b :: y, h, hne => by
    simp only [Op.bytesLess, Bool.or_eq_false_iff, decide_eq_false_iff_not, Bool.and_eq_false_iff] at h
    have hlt : ∀ u v : UInt8, u < v ↔ u.toNat < v.toNat := fun u v => UInt8.lt_iff_toNat_lt
    by_cases e : a = b
    · subst e
      have h1 : Op.bytesLess x y = false := by rcases h.2 with h | h; exact absurd h (by simp); exact h
      have := less_total x y h1 (fun e => hne (by rw [e]))
      simp [Op.bytesLess, this]
    · have h1 : b < a := by
        have h0 := h.1
        have h2 : a.toNat ≠ b.toNat := fun h => e (UInt8.toNat_inj.1 h)
        rw [hlt] at h0 ⊢
        omega
      simp [Op.bytesLess, h1]
theorem toList_ne {a b : ByteArray} (h : a ≠ b) : a.toList ≠ b.toList := fun e => h ((eqS_iff a b).1 (by unfold eqS; rw [e]; simp))
variable {P : Program}
end Go.Proofs.Ytmmpalnalogfnaa

/- Walks of fault.When, fault.Add and of the law's SameFaults. -/
namespace Go.Proofs.Ytmmpalnalogfnaa
open Go.RowKit Go.Shelf
set_option linter.unusedSimpArgs false
set_option linter.unusedVariables false

abbrev fltT : TypeId := 61
def encF (x : Flt) : List Value := [.int .i64 x.1, .string x.2]
theorem rtF : RT Try.prog 32 fltT 2 encF where
  ht := Try.underlying32
  info := ⟨.agg #[.int .i64 0, .string noB], 24, by kernel_rfl, rfl, by omega⟩
  len x := rfl
  one x u hu := by simp [encF] at hu; rcases hu with rfl | rfl <;> rfl
  pos := by omega
abbrev FOwn (B : Nat) (w : World) (v : Value) (l : List Flt) : Prop := ROwn fltT 2 encF B w v l
end Go.Proofs.Ytmmpalnalogfnaa
