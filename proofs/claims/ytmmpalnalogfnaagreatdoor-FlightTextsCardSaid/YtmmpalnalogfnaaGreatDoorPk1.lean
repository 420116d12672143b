/- Words and walks that the laws below ask: Mem, CalP, CalA, CalQ, CalD, ZonP, ZonA, ZonB, PlaP, PlainB. -/
import Derived.WalkKit
import Derived.WalkSpells
import Derived.WalkLawsBesides
import Derived.Deep.AppendLies
import Derived.Lib.UnsafeStr
import Derived.Lib.BufferWrite
import Derived.Lib.AppendStr
import Derived.Lib.Hide
import Derived.Test.YtmmpalnalogfnaaGreatDoorRows
import Derived.OwnWalk
import Derived.Deep.WholeRow
import Derived.BigQuiet
import Derived.Deep.QuietTactic
import Derived.IntWalk
import Derived.Lib.AtoiAll
import Derived.Lib.ItoaNum
/- Words for memory that a call makes: a buffer of bytes that is appended to (over any program). -/
namespace Go.Proofs.YtmmpalnalogfnaaGreatDoor
open Go.RowKit
set_option linter.unusedSimpArgs false
set_option linter.unusedVariables false

theorem ret_bool {a b : Bool} (h : a = b) : Ending.returned (.bool a) = .returned (.bool b) := by rw [h]
theorem ret_int {k : IntKind} {a b : Int} (h : a = b) : Ending.returned (.int k a) = .returned (.int k b) := by rw [h]
theorem ret_str {a b : List UInt8} (h : a = b) : Ending.returned (.string ⟨a.toArray⟩) = .returned (.string ⟨b.toArray⟩) := by rw [h]
theorem below_drewN {B : Nat} {a w : World} (h : Below B a w) (n : Nat) : Below B a (w.drewN n) := ⟨h.os, h.tape, h.output, h.size, h.block⟩

/-- t is a slice type whose elements are the bytes e -/
structure ByteT (P : Program) (t e : TypeId) : Prop where
  ht : P.underlying t = some (.slice e)
  he : P.underlying e = some (.int .u8)
  info : (P.info? e).map (fun i => (i.zero, i.size, i.bytes)) = some (some (.int .u8 0), 1, 1)

/-- the slice value v holds the bytes l, in a row of the call's own blocks (from B on); of the blocks below B nothing has turned since a -/
structure Buf (e : TypeId) (B : Nat) (a w : World) (v : Value) (l : List UInt8) : Prop where
  own : w.ownsRow B e 1 v l.length (Lib.byteCells l)
  bel : Below B a w
  base : B ≤ w.heap.size

theorem Buf.nil {e : TypeId} {B : Nat} {a w : World} (h : Below B a w) (hB : B ≤ w.heap.size) : Buf e B a w (.slice none 0 0) [] := ⟨World.ownsRow_nil _ _ _ _, h, hB⟩
theorem Buf.of_make {e : TypeId} {B : Nat} {a w w' : World} {v : Value} (h : Below B a w) (hB : B ≤ w.heap.size) (ho : w'.ownsRow B e 1 v 0 []) (hg : w.grownBy w' none) : Buf e B a w' v [] :=
  ⟨ho, h.grown hg hB (fun _ h => by cases h), Nat.le_trans hB hg.size⟩
theorem Buf.alloc {e : TypeId} {B : Nat} {a w : World} {v : Value} {l : List UInt8} (h : Buf e B a w v l) (o : Obj) : Buf e B a (w.alloc o) v l :=
  ⟨h.own.alloc o, h.bel.alloc h.base o, by have := h.base; simp; omega⟩
theorem Buf.drew {e : TypeId} {B : Nat} {a w : World} {v : Value} {l : List UInt8} (h : Buf e B a w v l) : Buf e B a w.drew v l := ⟨h.own, h.bel.drew, h.base⟩
theorem Buf.drewN {e : TypeId} {B : Nat} {a w : World} {v : Value} {l : List UInt8} (h : Buf e B a w v l) (n : Nat) : Buf e B a (w.drewN n) v l := ⟨h.own, below_drewN h.bel n, h.base⟩
/-- a buffer that holds something is not nil -/
theorem Buf.form {e : TypeId} {B : Nat} {a w : World} {v : Value} {l : List UInt8} (h : Buf e B a w v l) (hl : l ≠ []) : ∃ g cap, v = .slice (some ⟨g, 0, none⟩) l.length cap ∧ B ≤ g ∧ g < w.heap.size :=
  h.own.form (by cases l with
    | nil => exact absurd rfl hl
    | cons _ _ => simp)
theorem Buf.cells {e : TypeId} {B : Nat} {a w : World} {l : List UInt8} {g n cap : Nat} (h : Buf e B a w (.slice (some ⟨g, 0, none⟩) n cap) l) :
    ∀ j (hj : j < l.length), w.cell? ((⟨g, 0, none⟩ : Addr).add j) = some (.int .u8 (l[j].toNat : Int)) := fun j hj =>
  h.own.cells (g := g) rfl j _ (by simp [Lib.byteCells, hj])

section
variable {P : Program} {t e : TypeId}
theorem app_news {w : World} {b : Nat} {new : List UInt8} {cs : Array Value} (hcs : cs = (Lib.byteCells new).toArray) (hb : w.heap[b]? = some (.cells cs e (0, 0))) :
    ∀ j u, (Lib.byteCells new)[j]? = some u → w.cell? ((⟨b, 0, none⟩ : Addr).add j) = some u := by
  intro j u hu
  have hadd : (⟨b, 0, none⟩ : Addr).add j = ⟨b, j, none⟩ := by unfold Addr.add; split <;> simp_all
  rw [hadd, cell_of_row w b j cs e (0, 0) hb, hcs]
  simpa using hu
theorem own_below {B : Nat} {w : World} {v : Value} {n : Nat} {xs : List Value} (h : w.ownsRow B e 1 v n xs) : ∀ k, v.ownBlock = some k → B ≤ k := fun k hk => (h.lt k hk).1

/-- 'append(v, new..)', new lying whole in a block: what the law on append leaves, for a plain region's list -/
theorem wpList_app (T : ByteT P t e) {B : Nat} {a0 w : World} {ops : Array Oper} {rest : List Oper} {o : Oper} {a : Act} {Q : Exit → Act → World → Prop} (hgd : o.guard = none) (s x : Operand)
    (ho : o.op = .call { callee := .builtin .append, args := #[s, x], argTypes := #[t, t] }) (v : Value) (l : List UInt8) (hs : a.eval s = v) (h0 : Buf e B a0 w v l)
    (b : Nat) (new : List UInt8) (m c : Nat) (hx : a.eval x = .slice (some ⟨b, 0, none⟩) m c) (hm : new.length = m) (h1 : 0 < m) {cs : Array Value} (hcs : cs = (Lib.byteCells new).toArray) (hb : w.heap[b]? = some (.cells cs e (0, 0)))
    (hlim : l.length + m ≤ 140737488355328)
    (h : ∀ v' w', Buf e B a0 w' v' (l ++ new) → wpList P ops Q rest (a.put o.dst v') w') : wpList P ops Q (o :: rest) a w := by
  obtain ⟨i, hi, hz, hz1, hz2⟩ := info_parts T.info
  refine wpList_append_lies w hgd s x t ho B e i (.int .u8 0) 1 1 T.ht hi hz hz1 hz2 rfl (by omega) v l.length (Lib.byteCells l) hs h0.own ⟨b, 0, none⟩ m c (Lib.byteCells new) hx
    (by rw [Lib.byteCells_length]; omega) (app_news hcs hb) (Lib.byteCells_one _) h1 (by unfold maxLen; omega) (by omega) h0.base w.heap.size rfl ?_
  intro g cap w' hown hgrow _ _
  refine h _ _ ⟨?_, h0.bel.grown hgrow h0.base (own_below h0.own), Nat.le_trans h0.base hgrow.size⟩
  rw [Lib.byteCells_append, List.length_append, hm]
  exact hown
/-- the same at a step of a region that draws its order -/
theorem step_app (T : ByteT P t e) {B : Nat} {a0 w : World} {ops : Array Oper} {o : Oper} {a : Act} {K : Act → World → Prop} {Q : Exit → Act → World → Prop} {E : Prop} (hgd : o.guard = none) (s x : Operand)
    (ho : o.op = .call { callee := .builtin .append, args := #[s, x], argTypes := #[t, t] }) (v : Value) (l : List UInt8) (hs : a.eval s = v) (h0 : Buf e B a0 w v l)
    (b : Nat) (new : List UInt8) (m c : Nat) (hx : a.eval x = .slice (some ⟨b, 0, none⟩) m c) (hm : new.length = m) (h1 : 0 < m) {cs : Array Value} (hcs : cs = (Lib.byteCells new).toArray) (hb : w.heap[b]? = some (.cells cs e (0, 0)))
    (hlim : l.length + m ≤ 140737488355328)
    (h : ∀ v' w', Buf e B a0 w' v' (l ++ new) → K (a.put o.dst v') w') : if Region.wanted o (yielded ops a.tmps) = true then Oper.wp P o a w K Q else E := by
  obtain ⟨i, hi, hz, hz1, hz2⟩ := info_parts T.info
  refine step_append_lies w hgd s x t ho B e i (.int .u8 0) 1 1 T.ht hi hz hz1 hz2 rfl (by omega) v l.length (Lib.byteCells l) hs h0.own ⟨b, 0, none⟩ m c (Lib.byteCells new) hx
    (by rw [Lib.byteCells_length]; omega) (app_news hcs hb) (Lib.byteCells_one _) h1 (by unfold maxLen; omega) (by omega) h0.base w.heap.size rfl ?_
  intro g cap w' hown hgrow _ _
  refine h _ _ ⟨?_, h0.bel.grown hgrow h0.base (own_below h0.own), Nat.le_trans h0.base hgrow.size⟩
  rw [Lib.byteCells_append, List.length_append, hm]
  exact hown
end
/-- a slice literal of bytes -/
theorem Buf.new {e : TypeId} {B : Nat} {a w : World} (h : Below B a w) (hB : B ≤ w.heap.size) (l : List UInt8) {cs : Array Value} (hcs : cs = (Lib.byteCells l).toArray) {n : Nat} (hn : n = l.length) (hm : l.length ≤ 140737488355328) :
    Buf e B a (w.alloc (.cells cs e)) (.slice (some ⟨w.heap.size, 0, none⟩) n n) l := by
  subst hn hcs
  refine ⟨⟨by simp [Lib.byteCells], .inr ⟨w.heap.size, l.length, (Lib.byteCells l).toArray, rfl, hB, heap_alloc_new w _, Nat.le_refl _, by unfold maxLen; omega, by simp [Lib.byteCells], ?_⟩⟩, h.alloc hB _, by simp; omega⟩
  rw [List.take_of_length_le (by simp [Lib.byteCells])]
/-- 'string(b)' -/
theorem Buf.text {P : Program} {t e d : TypeId} (T : ByteT P t e) (hd : P.underlying d = some .string) {B : Nat} {a w : World} {v : Value} {l : List UInt8} (h : Buf e B a w v l) :
    (convert t d v).run P w = .ok (.string ⟨l.toArray⟩) w := by
  rcases h.own.2 with ⟨rfl, h0⟩ | ⟨g, cap, cur, rfl, _, hg, _⟩
  · have : l = [] := List.eq_nil_of_length_eq_zero h0
    subst this
    rw [run_convert_bytes_string w t d e none 0 0 T.ht T.he hd]
    rfl
  · exact run_convert_bytes_back (P := P) w t d e ⟨g, 0, none⟩ cap l T.ht T.he hd h.cells
/-- a buffer stands while nothing that is there turns -/
theorem own_more {e : TypeId} {B size : Nat} {w w' : World} {v : Value} {n : Nat} {xs : List Value} (h : w.ownsRow B e size v n xs) (hb : Below w.heap.size w w') : w'.ownsRow B e size v n xs := by
  refine h.kept (row := none) ⟨hb.os, hb.tape, hb.output, hb.size, fun k hk _ => hb.block k hk⟩ ?_
  cases hv : v.ownBlock
  · exact .inl rfl
  · exact .inr (by simp)
theorem Buf.more {e : TypeId} {B : Nat} {a w w' : World} {v : Value} {l : List UInt8} (h : Buf e B a w v l) (hb : Below w.heap.size w w') : Buf e B a w' v l :=
  ⟨own_more h.own hb, h.bel.trans (hb.mono h.base), Nat.le_trans h.base hb.size⟩
theorem below_self {w w' : World} (h : ∃ n, w' = w.drewN n) : Below w.heap.size w w' := by
  obtain ⟨n, rfl⟩ := h
  exact below_drewN (Below.refl _ _) n
theorem isEmpty_no (r : ByteArray) (h : 0 < r.size) : r.toList.isEmpty = false := by
  rw [ByteArray.toList_eq, List.isEmpty_eq_false_iff]
  intro e
  have e := congrArg List.length e
  simp only [Array.length_toList, ByteArray.size_data, List.length_nil] at e
  omega
theorem isEmpty_yes (r : ByteArray) (h : r.size = 0) : r.toList.isEmpty = true := by
  rw [ByteArray.toList_eq, List.isEmpty_iff]
  exact List.eq_nil_of_length_eq_zero (by simp only [Array.length_toList, ByteArray.size_data]; exact h)
/-- the slice value v holds the texts ss, in memory that lies in w -/
def StrL (w : World) (v : Value) (ss : List ByteArray) : Prop :=
  ∃ A c, v = .slice A ss.length c ∧ (ss = [] ∨ ∃ b o, A = some ⟨b, o, none⟩ ∧ b < w.heap.size ∧ ∀ i (h : i < ss.length), w.cell? ⟨b, o + i, none⟩ = some (.string ss[i]))
theorem StrL.more {w w' : World} {v : Value} {ss : List ByteArray} (h : StrL w v ss) (hb : Below w.heap.size w w') : StrL w' v ss := by
  obtain ⟨A, c, rfl, h⟩ := h
  refine ⟨A, c, rfl, ?_⟩
  rcases h with h | ⟨b, o, rfl, hlt, hc⟩
  · exact .inl h
  · exact .inr ⟨b, o, rfl, Nat.lt_of_lt_of_le hlt hb.size, fun i hi => (hb.cell (p := ⟨b, o + i, none⟩) hlt).trans (hc i hi)⟩
theorem StrL.alloc {w : World} {v : Value} {ss : List ByteArray} (h : StrL w v ss) (o : Obj) : StrL (w.alloc o) v ss := h.more ((Below.refl _ _).alloc (Nat.le_refl _) _)
/-! ### a row of texts that the call makes -/
structure StrT (P : Program) (t e : TypeId) : Prop where
  ht : P.underlying t = some (.slice e)
  info : (P.info? e).map (fun i => (i.zero, i.size, i.bytes)) = some (some (.string ⟨#[]⟩), 1, 16)
structure SOwn (e : TypeId) (B : Nat) (w : World) (v : Value) (ss : List ByteArray) : Prop where
  own : w.ownsRow B e 1 v ss.length (ss.map .string)
  base : B ≤ w.heap.size
theorem SOwn.nil {e : TypeId} {B : Nat} {w : World} (hB : B ≤ w.heap.size) : SOwn e B w (.slice none 0 0) [] := ⟨World.ownsRow_nil _ _ _ _, hB⟩
theorem SOwn.more {e : TypeId} {B : Nat} {w w' : World} {v : Value} {ss : List ByteArray} (h : SOwn e B w v ss) (hb : Below w.heap.size w w') : SOwn e B w' v ss :=
  ⟨own_more h.own hb, Nat.le_trans h.base hb.size⟩
theorem SOwn.alloc {e : TypeId} {B : Nat} {w : World} {v : Value} {ss : List ByteArray} (h : SOwn e B w v ss) (o : Obj) : SOwn e B (w.alloc o) v ss := h.more ((Below.refl _ _).alloc (Nat.le_refl _) _)
theorem SOwn.strL {e : TypeId} {B : Nat} {w : World} {v : Value} {ss : List ByteArray} (h : SOwn e B w v ss) : StrL w v ss := by
  cases ss with
  | nil =>
    rcases h.own.2 with ⟨rfl, _⟩ | ⟨g, cap, cur, rfl, _⟩
    · exact ⟨none, 0, rfl, .inl rfl⟩
    · exact ⟨_, cap, rfl, .inl rfl⟩
  | cons x r =>
    obtain ⟨g, cap, rfl, _, hlt⟩ := h.own.form (by simp)
    refine ⟨_, cap, rfl, .inr ⟨g, 0, rfl, hlt, fun i hi => ?_⟩⟩
    have := h.own.cells (g := g) rfl i (.string (x :: r)[i]) (by rw [List.getElem?_map, List.getElem?_eq_getElem hi]; rfl)
    have hadd : (⟨g, 0, none⟩ : Addr).add i = ⟨g, 0 + i, none⟩ := by unfold Addr.add; split <;> simp_all
    rw [← hadd]
    exact this
theorem own_below' {e : TypeId} {size B : Nat} {w : World} {v : Value} {n : Nat} {xs : List Value} (h : w.ownsRow B e size v n xs) : ∀ k, v.ownBlock = some k → B ≤ k := fun k hk => (h.lt k hk).1
section
variable {P : Program} {t e : TypeId}
theorem wpList_sapp (T : StrT P t e) {B : Nat} {w : World} {ops : Array Oper} {rest : List Oper} {o : Oper} {a : Act} {Q : Exit → Act → World → Prop} (hgd : o.guard = none) (s x : Operand)
    (ho : o.op = .call { callee := .builtin .append, args := #[s, x], argTypes := #[t, t] }) (v : Value) (ss : List ByteArray) (hs : a.eval s = v) (h0 : SOwn e B w v ss)
    (b : Nat) (new : ByteArray) (c : Nat) (hx : a.eval x = .slice (some ⟨b, 0, none⟩) 1 c) (hb : w.heap[b]? = some (.cells #[.string new] e (0, 0)))
    (hlim : ss.length ≤ 1000000000)
    (h : ∀ v' w', SOwn e B w' v' (ss ++ [new]) → Below B w w' → wpList P ops Q rest (a.put o.dst v') w') : wpList P ops Q (o :: rest) a w := by
  obtain ⟨i, hi, hz, hz1, hz2⟩ := info_parts T.info
  refine wpList_append_lies w hgd s x t ho B e i (.string ⟨#[]⟩) 1 16 T.ht hi hz hz1 hz2 rfl (by omega) v ss.length (ss.map .string) hs h0.own ⟨b, 0, none⟩ 1 c [.string new] hx
    rfl ?_ (by intro u hu; simp at hu; subst hu; rfl) (by omega) (by unfold maxLen; omega) (by omega) h0.base w.heap.size rfl ?_
  · intro j u hu
    match j, hu with
    | 0, hu =>
      simp at hu
      subst hu
      have hadd : (⟨b, 0, none⟩ : Addr).add 0 = ⟨b, 0, none⟩ := by simp [Addr.add]
      rw [hadd, cell_of_row w b 0 #[.string new] e (0, 0) hb]
      rfl
  · intro g cap w' hown hgrow _ _
    refine h _ _ ⟨?_, Nat.le_trans h0.base hgrow.size⟩ ((Below.refl B w).grown hgrow h0.base (own_below' h0.own))
    rw [List.map_append, List.length_append]
    exact hown
end
section
variable {P : Program} {t e d : TypeId}
/-- 'append(v, s...)', s a text -/
theorem wpList_appstr (T : ByteT P t e) (hd : P.underlying d = some .string) {B : Nat} {a0 w : World} {ops : Array Oper} {rest : List Oper} {o : Oper} {a : Act} {Q : Exit → Act → World → Prop} (hgd : o.guard = none) (s x : Operand)
    (ho : o.op = .call { callee := .builtin .append, args := #[s, x], argTypes := #[t, d] }) (v : Value) (l : List UInt8) (hs : a.eval s = v) (h0 : Buf e B a0 w v l)
    (new : ByteArray) (hx : a.eval x = .string new) (hlim : l.length + new.size ≤ 140737488355328)
    (h : ∀ v' w', Buf e B a0 w' v' (l ++ new.data.toList) → wpList P ops Q rest (a.put o.dst v') w') : wpList P ops Q (o :: rest) a w := by
  obtain ⟨i, hi, hz, hz1, hz2⟩ := info_parts T.info
  refine Lib.wpList_append_own_string w hgd s x t d ho B e i T.ht hd hi hz hz1 hz2 v l.length (Lib.byteCells l) hs h0.own new hx (by unfold maxLen; omega) (by omega) h0.base ?_
  intro v' w' hown hgrow _
  refine h _ _ ⟨?_, h0.bel.grown hgrow h0.base (own_below h0.own), Nat.le_trans h0.base hgrow.size⟩
  have e1 : Lib.strCells new = Lib.byteCells new.data.toList := by simp [Lib.strCells, Lib.byteCells]
  rw [Lib.byteCells_append, List.length_append, ← e1]
  have e2 : new.data.toList.length = new.size := by simp
  rw [e2]
  exact hown
end
end Go.Proofs.YtmmpalnalogfnaaGreatDoor

/- Plain facts on days and dates: integers alone; nothing of the program. -/
namespace Go.Proofs.YtmmpalnalogfnaaGreatDoor

/-- the days of a month, before a year, before a month of a year -/
def lenP (y m : Int) : Int := if m = 4 ∨ m = 6 ∨ m = 9 ∨ m = 11 then 30 else if m = 2 then (if y % 4 = 0 then 29 else 28) else 31
def ysP (y : Int) : Int := (1461 * (y - 2000) + 3) / 4
def lp (y : Int) : Int := if y % 4 = 0 then 1 else 0
def befP (y m : Int) : Int := if m ≤ 1 then 0 else if m = 2 then 31 else (153 * (m - 3) + 2) / 5 + 59 + lp y
theorem lp_two (y : Int) : lp y = 0 ∨ lp y = 1 := by unfold lp; split <;> simp
theorem len_lp (y m : Int) : lenP y m = if m = 4 ∨ m = 6 ∨ m = 9 ∨ m = 11 then 30 else if m = 2 then 28 + lp y else 31 := by
  unfold lenP lp; split
  · rfl
  · split
    · split <;> rfl
    · rfl
theorem len_range (y m : Int) : 28 ≤ lenP y m ∧ lenP y m ≤ 31 := by
  rw [len_lp]; have := lp_two y
  split
  · omega
  · split <;> omega
theorem bef_one (y : Int) : befP y 1 = 0 := by simp [befP]
theorem bef_next (y m : Int) (h1 : 1 ≤ m) (h2 : m ≤ 12) : befP y (m + 1) = befP y m + lenP y m := by
  have h : m = 1 ∨ m = 2 ∨ m = 3 ∨ m = 4 ∨ m = 5 ∨ m = 6 ∨ m = 7 ∨ m = 8 ∨ m = 9 ∨ m = 10 ∨ m = 11 ∨ m = 12 := by omega
  rw [len_lp]
  rcases h with rfl | rfl | rfl | rfl | rfl | rfl | rfl | rfl | rfl | rfl | rfl | rfl <;> simp [befP] <;> omega
theorem bef_all (y : Int) : befP y 13 = 365 + lp y := by
  have e : befP y 13 = (153 * (13 - 3) + 2) / 5 + 59 + lp y := by simp [befP]
  rw [e]; omega
theorem ys_next (y : Int) : ysP (y + 1) = ysP y + befP y 13 := by
  rw [bef_all]
  have h : y % 4 = 0 ∨ y % 4 = 1 ∨ y % 4 = 2 ∨ y % 4 = 3 := by omega
  unfold ysP lp
  rcases h with h | h | h | h <;> simp only [h] <;> simp <;> omega
theorem ys_first : ysP 2000 = 0 := by decide
theorem ys_last : ysP 2100 = 36525 := by decide
theorem ys_mono (y z : Int) (h : y ≤ z) : ysP y ≤ ysP z := by unfold ysP; omega
theorem bef_mono (y m k : Int) (h1 : 1 ≤ m) (h2 : m ≤ k) (h3 : k ≤ 13) : befP y m ≤ befP y k := by
  have := lp_two y
  unfold befP
  split <;> split <;> (try split) <;> (try split) <;> omega
theorem bef_lt (y m k : Int) (h1 : 1 ≤ m) (h2 : m < k) (h3 : k ≤ 13) : befP y m + lenP y m ≤ befP y k := by
  rw [← bef_next y m h1 (by omega)]
  exact bef_mono y _ _ (by omega) (by omega) h3

/-- a date that there is; its day; the day of a date or the error -/
def okP (y m d : Int) : Bool := decide (2000 ≤ y ∧ y ≤ 2099 ∧ 1 ≤ m ∧ m ≤ 12 ∧ 1 ≤ d ∧ d ≤ lenP y m)
def numP (y m d : Int) : Int := ysP y + befP y m + d - 1
def dayR (y m d : Int) : Int × Int := if okP y m d then (numP y m d, 0) else (0, 12)
theorem ok_yes {y m d : Int} (h : okP y m d = true) : 2000 ≤ y ∧ y ≤ 2099 ∧ 1 ≤ m ∧ m ≤ 12 ∧ 1 ≤ d ∧ d ≤ lenP y m := by simpa [okP] using h
theorem ok_mk {y m d : Int} (h : 2000 ≤ y ∧ y ≤ 2099 ∧ 1 ≤ m ∧ m ≤ 12 ∧ 1 ≤ d ∧ d ≤ lenP y m) : okP y m d = true := by simpa [okP] using h
theorem ok_not {y m d : Int} (h : y < 2000 ∨ 2099 < y ∨ m < 1 ∨ 12 < m ∨ d < 1 ∨ lenP y m < d) : okP y m d = false := by
  cases hk : okP y m d
  · rfl
  · have := ok_yes hk; omega
/-- where a date's day lies: in its year, in its month -/
theorem num_in {y m d : Int} (h : okP y m d = true) : ysP y ≤ numP y m d ∧ numP y m d < ysP (y + 1) ∧ befP y m ≤ numP y m d - ysP y ∧ numP y m d - ysP y < befP y m + lenP y m ∧ 0 ≤ numP y m d ∧ numP y m d < 36525 := by
  obtain ⟨h1, h2, h3, h4, h5, h6⟩ := ok_yes h
  have a := bef_lt y m 13 h3 (by omega) (by omega)
  have b := bef_mono y 1 m (by omega) h3 (by omega)
  rw [bef_one] at b
  have c := ys_next y
  have e := ys_mono 2000 y h1
  have f := ys_mono (y + 1) 2100 (by omega)
  rw [ys_first] at e
  rw [ys_last] at f
  unfold numP
  omega
theorem num_inj {y m d y' m' d' : Int} (h : okP y m d = true) (h' : okP y' m' d' = true) (he : numP y m d = numP y' m' d') : y = y' ∧ m = m' ∧ d = d' := by
  have a := num_in h
  have a' := num_in h'
  obtain ⟨h1, h2, h3, h4, h5, h6⟩ := ok_yes h
  obtain ⟨h1', h2', h3', h4', h5', h6'⟩ := ok_yes h'
  have ey : y = y' := by
    rcases Int.lt_trichotomy y y' with c | c | c
    · have := ys_mono (y + 1) y' (by omega); omega
    · exact c
    · have := ys_mono (y' + 1) y (by omega); omega
  subst ey
  have em : m = m' := by
    rcases Int.lt_trichotomy m m' with c | c | c
    · have := bef_lt y m m' h3 c (by omega); omega
    · exact c
    · have := bef_lt y m' m h3' c (by omega); omega
  subst em
  unfold numP at he
  exact ⟨rfl, rfl, by omega⟩
/-- the year, the month and the day of the month of a day -/
def yOf (n : Int) : Int := 2000 + 4 * n / 1461
def mOf (y r : Int) : Int := if r < befP y 2 then 1 else if r < befP y 3 then 2 else if r < befP y 4 then 3 else if r < befP y 5 then 4 else if r < befP y 6 then 5 else if r < befP y 7 then 6
  else if r < befP y 8 then 7 else if r < befP y 9 then 8 else if r < befP y 10 then 9 else if r < befP y 11 then 10 else if r < befP y 12 then 11 else 12
theorem yOf_in (n : Int) : ysP (yOf n) ≤ n ∧ n < ysP (yOf n + 1) := by unfold ysP yOf; omega
theorem mOf_in (y r : Int) (h0 : 0 ≤ r) (h1 : r < befP y 13) : 1 ≤ mOf y r ∧ mOf y r ≤ 12 ∧ befP y (mOf y r) ≤ r ∧ r < befP y (mOf y r + 1) := by
  unfold mOf
  repeat' split
  all_goals first | (refine ⟨by omega, by omega, ?_, ?_⟩ <;> simp [befP] at * <;> omega) | skip
def dateOf (n : Int) : Int × Int × Int := (yOf n, mOf (yOf n) (n - ysP (yOf n)), n - ysP (yOf n) - befP (yOf n) (mOf (yOf n) (n - ysP (yOf n))) + 1)
def isDayB (n : Int) : Bool := decide (0 ≤ n ∧ n < 36525)
def dateR (n : Int) : Int × Int × Int := if isDayB n then dateOf n else (0, 0, 0)
theorem date_ok (n : Int) (h0 : 0 ≤ n) (h1 : n < 36525) : okP (dateOf n).1 (dateOf n).2.1 (dateOf n).2.2 = true ∧ numP (dateOf n).1 (dateOf n).2.1 (dateOf n).2.2 = n := by
  have a := yOf_in n
  rw [ys_next] at a
  have b := mOf_in (yOf n) (n - ysP (yOf n)) (by omega) (by omega)
  have c := bef_next (yOf n) (mOf (yOf n) (n - ysP (yOf n))) b.1 b.2.1
  refine ⟨ok_mk ?_, ?_⟩
  · simp only [dateOf]
    have : 2000 ≤ yOf n ∧ yOf n ≤ 2099 := by unfold yOf; omega
    omega
  · simp only [dateOf, numP]; omega
theorem date_of {n y m d : Int} (h : okP y m d = true) (hn : numP y m d = n) : dateR n = (y, m, d) := by
  have a := num_in h
  have h0 : 0 ≤ n ∧ n < 36525 := by omega
  obtain ⟨h1, h2⟩ := date_ok n h0.1 h0.2
  obtain ⟨e1, e2, e3⟩ := num_inj h1 h (by rw [h2, hn])
  rw [dateR, if_pos (by simp [isDayB, h0])]
  exact Prod.ext e1 (Prod.ext e2 e3)
theorem date_in {n : Int} (h : isDayB n = true) : okP (dateR n).1 (dateR n).2.1 (dateR n).2.2 = true ∧ numP (dateR n).1 (dateR n).2.1 (dateR n).2.2 = n := by
  have h' : 0 ≤ n ∧ n < 36525 := by simpa [isDayB] using h
  rw [dateR, if_pos h]
  exact date_ok n h'.1 h'.2
theorem date_out {n : Int} (h : isDayB n = false) : dateR n = (0, 0, 0) := by simp [dateR, h]
theorem day_date (n : Int) : dayR (dateR n).1 (dateR n).2.1 (dateR n).2.2 = if isDayB n then (n, 0) else (0, 12) := by
  cases h : isDayB n
  · rw [date_out h]; rfl
  · obtain ⟨a, b⟩ := date_in h
    rw [dayR, if_pos a, b]; rfl
theorem day_back {n : Int} {y m d : Int} (h : dayR y m d = (n, 0)) : isDayB n = true ∧ dateR n = (y, m, d) := by
  unfold dayR at h
  split at h
  · rename_i hk
    have e : numP y m d = n := by simpa using h
    have a := num_in hk
    exact ⟨by simp [isDayB]; omega, date_of hk e⟩
  · simp at h

end Go.Proofs.YtmmpalnalogfnaaGreatDoor

/- Walks of the small functions of package calendar, beside the reference's. -/
namespace Go.Proofs.YtmmpalnalogfnaaGreatDoor
open Go.RowKit
set_option linter.unusedSimpArgs false
set_option linter.unusedVariables false

theorem tmod_pos (a b : Int) (h : 0 ≤ a) : a.tmod b = a % b := Int.tmod_eq_emod_of_nonneg h

set_option maxHeartbeats 400000 in
theorem isDay_any (a : Int) (w : World) : Calls Tryz.prog 152 #[.int .i64 a] w fun e w' => e = .returned (.bool (isDayB a)) ∧ w = w' := by
  by_cases h1 : (0 : Int) ≤ a
  · go_enter Tryz.func152, Tryz.ntmps152
    go_wp2
    go_ret
    exact ⟨ret_bool (by simp [isDayB]; omega), rfl⟩
  · go_enter Tryz.func152, Tryz.ntmps152
    go_wp2
    go_ret
    exact ⟨ret_bool (by simp [isDayB]; omega), rfl⟩
set_option maxHeartbeats 400000 in
theorem yearStart_any (y : Int) (w : World) (h0 : 2000 ≤ y) (h1 : y ≤ 2100) : Calls Tryz.prog 203 #[.int .i64 y] w fun e w' => e = .returned (.int .i64 (ysP y)) ∧ w = w' := by
  go_enter Tryz.func203, Tryz.ntmps203
  go_wp2
  go_ret
  exact ⟨ret_int (by rfl), rfl⟩
/-- the days of the months, as the program lays them -/
def lensA (y : Int) : Array Value := #[.int .i64 31, .int .i64 (28 + lp y), .int .i64 31, .int .i64 30, .int .i64 31, .int .i64 30, .int .i64 31, .int .i64 31, .int .i64 30, .int .i64 31, .int .i64 30, .int .i64 31]
theorem lensA_at (y : Int) (i : Nat) (h : i < 12) : (lensA y)[i]? = some (.int .i64 (lenP y ((i : Int) + 1))) := by
  have : i = 0 ∨ i = 1 ∨ i = 2 ∨ i = 3 ∨ i = 4 ∨ i = 5 ∨ i = 6 ∨ i = 7 ∨ i = 8 ∨ i = 9 ∨ i = 10 ∨ i = 11 := by omega
  rw [len_lp]
  rcases this with rfl | rfl | rfl | rfl | rfl | rfl | rfl | rfl | rfl | rfl | rfl | rfl <;> rfl
set_option maxHeartbeats 400000 in
theorem months_any (y : Int) (w : World) (h0 : 2000 ≤ y) (h1 : y ≤ 2100) :
    Calls Tryz.prog 204 #[.int .i64 y] w fun e w' => e = .returned (.agg (lensA y)) ∧ w' = (w.alloc (.cells (lensA y) 229)).alloc (.cells (lensA y) 229) := by
  by_cases h : y % 4 = 0
  · have hl : lp y = 1 := by simp [lp, h]
    have ha : Hid (lensA y = #[.int .i64 31, .int .i64 29, .int .i64 31, .int .i64 30, .int .i64 31, .int .i64 30, .int .i64 31, .int .i64 31, .int .i64 30, .int .i64 31, .int .i64 30, .int .i64 31]) := Lib.hid (by simp [lensA, hl])
    clear hl
    go_enter Tryz.func204, Tryz.ntmps204
    go_wp2
    refine bodyPost_ret (v := .agg (lensA y)) ?_ rfl ⟨rfl, ?_⟩
    · rw [ha.out]; simp [results, Tryz.results204, go_sem]
    · rw [ha.out]
  · have hl : lp y = 0 := by simp [lp, h]
    have ha : Hid (lensA y = #[.int .i64 31, .int .i64 28, .int .i64 31, .int .i64 30, .int .i64 31, .int .i64 30, .int .i64 31, .int .i64 31, .int .i64 30, .int .i64 31, .int .i64 30, .int .i64 31]) := Lib.hid (by simp [lensA, hl])
    clear hl
    go_enter Tryz.func204, Tryz.ntmps204
    go_wp2
    refine bodyPost_ret (v := .agg (lensA y)) ?_ rfl ⟨rfl, ?_⟩
    · rw [ha.out]; simp [results, Tryz.results204, go_sem]
    · rw [ha.out]

end Go.Proofs.YtmmpalnalogfnaaGreatDoor

/- Plain facts on digits, dates and times as text: lists of bytes alone; nothing of the program. -/
namespace Go.Proofs.YtmmpalnalogfnaaGreatDoor
set_option linter.unusedSimpArgs false
set_option linter.unusedVariables false

def digB (c : UInt8) : Bool := decide (48 ≤ (c.toNat : Int) ∧ (c.toNat : Int) ≤ 57)
theorem dig_nat {c : UInt8} (h : digB c = true) : 48 ≤ (c.toNat : Int) ∧ (c.toNat : Int) ≤ 57 := by simpa [digB] using h
/-- whether a text is like a pattern, in which 48 stands for any digit -/
def oneB (c q : UInt8) : Bool := if q = 48 then digB c else c == q
def fitsB : List UInt8 → List UInt8 → Bool
  | [], [] => true
  | c :: r, q :: t => oneB c q && fitsB r t
  | _, _ => false
theorem fits_len : ∀ (l p : List UInt8), fitsB l p = true → l.length = p.length
  | [], [], _ => rfl
  | [], _ :: _, h => by simp [fitsB] at h
  | _ :: _, [], h => by simp [fitsB] at h
  | c :: r, q :: t, h => by
    have h' : oneB c q = true ∧ fitsB r t = true := by simpa [fitsB] using h
    simp [fits_len r t h'.2]
theorem fits_no (l p : List UInt8) (h : l.length ≠ p.length) : fitsB l p = false := by
  cases hf : fitsB l p
  · rfl
  · exact absurd (fits_len l p hf) h
theorem fits_step (l p : List UInt8) (k : Nat) (h : k < l.length) (h2 : k < p.length) : fitsB (l.drop k) (p.drop k) = (oneB l[k] p[k] && fitsB (l.drop (k + 1)) (p.drop (k + 1))) := by
  rw [List.drop_eq_getElem_cons h, List.drop_eq_getElem_cons h2, fitsB]
theorem fits_end (l p : List UInt8) (h : l.length = p.length) (k : Nat) (hk : l.length ≤ k) : fitsB (l.drop k) (p.drop k) = true := by
  rw [List.drop_eq_nil_of_le hk, List.drop_eq_nil_of_le (by omega), fitsB]
/-- the number of a few digits -/
def numL (a : Int) (l : List UInt8) : Int := l.foldl (fun a c => 10 * a + ((c.toNat : Int) - 48)) a
theorem numL_nil (a : Int) : numL a [] = a := rfl
theorem numL_cons (a : Int) (c : UInt8) (r : List UInt8) : numL a (c :: r) = numL (10 * a + ((c.toNat : Int) - 48)) r := rfl
theorem numL_step (a : Int) (l : List UInt8) (k : Nat) (h : k < l.length) : numL a (l.drop k) = numL (10 * a + ((l[k].toNat : Int) - 48)) (l.drop (k + 1)) := by
  rw [List.drop_eq_getElem_cons h, numL_cons]
theorem numL_end (a : Int) (l : List UInt8) (k : Nat) (h : l.length ≤ k) : numL a (l.drop k) = a := by
  rw [List.drop_eq_nil_of_le h, numL_nil]

/-- two digits -/
def d1 (n : Int) : UInt8 := UInt8.ofNat (48 + n / 10).toNat
def d2 (n : Int) : UInt8 := UInt8.ofNat (48 + n % 10).toNat
def twoL (n : Int) : List UInt8 := [d1 n, d2 n]
theorem d1_nat (n : Int) (h0 : 0 ≤ n) (h1 : n ≤ 99) : ((d1 n).toNat : Int) = 48 + n / 10 := by
  rw [d1, UInt8.toNat_ofNat']; omega
theorem d2_nat (n : Int) (h0 : 0 ≤ n) (h1 : n ≤ 99) : ((d2 n).toNat : Int) = 48 + n % 10 := by
  rw [d2, UInt8.toNat_ofNat']; omega
theorem dig_d1 (n : Int) (h0 : 0 ≤ n) (h1 : n ≤ 99) : digB (d1 n) = true := by
  have := d1_nat n h0 h1; simp [digB]; omega
theorem dig_d2 (n : Int) (h0 : 0 ≤ n) (h1 : n ≤ 99) : digB (d2 n) = true := by
  have := d2_nat n h0 h1; simp [digB]; omega
theorem two_back {a b : UInt8} (ha : digB a = true) (hb : digB b = true) (n : Int) (hn : n = 10 * ((a.toNat : Int) - 48) + ((b.toNat : Int) - 48)) : twoL n = [a, b] := by
  have h1 := dig_nat ha
  have h2 := dig_nat hb
  have e1 := d1_nat n (by omega) (by omega)
  have e2 := d2_nat n (by omega) (by omega)
  have f1 : d1 n = a := UInt8.toNat_inj.1 (by omega)
  have f2 : d2 n = b := UInt8.toNat_inj.1 (by omega)
  rw [twoL, f1, f2]
/-- a day's date as text, a minute as text -/
def dateL (y m d : Int) : List UInt8 := twoL (y / 100) ++ twoL (y % 100) ++ [45] ++ twoL m ++ [45] ++ twoL d
def printL (n : Int) : List UInt8 := if isDayB n then dateL (dateR n).1 (dateR n).2.1 (dateR n).2.2 else []
/-- the texts' patterns; how they are read -/
def patD : List UInt8 := [48, 48, 48, 48, 45, 48, 48, 45, 48, 48]
def parseP (l : List UInt8) : Int × Int := if fitsB l patD then dayR (numL 0 (l.take 4)) (numL 0 ((l.drop 5).take 2)) (numL 0 (l.drop 8)) else (0, 3)
theorem len_ten (l : List UInt8) (h : l.length = 10) : ∃ a b c d e f g h i j, l = [a, b, c, d, e, f, g, h, i, j] := by
  match l, h with
  | [a, b, c, d, e, f, g, h, i, j], _ => exact ⟨a, b, c, d, e, f, g, h, i, j, rfl⟩
theorem fits_date {a b c d e f g h i j : UInt8} : fitsB [a, b, c, d, e, f, g, h, i, j] patD = (digB a && (digB b && (digB c && (digB d && (e == 45 && (digB f && (digB g && (h == 45 && (digB i && digB j))))))))) := by
  simp [fitsB, patD, oneB]
/-- what is read is what is written -/
theorem parse_back {l : List UInt8} {n : Int} (h : parseP l = (n, 0)) : printL n = l := by
  unfold parseP at h
  split at h
  · rename_i hf
    have hl : l.length = 10 := fits_len _ _ hf
    obtain ⟨a, b, c, d, e, f, g, h', i, j, rfl⟩ := len_ten l hl
    rw [fits_date] at hf
    simp only [Bool.and_eq_true, beq_iff_eq] at hf
    obtain ⟨ha, hb, hc, hd, rfl, hf', hg, rfl, hi, hj⟩ := hf
    obtain ⟨hn, hR⟩ := day_back h
    have := dig_nat ha
    have := dig_nat hb
    have := dig_nat hc
    have := dig_nat hd
    rw [printL, if_pos hn, hR]
    simp only [List.take_succ_cons, List.take_zero, List.drop_succ_cons, List.drop_zero, numL_cons, numL_nil, dateL]
    rw [two_back ha hb _ (by omega), two_back hc hd _ (by omega), two_back hf' hg _ (by omega), two_back hi hj _ (by omega)]
    rfl
  · simp at h
theorem num_two (n : Int) (h0 : 0 ≤ n) (h1 : n ≤ 99) : numL 0 (twoL n) = n := by
  have := d1_nat n h0 h1
  have := d2_nat n h0 h1
  simp only [twoL, numL_cons, numL_nil]
  omega
theorem parse_print (n : Int) : parseP (printL n) = if isDayB n then (n, 0) else (0, 3) := by
  cases hn : isDayB n
  · rw [printL, hn]; rfl
  · obtain ⟨hk, hN⟩ := date_in hn
    obtain ⟨y, m, d, hR⟩ : ∃ y m d, dateR n = (y, m, d) := ⟨_, _, _, rfl⟩
    have hD := day_date n
    rw [hR] at hk hD
    rw [if_pos hn] at hD
    obtain ⟨y0, y1, m0, m1, d0, d1'⟩ : 2000 ≤ y ∧ y ≤ 2099 ∧ 1 ≤ m ∧ m ≤ 12 ∧ 1 ≤ d ∧ d ≤ lenP y m := ok_yes hk
    have hl := len_range y m
    have a1 := d1_nat (y / 100) (by omega) (by omega)
    have a2 := d2_nat (y / 100) (by omega) (by omega)
    have a3 := d1_nat (y % 100) (by omega) (by omega)
    have a4 := d2_nat (y % 100) (by omega) (by omega)
    have hf : fitsB (dateL y m d) patD = true := by
      show fitsB [d1 (y / 100), d2 (y / 100), d1 (y % 100), d2 (y % 100), 45, d1 m, d2 m, 45, d1 d, d2 d] patD = true
      rw [fits_date, dig_d1 _ (by omega) (by omega), dig_d2 _ (by omega) (by omega), dig_d1 _ (by omega) (by omega), dig_d2 _ (by omega) (by omega), dig_d1 _ (by omega) (by omega), dig_d2 _ (by omega) (by omega), dig_d1 _ (by omega) (by omega), dig_d2 _ (by omega) (by omega)]
      rfl
    have e1 : (dateL y m d).take 4 = [d1 (y / 100), d2 (y / 100), d1 (y % 100), d2 (y % 100)] := rfl
    have e2 : ((dateL y m d).drop 5).take 2 = twoL m := rfl
    have e3 : (dateL y m d).drop 8 = twoL d := rfl
    have e4 : numL 0 [d1 (y / 100), d2 (y / 100), d1 (y % 100), d2 (y % 100)] = y := by simp only [numL_cons, numL_nil]; omega
    rw [printL, if_pos hn, hR]
    show parseP (dateL y m d) = _
    rw [parseP, if_pos hf, e1, e2, e3, e4, num_two m (by omega) (by omega), num_two d (by omega) (by omega)]
    exact hD
/-- the reference's number of digits, or -1 -/
def digR (l : List UInt8) (a n : Nat) : Int := if ((l.drop a).take n).all digB then numL 0 ((l.drop a).take n) else -1
theorem numL_pos : ∀ (l : List UInt8) (a : Int), 0 ≤ a → l.all digB = true → 0 ≤ numL a l
  | [], a, h, _ => h
  | c :: r, a, h, hd => by
    have hd' : digB c = true ∧ r.all digB = true := by simpa using hd
    have := dig_nat hd'.1
    rw [numL_cons]
    exact numL_pos r _ (by omega) hd'.2
theorem digR_neg (l : List UInt8) (a n : Nat) : digR l a n < 0 ↔ ((l.drop a).take n).all digB = false := by
  unfold digR
  split
  · rename_i h
    have := numL_pos _ 0 (by omega) h
    rw [h]
    simp
    omega
  · rename_i h
    simp only [Bool.not_eq_true] at h
    rw [h]
    simp
theorem digR_yes {l : List UInt8} {a n : Nat} (h : ¬ digR l a n < 0) : ((l.drop a).take n).all digB = true ∧ digR l a n = numL 0 ((l.drop a).take n) := by
  have h1 : ((l.drop a).take n).all digB = true := by
    cases hc : ((l.drop a).take n).all digB
    · exact absurd ((digR_neg l a n).2 hc) h
    · rfl
  exact ⟨h1, by rw [digR, if_pos h1]⟩
theorem rparse_len {l : List UInt8} (h : l.length ≠ 10) : parseP l = (0, 3) := by
  rw [parseP, fits_no _ _ (by simpa [patD] using h)]; rfl
theorem rparse_hy {l : List UInt8} (h : l.length = 10) (h2 : l[4] ≠ 45 ∨ l[7] ≠ 45) : parseP l = (0, 3) := by
  obtain ⟨a, b, c, d, e, f, g, h', i, j, rfl⟩ := len_ten l h
  have hf : fitsB [a, b, c, d, e, f, g, h', i, j] patD = false := by
    rw [fits_date]
    rcases h2 with h2 | h2
    · have : (e == 45) = false := by rw [beq_eq_false_iff_ne]; exact h2
      simp [this]
    · have : (h' == 45) = false := by rw [beq_eq_false_iff_ne]; exact h2
      simp [this]
  rw [parseP, hf]; rfl
theorem rparse_neg {l : List UInt8} (h : l.length = 10) (h2 : digR l 0 4 < 0 ∨ digR l 5 2 < 0 ∨ digR l 8 2 < 0) : parseP l = (0, 3) := by
  simp only [digR_neg] at h2
  obtain ⟨a, b, c, d, e, f, g, h', i, j, rfl⟩ := len_ten l h
  have hf : fitsB [a, b, c, d, e, f, g, h', i, j] patD = false := by
    rw [fits_date]
    cases hc : (digB a && (digB b && (digB c && (digB d && (e == 45 && (digB f && (digB g && (h' == 45 && (digB i && digB j)))))))))
    · rfl
    · simp only [Bool.and_eq_true] at hc
      obtain ⟨ha, hb, hc, hd, _, hf, hg, _, hi, hj⟩ := hc
      rcases h2 with h2 | h2 | h2 <;> simp [ha, hb, hc, hd, hf, hg, hi, hj] at h2
  rw [parseP, hf]; rfl
theorem rparse_ok {l : List UInt8} (h : l.length = 10) (h4 : l[4] = 45) (h7 : l[7] = 45) (hy : ¬ digR l 0 4 < 0) (hm : ¬ digR l 5 2 < 0) (hd : ¬ digR l 8 2 < 0) :
    parseP l = dayR (digR l 0 4) (digR l 5 2) (digR l 8 2) := by
  obtain ⟨y1, y2⟩ := digR_yes hy
  obtain ⟨m1, m2⟩ := digR_yes hm
  obtain ⟨d1, d2⟩ := digR_yes hd
  rw [y2, m2, d2]
  clear hy hm hd y2 m2 d2
  obtain ⟨a, b, c, d, e, f, g, h', i, j, rfl⟩ := len_ten l h
  simp at y1 m1 d1 h4 h7
  have hf : fitsB [a, b, c, d, e, f, g, h', i, j] patD = true := by
    rw [fits_date]; simp [y1, m1, d1, h4, h7]
  rw [parseP, if_pos hf]; rfl
theorem part_next (l : List UInt8) (a k : Nat) (h : a + k < l.length) : (l.drop a).take (k + 1) = (l.drop a).take k ++ [l[a + k]] := by
  rw [List.take_succ_eq_append_getElem (by simp; omega)]
  simp
theorem part_all (l : List UInt8) (a k : Nat) (h : a + k < l.length) (h1 : ((l.drop a).take k).all digB = true) (h2 : digB l[a + k] = true) : ((l.drop a).take (k + 1)).all digB = true := by
  rw [part_next l a k h, List.all_append, h1]
  simpa using h2
theorem part_num (l : List UInt8) (a k : Nat) (h : a + k < l.length) : numL 0 ((l.drop a).take (k + 1)) = 10 * numL 0 ((l.drop a).take k) + ((l[a + k].toNat : Int) - 48) := by
  rw [part_next l a k h, numL, numL, List.foldl_append]
  rfl
theorem part_bad (l : List UInt8) (a k n : Nat) (hk : k < n) (h : a + k < l.length) (h2 : digB l[a + k] = false) : digR l a n = -1 := by
  have h3 : ((l.drop a).take n).all digB = false := by
    rw [List.all_eq_false]
    refine ⟨l[a + k], ?_, by simp [h2]⟩
    rw [List.mem_iff_getElem]
    exact ⟨k, by simp; omega, by simp⟩
  rw [digR, if_neg (by simp [h3])]

end Go.Proofs.YtmmpalnalogfnaaGreatDoor

/- Walks of divide, Split, Weekday, of two digits, beside the reference's. -/
namespace Go.Proofs.YtmmpalnalogfnaaGreatDoor
open Go.RowKit
set_option linter.unusedSimpArgs false
set_option linter.unusedVariables false

/-- how the program's own division lies beside the floor -/
theorem tdiv_bounds (a b : Int) (hb : 2 ≤ b) (h0 : -9223372036854775808 ≤ a) (h1 : a ≤ 9223372036854775807) : -4611686018427387904 ≤ a.tdiv b ∧ a.tdiv b ≤ 4611686018427387904 := by
  have h := Int.natAbs_tdiv a b
  have h2 : a.natAbs / b.natAbs ≤ a.natAbs / 2 := Nat.div_le_div_left (by omega) (by omega)
  have h3 : (a.tdiv b).natAbs ≤ a.natAbs / 2 := by rw [h]; exact h2
  generalize a.tdiv b = q at h3
  omega
theorem tmod_bounds (a b : Int) (hb : 2 ≤ b) : -b < a.tmod b ∧ a.tmod b < b := ⟨Int.lt_tmod_of_pos a (by omega), Int.tmod_lt_of_pos a (by omega)⟩
theorem floor_low (a b : Int) (hb : 2 ≤ b) (h : a.tmod b < 0) : a / b = a.tdiv b - 1 ∧ a % b = a.tmod b + b := by
  have h1 := Int.mul_tdiv_add_tmod a b
  have h2 := tmod_bounds a b hb
  refine (Int.ediv_emod_unique (by omega)).2 ⟨?_, by omega, by omega⟩
  rw [Int.mul_sub, Int.mul_one]
  omega
theorem floor_up (a b : Int) (hb : 2 ≤ b) (h : 0 ≤ a.tmod b) : a / b = a.tdiv b ∧ a % b = a.tmod b := by
  have h1 := Int.mul_tdiv_add_tmod a b
  have h2 := tmod_bounds a b hb
  exact (Int.ediv_emod_unique (by omega)).2 ⟨by omega, by omega, by omega⟩

set_option maxHeartbeats 1000000 in
theorem divide_any (a b : Int) (w : World) (h0 : -9223372036854775808 ≤ a) (h1 : a ≤ 9223372036854775807) (hb : b = 7 ∨ b = 1440) : Calls Tryz.prog 191 #[.int .i64 a, .int .i64 b] w fun e w' => e = .returned (.tuple #[.int .i64 (a / b), .int .i64 (a % b)]) ∧ Below w.heap.size w w' := by
  have b1 := tdiv_bounds a b (by omega) h0 h1
  have b2 := tmod_bounds a b (by omega)
  by_cases h : a.tmod b < 0
  · have HF := Lib.hid (floor_low a b (by omega) h)
    rcases hb with rfl | rfl
    all_goals
      go_enter Tryz.func191, Tryz.ntmps191
      go_wp2
      go_quiet (fail)
      go_wp2
      go_ret2
      exact ⟨by rw [HF.out.1, HF.out.2]; rfl, below_drewN (Below.refl _ _) _⟩
  · have HF := Lib.hid (floor_up a b (by omega) (by omega))
    rcases hb with rfl | rfl
    all_goals
      go_enter Tryz.func191, Tryz.ntmps191
      go_wp2
      go_quiet (fail)
      go_wp2
      go_ret2
      exact ⟨by rw [HF.out.1, HF.out.2]; rfl, below_drewN (Below.refl _ _) _⟩
/-- the weekday of any number -/
def weekP (n : Int) : Int := (n + 5) % 7
theorem week_of (n : Int) : (n.tmod 7 + 5) % 7 = weekP n := by
  have h1 := Int.mul_tdiv_add_tmod n 7
  unfold weekP
  omega
set_option maxHeartbeats 1000000 in
theorem weekday_any (n : Int) (w : World) (h0 : -9223372036854775808 ≤ n) (h1 : n ≤ 9223372036854775807) : Calls Tryz.prog 138 #[.int .i64 n] w fun e w' => e = .returned (.int .i64 (weekP n)) ∧ Below w.heap.size w w' := by
  have b2 := tmod_bounds n 7 (by omega)
  have CD := Lib.hid (fun w => divide_any (n.tmod 7 + 5) 7 w (by omega) (by omega) (.inl rfl))
  have HW := Lib.hid (week_of n)
  go_enter Tryz.func138, Tryz.ntmps138
  go_wp2_with (go_at_call 191; refine (CD.out _).mono ?_; rintro e w' ⟨rfl, hb⟩)
  go_ret
  exact ⟨by rw [← HW.out]; rfl, hb⟩
theorem two_text (n : Int) (h0 : 0 ≤ n) (h1 : n ≤ 99) (w : World) :
    (convert 142 9 (.slice (some ⟨w.heap.size, 0, none⟩) 2 2)).run Tryz.prog (w.alloc (.cells #[.int .u8 (48 + n / 10), .int .u8 (48 + n % 10)] 5)) = .ok (.string ⟨#[d1 n, d2 n]⟩) (w.alloc (.cells #[.int .u8 (48 + n / 10), .int .u8 (48 + n % 10)] 5)) := by
  have h := run_convert_bytes_back (P := Tryz.prog) (w.alloc (.cells #[.int .u8 (48 + n / 10), .int .u8 (48 + n % 10)] 5)) 142 9 5 ⟨w.heap.size, 0, none⟩ 2 (twoL n) Tryz.underlying142 Tryz.underlying5 Tryz.underlying9 ?_
  · exact h
  · intro j hj
    have hadd : (⟨w.heap.size, 0, none⟩ : Addr).add j = ⟨w.heap.size, j, none⟩ := by unfold Addr.add; split <;> simp_all
    rw [hadd, cell_of_row _ _ j _ _ (0, 0) (heap_alloc_last w _), ← d1_nat n h0 h1, ← d2_nat n h0 h1]
    have hj2 : j = 0 ∨ j = 1 := by have : (twoL n).length = 2 := rfl; omega
    rcases hj2 with rfl | rfl <;> rfl
set_option maxHeartbeats 1000000 in
theorem two_any (n : Int) (w : World) (h0 : 0 ≤ n) (h1 : n ≤ 99) : Calls Tryz.prog 154 #[.int .i64 n] w fun e w' => e = .returned (.string ⟨(twoL n).toArray⟩) ∧ Below w.heap.size w w' := by
  have HT := two_text n h0 h1
  go_enter Tryz.func154, Tryz.ntmps154
  go_wp2
  go_ret
  exact ⟨rfl, (Below.refl _ _).alloc (Nat.le_refl _) _⟩
set_option maxHeartbeats 1000000 in
theorem rtwo_any (n : Int) (w : World) (h0 : 0 ≤ n) (h1 : n ≤ 99) : Calls Tryz.prog 161 #[.int .i64 n] w fun e w' => e = .returned (.string ⟨(twoL n).toArray⟩) ∧ Below w.heap.size w w' := by
  have HT := two_text n h0 h1
  go_enter Tryz.func161, Tryz.ntmps161
  go_wp2
  go_ret
  exact ⟨rfl, (Below.refl _ _).alloc (Nat.le_refl _) _⟩

end Go.Proofs.YtmmpalnalogfnaaGreatDoor

/- Plain facts on time zones: the error, offsets, the search for the first place, local minutes; the reference's ways. -/
namespace Go.Proofs.YtmmpalnalogfnaaGreatDoor
set_option linter.unusedSimpArgs false
set_option linter.unusedVariables false

abbrev Shs := List (Int × Int)
def shA (l : Shs) (k : Nat) : Int := (l.getD k (0, 0)).1
def shF (l : Shs) (k : Nat) : Int := (l.getD k (0, 0)).2
/-- the offset before shift k -/
def shB (o : Int) (l : Shs) (k : Nat) : Int := if k = 0 then o else shF l (k - 1)
def offB (n : Int) : Bool := decide (-840 ≤ n) && decide (n ≤ 840)
/-- shift k is outside the time, or too early -/
def badT (l : Shs) (k : Nat) : Bool := decide (shA l k < 0) || decide (52596000 ≤ shA l k) || (decide (0 < k) && decide (shA l k - shA l (k - 1) < 2880))
def errAt (l : Shs) : Nat → Nat → Int
  | 0, _ => 0
  | n + 1, k => if badT l k then 13 else if offB (shF l k) then errAt l n (k + 1) else 2
def errZ (o : Int) (l : Shs) : Int := if 256 < l.length then 4 else if offB o then errAt l l.length 0 else 2
theorem errAt_step (l : Shs) (k n : Nat) (h : n = l.length - k) (hk : k < l.length) : errAt l n k = if badT l k then 13 else if offB (shF l k) then errAt l (l.length - (k + 1)) (k + 1) else 2 := by
  obtain ⟨m, rfl⟩ : ∃ m, n = m + 1 := ⟨n - 1, by omega⟩
  rw [errAt, show l.length - (k + 1) = m by omega]
structure OkZ (o : Int) (l : Shs) : Prop where
  len : l.length ≤ 256
  off : -840 ≤ o ∧ o ≤ 840
  at' : ∀ k, k < l.length → 0 ≤ shA l k ∧ shA l k < 52596000
  gap : ∀ k, k + 1 < l.length → shA l k + 2880 ≤ shA l (k + 1)
  shift : ∀ k, k < l.length → -840 ≤ shF l k ∧ shF l k ≤ 840
theorem offB_iff (n : Int) : offB n = true ↔ -840 ≤ n ∧ n ≤ 840 := by simp [offB]
theorem errAt_ok (l : Shs) : ∀ n k, k + n = l.length → errAt l n k = 0 → ∀ j, k ≤ j → j < l.length → badT l j = false ∧ offB (shF l j) = true
  | 0, k, h, _, j, h1, h2 => by omega
  | n + 1, k, h, he, j, h1, h2 => by
    rw [errAt] at he
    cases hb : badT l k <;> rw [hb] at he
    · cases ho : offB (shF l k) <;> rw [ho] at he
      · simp at he
      · by_cases hj : j = k
        · subst hj; exact ⟨hb, ho⟩
        · exact errAt_ok l n (k + 1) (by omega) (by simpa using he) j (by omega) h2
    · simp at he
theorem errZ_ok {o : Int} {l : Shs} (h : errZ o l = 0) : OkZ o l := by
  rw [errZ] at h
  by_cases h1 : 256 < l.length
  · rw [if_pos h1] at h; omega
  rw [if_neg h1] at h
  cases ho : offB o <;> rw [ho] at h
  · simp at h
  have h2 := errAt_ok l l.length 0 (by omega) (by simpa using h)
  refine ⟨by omega, (offB_iff o).1 ho, fun k hk => ?_, fun k hk => ?_, fun k hk => (offB_iff _).1 (h2 k (by omega) hk).2⟩
  · have := (h2 k (by omega) hk).1
    simp [badT] at this
    omega
  · have := (h2 (k + 1) (by omega) hk).1
    simp [badT] at this
    omega
theorem OkZ.before {o : Int} {l : Shs} (h : OkZ o l) (k : Nat) (hk : k ≤ l.length) : -840 ≤ shB o l k ∧ shB o l k ≤ 840 := by
  unfold shB
  split
  · exact h.off
  · exact h.shift _ (by omega)
theorem shB_succ (o : Int) (l : Shs) (k : Nat) : shB o l (k + 1) = shF l k := by simp [shB]
theorem OkZ.asc {o : Int} {l : Shs} (h : OkZ o l) : ∀ j k, j + k < l.length → shA l j + 2880 * k ≤ shA l (j + k)
  | j, 0, _ => by simp
  | j, k + 1, hk => by
    have := h.asc j k (by omega)
    have := h.gap (j + k) (by omega)
    rw [show j + (k + 1) = j + k + 1 by omega]
    omega
theorem OkZ.asc' {o : Int} {l : Shs} (h : OkZ o l) (j k : Nat) (hj : j < k) (hk : k < l.length) : shA l j + 2880 ≤ shA l k := by
  have := h.asc j (k - j) (by omega)
  rw [show j + (k - j) = k by omega] at this
  have : (1 : Int) ≤ ((k - j : Nat) : Int) := by omega
  omega

/-! ### the first place of which p says true -/
def fstP (p : Nat → Bool) : Nat → Nat → Nat
  | 0, k => k
  | n + 1, k => if p k then k else fstP p n (k + 1)
theorem fstP_is (p : Nat → Bool) (c m : Nat) : ∀ n k, k ≤ c → k + n = m → c ≤ m → (∀ t, t < c → p t = false) → (∀ t, c ≤ t → t < m → p t = true) → fstP p n k = c
  | 0, k, h1, h2, h3, _, _ => by rw [fstP]; omega
  | n + 1, k, h1, h2, h3, h4, h5 => by
    rw [fstP]
    by_cases hk : k = c
    · subst hk; rw [h5 k (by omega) (by omega)]; rfl
    · rw [h4 k (by omega)]; exact fstP_is p c m n (k + 1) (by omega) (by omega) h3 h4 h5
theorem fstP_spec (p : Nat → Bool) (m : Nat) (mono : ∀ a b, a ≤ b → b < m → p a = true → p b = true) : ∀ n k, k + n = m → (∀ t, t < k → p t = false) →
    fstP p n k ≤ m ∧ (∀ t, t < fstP p n k → p t = false) ∧ (∀ t, fstP p n k ≤ t → t < m → p t = true)
  | 0, k, h, h1 => ⟨by rw [fstP]; omega, by rw [fstP]; exact h1, by rw [fstP]; intros; omega⟩
  | n + 1, k, h, h1 => by
    rw [fstP]
    cases hp : p k
    · simp only [Bool.false_eq_true, if_false]
      exact fstP_spec p m mono n (k + 1) (by omega) (fun t ht => if h2 : t = k then h2 ▸ hp else h1 t (by omega))
    · simp only [if_true]
      exact ⟨by omega, h1, fun t ht hm => mono k t ht hm hp⟩

def utcN (o : Int) (l : Shs) (x : Int) : Nat := fstP (fun i => decide (x < shA l i + shB o l i)) l.length 0
def lastN (l : Shs) (x : Int) : Nat := fstP (fun i => decide (x < shA l i + shF l i)) l.length 0
def utcZ (o : Int) (l : Shs) (x : Int) : Int := if utcN o l x = 0 then x - shB o l (utcN o l x) else max (x - shB o l (utcN o l x)) (shA l (utcN o l x - 1))
theorem utc_mono {o : Int} {l : Shs} (h : OkZ o l) (x : Int) (a b : Nat) (hab : a ≤ b) (hb : b < l.length) (hp : decide (x < shA l a + shB o l a) = true) : decide (x < shA l b + shB o l b) = true := by
  simp only [decide_eq_true_eq] at hp ⊢
  by_cases he : a = b
  · subst he; exact hp
  · have := h.asc' a b (by omega) hb
    have := h.before a (by omega)
    have := h.before b (by omega)
    omega
theorem last_mono {o : Int} {l : Shs} (h : OkZ o l) (x : Int) (a b : Nat) (hab : a ≤ b) (hb : b < l.length) (hp : decide (x < shA l a + shF l a) = true) : decide (x < shA l b + shF l b) = true := by
  simp only [decide_eq_true_eq] at hp ⊢
  by_cases he : a = b
  · subst he; exact hp
  · have := h.asc' a b (by omega) hb
    have := h.shift a (by omega)
    have := h.shift b (by omega)
    omega
theorem utcN_spec {o : Int} {l : Shs} (h : OkZ o l) (x : Int) : utcN o l x ≤ l.length ∧ (∀ t, t < utcN o l x → shA l t + shB o l t ≤ x) ∧ (∀ t, utcN o l x ≤ t → t < l.length → x < shA l t + shB o l t) := by
  obtain ⟨h1, h2, h3⟩ := fstP_spec _ l.length (utc_mono h x) l.length 0 (by omega) (by intros; omega)
  exact ⟨h1, fun t ht => by have := h2 t ht; simp at this; omega, fun t ht hm => by have := h3 t ht hm; simpa using this⟩
theorem lastN_spec {o : Int} {l : Shs} (h : OkZ o l) (x : Int) : lastN l x ≤ l.length ∧ (∀ t, t < lastN l x → shA l t + shF l t ≤ x) ∧ (∀ t, lastN l x ≤ t → t < l.length → x < shA l t + shF l t) := by
  obtain ⟨h1, h2, h3⟩ := fstP_spec _ l.length (last_mono h x) l.length 0 (by omega) (by intros; omega)
  exact ⟨h1, fun t ht => by have := h2 t ht; simp at this; omega, fun t ht hm => by have := h3 t ht hm; simpa using this⟩

theorem near {o : Int} {l : Shs} (h : OkZ o l) (x : Int) : utcN o l x ≤ lastN l x + 1 ∧ lastN l x ≤ utcN o l x + 1 := by
  obtain ⟨h1, h2, h3⟩ := utcN_spec h x
  obtain ⟨g1, g2, g3⟩ := lastN_spec h x
  generalize utcN o l x = c at *
  generalize lastN l x = d at *
  constructor
  · apply Nat.le_of_not_lt
    intro hlt
    have a1 := g3 d (Nat.le_refl _) (by omega)
    have a2 := h2 (d + 1) (by omega)
    rw [shB_succ] at a2
    have := h.gap d (by omega)
    omega
  · apply Nat.le_of_not_lt
    intro hlt
    have a1 := h3 c (Nat.le_refl _) (by omega)
    have a2 := g2 (c + 1) (by omega)
    have := h.gap c (by omega)
    have := h.before c (by omega)
    have := h.shift (c + 1) (by omega)
    omega
end Go.Proofs.YtmmpalnalogfnaaGreatDoor

/- Walks of zone.Check and the reference's, with the words for a zone in memory. -/
namespace Go.Proofs.YtmmpalnalogfnaaGreatDoor
open Go.RowKit
set_option linter.unusedSimpArgs false
set_option linter.unusedVariables false

theorem bel_alloc (w : World) (o : Obj) : Below w.heap.size w (w.alloc o) := (Below.refl _ w).alloc (Nat.le_refl _) o
theorem bel_acc {f : Nat} {args : Array Value} {w w1 : World} {R : Ending → Prop} (h : Calls Tryz.prog f args w1 fun e w' => R e ∧ Below w1.heap.size w1 w') (hb : Below w.heap.size w w1) :
    Calls Tryz.prog f args w1 fun e w' => R e ∧ Below w.heap.size w w' := h.mono (by rintro e w' ⟨hr, h⟩; exact ⟨hr, hb.trans (h.mono hb.size)⟩)
abbrev zoneT : TypeId := 67
abbrev shiftT : TypeId := 226
/-- the shifts l lie in the row at A -/
def ShL (w : World) (A : Option Addr) (l : Shs) : Prop :=
  l = [] ∨ ∃ b o, A = some ⟨b, o, none⟩ ∧ b < w.heap.size ∧ ∀ i, i < l.length → w.cell? ⟨b, o + i * 2, none⟩ = some (.int .i64 (shA l i)) ∧ w.cell? ⟨b, o + i * 2 + 1, none⟩ = some (.int .i64 (shF l i))
theorem ShL.more {w w' : World} {A : Option Addr} {l : Shs} (h : ShL w A l) (hb : Below w.heap.size w w') : ShL w' A l := by
  rcases h with h | ⟨b, o, rfl, hlt, hc⟩
  · exact .inl h
  · exact .inr ⟨b, o, rfl, Nat.lt_of_lt_of_le hlt hb.size, fun i hi => ⟨(hb.cell (p := ⟨b, o + i * 2, none⟩) hlt).trans (hc i hi).1, (hb.cell (p := ⟨b, o + i * 2 + 1, none⟩) hlt).trans (hc i hi).2⟩⟩
theorem ShL.at {w : World} {A : Option Addr} {l : Shs} (h : ShL w A l) {k : Nat} (hk : k < l.length) :
    ∃ b o, A = some ⟨b, o, none⟩ ∧ b < w.heap.size ∧ ∀ i, i < l.length → w.cell? ⟨b, o + i * 2, none⟩ = some (.int .i64 (shA l i)) ∧ w.cell? ⟨b, o + i * 2 + 1, none⟩ = some (.int .i64 (shF l i)) := by
  rcases h with h | h
  · rw [h] at hk; simp at hk
  · exact h
abbrev encZ (o : Int) (A : Option Addr) (n c : Nat) : Value := .agg #[.int .i64 o, .slice A n c]

set_option maxHeartbeats 400000 in
theorem rOff_any (n : Int) (w : World) : Calls Tryz.prog 219 #[.int .i64 n] w fun e w' => e = .returned (.bool (offB n)) ∧ w = w' := by
  by_cases h1 : -840 ≤ n
  all_goals
    go_enter Tryz.func219, Tryz.ntmps219
    go_wp2
    go_ret
    exact ⟨ret_bool (by simp [offB]; omega), rfl⟩
def timeB (n : Int) : Bool := decide (0 ≤ n) && decide (n < 52596000)
/-! ### worlds that have only grown since w5, as a class: quiet walks of drawn regions -/
abbrev SW (w5 : World) : World → Prop := fun W => Below w5.heap.size w5 W
structure Wd (S : World → Prop) where
  w : World
  ok : S w
theorem quietS {P : Program} {S : World → Prop} {id : Nat} {Q : Exit → Act → World → Prop} {a : Act} {w : World} {l : List Oper} (hm : P.follows .mixedOrders = true) (hB : Region.lexB .any l.toArray = true) (hC : S w.drew)
    (h : wpQuiet P l.toArray (fun w' => ∃ x : Wd S, w' = x.w) (fun a' => ∀ w', (∃ x : Wd S, w' = x.w) → Q .normal a' w') l a) : (Code.region id l.toArray true).wp P Q a w :=
  wp_region_quiet (C := fun w' => ∃ x : Wd S, w' = x.w) hm hB ⟨⟨_, hC⟩, rfl⟩ (by simpa using h)
theorem quiet_S {P : Program} {f : FuncId} {args : Array Value} {W : World} {S : World → Prop} {v : Value} (h : Calls P f args W fun e w' => e = .returned v ∧ S w') :
    Calls P f args W fun e w'' => e = .returned v ∧ ∃ x : Wd S, w'' = x.w := h.mono (by rintro e w' ⟨he, hs⟩; exact ⟨he, ⟨w', hs⟩, rfl⟩)
theorem SW.cell {w5 : World} {a : Addr} {v : Value} (h : w5.cell? a = some v) (x : Wd (SW w5)) : x.w.cell? a = some v := (Below.cell (show Below w5.heap.size w5 x.w from x.ok) (World.block_lt_of_cell? w5 _ h)).trans h
theorem SW.call {f : Nat} {args : Array Value} {w5 : World} {v : Value} (h : ∀ W, Below w5.heap.size w5 W → Calls Tryz.prog f args W fun e w' => e = .returned v ∧ Below W.heap.size W w') (W : World) (hW : SW w5 W) :
    Calls Tryz.prog f args W fun e w' => e = .returned v ∧ SW w5 w' := (h W hW).mono (by rintro e w' ⟨he, hb⟩; exact ⟨he, hW.trans (hb.mono hW.size)⟩)
theorem SW.drew (w5 : World) : SW w5 w5.drew := (Below.refl _ _).drew
theorem cells_new (w : World) (cs : Array Value) (t : TypeId) (j : Nat) : (w.alloc (.cells cs t)).cell? ⟨w.heap.size, j, none⟩ = cs[j]? := cell_of_row _ _ j _ _ (0, 0) (heap_alloc_new w (.cells cs t))

end Go.Proofs.YtmmpalnalogfnaaGreatDoor

/- Walk of the reference's Check. -/
namespace Go.Proofs.YtmmpalnalogfnaaGreatDoor
open Go.RowKit
set_option linter.unusedSimpArgs false
set_option linter.unusedVariables false

set_option maxRecDepth 100000 in
set_option maxHeartbeats 2000000 in
theorem rcheck_any (o : Int) (A : Option Addr) (c : Nat) (l : Shs) (w : World) (hl : l.length < 9223372036854775808) (hL : ShL w A l) (hr : ∀ k, k < l.length → -9223372036854775808 ≤ shA l k ∧ shA l k ≤ 9223372036854775807) :
    Calls Tryz.prog 176 #[encZ o A l.length c] w fun e w' => e = .returned (.int .i64 (errZ o l)) ∧ Below w.heap.size w w' := by
  by_cases h1 : 256 < l.length
  · have i1 : (256 : Int) < (l.length : Int) := by omega
    have HR : Hid (errZ o l = 4) := Lib.hid (by rw [errZ, if_pos h1])
    clear h1
    go_enter Tryz.func176, Tryz.ntmps176
    go_wp2
    go_ret
    exact ⟨by rw [HR.out]; rfl, bel_alloc _ _⟩
  have i1 : (l.length : Int) ≤ 256 := by omega
  cases ho : offB o
  · have HR : Hid (errZ o l = 2) := Lib.hid (by rw [errZ, if_neg h1, ho]; rfl)
    have C1 := Lib.hid (fun w => ho ▸ rOff_any o w)
    clear h1 ho
    go_enter Tryz.func176, Tryz.ntmps176
    go_wp2_with (go_at_call 219; refine (C1.out _).mono ?_; rintro e w' ⟨rfl, rfl⟩)
    go_ret
    exact ⟨by rw [HR.out]; rfl, bel_alloc _ _⟩
  have HR : Hid (errZ o l = errAt l l.length 0) := Lib.hid (by rw [errZ, if_neg h1, ho]; rfl)
  have C1 := Lib.hid (fun w => ho ▸ rOff_any o w)
  clear h1 ho
  go_enter Tryz.func176, Tryz.ntmps176
  go_wp2_with (go_at_call 219; refine (C1.out _).mono ?_; rintro e w' ⟨rfl, rfl⟩)
  have hL0 := hL.more (bel_alloc w (.cells #[.int .i64 o, .slice A l.length c] zoneT))
  have z0 := cells_new w #[.int .i64 o, .slice A l.length c] zoneT 0
  have z1 := cells_new w #[.int .i64 o, .slice A l.length c] zoneT 1
  have hbw := bel_alloc w (.cells #[.int .i64 o, .slice A l.length c] zoneT)
  simp only [List.getElem?_toArray, List.getElem?_cons_zero, List.getElem?_cons_succ] at z0 z1
  clear hL C1
  generalize hw0 : w.alloc (.cells #[.int .i64 o, .slice A l.length c] zoneT) = w0 at *
  go_loopw [3] (fun vi wr => ∃ k : Nat, k ≤ l.length ∧ vi = .int .i64 k ∧ Hid (errZ o l = errAt l (l.length - k) k) ∧ (0 < k → 0 ≤ shA l (k - 1) ∧ shA l (k - 1) < 52596000) ∧ Below w0.heap.size w0 wr) (fun vi _ => l.length - (intOf vi).toNat)
  case atStart => exact ⟨0, Nat.zero_le _, rfl, HR, by omega, Below.refl _ _⟩
  case round =>
    obtain ⟨k, hk, rfl, HK, hp, hb⟩ := hrel
    by_cases hlt : k < l.length
    · obtain ⟨g, off, rfl, hgl, hcc⟩ := hL0.at hlt
      have i2 : (k : Int) < (l.length : Int) := by omega
      have HS := Lib.hid (HK.out.trans (errAt_step l k _ rfl hlt))
      obtain ⟨g0, g1⟩ := hcc k hlt
      have hrk := hr k hlt
      have CO := Lib.hid (fun W => rOff_any (shF l k) W)
      have gm : 0 < k → w0.cell? ⟨g, off + (k - 1) * 2, none⟩ = some (.int .i64 (shA l (k - 1))) := fun h => (hcc (k - 1) (by omega)).1
      have hbad : Hid (badT l k = (!timeB (shA l k) || (decide (0 < k) && decide (shA l k - shA l (k - 1) < 2880)))) := Lib.hid (by
        simp only [badT, timeB]
        congr 1
        rw [Bool.eq_iff_iff]; simp)
      clear hcc HK hr hL0
      have gk0 := (hb.cell (p := ⟨g, off + k * 2, none⟩) hgl).trans g0
      have gk1 := (hb.cell (p := ⟨g, off + k * 2 + 1, none⟩) hgl).trans g1
      generalize hak : shA l k = a at *
      have HA := Lib.hid hak
      clear hak
      generalize shF l k = f at *
      have hgr : g < wr.heap.size := Nat.lt_of_lt_of_le hgl hb.size
      have hgr2 : g ≠ wr.heap.size := by omega
      have hb5 : Below wr.heap.size wr (wr.alloc (.cells #[.int .i64 a, .int .i64 f] shiftT)) := bel_alloc _ _
      have hB : Below w.heap.size w (wr.alloc (.cells #[.int .i64 a, .int .i64 f] shiftT)) := hbw.trans ((hb.alloc hb.size _).mono hbw.size)
      have q0 := SW.cell (cells_new wr #[.int .i64 a, .int .i64 f] shiftT 0)
      have q1 := SW.cell (cells_new wr #[.int .i64 a, .int .i64 f] shiftT 1)
      have q2 := SW.cell (hb5.cell (World.block_lt_of_cell? _ _ ((hb.cell (World.block_lt_of_cell? _ _ z1)).trans z1)) |>.trans ((hb.cell (World.block_lt_of_cell? _ _ z1)).trans z1))
      have c1 := cells_new wr #[.int .i64 a, .int .i64 f] shiftT 1
      simp only [List.getElem?_toArray, List.getElem?_cons_zero, List.getElem?_cons_succ] at q0 q1 c1
      have g2 := (hb.cell (World.block_lt_of_cell? _ _ z1)).trans z1
      by_cases n1 : a < 0
      · have ht : timeB a = false := by simp [timeB]; omega
        have d1 : decide (a < 0) = true := decide_eq_true n1
        have HR2 : Hid (errZ o l = 13) := Lib.hid (by rw [HS.out, hbad.out, ht]; rfl)
        clear HS hbad ht hp gm hw0
        go_wp2
        have hNe : Nonempty (Wd (SW (wr.alloc (.cells #[.int .i64 a, .int .i64 f] shiftT)))) := ⟨⟨_, SW.drew _⟩⟩
        refine quietS (S := SW (wr.alloc (.cells #[.int .i64 a, .int .i64 f] shiftT))) (by kernel_rfl) (by kernel_rfl) (SW.drew _) ?_
        repeat (first | go_big_quiet_skip | (go_big_quiet_want; go_big_quiet_op; first | go_big_quiet_on | go_big_quiet_call ((fail))))
        refine wpQuiet_nil ?_
        rintro W ⟨⟨_, hW⟩, rfl⟩
        go_wp2
        go_ret
        exact ⟨by rw [HR2.out]; rfl, hB.trans (hW.mono hB.size)⟩
      by_cases n2 : 52596000 ≤ a
      · have ht : timeB a = false := by simp [timeB]; omega
        have d1 : decide (a < 0) = false := decide_eq_false n1
        have d2 : decide (52596000 ≤ a) = true := decide_eq_true n2
        have HR2 : Hid (errZ o l = 13) := Lib.hid (by rw [HS.out, hbad.out, ht]; rfl)
        clear HS hbad ht hp gm hw0
        go_wp2
        have hNe : Nonempty (Wd (SW (wr.alloc (.cells #[.int .i64 a, .int .i64 f] shiftT)))) := ⟨⟨_, SW.drew _⟩⟩
        refine quietS (S := SW (wr.alloc (.cells #[.int .i64 a, .int .i64 f] shiftT))) (by kernel_rfl) (by kernel_rfl) (SW.drew _) ?_
        repeat (first | go_big_quiet_skip | (go_big_quiet_want; go_big_quiet_op; first | go_big_quiet_on | go_big_quiet_call ((fail))))
        refine wpQuiet_nil ?_
        rintro W ⟨⟨_, hW⟩, rfl⟩
        go_wp2
        go_ret
        exact ⟨by rw [HR2.out]; rfl, hB.trans (hW.mono hB.size)⟩
      have ht : timeB a = true := by simp [timeB]; omega
      have d1 : decide (a < 0) = false := decide_eq_false n1
      have d2 : decide (52596000 ≤ a) = false := decide_eq_false n2
      have ha : 0 ≤ a ∧ a < 52596000 := by omega
      by_cases h0 : 0 < k
      · have q3 := SW.cell ((hb5.cell hgr).trans ((hb.cell hgl).trans (gm h0)))
        have hp' := hp h0
        have i3 : (0 : Int) < (k : Int) := by omega
        have i4 : (0 : Int) ≤ (k : Int) - 1 := by omega
        have i5 : (k : Int) - 1 < (l.length : Int) := by omega
        have i6 : ((k : Int) - 1).toNat = k - 1 := by omega
        generalize shA l (k - 1) = pr at *
        by_cases hg : a - pr < 2880
        · have HR2 : Hid (errZ o l = 13) := Lib.hid (by rw [HS.out, hbad.out, ht]; simp [h0, hg])
          clear HS hbad ht hp gm hw0
          go_wp2
          have hNe : Nonempty (Wd (SW (wr.alloc (.cells #[.int .i64 a, .int .i64 f] shiftT)))) := ⟨⟨_, SW.drew _⟩⟩
          refine quietS (S := SW (wr.alloc (.cells #[.int .i64 a, .int .i64 f] shiftT))) (by kernel_rfl) (by kernel_rfl) (SW.drew _) ?_
          repeat (first | go_big_quiet_skip | (go_big_quiet_want; go_big_quiet_op; first | go_big_quiet_on | go_big_quiet_call ((fail))))
          refine wpQuiet_nil ?_
          rintro W ⟨⟨_, hW⟩, rfl⟩
          go_wp2
          go_ret
          exact ⟨by rw [HR2.out]; rfl, hB.trans (hW.mono hB.size)⟩
        · cases ho : offB f
          · have HR2 : Hid (errZ o l = 2) := Lib.hid (by rw [HS.out, hbad.out, ht]; simp [h0, hg, ho])
            rw [ho] at CO
            clear HS hbad ht hp gm ho hw0
            go_wp2
            have hNe : Nonempty (Wd (SW (wr.alloc (.cells #[.int .i64 a, .int .i64 f] shiftT)))) := ⟨⟨_, SW.drew _⟩⟩
            refine quietS (S := SW (wr.alloc (.cells #[.int .i64 a, .int .i64 f] shiftT))) (by kernel_rfl) (by kernel_rfl) (SW.drew _) ?_
            repeat (first | go_big_quiet_skip | (go_big_quiet_want; go_big_quiet_op; first | go_big_quiet_on | go_big_quiet_call ((fail))))
            refine wpQuiet_nil ?_
            rintro W ⟨⟨_, hW⟩, rfl⟩
            have q4 := q1 ⟨_, hW⟩
            dsimp only at q4
            go_wp2_with (go_at_call 219; refine (CO.out _).mono ?_; rintro e w' ⟨rfl, rfl⟩)
            go_ret
            exact ⟨by rw [HR2.out]; rfl, hB.trans (hW.mono hB.size)⟩
          · have HR2 : Hid (errZ o l = errAt l (l.length - (k + 1)) (k + 1)) := Lib.hid (by rw [HS.out, hbad.out, ht]; simp [h0, hg, ho])
            rw [ho] at CO
            clear HS hbad ht hp gm ho hw0
            go_wp2
            have hNe : Nonempty (Wd (SW (wr.alloc (.cells #[.int .i64 a, .int .i64 f] shiftT)))) := ⟨⟨_, SW.drew _⟩⟩
            refine quietS (S := SW (wr.alloc (.cells #[.int .i64 a, .int .i64 f] shiftT))) (by kernel_rfl) (by kernel_rfl) (SW.drew _) ?_
            repeat (first | go_big_quiet_skip | (go_big_quiet_want; go_big_quiet_op; first | go_big_quiet_on | go_big_quiet_call ((fail))))
            refine wpQuiet_nil ?_
            rintro W ⟨⟨_, hW⟩, rfl⟩
            have q4 := q1 ⟨_, hW⟩
            dsimp only at q4
            go_wp2_with (go_at_call 219; refine (CO.out _).mono ?_; rintro e w' ⟨rfl, rfl⟩)
            go_roundw
            case rel => exact ⟨k + 1, by omega, by go_num, HR2, fun _ => by rw [Nat.add_sub_cancel, HA.out]; exact ha, hb.trans ((hb5.trans (hW.mono hb5.size)).mono hb.size)⟩
            case measure => simp [intOf]; omega
      · have i3 : ¬ (0 : Int) < (k : Int) := by omega
        cases ho : offB f
        · have HR2 : Hid (errZ o l = 2) := Lib.hid (by rw [HS.out, hbad.out, ht]; simp [h0, ho])
          rw [ho] at CO
          clear HS hbad ht hp gm ho hw0
          go_wp2
          have hNe : Nonempty (Wd (SW (wr.alloc (.cells #[.int .i64 a, .int .i64 f] shiftT)))) := ⟨⟨_, SW.drew _⟩⟩
          refine quietS (S := SW (wr.alloc (.cells #[.int .i64 a, .int .i64 f] shiftT))) (by kernel_rfl) (by kernel_rfl) (SW.drew _) ?_
          repeat (first | go_big_quiet_skip | (go_big_quiet_want; go_big_quiet_op; first | go_big_quiet_on | go_big_quiet_call ((fail))))
          refine wpQuiet_nil ?_
          rintro W ⟨⟨_, hW⟩, rfl⟩
          have q4 := q1 ⟨_, hW⟩
          dsimp only at q4
          go_wp2_with (go_at_call 219; refine (CO.out _).mono ?_; rintro e w' ⟨rfl, rfl⟩)
          go_ret
          exact ⟨by rw [HR2.out]; rfl, hB.trans (hW.mono hB.size)⟩
        · have HR2 : Hid (errZ o l = errAt l (l.length - (k + 1)) (k + 1)) := Lib.hid (by rw [HS.out, hbad.out, ht]; simp [h0, ho])
          rw [ho] at CO
          clear HS hbad ht hp gm ho hw0
          go_wp2
          have hNe : Nonempty (Wd (SW (wr.alloc (.cells #[.int .i64 a, .int .i64 f] shiftT)))) := ⟨⟨_, SW.drew _⟩⟩
          refine quietS (S := SW (wr.alloc (.cells #[.int .i64 a, .int .i64 f] shiftT))) (by kernel_rfl) (by kernel_rfl) (SW.drew _) ?_
          repeat (first | go_big_quiet_skip | (go_big_quiet_want; go_big_quiet_op; first | go_big_quiet_on | go_big_quiet_call ((fail))))
          refine wpQuiet_nil ?_
          rintro W ⟨⟨_, hW⟩, rfl⟩
          have q4 := q1 ⟨_, hW⟩
          dsimp only at q4
          go_wp2_with (go_at_call 219; refine (CO.out _).mono ?_; rintro e w' ⟨rfl, rfl⟩)
          go_roundw
          case rel => exact ⟨k + 1, by omega, by go_num, HR2, fun _ => by rw [Nat.add_sub_cancel, HA.out]; exact ha, hb.trans ((hb5.trans (hW.mono hb5.size)).mono hb.size)⟩
          case measure => simp [intOf]; omega
    · have g2 := (hb.cell (World.block_lt_of_cell? _ _ z1)).trans z1
      go_wp2
      go_ret
      exact ⟨by rw [HK.out, show l.length - k = 0 by omega]; rfl, hbw.trans (hb.mono hbw.size)⟩

end Go.Proofs.YtmmpalnalogfnaaGreatDoor

/- Plain facts on places: ways along distances, the shortest one, cities, violations. -/
namespace Go.Proofs.YtmmpalnalogfnaaGreatDoor
set_option linter.unusedSimpArgs false
set_option linter.unusedVariables false

/-- a distance -/
structure Dst where
  f : ByteArray
  t : ByteArray
  m : Int
abbrev Edg := ByteArray × ByteArray × Nat
/-- there is a way of this length -/
inductive Wy (E : List Edg) (a : ByteArray) : ByteArray → Nat → Prop
  | here : Wy E a a 0
  | on {b c : ByteArray} {n w : Nat} : Wy E a b n → (b, c, w) ∈ E → Wy E a c (n + w)
/-- the shortest way has this length -/
def Dis (E : List Edg) (a b : ByteArray) (n : Nat) : Prop := Wy E a b n ∧ ∀ m, Wy E a b m → n ≤ m
theorem Wy.trans {E : List Edg} {a b c : ByteArray} {n m : Nat} (h : Wy E a b n) (h' : Wy E b c m) : Wy E a c (n + m) := by
  induction h' with
  | here => exact h
  | on _ he ih => rw [← Nat.add_assoc]; exact .on ih he
theorem Dis.uniq {E : List Edg} {a b : ByteArray} {n m : Nat} (h : Dis E a b n) (h' : Dis E a b m) : n = m := Nat.le_antisymm (h.2 _ h'.1) (h'.2 _ h.1)
open Classical in
/-- the length of the shortest way, if there is a way -/
noncomputable def disO (E : List Edg) (a b : ByteArray) : Option Nat := if h : ∃ n, Dis E a b n then some h.choose else none
theorem disO_some {E : List Edg} {a b : ByteArray} {n : Nat} (h : Dis E a b n) : disO E a b = some n := by
  have hx : ∃ n, Dis E a b n := ⟨n, h⟩
  unfold disO
  rw [dif_pos hx]
  exact congrArg some (hx.choose_spec.uniq h)
theorem disO_none {E : List Edg} {a b : ByteArray} (h : ∀ n, ¬ Wy E a b n) : disO E a b = none := by
  unfold disO
  rw [dif_neg (fun ⟨n, hn⟩ => h n hn.1)]
/-! ### the search by the nearest city first -/
abbrev Stp := ByteArray × Nat
/-- what a city's distances lead to -/
def adj (E : List Edg) (c : ByteArray) : List Stp := (E.filter fun e => decide (e.1 = c)).map (·.2)
theorem adj_mem {E : List Edg} {b c : ByteArray} {w : Nat} : (c, w) ∈ adj E b ↔ (b, c, w) ∈ E := by
  simp only [adj, List.mem_map, List.mem_filter, decide_eq_true_eq]
  constructor
  · rintro ⟨⟨x, y, z⟩, ⟨h, rfl⟩, he⟩
    cases he
    exact h
  · intro h
    exact ⟨(b, c, w), ⟨h, rfl⟩, rfl⟩
/-- R: the cities that were reached; q: what is still to be looked at -/
structure Dij (E : List Edg) (a to : ByteArray) (R : ByteArray → Prop) (q : List Stp) : Prop where
  way : ∀ c m, (c, m) ∈ q → Wy E a c m
  at' : ∀ c, R c → ∃ m, Dis E a c m
  on : ∀ b, R b → ∀ n, Dis E a b n → ∀ c w, (b, c, w) ∈ E → (∃ m, m ≤ n + w ∧ (c, m) ∈ q) ∨ (R c ∧ ∃ m, Dis E a c m ∧ m ≤ n + w)
  start : R a ∨ (a, 0) ∈ q
  to' : ¬ R to
theorem Dij.far {E : List Edg} {a to : ByteArray} {R : ByteArray → Prop} {q : List Stp} (I : Dij E a to R q) {c : ByteArray} {n : Nat} (h : Wy E a c n) : (R c ∧ ∃ m, Dis E a c m ∧ m ≤ n) ∨ ∃ y k, (y, k) ∈ q ∧ k ≤ n := by
  induction h with
  | here =>
    rcases I.start with h | h
    · exact .inl ⟨h, 0, ⟨.here, fun m _ => Nat.zero_le _⟩, Nat.le_refl _⟩
    · exact .inr ⟨_, _, h, Nat.le_refl _⟩
  | @on b c n w hb he ih =>
    rcases ih with ⟨hr, m, hd, hm⟩ | ⟨y, k, hy, hk⟩
    · rcases I.on b hr m hd c w he with ⟨k, hk, hq⟩ | ⟨hc, k, hd', hk⟩
      · exact .inr ⟨c, k, hq, by omega⟩
      · exact .inl ⟨hc, k, hd', by omega⟩
    · exact .inr ⟨y, k, hy, by omega⟩
theorem Dij.none {E : List Edg} {a to : ByteArray} {R : ByteArray → Prop} (I : Dij E a to R []) : disO E a to = none :=
  disO_none fun n hn => by
    rcases I.far hn with ⟨h, _⟩ | ⟨y, k, h, _⟩
    · exact I.to' h
    · simp at h
theorem Dij.near {E : List Edg} {a to : ByteArray} {R : ByteArray → Prop} {q q' : List Stp} {c : ByteArray} {m : Nat} (I : Dij E a to R q) (hp : q.Perm ((c, m) :: q')) (hmin : ∀ x ∈ q, m ≤ x.2) (hc : ¬ R c) : Dis E a c m := by
  refine ⟨I.way c m (hp.mem_iff.2 (by simp)), fun n hn => ?_⟩
  rcases I.far hn with ⟨h, _⟩ | ⟨y, k, h, hk⟩
  · exact absurd h hc
  · exact Nat.le_trans (hmin _ h) hk
theorem Dij.skip {E : List Edg} {a to : ByteArray} {R : ByteArray → Prop} {q q' : List Stp} {c : ByteArray} {m : Nat} (I : Dij E a to R q) (hp : q.Perm ((c, m) :: q')) (hc : R c) : Dij E a to R q' := by
  obtain ⟨d, hd⟩ := I.at' c hc
  have hw := I.way c m (hp.mem_iff.2 (by simp))
  have hle := hd.2 m hw
  refine ⟨fun x n h => I.way x n (hp.mem_iff.2 (by simp [h])), I.at', fun b hb n hn x w he => ?_, ?_, I.to'⟩
  · rcases I.on b hb n hn x w he with ⟨k, hk, hq⟩ | h
    · rcases List.mem_cons.1 (hp.mem_iff.1 hq) with e | h
      · cases e
        exact .inr ⟨hc, d, hd, by omega⟩
      · exact .inl ⟨k, hk, h⟩
    · exact .inr h
  · rcases I.start with h | h
    · exact .inl h
    · rcases List.mem_cons.1 (hp.mem_iff.1 h) with e | h
      · cases e
        exact .inl hc
      · exact .inr h
/-- a city is reached: its distances are looked at -/
theorem Dij.grow {E : List Edg} {a to : ByteArray} {R : ByteArray → Prop} {q q' q'' : List Stp} {c : ByteArray} {m : Nat} (I : Dij E a to R q) (hp : q.Perm ((c, m) :: q')) (hmin : ∀ x ∈ q, m ≤ x.2) (hc : ¬ R c) (ht : c ≠ to)
    (hq : q''.Perm (q' ++ (adj E c).map fun x => (x.1, m + x.2))) : Dij E a to (fun x => R x ∨ x = c) q'' := by
  have hd := I.near hp hmin hc
  have new : ∀ x w, (c, x, w) ∈ E → (x, m + w) ∈ q'' := fun x w h => hq.mem_iff.2 (List.mem_append.2 (.inr (List.mem_map.2 ⟨(x, w), adj_mem.2 h, rfl⟩)))
  have old : ∀ x, x ∈ q' → x ∈ q'' := fun x h => hq.mem_iff.2 (List.mem_append.2 (.inl h))
  refine ⟨fun x n h => ?_, fun x h => ?_, fun b hb n hn x w he => ?_, ?_, fun h => h.elim I.to' fun e => ht e.symm⟩
  · rcases List.mem_append.1 (hq.mem_iff.1 h) with h | h
    · exact I.way x n (hp.mem_iff.2 (by simp [h]))
    · obtain ⟨⟨y, w⟩, hy, e⟩ := List.mem_map.1 h
      cases e
      exact hd.1.on (adj_mem.1 hy)
  · rcases h with h | rfl
    · exact I.at' x h
    · exact ⟨m, hd⟩
  · rcases hb with hb | rfl
    · rcases I.on b hb n hn x w he with ⟨k, hk, h⟩ | ⟨h1, h2⟩
      · rcases List.mem_cons.1 (hp.mem_iff.1 h) with e | h
        · cases e
          exact .inr ⟨.inr rfl, m, hd, hk⟩
        · exact .inl ⟨k, hk, old _ h⟩
      · exact .inr ⟨.inl h1, h2⟩
    · obtain rfl := hd.uniq hn
      exact .inl ⟨m + w, Nat.le_refl _, new x w he⟩
  · rcases I.start with h | h
    · exact .inl (.inl h)
    · rcases List.mem_cons.1 (hp.mem_iff.1 h) with e | h
      · cases e
        exact .inl (.inr rfl)
      · exact .inr (old _ h)
/-! ### the reference's search: distances are followed until nothing becomes shorter -/
/-- l: the cities that were reached, with a way's length -/
structure Rel (E : List Edg) (a : ByteArray) (l : List Stp) : Prop where
  way : ∀ c m, (c, m) ∈ l → Wy E a c m
  start : (a, 0) ∈ l
  one : l.Pairwise fun x y => x.1 ≠ y.1
def atL (l : List Stp) (c : ByteArray) : Option Nat := (l.find? fun x => decide (x.1 = c)).map (·.2)
theorem atL_mem {l : List Stp} (h1 : l.Pairwise fun x y => x.1 ≠ y.1) {c : ByteArray} {m : Nat} : atL l c = some m ↔ (c, m) ∈ l := by
  induction l with
  | nil => simp [atL]
  | cons x r ih =>
    obtain ⟨h2, h3⟩ := List.pairwise_cons.1 h1
    obtain ⟨xc, xm⟩ := x
    by_cases h : xc = c
    · subst h
      have : ∀ m', (xc, m') ∉ r := fun m' hm => h2 _ hm rfl
      simp [atL, this]
      exact eq_comm
    · have h' : ¬ c = xc := fun e => h e.symm
      simp only [atL, List.find?_cons, h, decide_false, List.mem_cons, Prod.mk.injEq, h', false_and, false_or]
      exact ih h3
theorem atL_none {l : List Stp} {c : ByteArray} : atL l c = none ↔ ∀ m, (c, m) ∉ l := by
  simp only [atL, Option.map_eq_none_iff, List.find?_eq_none, decide_eq_true_eq]
  exact ⟨fun h m hm => h _ hm rfl, fun h x hx e => h x.2 (by rw [← e]; exact hx)⟩
/-- nothing becomes shorter: these are the shortest ways -/
theorem Rel.done {E : List Edg} {a : ByteArray} {l : List Stp} (I : Rel E a l) (h : ∀ b c w n, (b, c, w) ∈ E → (b, n) ∈ l → ∃ m, (c, m) ∈ l ∧ m ≤ n + w) (to : ByteArray) : disO E a to = atL l to := by
  have all : ∀ c n, Wy E a c n → ∃ m, (c, m) ∈ l ∧ m ≤ n := by
    intro c n hw
    induction hw with
    | here =>
      exact ⟨0, I.start, Nat.le_refl _⟩
    | @on b c n w hb he ih =>
      obtain ⟨m, hm, hle⟩ := ih
      obtain ⟨k, hk, hle'⟩ := h b c w m he hm
      exact ⟨k, hk, by omega⟩
  cases hl : atL l to with
  | none =>
    refine disO_none fun n hn => ?_
    obtain ⟨m, hm, _⟩ := all to n hn
    exact atL_none.1 hl m hm
  | some m =>
    have hm := (atL_mem I.one).1 hl
    refine disO_some ⟨I.way _ _ hm, fun n hn => ?_⟩
    obtain ⟨k, hk, hle⟩ := all to n hn
    have := (atL_mem I.one).2 hk
    rw [hl] at this
    cases this
    exact hle

/-- a way to a city is noted, if it is new or shorter -/
def putL : List Stp → ByteArray → Nat → List Stp
  | [], c, m => [(c, m)]
  | x :: r, c, m => if x.1 = c then (if x.2 ≤ m then x :: r else (c, m) :: r) else x :: putL r c m
def newL : List Stp → ByteArray → Nat → Bool
  | [], _, _ => true
  | x :: r, c, m => if x.1 = c then decide (m < x.2) else newL r c m
theorem putL_same : ∀ (l : List Stp) (c : ByteArray) (m : Nat), newL l c m = false → putL l c m = l
  | [], c, m, h => by simp [newL] at h
  | x :: r, c, m, h => by
    by_cases e : x.1 = c
    · simp [newL, e] at h
      simp [putL, e, h]
    · simp [newL, e] at h
      simp [putL, e, putL_same r c m h]
theorem putL_mem : ∀ (l : List Stp) (c : ByteArray) (m : Nat) (x : Stp), x ∈ putL l c m → x ∈ l ∨ x = (c, m)
  | [], c, m, x, h => by simp [putL] at h; exact .inr h
  | y :: r, c, m, x, h => by
    by_cases e : y.1 = c
    · by_cases hm : y.2 ≤ m
      · simp only [putL, e, if_true, hm] at h
        exact .inl h
      · simp only [putL, e, if_true, hm, if_false] at h
        rcases List.mem_cons.1 h with h | h
        · exact .inr h
        · exact .inl (by simp [h])
    · simp only [putL, e, if_false] at h
      rcases List.mem_cons.1 h with h | h
      · exact .inl (by simp [h])
      · rcases putL_mem r c m x h with h | h
        · exact .inl (by simp [h])
        · exact .inr h
theorem putL_keep : ∀ (l : List Stp) (c : ByteArray) (m : Nat) (x : Stp), x ∈ l → x.1 ≠ c ∨ x.2 ≤ m → x ∈ putL l c m
  | [], c, m, x, h, _ => by simp at h
  | y :: r, c, m, x, h, hx => by
    by_cases e : y.1 = c
    · by_cases hm : y.2 ≤ m
      · simp only [putL, e, if_true, hm]
        exact h
      · simp only [putL, e, if_true, hm, if_false]
        rcases List.mem_cons.1 h with rfl | h
        · rcases hx with hx | hx
          · exact absurd e hx
          · exact absurd hx hm
        · simp [h]
    · simp only [putL, e, if_false]
      rcases List.mem_cons.1 h with rfl | h
      · simp
      · simp [putL_keep r c m x h hx]
theorem putL_one : ∀ (l : List Stp) (c : ByteArray) (m : Nat), l.Pairwise (fun x y => x.1 ≠ y.1) → (putL l c m).Pairwise fun x y => x.1 ≠ y.1
  | [], c, m, h => by simp [putL]
  | x :: r, c, m, h => by
    obtain ⟨h1, h2⟩ := List.pairwise_cons.1 h
    by_cases e : x.1 = c
    · by_cases hm : x.2 ≤ m
      · simp only [putL, e, if_true, hm]
        exact h
      · simp only [putL, e, if_true, hm, if_false]
        exact List.pairwise_cons.2 ⟨fun y hy => by rw [← e]; exact h1 y hy, h2⟩
    · simp only [putL, e, if_false]
      refine List.pairwise_cons.2 ⟨fun y hy => ?_, putL_one r c m h2⟩
      rcases putL_mem r c m y hy with h | rfl
      · exact h1 y h
      · exact e
def sumL (l : List Stp) : Nat := (l.map (·.2)).sum
theorem putL_meas : ∀ (l : List Stp) (c : ByteArray) (m : Nat), newL l c m = true → ((putL l c m).length = l.length ∧ sumL (putL l c m) < sumL l ∧ ∃ k, (c, k) ∈ l ∧ m < k) ∨ ((putL l c m).length = l.length + 1 ∧ sumL (putL l c m) = sumL l + m)
  | [], c, m, h => by right; simp [putL, sumL]
  | x :: r, c, m, h => by
    by_cases e : x.1 = c
    · simp [newL, e] at h
      left
      refine ⟨?_, ?_, x.2, by rw [← e]; simp, h⟩
      · simp only [putL, e, if_true, if_neg (show ¬ x.2 ≤ m by omega), List.length_cons]
      · simp only [putL, e, if_true, if_neg (show ¬ x.2 ≤ m by omega), sumL, List.map_cons, List.sum_cons]
        omega
    · simp [newL, e] at h
      rcases putL_meas r c m h with ⟨h1, h2, k, h3, h4⟩ | ⟨h1, h2⟩
      · left
        refine ⟨?_, ?_, k, by simp [h3], h4⟩
        · simp only [putL, e, if_false, List.length_cons, h1]
        · simp only [putL, e, if_false, sumL, List.map_cons, List.sum_cons] at h2 ⊢
          omega
      · right
        simp only [putL, e, if_false, List.length_cons, sumL, List.map_cons, List.sum_cons] at h1 h2 ⊢
        omega
theorem Rel.put {E : List Edg} {a : ByteArray} {l : List Stp} (I : Rel E a l) {b c : ByteArray} {n w : Nat} (hb : (b, n) ∈ l) (he : (b, c, w) ∈ E) : Rel E a (putL l c (n + w)) where
  way x m h := by
    rcases putL_mem l c _ _ h with h | e
    · exact I.way x m h
    · cases e
      exact (I.way b n hb).on he
  start := putL_keep l c _ _ I.start (.inr (Nat.zero_le _))
  one := putL_one l c _ I.one
/-- distinct cities of a list that has them all -/
theorem nodup_le {α : Type} [DecidableEq α] : ∀ (l m : List α), l.Nodup → (∀ x ∈ l, x ∈ m) → l.length ≤ m.length
  | [], m, _, _ => by simp
  | x :: r, m, h, hs => by
    obtain ⟨h1, h2⟩ := List.nodup_cons.1 h
    have := nodup_le r (m.erase x) h2 fun y hy => (List.mem_erase_of_ne (fun e => h1 (by rw [← e]; exact hy))).2 (hs y (by simp [hy]))
    have e := List.length_erase_of_mem (hs x (by simp))
    have hp := List.length_pos_of_mem (hs x (by simp))
    simp only [List.length_cons]
    omega
theorem Wy.end' {E : List Edg} {a c : ByteArray} {n : Nat} (h : Wy E a c n) : c = a ∨ c ∈ E.map (·.2.1) := by
  cases h with
  | here => exact .inl rfl
  | on _ he => exact .inr (List.mem_map.2 ⟨_, he, rfl⟩)
theorem Rel.len {E : List Edg} {a : ByteArray} {l : List Stp} (I : Rel E a l) : l.length ≤ E.length + 1 := by
  have h := nodup_le (l.map (·.1)) (a :: E.map (·.2.1)) (List.pairwise_map.2 I.one) (fun x hx => by
    obtain ⟨⟨c, m⟩, hm, rfl⟩ := List.mem_map.1 hx
    exact List.mem_cons.2 (I.way c m hm).end')
  simpa using h
/-- no way that was noted is longer than this -/
def capL (l : List Stp) : Prop := ∀ c m, (c, m) ∈ l → m + 20000 ≤ 20000 * l.length
theorem capL.put {l : List Stp} (h : capL l) {b c : ByteArray} {n w : Nat} (hb : (b, n) ∈ l) (hw : w ≤ 20000) : capL (putL l c (n + w)) := by
  intro x m hx
  have hn := h b n hb
  cases hz : newL l c (n + w)
  · rw [putL_same l c _ hz] at hx ⊢
    exact h x m hx
  · rcases putL_meas l c (n + w) hz with ⟨e, _, k, hk, hlt⟩ | ⟨e, _⟩
    · rw [e]
      rcases putL_mem l c _ _ hx with h1 | h1
      · exact h x m h1
      · cases h1
        have := h c k hk
        omega
    · rw [e]
      rcases putL_mem l c _ _ hx with h1 | h1
      · have := h x m h1
        omega
      · cases h1
        omega

end Go.Proofs.YtmmpalnalogfnaaGreatDoor

/- Plain facts on numbers as text. -/
namespace Go.Proofs.YtmmpalnalogfnaaGreatDoor
set_option linter.unusedSimpArgs false
set_option linter.unusedVariables false

def dgB (c : UInt8) : Bool := decide (48 ≤ (c.toNat : Int) ∧ (c.toNat : Int) ≤ 57)
theorem dgB_nat (c : UInt8) (h : dgB c = true) : 48 ≤ c.toNat ∧ c.toNat ≤ 57 := by simp [dgB] at h; omega
/-- what digits say, behind a number -/
def dvF (a : Nat) (l : List UInt8) : Nat := l.foldl (fun a c => a * 10 + (c.toNat - 48)) a
theorem dvF_nil (a : Nat) : dvF a [] = a := by simp only [dvF, List.foldl_nil]
theorem dvF_cons (a : Nat) (c : UInt8) (r : List UInt8) : dvF a (c :: r) = dvF (a * 10 + (c.toNat - 48)) r := by simp only [dvF, List.foldl_cons]
theorem dvF_snoc (l : List UInt8) (c : UInt8) (a : Nat) : dvF a (l ++ [c]) = dvF a l * 10 + (c.toNat - 48) := by simp only [dvF, List.foldl_append, List.foldl_cons, List.foldl_nil]
theorem dvF_ge : ∀ (l : List UInt8) (a : Nat), a * 10 ^ l.length ≤ dvF a l
  | [], a => by simp [dvF_nil]
  | c :: r, a => by
    have h := dvF_ge r (a * 10 + (c.toNat - 48))
    simp only [dvF_cons, List.length_cons, Nat.pow_succ]
    refine Nat.le_trans ?_ h
    have : a * (10 ^ r.length * 10) = a * 10 * 10 ^ r.length := by rw [Nat.mul_comm (10 ^ r.length) 10, Nat.mul_assoc]
    rw [this]
    exact Nat.mul_le_mul_right _ (by omega)
theorem dvF_lt : ∀ (l : List UInt8) (a : Nat), l.all dgB = true → dvF a l < (a + 1) * 10 ^ l.length
  | [], a, _ => by simp [dvF_nil]
  | c :: r, a, h => by
    simp only [List.all_cons, Bool.and_eq_true] at h
    have hc := dgB_nat c h.1
    have h2 := dvF_lt r (a * 10 + (c.toNat - 48)) h.2
    simp only [dvF_cons, List.length_cons, Nat.pow_succ]
    refine Nat.lt_of_lt_of_le h2 ?_
    have : (a + 1) * (10 ^ r.length * 10) = ((a + 1) * 10) * 10 ^ r.length := by rw [Nat.mul_comm (10 ^ r.length) 10, Nat.mul_assoc]
    rw [this]
    exact Nat.mul_le_mul_right _ (by omega)
theorem dvF_le (r : List UInt8) (a : Nat) : a ≤ dvF a r :=
  Nat.le_trans (Nat.le_mul_of_pos_right _ (Nat.pow_pos (by omega))) (dvF_ge r a)
theorem parse_ok : ∀ (l : List UInt8) (a : Nat), l.all dgB = true → dvF a l < 18446744073709551616 → Lib.parseUint10 a l = .ok (dvF a l)
  | [], a, _, h => by simp only [Lib.parseUint10, dvF_nil, dvF_cons]
  | c :: r, a, h, hb => by
    simp only [List.all_cons, Bool.and_eq_true] at h
    have hc := dgB_nat c h.1
    simp only [dvF_nil, dvF_cons] at hb
    have hle := dvF_le r (a * 10 + (c.toNat - 48))
    simp only [Lib.parseUint10, dvF_nil, dvF_cons]
    rw [if_pos hc, if_neg (by omega), if_neg (by omega)]
    exact parse_ok r _ h.2 hb
theorem parse_range : ∀ (l : List UInt8) (a : Nat), l.all dgB = true → a < 18446744073709551616 → 18446744073709551616 ≤ dvF a l → Lib.parseUint10 a l = .range
  | [], a, _, ha, h => by simp only [dvF_nil, dvF_cons] at h; omega
  | c :: r, a, h, ha, hb => by
    simp only [List.all_cons, Bool.and_eq_true] at h
    have hc := dgB_nat c h.1
    simp only [dvF_nil, dvF_cons] at hb
    simp only [Lib.parseUint10]
    rw [if_pos hc]
    by_cases h1 : 1844674407370955162 ≤ a
    · rw [if_pos h1]
    · rw [if_neg h1]
      by_cases h2 : 18446744073709551616 ≤ a * 10 + (c.toNat - 48)
      · rw [if_pos h2]
      · rw [if_neg h2]
        exact parse_range r _ h.2 (by omega) hb

/-- the digits of a numeral: what stands behind the sign -/
def bodyL : List UInt8 → List UInt8
  | [] => []
  | c :: r => if c.toNat = 45 then r else c :: r
def negB : List UInt8 → Bool
  | [] => false
  | c :: _ => decide (c.toNat = 45)
def headZ : List UInt8 → Bool
  | [] => false
  | c :: _ => decide (c.toNat = 48)
/-- is it the form of a number? -/
def formB (l : List UInt8) : Bool := !(bodyL l).isEmpty && (bodyL l).all dgB && (!headZ (bodyL l) || l == [48])
/-- does the number fit? -/
def fitB (l : List UInt8) : Bool := if negB l then decide (dvF 0 (bodyL l) ≤ 9223372036854775808) else decide (dvF 0 (bodyL l) < 9223372036854775808)
def valI (l : List UInt8) : Int := if negB l then -(dvF 0 (bodyL l) : Int) else (dvF 0 (bodyL l) : Int)
def numR (l : List UInt8) : Int × Int := if formB l then (if fitB l then (valI l, 0) else (0, 4)) else (0, 3)
theorem form_body (l : List UInt8) (h : formB l = true) : bodyL l ≠ [] ∧ (bodyL l).all dgB = true := by
  simp [formB] at h
  exact ⟨h.1.1, by simpa using h.1.2⟩
theorem atoi_eq (l : List UInt8) (h : formB l = true) : Lib.atoiAll l = if fitB l then .ok (valI l) else .range := by
  obtain ⟨h1, h2⟩ := form_body l h
  cases l with
  | nil => exact absurd rfl h1
  | cons c r =>
    have hb : (if c.toNat = 43 ∨ c.toNat = 45 then r else c :: r) = bodyL (c :: r) := by
      by_cases hc : c.toNat = 45
      · simp [bodyL, hc]
      · have hd : dgB c = true := by simp only [bodyL, hc, if_false, List.all_cons, Bool.and_eq_true] at h2; exact h2.1
        have := dgB_nat c hd
        simp only [bodyL, hc, if_false, or_false]
        rw [if_neg (by omega)]
    unfold Lib.atoiAll
    simp only [hb]
    have hn : negB (c :: r) = decide (c.toNat = 45) := rfl
    by_cases hu : dvF 0 (bodyL (c :: r)) < 18446744073709551616
    · have hp : Lib.parseMag (bodyL (c :: r)) = .ok (dvF 0 (bodyL (c :: r))) := by
        unfold Lib.parseMag; rw [if_neg h1]; exact parse_ok _ 0 h2 hu
      rw [hp]
      simp only [fitB, valI, hn]
      by_cases hc : c.toNat = 45
      · simp only [hc, decide_true, if_true, not_true, false_and, if_false, true_and]
        by_cases h9 : dvF 0 (bodyL (c :: r)) ≤ 9223372036854775808
        · rw [if_neg (by omega)]; simp [h9]
        · rw [if_pos (by omega)]; simp [h9]
      · simp only [hc, decide_false, Bool.false_eq_true, if_false, not_false_eq_true, true_and, false_and]
        by_cases h9 : dvF 0 (bodyL (c :: r)) < 9223372036854775808
        · rw [if_neg (by omega)]; simp [h9]
        · rw [if_pos (by omega)]; simp [h9]
    · have hp : Lib.parseMag (bodyL (c :: r)) = .range := by
        unfold Lib.parseMag; rw [if_neg h1]; exact parse_range _ 0 h2 (by omega) (by omega)
      rw [hp]
      simp only [fitB, hn]
      by_cases hc : c.toNat = 45
      · simp only [hc, decide_true, if_true]
        rw [if_neg (by simp; omega)]
      · simp only [hc, decide_false, Bool.false_eq_true, if_false]
        rw [if_neg (by simp; omega)]
theorem long_big (l : List UInt8) (h : formB l = true) (hl : 20 ≤ (bodyL l).length) : 10000000000000000000 ≤ dvF 0 (bodyL l) := by
  obtain ⟨h1, h2⟩ := form_body l h
  have h3 : headZ (bodyL l) = false := by
    simp [formB] at h
    rcases h.2 with h | h
    · exact h
    · rw [h] at hl; simp [bodyL] at hl
  cases hb : bodyL l with
  | nil => exact absurd hb h1
  | cons c r =>
    rw [hb] at h2 h3 hl
    simp only [List.all_cons, Bool.and_eq_true] at h2
    have hc := dgB_nat c h2.1
    simp [headZ] at h3
    simp only [dvF_nil, dvF_cons]
    have hg := dvF_ge r (0 * 10 + (c.toNat - 48))
    refine Nat.le_trans ?_ hg
    have e1 : (10 : Nat) ^ 19 ≤ 10 ^ r.length := Nat.pow_le_pow_right (by omega) (by simp at hl; omega)
    have e2 : 10 ^ r.length ≤ (0 * 10 + (c.toNat - 48)) * 10 ^ r.length := Nat.le_mul_of_pos_left _ (by omega)
    have e3 : (10 : Nat) ^ 19 = 10000000000000000000 := by decide
    omega
theorem long_unfit (l : List UInt8) (h : formB l = true) (hl : 20 ≤ (bodyL l).length) : fitB l = false := by
  have := long_big l h hl
  unfold fitB
  split <;> simp <;> omega
theorem short_small (l : List UInt8) (h : formB l = true) (hl : (bodyL l).length ≤ 19) : dvF 0 (bodyL l) < 10000000000000000000 := by
  have h1 := dvF_lt (bodyL l) 0 (form_body l h).2
  have e1 : (10 : Nat) ^ (bodyL l).length ≤ 10 ^ 19 := Nat.pow_le_pow_right (by omega) hl
  have e3 : (10 : Nat) ^ 19 = 10000000000000000000 := by decide
  omega

/-! ### what is written is read -/
theorem decDigits_step (u : Nat) (h : 10 ≤ u) : Lib.decDigits u = Lib.decDigits (u / 10) ++ [UInt8.ofNat (48 + u % 10)] := by
  rw [Lib.decDigits, dif_neg (by omega)]
theorem decDigits_small (u : Nat) (h : u < 10) : Lib.decDigits u = [UInt8.ofNat (48 + u)] := by
  rw [Lib.decDigits, dif_pos h]
theorem digit_nat (n : Nat) (h : n < 10) : (UInt8.ofNat (48 + n)).toNat = 48 + n := by
  rw [UInt8.toNat_ofNat']; omega
theorem digit_dg (n : Nat) (h : n < 10) : dgB (UInt8.ofNat (48 + n)) = true := by
  simp only [dgB, digit_nat n h]; simp; omega
theorem dec_facts : ∀ u : Nat, dvF 0 (Lib.decDigits u) = u ∧ (Lib.decDigits u).all dgB = true ∧ Lib.decDigits u ≠ [] ∧ (headZ (Lib.decDigits u) = true → u = 0)
  | u => by
    by_cases h : u < 10
    · rw [decDigits_small u h]
      refine ⟨?_, ?_, by simp, ?_⟩
      · simp only [dvF_nil, dvF_cons, digit_nat u h]; omega
      · simp only [List.all_cons, List.all_nil, digit_dg u h]; rfl
      · intro hz; simp only [headZ, digit_nat u h, decide_eq_true_eq] at hz; omega
    · obtain ⟨i1, i2, i3, i4⟩ := dec_facts (u / 10)
      rw [decDigits_step u (by omega)]
      refine ⟨?_, ?_, by simp, ?_⟩
      · rw [dvF_snoc, i1, digit_nat _ (by omega)]; omega
      · simp only [List.all_append, i2, List.all_cons, List.all_nil, digit_dg _ (show u % 10 < 10 by omega)]; rfl
      · intro hz
        have : headZ (Lib.decDigits (u / 10)) = true := by
          cases hd : Lib.decDigits (u / 10) with
          | nil => exact absurd hd i3
          | cons c r => rw [hd] at hz; exact hz
        have := i4 this
        omega
termination_by u => u
theorem dg_ne45 (c : UInt8) (h : dgB c = true) : c.toNat ≠ 45 := by have := dgB_nat c h; omega
theorem itoa_facts (n : Int) (h0 : -9223372036854775808 ≤ n) (h1 : n ≤ 9223372036854775807) : numR (Lib.itoa n) = (n, 0) := by
  unfold Lib.itoa
  by_cases hn : n < 0
  · rw [if_pos hn]
    obtain ⟨i1, i2, i3, i4⟩ := dec_facts n.natAbs
    have hz : headZ (Lib.decDigits n.natAbs) = false := by
      cases hh : headZ (Lib.decDigits n.natAbs)
      · rfl
      · have := i4 hh; omega
    have hf : formB (45 :: Lib.decDigits n.natAbs) = true := by
      have hb : bodyL (45 :: Lib.decDigits n.natAbs) = Lib.decDigits n.natAbs := by simp [bodyL]
      simp only [formB, hb, i2, hz]
      simp [i3]
    have hb : bodyL (45 :: Lib.decDigits n.natAbs) = Lib.decDigits n.natAbs := by simp [bodyL]
    have hng : negB (45 :: Lib.decDigits n.natAbs) = true := by simp [negB]
    have hfit : fitB (45 :: Lib.decDigits n.natAbs) = true := by
      simp only [fitB, hng, hb, i1, if_true]; simp; omega
    simp only [numR, hf, hfit, if_true, valI, hng, hb, i1]
    congr 1
    omega
  · rw [if_neg hn]
    obtain ⟨i1, i2, i3, i4⟩ := dec_facts n.toNat
    cases hd : Lib.decDigits n.toNat with
    | nil => exact absurd hd i3
    | cons c r =>
      rw [hd] at i1 i2 i4
      have hc : dgB c = true := by simp only [List.all_cons, Bool.and_eq_true] at i2; exact i2.1
      have h45 := dg_ne45 c hc
      have hb : bodyL (c :: r) = c :: r := by simp [bodyL, h45]
      have hng : negB (c :: r) = false := by simp [negB, h45]
      have hf : formB (c :: r) = true := by
        simp only [formB, hb, i2]
        cases hh : headZ (c :: r)
        · simp
        · have hu := i4 hh
          rw [hu, decDigits_small 0 (by omega)] at hd
          rw [← hd]
          decide
      have hfit : fitB (c :: r) = true := by
        simp only [fitB, hng, hb, i1, Bool.false_eq_true, if_false]; simp; omega
      simp only [numR, hf, hfit, if_true, valI, hng, hb, i1, Bool.false_eq_true, if_false]
      congr 1
      omega
/-- digits without a zero ahead of them are the digits of what they say -/
theorem dec_dv : ∀ (n : Nat) (l : List UInt8), l.length ≤ n → l ≠ [] → l.all dgB = true → (headZ l = false ∨ l.length = 1) → Lib.decDigits (dvF 0 l) = l
  | 0, l, hn, hne, _, _ => absurd (List.eq_nil_of_length_eq_zero (by omega)) hne
  | n + 1, l, hn, hne, hd, hz => by
    rcases List.eq_nil_or_concat l with h | ⟨r, c, h⟩
    · exact absurd h hne
    · rw [List.concat_eq_append] at h
      subst h
      simp only [List.all_append, List.all_cons, List.all_nil, Bool.and_true, Bool.and_eq_true] at hd
      have hc := dgB_nat c hd.2
      rw [dvF_snoc]
      cases r with
      | nil =>
        rw [decDigits_small _ (by simp only [dvF_nil, dvF_cons]; omega)]
        simp only [dvF_nil, dvF_cons, List.nil_append]
        congr 1
        apply UInt8.toNat_inj.1
        rw [digit_nat _ (by omega)]
        omega
      | cons d r' =>
        have hz' : headZ (d :: r') = false := by
          rcases hz with h | h
          · exact h
          · simp at h
        have ih := dec_dv n (d :: r') (by simp at hn ⊢; omega) (by simp) hd.1 (.inl hz')
        have hpos : 1 ≤ dvF 0 (d :: r') := by
          simp [headZ] at hz'
          simp only [List.all_cons, Bool.and_eq_true] at hd
          have hdd := dgB_nat d hd.1.1
          have hg := dvF_ge r' (0 * 10 + (d.toNat - 48))
          have : 0 * 10 + (d.toNat - 48) ≤ (0 * 10 + (d.toNat - 48)) * 10 ^ r'.length := Nat.le_mul_of_pos_right _ (Nat.pow_pos (by omega))
          simp only [dvF_nil, dvF_cons]
          omega
        have e1 : (dvF 0 (d :: r') * 10 + (c.toNat - 48)) / 10 = dvF 0 (d :: r') := by omega
        have e2 : (dvF 0 (d :: r') * 10 + (c.toNat - 48)) % 10 = c.toNat - 48 := by omega
        rw [decDigits_step _ (by omega), e1, ih, e2]
        congr 2
        apply UInt8.toNat_inj.1
        rw [digit_nat _ (by omega)]
        omega
theorem itoa_back (l : List UInt8) (v : Int) (h : numR l = (v, 0)) : Lib.itoa v = l := by
  unfold numR at h
  cases hf : formB l
  · rw [hf] at h; simp at h
  · rw [hf] at h
    simp only [if_true] at h
    cases hfit : fitB l
    · rw [hfit] at h; simp at h
    · rw [hfit] at h
      simp only [if_true] at h
      have hv := (Prod.mk.inj h).1
      obtain ⟨b1, b2⟩ := form_body l hf
      simp only [formB, Bool.and_eq_true, Bool.or_eq_true] at hf
      cases l with
      | nil => exact absurd rfl b1
      | cons c r =>
        by_cases hc : c.toNat = 45
        · have hb : bodyL (c :: r) = r := by simp [bodyL, hc]
          have hng : negB (c :: r) = true := by simp [negB, hc]
          rw [hb] at b1 b2 hf
          have hz : headZ r = false := by
            rcases hf.2 with h | h
            · simpa using h
            · simp at h; rw [h.1] at hc; simp at hc
          have hdd := dec_dv r.length r (Nat.le_refl _) b1 b2 (.inl hz)
          simp only [valI, hng, hb, if_true] at hv
          have hpos : 1 ≤ dvF 0 r := by
            rcases Nat.eq_zero_or_pos (dvF 0 r) with h | h
            · rw [h] at hdd
              rw [← hdd] at hz
              rw [decDigits_small 0 (by omega)] at hz
              simp [headZ] at hz
            · exact h
          rw [← hv]
          unfold Lib.itoa
          rw [if_pos (by omega)]
          have e : (-(dvF 0 r : Int)).natAbs = dvF 0 r := by omega
          rw [e, hdd]
          congr 1
          exact (UInt8.toNat_inj.1 hc).symm
        · have hb : bodyL (c :: r) = c :: r := by simp [bodyL, hc]
          have hng : negB (c :: r) = false := by simp [negB, hc]
          rw [hb] at b1 b2 hf
          have hdd := dec_dv (c :: r).length (c :: r) (Nat.le_refl _) b1 b2 (by
            rcases hf.2 with h | h
            · left; simpa using h
            · right; simp at h; simp [h])
          simp only [valI, hng, hb, Bool.false_eq_true, if_false] at hv
          rw [← hv]
          unfold Lib.itoa
          rw [if_neg (by omega)]
          have e : ((dvF 0 (c :: r) : Int)).toNat = dvF 0 (c :: r) := by omega
          rw [e, hdd]
end Go.Proofs.YtmmpalnalogfnaaGreatDoor
