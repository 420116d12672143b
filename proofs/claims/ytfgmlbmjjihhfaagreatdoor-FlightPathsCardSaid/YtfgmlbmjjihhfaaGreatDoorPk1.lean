/- Words and walks that the laws below ask: Mem, CalP, CalA, CalQ, CalD, ZonP, ZonA, ZonB. -/
import Derived.WalkKit
import Derived.WalkSpells
import Derived.WalkLawsBesides
import Derived.Deep.AppendLies
import Derived.Lib.UnsafeStr
import Derived.Lib.BufferWrite
import Derived.Lib.AppendStr
import Derived.Lib.Hide
import Derived.Test.YtfgmlbmjjihhfaaGreatDoorRows
import Derived.OwnWalk
import Derived.Deep.WholeRow
import Derived.BigQuiet
import Derived.Deep.QuietTactic
import Derived.IntWalk
/- Words for memory that a call makes: a buffer of bytes that is appended to (over any program). -/
namespace Go.Proofs.YtfgmlbmjjihhfaaGreatDoor
open Go.RowKit
set_option linter.unusedSimpArgs false
set_option linter.unusedVariables false

theorem ret_bool {a b : Bool} (h : a = b) : Ending.returned (.bool a) = .returned (.bool b) := by rw [h]
theorem ret_int {k : IntKind} {a b : Int} (h : a = b) : Ending.returned (.int k a) = .returned (.int k b) := by rw [h]
theorem ret_str {a b : List UInt8} (h : a = b) : Ending.returned (.string ⟨a.toArray⟩) = .returned (.string ⟨b.toArray⟩) := by rw [h]
theorem below_drewN {B : Nat} {a w : World} (h : Below B a w) (n : Nat) : Below B a (w.drewN n) := ⟨h.os, h.tape, h.output, h.size, h.block⟩

/-- t is a slice type whose elements are the bytes e -/
structure ByteT (P : Program) (t e : TypeId) : Prop where
  ht : P.underlying t = some (.slice e)
  he : P.underlying e = some (.int .u8)
  info : (P.info? e).map (fun i => (i.zero, i.size, i.bytes)) = some (some (.int .u8 0), 1, 1)

/-- the slice value v holds the bytes l, in a row of the call's own blocks (from B on); of the blocks below B nothing has turned since a -/
structure Buf (e : TypeId) (B : Nat) (a w : World) (v : Value) (l : List UInt8) : Prop where
  own : w.ownsRow B e 1 v l.length (Lib.byteCells l)
  bel : Below B a w
  base : B ≤ w.heap.size

theorem Buf.nil {e : TypeId} {B : Nat} {a w : World} (h : Below B a w) (hB : B ≤ w.heap.size) : Buf e B a w (.slice none 0 0) [] := ⟨World.ownsRow_nil _ _ _ _, h, hB⟩
theorem Buf.of_make {e : TypeId} {B : Nat} {a w w' : World} {v : Value} (h : Below B a w) (hB : B ≤ w.heap.size) (ho : w'.ownsRow B e 1 v 0 []) (hg : w.grownBy w' none) : Buf e B a w' v [] :=
  ⟨ho, h.grown hg hB (fun _ h => by cases h), Nat.le_trans hB hg.size⟩
theorem Buf.alloc {e : TypeId} {B : Nat} {a w : World} {v : Value} {l : List UInt8} (h : Buf e B a w v l) (o : Obj) : Buf e B a (w.alloc o) v l :=
  ⟨h.own.alloc o, h.bel.alloc h.base o, by have := h.base; simp; omega⟩
theorem Buf.drew {e : TypeId} {B : Nat} {a w : World} {v : Value} {l : List UInt8} (h : Buf e B a w v l) : Buf e B a w.drew v l := ⟨h.own, h.bel.drew, h.base⟩
theorem Buf.drewN {e : TypeId} {B : Nat} {a w : World} {v : Value} {l : List UInt8} (h : Buf e B a w v l) (n : Nat) : Buf e B a (w.drewN n) v l := ⟨h.own, below_drewN h.bel n, h.base⟩
/-- a buffer that holds something is not nil -/
theorem Buf.form {e : TypeId} {B : Nat} {a w : World} {v : Value} {l : List UInt8} (h : Buf e B a w v l) (hl : l ≠ []) : ∃ g cap, v = .slice (some ⟨g, 0, none⟩) l.length cap ∧ B ≤ g ∧ g < w.heap.size :=
  h.own.form (by cases l with
    | nil => exact absurd rfl hl
    | cons _ _ => simp)
theorem Buf.cells {e : TypeId} {B : Nat} {a w : World} {l : List UInt8} {g n cap : Nat} (h : Buf e B a w (.slice (some ⟨g, 0, none⟩) n cap) l) :
    ∀ j (hj : j < l.length), w.cell? ((⟨g, 0, none⟩ : Addr).add j) = some (.int .u8 (l[j].toNat : Int)) := fun j hj =>
  h.own.cells (g := g) rfl j _ (by simp [Lib.byteCells, hj])

section
variable {P : Program} {t e : TypeId}
theorem app_news {w : World} {b : Nat} {new : List UInt8} {cs : Array Value} (hcs : cs = (Lib.byteCells new).toArray) (hb : w.heap[b]? = some (.cells cs e (0, 0))) :
    ∀ j u, (Lib.byteCells new)[j]? = some u → w.cell? ((⟨b, 0, none⟩ : Addr).add j) = some u := by
  intro j u hu
  have hadd : (⟨b, 0, none⟩ : Addr).add j = ⟨b, j, none⟩ := by unfold Addr.add; split <;> simp_all
  rw [hadd, cell_of_row w b j cs e (0, 0) hb, hcs]
  simpa using hu
theorem own_below {B : Nat} {w : World} {v : Value} {n : Nat} {xs : List Value} (h : w.ownsRow B e 1 v n xs) : ∀ k, v.ownBlock = some k → B ≤ k := fun k hk => (h.lt k hk).1

/-- 'append(v, new..)', new lying whole in a block: what the law on append leaves, for a plain region's list -/
theorem wpList_app (T : ByteT P t e) {B : Nat} {a0 w : World} {ops : Array Oper} {rest : List Oper} {o : Oper} {a : Act} {Q : Exit → Act → World → Prop} (hgd : o.guard = none) (s x : Operand)
    (ho : o.op = .call { callee := .builtin .append, args := #[s, x], argTypes := #[t, t] }) (v : Value) (l : List UInt8) (hs : a.eval s = v) (h0 : Buf e B a0 w v l)
    (b : Nat) (new : List UInt8) (m c : Nat) (hx : a.eval x = .slice (some ⟨b, 0, none⟩) m c) (hm : new.length = m) (h1 : 0 < m) {cs : Array Value} (hcs : cs = (Lib.byteCells new).toArray) (hb : w.heap[b]? = some (.cells cs e (0, 0)))
    (hlim : l.length + m ≤ 140737488355328)
    (h : ∀ v' w', Buf e B a0 w' v' (l ++ new) → wpList P ops Q rest (a.put o.dst v') w') : wpList P ops Q (o :: rest) a w := by
  obtain ⟨i, hi, hz, hz1, hz2⟩ := info_parts T.info
  refine wpList_append_lies w hgd s x t ho B e i (.int .u8 0) 1 1 T.ht hi hz hz1 hz2 rfl (by omega) v l.length (Lib.byteCells l) hs h0.own ⟨b, 0, none⟩ m c (Lib.byteCells new) hx
    (by rw [Lib.byteCells_length]; omega) (app_news hcs hb) (Lib.byteCells_one _) h1 (by unfold maxLen; omega) (by omega) h0.base w.heap.size rfl ?_
  intro g cap w' hown hgrow _ _
  refine h _ _ ⟨?_, h0.bel.grown hgrow h0.base (own_below h0.own), Nat.le_trans h0.base hgrow.size⟩
  rw [Lib.byteCells_append, List.length_append, hm]
  exact hown
/-- the same at a step of a region that draws its order -/
theorem step_app (T : ByteT P t e) {B : Nat} {a0 w : World} {ops : Array Oper} {o : Oper} {a : Act} {K : Act → World → Prop} {Q : Exit → Act → World → Prop} {E : Prop} (hgd : o.guard = none) (s x : Operand)
    (ho : o.op = .call { callee := .builtin .append, args := #[s, x], argTypes := #[t, t] }) (v : Value) (l : List UInt8) (hs : a.eval s = v) (h0 : Buf e B a0 w v l)
    (b : Nat) (new : List UInt8) (m c : Nat) (hx : a.eval x = .slice (some ⟨b, 0, none⟩) m c) (hm : new.length = m) (h1 : 0 < m) {cs : Array Value} (hcs : cs = (Lib.byteCells new).toArray) (hb : w.heap[b]? = some (.cells cs e (0, 0)))
    (hlim : l.length + m ≤ 140737488355328)
    (h : ∀ v' w', Buf e B a0 w' v' (l ++ new) → K (a.put o.dst v') w') : if Region.wanted o (yielded ops a.tmps) = true then Oper.wp P o a w K Q else E := by
  obtain ⟨i, hi, hz, hz1, hz2⟩ := info_parts T.info
  refine step_append_lies w hgd s x t ho B e i (.int .u8 0) 1 1 T.ht hi hz hz1 hz2 rfl (by omega) v l.length (Lib.byteCells l) hs h0.own ⟨b, 0, none⟩ m c (Lib.byteCells new) hx
    (by rw [Lib.byteCells_length]; omega) (app_news hcs hb) (Lib.byteCells_one _) h1 (by unfold maxLen; omega) (by omega) h0.base w.heap.size rfl ?_
  intro g cap w' hown hgrow _ _
  refine h _ _ ⟨?_, h0.bel.grown hgrow h0.base (own_below h0.own), Nat.le_trans h0.base hgrow.size⟩
  rw [Lib.byteCells_append, List.length_append, hm]
  exact hown
end
/-- a slice literal of bytes -/
theorem Buf.new {e : TypeId} {B : Nat} {a w : World} (h : Below B a w) (hB : B ≤ w.heap.size) (l : List UInt8) {cs : Array Value} (hcs : cs = (Lib.byteCells l).toArray) {n : Nat} (hn : n = l.length) (hm : l.length ≤ 140737488355328) :
    Buf e B a (w.alloc (.cells cs e)) (.slice (some ⟨w.heap.size, 0, none⟩) n n) l := by
  subst hn hcs
  refine ⟨⟨by simp [Lib.byteCells], .inr ⟨w.heap.size, l.length, (Lib.byteCells l).toArray, rfl, hB, heap_alloc_new w _, Nat.le_refl _, by unfold maxLen; omega, by simp [Lib.byteCells], ?_⟩⟩, h.alloc hB _, by simp; omega⟩
  rw [List.take_of_length_le (by simp [Lib.byteCells])]
/-- 'string(b)' -/
theorem Buf.text {P : Program} {t e d : TypeId} (T : ByteT P t e) (hd : P.underlying d = some .string) {B : Nat} {a w : World} {v : Value} {l : List UInt8} (h : Buf e B a w v l) :
    (convert t d v).run P w = .ok (.string ⟨l.toArray⟩) w := by
  rcases h.own.2 with ⟨rfl, h0⟩ | ⟨g, cap, cur, rfl, _, hg, _⟩
  · have : l = [] := List.eq_nil_of_length_eq_zero h0
    subst this
    rw [run_convert_bytes_string w t d e none 0 0 T.ht T.he hd]
    rfl
  · exact run_convert_bytes_back (P := P) w t d e ⟨g, 0, none⟩ cap l T.ht T.he hd h.cells
/-- a buffer stands while nothing that is there turns -/
theorem own_more {e : TypeId} {B size : Nat} {w w' : World} {v : Value} {n : Nat} {xs : List Value} (h : w.ownsRow B e size v n xs) (hb : Below w.heap.size w w') : w'.ownsRow B e size v n xs := by
  refine h.kept (row := none) ⟨hb.os, hb.tape, hb.output, hb.size, fun k hk _ => hb.block k hk⟩ ?_
  cases hv : v.ownBlock
  · exact .inl rfl
  · exact .inr (by simp)
theorem Buf.more {e : TypeId} {B : Nat} {a w w' : World} {v : Value} {l : List UInt8} (h : Buf e B a w v l) (hb : Below w.heap.size w w') : Buf e B a w' v l :=
  ⟨own_more h.own hb, h.bel.trans (hb.mono h.base), Nat.le_trans h.base hb.size⟩
theorem below_self {w w' : World} (h : ∃ n, w' = w.drewN n) : Below w.heap.size w w' := by
  obtain ⟨n, rfl⟩ := h
  exact below_drewN (Below.refl _ _) n
theorem isEmpty_no (r : ByteArray) (h : 0 < r.size) : r.toList.isEmpty = false := by
  rw [ByteArray.toList_eq, List.isEmpty_eq_false_iff]
  intro e
  have e := congrArg List.length e
  simp only [Array.length_toList, ByteArray.size_data, List.length_nil] at e
  omega
theorem isEmpty_yes (r : ByteArray) (h : r.size = 0) : r.toList.isEmpty = true := by
  rw [ByteArray.toList_eq, List.isEmpty_iff]
  exact List.eq_nil_of_length_eq_zero (by simp only [Array.length_toList, ByteArray.size_data]; exact h)
/-- the slice value v holds the texts ss, in memory that lies in w -/
def StrL (w : World) (v : Value) (ss : List ByteArray) : Prop :=
  ∃ A c, v = .slice A ss.length c ∧ (ss = [] ∨ ∃ b o, A = some ⟨b, o, none⟩ ∧ b < w.heap.size ∧ ∀ i (h : i < ss.length), w.cell? ⟨b, o + i, none⟩ = some (.string ss[i]))
theorem StrL.more {w w' : World} {v : Value} {ss : List ByteArray} (h : StrL w v ss) (hb : Below w.heap.size w w') : StrL w' v ss := by
  obtain ⟨A, c, rfl, h⟩ := h
  refine ⟨A, c, rfl, ?_⟩
  rcases h with h | ⟨b, o, rfl, hlt, hc⟩
  · exact .inl h
  · exact .inr ⟨b, o, rfl, Nat.lt_of_lt_of_le hlt hb.size, fun i hi => (hb.cell (p := ⟨b, o + i, none⟩) hlt).trans (hc i hi)⟩
theorem StrL.alloc {w : World} {v : Value} {ss : List ByteArray} (h : StrL w v ss) (o : Obj) : StrL (w.alloc o) v ss := h.more ((Below.refl _ _).alloc (Nat.le_refl _) _)
/-! ### a row of texts that the call makes -/
structure StrT (P : Program) (t e : TypeId) : Prop where
  ht : P.underlying t = some (.slice e)
  info : (P.info? e).map (fun i => (i.zero, i.size, i.bytes)) = some (some (.string ⟨#[]⟩), 1, 16)
structure SOwn (e : TypeId) (B : Nat) (w : World) (v : Value) (ss : List ByteArray) : Prop where
  own : w.ownsRow B e 1 v ss.length (ss.map .string)
  base : B ≤ w.heap.size
theorem SOwn.nil {e : TypeId} {B : Nat} {w : World} (hB : B ≤ w.heap.size) : SOwn e B w (.slice none 0 0) [] := ⟨World.ownsRow_nil _ _ _ _, hB⟩
theorem SOwn.more {e : TypeId} {B : Nat} {w w' : World} {v : Value} {ss : List ByteArray} (h : SOwn e B w v ss) (hb : Below w.heap.size w w') : SOwn e B w' v ss :=
  ⟨own_more h.own hb, Nat.le_trans h.base hb.size⟩
theorem SOwn.alloc {e : TypeId} {B : Nat} {w : World} {v : Value} {ss : List ByteArray} (h : SOwn e B w v ss) (o : Obj) : SOwn e B (w.alloc o) v ss := h.more ((Below.refl _ _).alloc (Nat.le_refl _) _)
theorem SOwn.strL {e : TypeId} {B : Nat} {w : World} {v : Value} {ss : List ByteArray} (h : SOwn e B w v ss) : StrL w v ss := by
  cases ss with
  | nil =>
    rcases h.own.2 with ⟨rfl, _⟩ | ⟨g, cap, cur, rfl, _⟩
    · exact ⟨none, 0, rfl, .inl rfl⟩
    · exact ⟨_, cap, rfl, .inl rfl⟩
  | cons x r =>
    obtain ⟨g, cap, rfl, _, hlt⟩ := h.own.form (by simp)
    refine ⟨_, cap, rfl, .inr ⟨g, 0, rfl, hlt, fun i hi => ?_⟩⟩
    have := h.own.cells (g := g) rfl i (.string (x :: r)[i]) (by rw [List.getElem?_map, List.getElem?_eq_getElem hi]; rfl)
    have hadd : (⟨g, 0, none⟩ : Addr).add i = ⟨g, 0 + i, none⟩ := by unfold Addr.add; split <;> simp_all
    rw [← hadd]
    exact this
theorem own_below' {e : TypeId} {size B : Nat} {w : World} {v : Value} {n : Nat} {xs : List Value} (h : w.ownsRow B e size v n xs) : ∀ k, v.ownBlock = some k → B ≤ k := fun k hk => (h.lt k hk).1
section
variable {P : Program} {t e : TypeId}
theorem wpList_sapp (T : StrT P t e) {B : Nat} {w : World} {ops : Array Oper} {rest : List Oper} {o : Oper} {a : Act} {Q : Exit → Act → World → Prop} (hgd : o.guard = none) (s x : Operand)
    (ho : o.op = .call { callee := .builtin .append, args := #[s, x], argTypes := #[t, t] }) (v : Value) (ss : List ByteArray) (hs : a.eval s = v) (h0 : SOwn e B w v ss)
    (b : Nat) (new : ByteArray) (c : Nat) (hx : a.eval x = .slice (some ⟨b, 0, none⟩) 1 c) (hb : w.heap[b]? = some (.cells #[.string new] e (0, 0)))
    (hlim : ss.length ≤ 1000000000)
    (h : ∀ v' w', SOwn e B w' v' (ss ++ [new]) → Below B w w' → wpList P ops Q rest (a.put o.dst v') w') : wpList P ops Q (o :: rest) a w := by
  obtain ⟨i, hi, hz, hz1, hz2⟩ := info_parts T.info
  refine wpList_append_lies w hgd s x t ho B e i (.string ⟨#[]⟩) 1 16 T.ht hi hz hz1 hz2 rfl (by omega) v ss.length (ss.map .string) hs h0.own ⟨b, 0, none⟩ 1 c [.string new] hx
    rfl ?_ (by intro u hu; simp at hu; subst hu; rfl) (by omega) (by unfold maxLen; omega) (by omega) h0.base w.heap.size rfl ?_
  · intro j u hu
    match j, hu with
    | 0, hu =>
      simp at hu
      subst hu
      have hadd : (⟨b, 0, none⟩ : Addr).add 0 = ⟨b, 0, none⟩ := by simp [Addr.add]
      rw [hadd, cell_of_row w b 0 #[.string new] e (0, 0) hb]
      rfl
  · intro g cap w' hown hgrow _ _
    refine h _ _ ⟨?_, Nat.le_trans h0.base hgrow.size⟩ ((Below.refl B w).grown hgrow h0.base (own_below' h0.own))
    rw [List.map_append, List.length_append]
    exact hown
end
section
variable {P : Program} {t e d : TypeId}
/-- 'append(v, s...)', s a text -/
theorem wpList_appstr (T : ByteT P t e) (hd : P.underlying d = some .string) {B : Nat} {a0 w : World} {ops : Array Oper} {rest : List Oper} {o : Oper} {a : Act} {Q : Exit → Act → World → Prop} (hgd : o.guard = none) (s x : Operand)
    (ho : o.op = .call { callee := .builtin .append, args := #[s, x], argTypes := #[t, d] }) (v : Value) (l : List UInt8) (hs : a.eval s = v) (h0 : Buf e B a0 w v l)
    (new : ByteArray) (hx : a.eval x = .string new) (hlim : l.length + new.size ≤ 140737488355328)
    (h : ∀ v' w', Buf e B a0 w' v' (l ++ new.data.toList) → wpList P ops Q rest (a.put o.dst v') w') : wpList P ops Q (o :: rest) a w := by
  obtain ⟨i, hi, hz, hz1, hz2⟩ := info_parts T.info
  refine Lib.wpList_append_own_string w hgd s x t d ho B e i T.ht hd hi hz hz1 hz2 v l.length (Lib.byteCells l) hs h0.own new hx (by unfold maxLen; omega) (by omega) h0.base ?_
  intro v' w' hown hgrow _
  refine h _ _ ⟨?_, h0.bel.grown hgrow h0.base (own_below h0.own), Nat.le_trans h0.base hgrow.size⟩
  have e1 : Lib.strCells new = Lib.byteCells new.data.toList := by simp [Lib.strCells, Lib.byteCells]
  rw [Lib.byteCells_append, List.length_append, ← e1]
  have e2 : new.data.toList.length = new.size := by simp
  rw [e2]
  exact hown
end
end Go.Proofs.YtfgmlbmjjihhfaaGreatDoor

/- Plain facts on days and dates: integers alone; nothing of the program. -/
namespace Go.Proofs.YtfgmlbmjjihhfaaGreatDoor

/-- the days of a month, before a year, before a month of a year -/
def lenP (y m : Int) : Int := if m = 4 ∨ m = 6 ∨ m = 9 ∨ m = 11 then 30 else if m = 2 then (if y % 4 = 0 then 29 else 28) else 31
def ysP (y : Int) : Int := (1461 * (y - 2000) + 3) / 4
def lp (y : Int) : Int := if y % 4 = 0 then 1 else 0
def befP (y m : Int) : Int := if m ≤ 1 then 0 else if m = 2 then 31 else (153 * (m - 3) + 2) / 5 + 59 + lp y
theorem lp_two (y : Int) : lp y = 0 ∨ lp y = 1 := by unfold lp; split <;> simp
theorem len_lp (y m : Int) : lenP y m = if m = 4 ∨ m = 6 ∨ m = 9 ∨ m = 11 then 30 else if m = 2 then 28 + lp y else 31 := by
  unfold lenP lp; split
  · rfl
  · split
    · split <;> rfl
    · rfl
theorem len_range (y m : Int) : 28 ≤ lenP y m ∧ lenP y m ≤ 31 := by
  rw [len_lp]; have := lp_two y
  split
  · omega
  · split <;> omega
theorem bef_one (y : Int) : befP y 1 = 0 := by simp [befP]
theorem bef_next (y m : Int) (h1 : 1 ≤ m) (h2 : m ≤ 12) : befP y (m + 1) = befP y m + lenP y m := by
  have h : m = 1 ∨ m = 2 ∨ m = 3 ∨ m = 4 ∨ m = 5 ∨ m = 6 ∨ m = 7 ∨ m = 8 ∨ m = 9 ∨ m = 10 ∨ m = 11 ∨ m = 12 := by omega
  rw [len_lp]
  rcases h with rfl | rfl | rfl | rfl | rfl | rfl | rfl | rfl | rfl | rfl | rfl | rfl <;> simp [befP] <;> omega
theorem bef_all (y : Int) : befP y 13 = 365 + lp y := by
  have e : befP y 13 = (153 * (13 - 3) + 2) / 5 + 59 + lp y := by simp [befP]
  rw [e]; omega
theorem ys_next (y : Int) : ysP (y + 1) = ysP y + befP y 13 := by
  rw [bef_all]
  have h : y % 4 = 0 ∨ y % 4 = 1 ∨ y % 4 = 2 ∨ y % 4 = 3 := by omega
  unfold ysP lp
  rcases h with h | h | h | h <;> simp only [h] <;> simp <;> omega
theorem ys_first : ysP 2000 = 0 := by decide
theorem ys_last : ysP 2100 = 36525 := by decide
theorem ys_mono (y z : Int) (h : y ≤ z) : ysP y ≤ ysP z := by unfold ysP; omega
theorem bef_mono (y m k : Int) (h1 : 1 ≤ m) (h2 : m ≤ k) (h3 : k ≤ 13) : befP y m ≤ befP y k := by
  have := lp_two y
  unfold befP
  split <;> split <;> (try split) <;> (try split) <;> omega
theorem bef_lt (y m k : Int) (h1 : 1 ≤ m) (h2 : m < k) (h3 : k ≤ 13) : befP y m + lenP y m ≤ befP y k := by
  rw [← bef_next y m h1 (by omega)]
  exact bef_mono y _ _ (by omega) (by omega) h3

/-- a date that there is; its day; the day of a date or the error -/
def okP (y m d : Int) : Bool := decide (2000 ≤ y ∧ y ≤ 2099 ∧ 1 ≤ m ∧ m ≤ 12 ∧ 1 ≤ d ∧ d ≤ lenP y m)
def numP (y m d : Int) : Int := ysP y + befP y m + d - 1
def dayR (y m d : Int) : Int × Int := if okP y m d then (numP y m d, 0) else (0, 12)
theorem ok_yes {y m d : Int} (h : okP y m d = true) : 2000 ≤ y ∧ y ≤ 2099 ∧ 1 ≤ m ∧ m ≤ 12 ∧ 1 ≤ d ∧ d ≤ lenP y m := by simpa [okP] using h
theorem ok_mk {y m d : Int} (h : 2000 ≤ y ∧ y ≤ 2099 ∧ 1 ≤ m ∧ m ≤ 12 ∧ 1 ≤ d ∧ d ≤ lenP y m) : okP y m d = true := by simpa [okP] using h
theorem ok_not {y m d : Int} (h : y < 2000 ∨ 2099 < y ∨ m < 1 ∨ 12 < m ∨ d < 1 ∨ lenP y m < d) : okP y m d = false := by
  cases hk : okP y m d
  · rfl
  · have := ok_yes hk; omega
/-- where a date's day lies: in its year, in its month -/
theorem num_in {y m d : Int} (h : okP y m d = true) : ysP y ≤ numP y m d ∧ numP y m d < ysP (y + 1) ∧ befP y m ≤ numP y m d - ysP y ∧ numP y m d - ysP y < befP y m + lenP y m ∧ 0 ≤ numP y m d ∧ numP y m d < 36525 := by
  obtain ⟨h1, h2, h3, h4, h5, h6⟩ := ok_yes h
  have a := bef_lt y m 13 h3 (by omega) (by omega)
  have b := bef_mono y 1 m (by omega) h3 (by omega)
  rw [bef_one] at b
  have c := ys_next y
  have e := ys_mono 2000 y h1
  have f := ys_mono (y + 1) 2100 (by omega)
  rw [ys_first] at e
  rw [ys_last] at f
  unfold numP
  omega
theorem num_inj {y m d y' m' d' : Int} (h : okP y m d = true) (h' : okP y' m' d' = true) (he : numP y m d = numP y' m' d') : y = y' ∧ m = m' ∧ d = d' := by
  have a := num_in h
  have a' := num_in h'
  obtain ⟨h1, h2, h3, h4, h5, h6⟩ := ok_yes h
  obtain ⟨h1', h2', h3', h4', h5', h6'⟩ := ok_yes h'
  have ey : y = y' := by
    rcases Int.lt_trichotomy y y' with c | c | c
    · have := ys_mono (y + 1) y' (by omega); omega
    · exact c
    · have := ys_mono (y' + 1) y (by omega); omega
  subst ey
  have em : m = m' := by
    rcases Int.lt_trichotomy m m' with c | c | c
    · have := bef_lt y m m' h3 c (by omega); omega
    · exact c
    · have := bef_lt y m' m h3' c (by omega); omega
  subst em
  unfold numP at he
  exact ⟨rfl, rfl, by omega⟩
/-- the year, the month and the day of the month of a day -/
def yOf (n : Int) : Int := 2000 + 4 * n / 1461
def mOf (y r : Int) : Int := if r < befP y 2 then 1 else if r < befP y 3 then 2 else if r < befP y 4 then 3 else if r < befP y 5 then 4 else if r < befP y 6 then 5 else if r < befP y 7 then 6
  else if r < befP y 8 then 7 else if r < befP y 9 then 8 else if r < befP y 10 then 9 else if r < befP y 11 then 10 else if r < befP y 12 then 11 else 12
theorem yOf_in (n : Int) : ysP (yOf n) ≤ n ∧ n < ysP (yOf n + 1) := by unfold ysP yOf; omega
theorem mOf_in (y r : Int) (h0 : 0 ≤ r) (h1 : r < befP y 13) : 1 ≤ mOf y r ∧ mOf y r ≤ 12 ∧ befP y (mOf y r) ≤ r ∧ r < befP y (mOf y r + 1) := by
  unfold mOf
  repeat' split
  all_goals first | (refine ⟨by omega, by omega, ?_, ?_⟩ <;> simp [befP] at * <;> omega) | skip
def dateOf (n : Int) : Int × Int × Int := (yOf n, mOf (yOf n) (n - ysP (yOf n)), n - ysP (yOf n) - befP (yOf n) (mOf (yOf n) (n - ysP (yOf n))) + 1)
def isDayB (n : Int) : Bool := decide (0 ≤ n ∧ n < 36525)
def dateR (n : Int) : Int × Int × Int := if isDayB n then dateOf n else (0, 0, 0)
theorem date_ok (n : Int) (h0 : 0 ≤ n) (h1 : n < 36525) : okP (dateOf n).1 (dateOf n).2.1 (dateOf n).2.2 = true ∧ numP (dateOf n).1 (dateOf n).2.1 (dateOf n).2.2 = n := by
  have a := yOf_in n
  rw [ys_next] at a
  have b := mOf_in (yOf n) (n - ysP (yOf n)) (by omega) (by omega)
  have c := bef_next (yOf n) (mOf (yOf n) (n - ysP (yOf n))) b.1 b.2.1
  refine ⟨ok_mk ?_, ?_⟩
  · simp only [dateOf]
    have : 2000 ≤ yOf n ∧ yOf n ≤ 2099 := by unfold yOf; omega
    omega
  · simp only [dateOf, numP]; omega
theorem date_of {n y m d : Int} (h : okP y m d = true) (hn : numP y m d = n) : dateR n = (y, m, d) := by
  have a := num_in h
  have h0 : 0 ≤ n ∧ n < 36525 := by omega
  obtain ⟨h1, h2⟩ := date_ok n h0.1 h0.2
  obtain ⟨e1, e2, e3⟩ := num_inj h1 h (by rw [h2, hn])
  rw [dateR, if_pos (by simp [isDayB, h0])]
  exact Prod.ext e1 (Prod.ext e2 e3)
theorem date_in {n : Int} (h : isDayB n = true) : okP (dateR n).1 (dateR n).2.1 (dateR n).2.2 = true ∧ numP (dateR n).1 (dateR n).2.1 (dateR n).2.2 = n := by
  have h' : 0 ≤ n ∧ n < 36525 := by simpa [isDayB] using h
  rw [dateR, if_pos h]
  exact date_ok n h'.1 h'.2
theorem date_out {n : Int} (h : isDayB n = false) : dateR n = (0, 0, 0) := by simp [dateR, h]
theorem day_date (n : Int) : dayR (dateR n).1 (dateR n).2.1 (dateR n).2.2 = if isDayB n then (n, 0) else (0, 12) := by
  cases h : isDayB n
  · rw [date_out h]; rfl
  · obtain ⟨a, b⟩ := date_in h
    rw [dayR, if_pos a, b]; rfl
theorem day_back {n : Int} {y m d : Int} (h : dayR y m d = (n, 0)) : isDayB n = true ∧ dateR n = (y, m, d) := by
  unfold dayR at h
  split at h
  · rename_i hk
    have e : numP y m d = n := by simpa using h
    have a := num_in hk
    exact ⟨by simp [isDayB]; omega, date_of hk e⟩
  · simp at h

end Go.Proofs.YtfgmlbmjjihhfaaGreatDoor

/- Walks of the small functions of package calendar, beside the reference's. -/
namespace Go.Proofs.YtfgmlbmjjihhfaaGreatDoor
open Go.RowKit
set_option linter.unusedSimpArgs false
set_option linter.unusedVariables false

theorem ret_pair {k j : IntKind} {a b c d : Int} (h : a = b) (h2 : c = d) : Ending.returned (.tuple #[.int k a, .int j c]) = .returned (.tuple #[.int k b, .int j d]) := by rw [h, h2]

/-- how the program's own division rounds -/
theorem tdiv_pos (a b : Int) (h : 0 ≤ a) : a.tdiv b = a / b := Int.tdiv_eq_ediv_of_nonneg h
theorem tmod_pos (a b : Int) (h : 0 ≤ a) : a.tmod b = a % b := Int.tmod_eq_emod_of_nonneg h

set_option maxHeartbeats 400000 in
theorem isDay_any (a : Int) (w : World) : Calls Tryz.prog 171 #[.int .i64 a] w fun e w' => e = .returned (.bool (isDayB a)) ∧ w = w' := by
  by_cases h1 : (0 : Int) ≤ a
  · go_enter Tryz.func171, Tryz.ntmps171
    go_wp2
    go_ret
    exact ⟨ret_bool (by simp [isDayB]; omega), rfl⟩
  · go_enter Tryz.func171, Tryz.ntmps171
    go_wp2
    go_ret
    exact ⟨ret_bool (by simp [isDayB]; omega), rfl⟩
set_option maxHeartbeats 400000 in
theorem yearStart_any (y : Int) (w : World) (h0 : 2000 ≤ y) (h1 : y ≤ 2100) : Calls Tryz.prog 208 #[.int .i64 y] w fun e w' => e = .returned (.int .i64 (ysP y)) ∧ w = w' := by
  go_enter Tryz.func208, Tryz.ntmps208
  go_wp2
  go_ret
  exact ⟨ret_int (by rfl), rfl⟩
/-- the days of the months, as the program lays them -/
def lensA (y : Int) : Array Value := #[.int .i64 31, .int .i64 (28 + lp y), .int .i64 31, .int .i64 30, .int .i64 31, .int .i64 30, .int .i64 31, .int .i64 31, .int .i64 30, .int .i64 31, .int .i64 30, .int .i64 31]
theorem lensA_at (y : Int) (i : Nat) (h : i < 12) : (lensA y)[i]? = some (.int .i64 (lenP y ((i : Int) + 1))) := by
  have : i = 0 ∨ i = 1 ∨ i = 2 ∨ i = 3 ∨ i = 4 ∨ i = 5 ∨ i = 6 ∨ i = 7 ∨ i = 8 ∨ i = 9 ∨ i = 10 ∨ i = 11 := by omega
  rw [len_lp]
  rcases this with rfl | rfl | rfl | rfl | rfl | rfl | rfl | rfl | rfl | rfl | rfl | rfl <;> rfl
theorem lensA_size (y : Int) : (lensA y).size = 12 := rfl
set_option maxHeartbeats 400000 in
theorem months_any (y : Int) (w : World) (h0 : 2000 ≤ y) (h1 : y ≤ 2100) :
    Calls Tryz.prog 209 #[.int .i64 y] w fun e w' => e = .returned (.agg (lensA y)) ∧ w' = (w.alloc (.cells (lensA y) 224)).alloc (.cells (lensA y) 224) := by
  by_cases h : y % 4 = 0
  · have hl : lp y = 1 := by simp [lp, h]
    have ha : Hid (lensA y = #[.int .i64 31, .int .i64 29, .int .i64 31, .int .i64 30, .int .i64 31, .int .i64 30, .int .i64 31, .int .i64 31, .int .i64 30, .int .i64 31, .int .i64 30, .int .i64 31]) := Lib.hid (by simp [lensA, hl])
    clear hl
    go_enter Tryz.func209, Tryz.ntmps209
    go_wp2
    refine bodyPost_ret (v := .agg (lensA y)) ?_ rfl ⟨rfl, ?_⟩
    · rw [ha.out]; simp [results, Tryz.results209, go_sem]
    · rw [ha.out]
  · have hl : lp y = 0 := by simp [lp, h]
    have ha : Hid (lensA y = #[.int .i64 31, .int .i64 28, .int .i64 31, .int .i64 30, .int .i64 31, .int .i64 30, .int .i64 31, .int .i64 31, .int .i64 30, .int .i64 31, .int .i64 30, .int .i64 31]) := Lib.hid (by simp [lensA, hl])
    clear hl
    go_enter Tryz.func209, Tryz.ntmps209
    go_wp2
    refine bodyPost_ret (v := .agg (lensA y)) ?_ rfl ⟨rfl, ?_⟩
    · rw [ha.out]; simp [results, Tryz.results209, go_sem]
    · rw [ha.out]

end Go.Proofs.YtfgmlbmjjihhfaaGreatDoor

/- Plain facts on digits, dates and times as text: lists of bytes alone; nothing of the program. -/
namespace Go.Proofs.YtfgmlbmjjihhfaaGreatDoor
set_option linter.unusedSimpArgs false
set_option linter.unusedVariables false

def digB (c : UInt8) : Bool := decide (48 ≤ (c.toNat : Int) ∧ (c.toNat : Int) ≤ 57)
theorem dig_nat {c : UInt8} (h : digB c = true) : 48 ≤ (c.toNat : Int) ∧ (c.toNat : Int) ≤ 57 := by simpa [digB] using h
/-- whether a text is like a pattern, in which 48 stands for any digit -/
def oneB (c q : UInt8) : Bool := if q = 48 then digB c else c == q
def fitsB : List UInt8 → List UInt8 → Bool
  | [], [] => true
  | c :: r, q :: t => oneB c q && fitsB r t
  | _, _ => false
theorem fits_len : ∀ (l p : List UInt8), fitsB l p = true → l.length = p.length
  | [], [], _ => rfl
  | [], _ :: _, h => by simp [fitsB] at h
  | _ :: _, [], h => by simp [fitsB] at h
  | c :: r, q :: t, h => by
    have h' : oneB c q = true ∧ fitsB r t = true := by simpa [fitsB] using h
    simp [fits_len r t h'.2]
theorem fits_no (l p : List UInt8) (h : l.length ≠ p.length) : fitsB l p = false := by
  cases hf : fitsB l p
  · rfl
  · exact absurd (fits_len l p hf) h
theorem fits_step (l p : List UInt8) (k : Nat) (h : k < l.length) (h2 : k < p.length) : fitsB (l.drop k) (p.drop k) = (oneB l[k] p[k] && fitsB (l.drop (k + 1)) (p.drop (k + 1))) := by
  rw [List.drop_eq_getElem_cons h, List.drop_eq_getElem_cons h2, fitsB]
theorem fits_end (l p : List UInt8) (h : l.length = p.length) (k : Nat) (hk : l.length ≤ k) : fitsB (l.drop k) (p.drop k) = true := by
  rw [List.drop_eq_nil_of_le hk, List.drop_eq_nil_of_le (by omega), fitsB]
/-- the number of a few digits -/
def numL (a : Int) (l : List UInt8) : Int := l.foldl (fun a c => 10 * a + ((c.toNat : Int) - 48)) a
theorem numL_nil (a : Int) : numL a [] = a := rfl
theorem numL_cons (a : Int) (c : UInt8) (r : List UInt8) : numL a (c :: r) = numL (10 * a + ((c.toNat : Int) - 48)) r := rfl
theorem numL_step (a : Int) (l : List UInt8) (k : Nat) (h : k < l.length) : numL a (l.drop k) = numL (10 * a + ((l[k].toNat : Int) - 48)) (l.drop (k + 1)) := by
  rw [List.drop_eq_getElem_cons h, numL_cons]
theorem numL_end (a : Int) (l : List UInt8) (k : Nat) (h : l.length ≤ k) : numL a (l.drop k) = a := by
  rw [List.drop_eq_nil_of_le h, numL_nil]

/-- two digits -/
def d1 (n : Int) : UInt8 := UInt8.ofNat (48 + n / 10).toNat
def d2 (n : Int) : UInt8 := UInt8.ofNat (48 + n % 10).toNat
def twoL (n : Int) : List UInt8 := [d1 n, d2 n]
theorem d1_nat (n : Int) (h0 : 0 ≤ n) (h1 : n ≤ 99) : ((d1 n).toNat : Int) = 48 + n / 10 := by
  rw [d1, UInt8.toNat_ofNat']; omega
theorem d2_nat (n : Int) (h0 : 0 ≤ n) (h1 : n ≤ 99) : ((d2 n).toNat : Int) = 48 + n % 10 := by
  rw [d2, UInt8.toNat_ofNat']; omega
theorem dig_d1 (n : Int) (h0 : 0 ≤ n) (h1 : n ≤ 99) : digB (d1 n) = true := by
  have := d1_nat n h0 h1; simp [digB]; omega
theorem dig_d2 (n : Int) (h0 : 0 ≤ n) (h1 : n ≤ 99) : digB (d2 n) = true := by
  have := d2_nat n h0 h1; simp [digB]; omega
theorem two_back {a b : UInt8} (ha : digB a = true) (hb : digB b = true) (n : Int) (hn : n = 10 * ((a.toNat : Int) - 48) + ((b.toNat : Int) - 48)) : twoL n = [a, b] := by
  have h1 := dig_nat ha
  have h2 := dig_nat hb
  have e1 := d1_nat n (by omega) (by omega)
  have e2 := d2_nat n (by omega) (by omega)
  have f1 : d1 n = a := UInt8.toNat_inj.1 (by omega)
  have f2 : d2 n = b := UInt8.toNat_inj.1 (by omega)
  rw [twoL, f1, f2]
/-- a day's date as text, a minute as text -/
def dateL (y m d : Int) : List UInt8 := twoL (y / 100) ++ twoL (y % 100) ++ [45] ++ twoL m ++ [45] ++ twoL d
def printL (n : Int) : List UInt8 := if isDayB n then dateL (dateR n).1 (dateR n).2.1 (dateR n).2.2 else []
def isMinB (n : Int) : Bool := decide (0 ≤ n ∧ n < 1440)
def clockL (n : Int) : List UInt8 := if isMinB n then twoL (n / 60) ++ [58] ++ twoL (n % 60) else []
/-- the texts' patterns; how they are read -/
def patD : List UInt8 := [48, 48, 48, 48, 45, 48, 48, 45, 48, 48]
def patM : List UInt8 := [48, 48, 58, 48, 48]
def parseP (l : List UInt8) : Int × Int := if fitsB l patD then dayR (numL 0 (l.take 4)) (numL 0 ((l.drop 5).take 2)) (numL 0 (l.drop 8)) else (0, 3)
def minP (l : List UInt8) : Int × Int :=
  if fitsB l patM then (if numL 0 (l.take 2) ≤ 23 ∧ numL 0 (l.drop 3) ≤ 59 then (numL 0 (l.take 2) * 60 + numL 0 (l.drop 3), 0) else (0, 13)) else (0, 3)
theorem len_ten (l : List UInt8) (h : l.length = 10) : ∃ a b c d e f g h i j, l = [a, b, c, d, e, f, g, h, i, j] := by
  match l, h with
  | [a, b, c, d, e, f, g, h, i, j], _ => exact ⟨a, b, c, d, e, f, g, h, i, j, rfl⟩
theorem len_five (l : List UInt8) (h : l.length = 5) : ∃ a b c d e, l = [a, b, c, d, e] := by
  match l, h with
  | [a, b, c, d, e], _ => exact ⟨a, b, c, d, e, rfl⟩
theorem fits_date {a b c d e f g h i j : UInt8} : fitsB [a, b, c, d, e, f, g, h, i, j] patD = (digB a && (digB b && (digB c && (digB d && (e == 45 && (digB f && (digB g && (h == 45 && (digB i && digB j))))))))) := by
  simp [fitsB, patD, oneB]
theorem fits_min {a b c d e : UInt8} : fitsB [a, b, c, d, e] patM = (digB a && (digB b && (c == 58 && (digB d && digB e)))) := by
  simp [fitsB, patM, oneB]
/-- what is read is what is written -/
theorem parse_back {l : List UInt8} {n : Int} (h : parseP l = (n, 0)) : printL n = l := by
  unfold parseP at h
  split at h
  · rename_i hf
    have hl : l.length = 10 := fits_len _ _ hf
    obtain ⟨a, b, c, d, e, f, g, h', i, j, rfl⟩ := len_ten l hl
    rw [fits_date] at hf
    simp only [Bool.and_eq_true, beq_iff_eq] at hf
    obtain ⟨ha, hb, hc, hd, rfl, hf', hg, rfl, hi, hj⟩ := hf
    obtain ⟨hn, hR⟩ := day_back h
    have := dig_nat ha
    have := dig_nat hb
    have := dig_nat hc
    have := dig_nat hd
    rw [printL, if_pos hn, hR]
    simp only [List.take_succ_cons, List.take_zero, List.drop_succ_cons, List.drop_zero, numL_cons, numL_nil, dateL]
    rw [two_back ha hb _ (by omega), two_back hc hd _ (by omega), two_back hf' hg _ (by omega), two_back hi hj _ (by omega)]
    rfl
  · simp at h
theorem num_two (n : Int) (h0 : 0 ≤ n) (h1 : n ≤ 99) : numL 0 (twoL n) = n := by
  have := d1_nat n h0 h1
  have := d2_nat n h0 h1
  simp only [twoL, numL_cons, numL_nil]
  omega
theorem parse_print (n : Int) : parseP (printL n) = if isDayB n then (n, 0) else (0, 3) := by
  cases hn : isDayB n
  · rw [printL, hn]; rfl
  · obtain ⟨hk, hN⟩ := date_in hn
    obtain ⟨y, m, d, hR⟩ : ∃ y m d, dateR n = (y, m, d) := ⟨_, _, _, rfl⟩
    have hD := day_date n
    rw [hR] at hk hD
    rw [if_pos hn] at hD
    obtain ⟨y0, y1, m0, m1, d0, d1'⟩ : 2000 ≤ y ∧ y ≤ 2099 ∧ 1 ≤ m ∧ m ≤ 12 ∧ 1 ≤ d ∧ d ≤ lenP y m := ok_yes hk
    have hl := len_range y m
    have a1 := d1_nat (y / 100) (by omega) (by omega)
    have a2 := d2_nat (y / 100) (by omega) (by omega)
    have a3 := d1_nat (y % 100) (by omega) (by omega)
    have a4 := d2_nat (y % 100) (by omega) (by omega)
    have hf : fitsB (dateL y m d) patD = true := by
      show fitsB [d1 (y / 100), d2 (y / 100), d1 (y % 100), d2 (y % 100), 45, d1 m, d2 m, 45, d1 d, d2 d] patD = true
      rw [fits_date, dig_d1 _ (by omega) (by omega), dig_d2 _ (by omega) (by omega), dig_d1 _ (by omega) (by omega), dig_d2 _ (by omega) (by omega), dig_d1 _ (by omega) (by omega), dig_d2 _ (by omega) (by omega), dig_d1 _ (by omega) (by omega), dig_d2 _ (by omega) (by omega)]
      rfl
    have e1 : (dateL y m d).take 4 = [d1 (y / 100), d2 (y / 100), d1 (y % 100), d2 (y % 100)] := rfl
    have e2 : ((dateL y m d).drop 5).take 2 = twoL m := rfl
    have e3 : (dateL y m d).drop 8 = twoL d := rfl
    have e4 : numL 0 [d1 (y / 100), d2 (y / 100), d1 (y % 100), d2 (y % 100)] = y := by simp only [numL_cons, numL_nil]; omega
    rw [printL, if_pos hn, hR]
    show parseP (dateL y m d) = _
    rw [parseP, if_pos hf, e1, e2, e3, e4, num_two m (by omega) (by omega), num_two d (by omega) (by omega)]
    exact hD
theorem min_back {l : List UInt8} {n : Int} (h : minP l = (n, 0)) : clockL n = l := by
  unfold minP at h
  split at h
  · rename_i hf
    have hl : l.length = 5 := fits_len _ _ hf
    obtain ⟨a, b, c, d, e, rfl⟩ := len_five l hl
    rw [fits_min] at hf
    simp only [Bool.and_eq_true, beq_iff_eq] at hf
    obtain ⟨ha, hb, rfl, hd, he⟩ := hf
    have := dig_nat ha
    have := dig_nat hb
    have := dig_nat hd
    have := dig_nat he
    split at h
    · rename_i hk
      simp only [List.take_succ_cons, List.take_zero, List.drop_succ_cons, List.drop_zero, numL_cons, numL_nil] at hk h
      have hn : n = (10 * (10 * 0 + ((a.toNat : Int) - 48)) + ((b.toNat : Int) - 48)) * 60 + (10 * (10 * 0 + ((d.toNat : Int) - 48)) + ((e.toNat : Int) - 48)) := (congrArg Prod.fst h).symm
      rw [clockL, if_pos (by simp [isMinB]; omega), two_back ha hb _ (by omega), two_back hd he _ (by omega)]
      rfl
    · simp at h
  · simp at h
theorem min_clock (n : Int) : minP (clockL n) = if isMinB n then (n, 0) else (0, 3) := by
  cases hn : isMinB n
  · rw [clockL, hn]; rfl
  · have h : 0 ≤ n ∧ n < 1440 := by simpa [isMinB] using hn
    have hf : fitsB (twoL (n / 60) ++ [58] ++ twoL (n % 60)) patM = true := by
      show fitsB [d1 (n / 60), d2 (n / 60), 58, d1 (n % 60), d2 (n % 60)] patM = true
      rw [fits_min, dig_d1 _ (by omega) (by omega), dig_d2 _ (by omega) (by omega), dig_d1 _ (by omega) (by omega), dig_d2 _ (by omega) (by omega)]
      rfl
    have e1 : (twoL (n / 60) ++ [58] ++ twoL (n % 60)).take 2 = twoL (n / 60) := rfl
    have e2 : (twoL (n / 60) ++ [58] ++ twoL (n % 60)).drop 3 = twoL (n % 60) := rfl
    rw [clockL, if_pos hn, minP, if_pos hf, e1, e2, num_two _ (by omega) (by omega), num_two _ (by omega) (by omega), if_pos (by omega)]
    simp
    omega

/-- the reference's number of digits, or -1 -/
def digR (l : List UInt8) (a n : Nat) : Int := if ((l.drop a).take n).all digB then numL 0 ((l.drop a).take n) else -1
theorem numL_pos : ∀ (l : List UInt8) (a : Int), 0 ≤ a → l.all digB = true → 0 ≤ numL a l
  | [], a, h, _ => h
  | c :: r, a, h, hd => by
    have hd' : digB c = true ∧ r.all digB = true := by simpa using hd
    have := dig_nat hd'.1
    rw [numL_cons]
    exact numL_pos r _ (by omega) hd'.2
theorem digR_neg (l : List UInt8) (a n : Nat) : digR l a n < 0 ↔ ((l.drop a).take n).all digB = false := by
  unfold digR
  split
  · rename_i h
    have := numL_pos _ 0 (by omega) h
    rw [h]
    simp
    omega
  · rename_i h
    simp only [Bool.not_eq_true] at h
    rw [h]
    simp
theorem digR_ge (l : List UInt8) (a n : Nat) : -1 ≤ digR l a n := by
  unfold digR
  split
  · rename_i h
    have := numL_pos _ 0 (by omega) h
    omega
  · omega
theorem digR_yes {l : List UInt8} {a n : Nat} (h : ¬ digR l a n < 0) : ((l.drop a).take n).all digB = true ∧ digR l a n = numL 0 ((l.drop a).take n) := by
  have h1 : ((l.drop a).take n).all digB = true := by
    cases hc : ((l.drop a).take n).all digB
    · exact absurd ((digR_neg l a n).2 hc) h
    · rfl
  exact ⟨h1, by rw [digR, if_pos h1]⟩
theorem rparse_len {l : List UInt8} (h : l.length ≠ 10) : parseP l = (0, 3) := by
  rw [parseP, fits_no _ _ (by simpa [patD] using h)]; rfl
theorem rparse_hy {l : List UInt8} (h : l.length = 10) (h2 : l[4] ≠ 45 ∨ l[7] ≠ 45) : parseP l = (0, 3) := by
  obtain ⟨a, b, c, d, e, f, g, h', i, j, rfl⟩ := len_ten l h
  have hf : fitsB [a, b, c, d, e, f, g, h', i, j] patD = false := by
    rw [fits_date]
    rcases h2 with h2 | h2
    · have : (e == 45) = false := by rw [beq_eq_false_iff_ne]; exact h2
      simp [this]
    · have : (h' == 45) = false := by rw [beq_eq_false_iff_ne]; exact h2
      simp [this]
  rw [parseP, hf]; rfl
theorem rparse_neg {l : List UInt8} (h : l.length = 10) (h2 : digR l 0 4 < 0 ∨ digR l 5 2 < 0 ∨ digR l 8 2 < 0) : parseP l = (0, 3) := by
  simp only [digR_neg] at h2
  obtain ⟨a, b, c, d, e, f, g, h', i, j, rfl⟩ := len_ten l h
  have hf : fitsB [a, b, c, d, e, f, g, h', i, j] patD = false := by
    rw [fits_date]
    cases hc : (digB a && (digB b && (digB c && (digB d && (e == 45 && (digB f && (digB g && (h' == 45 && (digB i && digB j)))))))))
    · rfl
    · simp only [Bool.and_eq_true] at hc
      obtain ⟨ha, hb, hc, hd, _, hf, hg, _, hi, hj⟩ := hc
      rcases h2 with h2 | h2 | h2 <;> simp [ha, hb, hc, hd, hf, hg, hi, hj] at h2
  rw [parseP, hf]; rfl
theorem rparse_ok {l : List UInt8} (h : l.length = 10) (h4 : l[4] = 45) (h7 : l[7] = 45) (hy : ¬ digR l 0 4 < 0) (hm : ¬ digR l 5 2 < 0) (hd : ¬ digR l 8 2 < 0) :
    parseP l = dayR (digR l 0 4) (digR l 5 2) (digR l 8 2) := by
  obtain ⟨y1, y2⟩ := digR_yes hy
  obtain ⟨m1, m2⟩ := digR_yes hm
  obtain ⟨d1, d2⟩ := digR_yes hd
  rw [y2, m2, d2]
  clear hy hm hd y2 m2 d2
  obtain ⟨a, b, c, d, e, f, g, h', i, j, rfl⟩ := len_ten l h
  simp at y1 m1 d1 h4 h7
  have hf : fitsB [a, b, c, d, e, f, g, h', i, j] patD = true := by
    rw [fits_date]; simp [y1, m1, d1, h4, h7]
  rw [parseP, if_pos hf]; rfl
theorem rmin_len {l : List UInt8} (h : l.length ≠ 5) : minP l = (0, 3) := by
  rw [minP, fits_no _ _ (by simpa [patM] using h)]; rfl
theorem rmin_hy {l : List UInt8} (h : l.length = 5) (h2 : l[2] ≠ 58) : minP l = (0, 3) := by
  obtain ⟨a, b, c, d, e, rfl⟩ := len_five l h
  have hf : fitsB [a, b, c, d, e] patM = false := by
    rw [fits_min]
    have : (c == 58) = false := by rw [beq_eq_false_iff_ne]; exact h2
    simp [this]
  rw [minP, hf]; rfl
theorem rmin_neg {l : List UInt8} (h : l.length = 5) (h2 : digR l 0 2 < 0 ∨ digR l 3 2 < 0) : minP l = (0, 3) := by
  simp only [digR_neg] at h2
  obtain ⟨a, b, c, d, e, rfl⟩ := len_five l h
  have hf : fitsB [a, b, c, d, e] patM = false := by
    rw [fits_min]
    cases hc : (digB a && (digB b && (c == 58 && (digB d && digB e))))
    · rfl
    · simp only [Bool.and_eq_true] at hc
      obtain ⟨ha, hb, _, hd, he⟩ := hc
      rcases h2 with h2 | h2 <;> simp [ha, hb, hd, he] at h2
  rw [minP, hf]; rfl
theorem rmin_ok {l : List UInt8} (h : l.length = 5) (h4 : l[2] = 58) (hy : ¬ digR l 0 2 < 0) (hm : ¬ digR l 3 2 < 0) :
    minP l = if digR l 0 2 ≤ 23 ∧ digR l 3 2 ≤ 59 then (digR l 0 2 * 60 + digR l 3 2, 0) else (0, 13) := by
  obtain ⟨y1, y2⟩ := digR_yes hy
  obtain ⟨m1, m2⟩ := digR_yes hm
  rw [y2, m2]
  clear hy hm y2 m2
  obtain ⟨a, b, c, d, e, rfl⟩ := len_five l h
  simp at y1 m1 h4
  have hf : fitsB [a, b, c, d, e] patM = true := by
    rw [fits_min]; simp [y1, m1, h4]
  rw [minP, if_pos hf]; rfl

theorem part_next (l : List UInt8) (a k : Nat) (h : a + k < l.length) : (l.drop a).take (k + 1) = (l.drop a).take k ++ [l[a + k]] := by
  rw [List.take_succ_eq_append_getElem (by simp; omega)]
  simp
theorem part_all (l : List UInt8) (a k : Nat) (h : a + k < l.length) (h1 : ((l.drop a).take k).all digB = true) (h2 : digB l[a + k] = true) : ((l.drop a).take (k + 1)).all digB = true := by
  rw [part_next l a k h, List.all_append, h1]
  simpa using h2
theorem part_num (l : List UInt8) (a k : Nat) (h : a + k < l.length) : numL 0 ((l.drop a).take (k + 1)) = 10 * numL 0 ((l.drop a).take k) + ((l[a + k].toNat : Int) - 48) := by
  rw [part_next l a k h, numL, numL, List.foldl_append]
  rfl
theorem part_bad (l : List UInt8) (a k n : Nat) (hk : k < n) (h : a + k < l.length) (h2 : digB l[a + k] = false) : digR l a n = -1 := by
  have h3 : ((l.drop a).take n).all digB = false := by
    rw [List.all_eq_false]
    refine ⟨l[a + k], ?_, by simp [h2]⟩
    rw [List.mem_iff_getElem]
    exact ⟨k, by simp; omega, by simp⟩
  rw [digR, if_neg (by simp [h3])]

end Go.Proofs.YtfgmlbmjjihhfaaGreatDoor

/- Walks of divide, Split, Weekday, of two digits, beside the reference's. -/
namespace Go.Proofs.YtfgmlbmjjihhfaaGreatDoor
open Go.RowKit
set_option linter.unusedSimpArgs false
set_option linter.unusedVariables false

/-- how the program's own division lies beside the floor -/
theorem tdiv_bounds (a b : Int) (hb : 2 ≤ b) (h0 : -9223372036854775808 ≤ a) (h1 : a ≤ 9223372036854775807) : -4611686018427387904 ≤ a.tdiv b ∧ a.tdiv b ≤ 4611686018427387904 := by
  have h := Int.natAbs_tdiv a b
  have h2 : a.natAbs / b.natAbs ≤ a.natAbs / 2 := Nat.div_le_div_left (by omega) (by omega)
  have h3 : (a.tdiv b).natAbs ≤ a.natAbs / 2 := by rw [h]; exact h2
  generalize a.tdiv b = q at h3
  omega
theorem tmod_bounds (a b : Int) (hb : 2 ≤ b) : -b < a.tmod b ∧ a.tmod b < b := ⟨Int.lt_tmod_of_pos a (by omega), Int.tmod_lt_of_pos a (by omega)⟩
theorem floor_low (a b : Int) (hb : 2 ≤ b) (h : a.tmod b < 0) : a / b = a.tdiv b - 1 ∧ a % b = a.tmod b + b := by
  have h1 := Int.mul_tdiv_add_tmod a b
  have h2 := tmod_bounds a b hb
  refine (Int.ediv_emod_unique (by omega)).2 ⟨?_, by omega, by omega⟩
  rw [Int.mul_sub, Int.mul_one]
  omega
theorem floor_up (a b : Int) (hb : 2 ≤ b) (h : 0 ≤ a.tmod b) : a / b = a.tdiv b ∧ a % b = a.tmod b := by
  have h1 := Int.mul_tdiv_add_tmod a b
  have h2 := tmod_bounds a b hb
  exact (Int.ediv_emod_unique (by omega)).2 ⟨by omega, by omega, by omega⟩

set_option maxHeartbeats 1000000 in
theorem divide_any (a b : Int) (w : World) (h0 : -9223372036854775808 ≤ a) (h1 : a ≤ 9223372036854775807) (hb : b = 7 ∨ b = 1440) : Calls Tryz.prog 176 #[.int .i64 a, .int .i64 b] w fun e w' => e = .returned (.tuple #[.int .i64 (a / b), .int .i64 (a % b)]) ∧ Below w.heap.size w w' := by
  have b1 := tdiv_bounds a b (by omega) h0 h1
  have b2 := tmod_bounds a b (by omega)
  by_cases h : a.tmod b < 0
  · have HF := Lib.hid (floor_low a b (by omega) h)
    rcases hb with rfl | rfl
    all_goals
      go_enter Tryz.func176, Tryz.ntmps176
      go_wp2
      go_quiet (fail)
      go_wp2
      go_ret2
      exact ⟨by rw [HF.out.1, HF.out.2]; rfl, below_drewN (Below.refl _ _) _⟩
  · have HF := Lib.hid (floor_up a b (by omega) (by omega))
    rcases hb with rfl | rfl
    all_goals
      go_enter Tryz.func176, Tryz.ntmps176
      go_wp2
      go_quiet (fail)
      go_wp2
      go_ret2
      exact ⟨by rw [HF.out.1, HF.out.2]; rfl, below_drewN (Below.refl _ _) _⟩
/-- the weekday of any number -/
def weekP (n : Int) : Int := (n + 5) % 7
theorem week_of (n : Int) : (n.tmod 7 + 5) % 7 = weekP n := by
  have h1 := Int.mul_tdiv_add_tmod n 7
  unfold weekP
  omega
set_option maxHeartbeats 1000000 in
theorem weekday_any (n : Int) (w : World) (h0 : -9223372036854775808 ≤ n) (h1 : n ≤ 9223372036854775807) : Calls Tryz.prog 129 #[.int .i64 n] w fun e w' => e = .returned (.int .i64 (weekP n)) ∧ Below w.heap.size w w' := by
  have b2 := tmod_bounds n 7 (by omega)
  have CD := Lib.hid (fun w => divide_any (n.tmod 7 + 5) 7 w (by omega) (by omega) (.inl rfl))
  have HW := Lib.hid (week_of n)
  go_enter Tryz.func129, Tryz.ntmps129
  go_wp2_with (go_at_call 176; refine (CD.out _).mono ?_; rintro e w' ⟨rfl, hb⟩)
  go_ret
  exact ⟨by rw [← HW.out]; rfl, hb⟩
set_option maxHeartbeats 1000000 in
theorem rweekday_any (n : Int) (w : World) (h0 : -9223372036854775808 ≤ n) (h1 : n ≤ 9223372036854775807) : Calls Tryz.prog 180 #[.int .i64 n] w fun e w' => e = .returned (.int .i64 (weekP n)) ∧ w = w' := by
  have b2 := tmod_bounds n 7 (by omega)
  have HW : Hid ((n.tmod 7 + 12) % 7 = weekP n) := Lib.hid (by
    have h1 := Int.mul_tdiv_add_tmod n 7
    unfold weekP
    omega)
  go_enter Tryz.func180, Tryz.ntmps180
  go_wp2
  go_ret
  exact ⟨by rw [← HW.out]; rfl, rfl⟩

theorem two_text (n : Int) (h0 : 0 ≤ n) (h1 : n ≤ 99) (w : World) :
    (convert 162 9 (.slice (some ⟨w.heap.size, 0, none⟩) 2 2)).run Tryz.prog (w.alloc (.cells #[.int .u8 (48 + n / 10), .int .u8 (48 + n % 10)] 5)) = .ok (.string ⟨#[d1 n, d2 n]⟩) (w.alloc (.cells #[.int .u8 (48 + n / 10), .int .u8 (48 + n % 10)] 5)) := by
  have h := run_convert_bytes_back (P := Tryz.prog) (w.alloc (.cells #[.int .u8 (48 + n / 10), .int .u8 (48 + n % 10)] 5)) 162 9 5 ⟨w.heap.size, 0, none⟩ 2 (twoL n) Tryz.underlying162 Tryz.underlying5 Tryz.underlying9 ?_
  · exact h
  · intro j hj
    have hadd : (⟨w.heap.size, 0, none⟩ : Addr).add j = ⟨w.heap.size, j, none⟩ := by unfold Addr.add; split <;> simp_all
    rw [hadd, cell_of_row _ _ j _ _ (0, 0) (heap_alloc_last w _), ← d1_nat n h0 h1, ← d2_nat n h0 h1]
    have hj2 : j = 0 ∨ j = 1 := by have : (twoL n).length = 2 := rfl; omega
    rcases hj2 with rfl | rfl <;> rfl
set_option maxHeartbeats 1000000 in
theorem two_any (n : Int) (w : World) (h0 : 0 ≤ n) (h1 : n ≤ 99) : Calls Tryz.prog 173 #[.int .i64 n] w fun e w' => e = .returned (.string ⟨(twoL n).toArray⟩) ∧ Below w.heap.size w w' := by
  have HT := two_text n h0 h1
  go_enter Tryz.func173, Tryz.ntmps173
  go_wp2
  go_ret
  exact ⟨rfl, (Below.refl _ _).alloc (Nat.le_refl _) _⟩
set_option maxHeartbeats 1000000 in
theorem rtwo_any (n : Int) (w : World) (h0 : 0 ≤ n) (h1 : n ≤ 99) : Calls Tryz.prog 126 #[.int .i64 n] w fun e w' => e = .returned (.string ⟨(twoL n).toArray⟩) ∧ Below w.heap.size w w' := by
  have HT := two_text n h0 h1
  go_enter Tryz.func126, Tryz.ntmps126
  go_wp2
  go_ret
  exact ⟨rfl, (Below.refl _ _).alloc (Nat.le_refl _) _⟩

end Go.Proofs.YtfgmlbmjjihhfaaGreatDoor

/- Plain facts on time zones: the error, offsets, the search for the first place, local minutes; the reference's ways. -/
namespace Go.Proofs.YtfgmlbmjjihhfaaGreatDoor
set_option linter.unusedSimpArgs false
set_option linter.unusedVariables false

abbrev Shs := List (Int × Int)
def shA (l : Shs) (k : Nat) : Int := (l.getD k (0, 0)).1
def shF (l : Shs) (k : Nat) : Int := (l.getD k (0, 0)).2
/-- the offset before shift k -/
def shB (o : Int) (l : Shs) (k : Nat) : Int := if k = 0 then o else shF l (k - 1)
def offB (n : Int) : Bool := decide (-840 ≤ n) && decide (n ≤ 840)
/-- shift k is outside the time, or too early -/
def badT (l : Shs) (k : Nat) : Bool := decide (shA l k < 0) || decide (52596000 ≤ shA l k) || (decide (0 < k) && decide (shA l k - shA l (k - 1) < 2880))
def errAt (l : Shs) : Nat → Nat → Int
  | 0, _ => 0
  | n + 1, k => if badT l k then 13 else if offB (shF l k) then errAt l n (k + 1) else 2
def errZ (o : Int) (l : Shs) : Int := if 256 < l.length then 4 else if offB o then errAt l l.length 0 else 2
theorem errAt_step (l : Shs) (k n : Nat) (h : n = l.length - k) (hk : k < l.length) : errAt l n k = if badT l k then 13 else if offB (shF l k) then errAt l (l.length - (k + 1)) (k + 1) else 2 := by
  obtain ⟨m, rfl⟩ : ∃ m, n = m + 1 := ⟨n - 1, by omega⟩
  rw [errAt, show l.length - (k + 1) = m by omega]
structure OkZ (o : Int) (l : Shs) : Prop where
  len : l.length ≤ 256
  off : -840 ≤ o ∧ o ≤ 840
  at' : ∀ k, k < l.length → 0 ≤ shA l k ∧ shA l k < 52596000
  gap : ∀ k, k + 1 < l.length → shA l k + 2880 ≤ shA l (k + 1)
  shift : ∀ k, k < l.length → -840 ≤ shF l k ∧ shF l k ≤ 840
theorem offB_iff (n : Int) : offB n = true ↔ -840 ≤ n ∧ n ≤ 840 := by simp [offB]
theorem errAt_ok (l : Shs) : ∀ n k, k + n = l.length → errAt l n k = 0 → ∀ j, k ≤ j → j < l.length → badT l j = false ∧ offB (shF l j) = true
  | 0, k, h, _, j, h1, h2 => by omega
  | n + 1, k, h, he, j, h1, h2 => by
    rw [errAt] at he
    cases hb : badT l k <;> rw [hb] at he
    · cases ho : offB (shF l k) <;> rw [ho] at he
      · simp at he
      · by_cases hj : j = k
        · subst hj; exact ⟨hb, ho⟩
        · exact errAt_ok l n (k + 1) (by omega) (by simpa using he) j (by omega) h2
    · simp at he
theorem errZ_ok {o : Int} {l : Shs} (h : errZ o l = 0) : OkZ o l := by
  rw [errZ] at h
  by_cases h1 : 256 < l.length
  · rw [if_pos h1] at h; omega
  rw [if_neg h1] at h
  cases ho : offB o <;> rw [ho] at h
  · simp at h
  have h2 := errAt_ok l l.length 0 (by omega) (by simpa using h)
  refine ⟨by omega, (offB_iff o).1 ho, fun k hk => ?_, fun k hk => ?_, fun k hk => (offB_iff _).1 (h2 k (by omega) hk).2⟩
  · have := (h2 k (by omega) hk).1
    simp [badT] at this
    omega
  · have := (h2 (k + 1) (by omega) hk).1
    simp [badT] at this
    omega
theorem OkZ.before {o : Int} {l : Shs} (h : OkZ o l) (k : Nat) (hk : k ≤ l.length) : -840 ≤ shB o l k ∧ shB o l k ≤ 840 := by
  unfold shB
  split
  · exact h.off
  · exact h.shift _ (by omega)
theorem shB_succ (o : Int) (l : Shs) (k : Nat) : shB o l (k + 1) = shF l k := by simp [shB]
theorem OkZ.asc {o : Int} {l : Shs} (h : OkZ o l) : ∀ j k, j + k < l.length → shA l j + 2880 * k ≤ shA l (j + k)
  | j, 0, _ => by simp
  | j, k + 1, hk => by
    have := h.asc j k (by omega)
    have := h.gap (j + k) (by omega)
    rw [show j + (k + 1) = j + k + 1 by omega]
    omega
theorem OkZ.asc' {o : Int} {l : Shs} (h : OkZ o l) (j k : Nat) (hj : j < k) (hk : k < l.length) : shA l j + 2880 ≤ shA l k := by
  have := h.asc j (k - j) (by omega)
  rw [show j + (k - j) = k by omega] at this
  have : (1 : Int) ≤ ((k - j : Nat) : Int) := by omega
  omega

/-! ### the first place of which p says true -/
def fstP (p : Nat → Bool) : Nat → Nat → Nat
  | 0, k => k
  | n + 1, k => if p k then k else fstP p n (k + 1)
theorem fstP_is (p : Nat → Bool) (c m : Nat) : ∀ n k, k ≤ c → k + n = m → c ≤ m → (∀ t, t < c → p t = false) → (∀ t, c ≤ t → t < m → p t = true) → fstP p n k = c
  | 0, k, h1, h2, h3, _, _ => by rw [fstP]; omega
  | n + 1, k, h1, h2, h3, h4, h5 => by
    rw [fstP]
    by_cases hk : k = c
    · subst hk; rw [h5 k (by omega) (by omega)]; rfl
    · rw [h4 k (by omega)]; exact fstP_is p c m n (k + 1) (by omega) (by omega) h3 h4 h5
theorem fstP_spec (p : Nat → Bool) (m : Nat) (mono : ∀ a b, a ≤ b → b < m → p a = true → p b = true) : ∀ n k, k + n = m → (∀ t, t < k → p t = false) →
    fstP p n k ≤ m ∧ (∀ t, t < fstP p n k → p t = false) ∧ (∀ t, fstP p n k ≤ t → t < m → p t = true)
  | 0, k, h, h1 => ⟨by rw [fstP]; omega, by rw [fstP]; exact h1, by rw [fstP]; intros; omega⟩
  | n + 1, k, h, h1 => by
    rw [fstP]
    cases hp : p k
    · simp only [Bool.false_eq_true, if_false]
      exact fstP_spec p m mono n (k + 1) (by omega) (fun t ht => if h2 : t = k then h2 ▸ hp else h1 t (by omega))
    · simp only [if_true]
      exact ⟨by omega, h1, fun t ht hm => mono k t ht hm hp⟩

/-! ### what the program finds -/
def offN (l : Shs) (u : Int) : Nat := fstP (fun i => decide (u < shA l i)) l.length 0
def utcN (o : Int) (l : Shs) (x : Int) : Nat := fstP (fun i => decide (x < shA l i + shB o l i)) l.length 0
def lastN (l : Shs) (x : Int) : Nat := fstP (fun i => decide (x < shA l i + shF l i)) l.length 0
def offZ (o : Int) (l : Shs) (u : Int) : Int := shB o l (offN l u)
def utcZ (o : Int) (l : Shs) (x : Int) : Int := if utcN o l x = 0 then x - shB o l (utcN o l x) else max (x - shB o l (utcN o l x)) (shA l (utcN o l x - 1))
def lastZ (o : Int) (l : Shs) (x : Int) : Int := if lastN l x < l.length then min (x - shB o l (lastN l x)) (shA l (lastN l x) - 1) else x - shB o l (lastN l x)
theorem off_mono {o : Int} {l : Shs} (h : OkZ o l) (u : Int) (a b : Nat) (hab : a ≤ b) (hb : b < l.length) (hp : decide (u < shA l a) = true) : decide (u < shA l b) = true := by
  simp only [decide_eq_true_eq] at hp ⊢
  by_cases he : a = b
  · subst he; exact hp
  · have := h.asc' a b (by omega) hb; omega
theorem utc_mono {o : Int} {l : Shs} (h : OkZ o l) (x : Int) (a b : Nat) (hab : a ≤ b) (hb : b < l.length) (hp : decide (x < shA l a + shB o l a) = true) : decide (x < shA l b + shB o l b) = true := by
  simp only [decide_eq_true_eq] at hp ⊢
  by_cases he : a = b
  · subst he; exact hp
  · have := h.asc' a b (by omega) hb
    have := h.before a (by omega)
    have := h.before b (by omega)
    omega
theorem last_mono {o : Int} {l : Shs} (h : OkZ o l) (x : Int) (a b : Nat) (hab : a ≤ b) (hb : b < l.length) (hp : decide (x < shA l a + shF l a) = true) : decide (x < shA l b + shF l b) = true := by
  simp only [decide_eq_true_eq] at hp ⊢
  by_cases he : a = b
  · subst he; exact hp
  · have := h.asc' a b (by omega) hb
    have := h.shift a (by omega)
    have := h.shift b (by omega)
    omega
theorem offN_spec {o : Int} {l : Shs} (h : OkZ o l) (u : Int) : offN l u ≤ l.length ∧ (∀ t, t < offN l u → shA l t ≤ u) ∧ (∀ t, offN l u ≤ t → t < l.length → u < shA l t) := by
  obtain ⟨h1, h2, h3⟩ := fstP_spec _ l.length (off_mono h u) l.length 0 (by omega) (by intros; omega)
  exact ⟨h1, fun t ht => by have := h2 t ht; simp at this; omega, fun t ht hm => by have := h3 t ht hm; simpa using this⟩
theorem utcN_spec {o : Int} {l : Shs} (h : OkZ o l) (x : Int) : utcN o l x ≤ l.length ∧ (∀ t, t < utcN o l x → shA l t + shB o l t ≤ x) ∧ (∀ t, utcN o l x ≤ t → t < l.length → x < shA l t + shB o l t) := by
  obtain ⟨h1, h2, h3⟩ := fstP_spec _ l.length (utc_mono h x) l.length 0 (by omega) (by intros; omega)
  exact ⟨h1, fun t ht => by have := h2 t ht; simp at this; omega, fun t ht hm => by have := h3 t ht hm; simpa using this⟩
theorem lastN_spec {o : Int} {l : Shs} (h : OkZ o l) (x : Int) : lastN l x ≤ l.length ∧ (∀ t, t < lastN l x → shA l t + shF l t ≤ x) ∧ (∀ t, lastN l x ≤ t → t < l.length → x < shA l t + shF l t) := by
  obtain ⟨h1, h2, h3⟩ := fstP_spec _ l.length (last_mono h x) l.length 0 (by omega) (by intros; omega)
  exact ⟨h1, fun t ht => by have := h2 t ht; simp at this; omega, fun t ht hm => by have := h3 t ht hm; simpa using this⟩

/-! ### the reference's ways -/
def roff (o : Int) (l : Shs) (u : Int) : Nat → Int
  | 0 => o
  | k + 1 => if shA l k ≤ u then shF l k else roff o l u k
theorem roff_is {o : Int} {l : Shs} (h : OkZ o l) (u : Int) : roff o l u l.length = offZ o l u := by
  obtain ⟨h1, h2, h3⟩ := offN_spec h u
  unfold offZ
  generalize offN l u = c at *
  have : ∀ k, k ≤ l.length → roff o l u k = shB o l (min k c) := by
    intro k
    induction k with
    | zero => intro _; simp [roff, shB]
    | succ k ih =>
      intro hk
      rw [roff]
      by_cases hc : k < c
      · rw [if_pos (h2 k hc), show min (k + 1) c = k + 1 by omega, shB_succ]
      · have := h3 k (by omega) (by omega)
        rw [if_neg (by omega), ih (by omega), show min (k + 1) c = min k c by omega]
  rw [this l.length (Nat.le_refl _), Nat.min_eq_right h1]
def rut (l : Shs) (x : Int) : Nat → Nat → Int → Int
  | 0, _, u => u
  | n + 1, k, u => if u < shA l k then u else rut l x n (k + 1) (max (shA l k) (x - shF l k))
theorem rut_step (l : Shs) (x u : Int) (k n : Nat) (h : n = l.length - k) (hk : k < l.length) : rut l x n k u = if u < shA l k then u else rut l x (l.length - (k + 1)) (k + 1) (max (shA l k) (x - shF l k)) := by
  obtain ⟨m, rfl⟩ : ∃ m, n = m + 1 := ⟨n - 1, by omega⟩
  rw [rut, show l.length - (k + 1) = m by omega]
theorem rut_end (l : Shs) (x u : Int) (k n : Nat) (h : n = 0) : rut l x n k u = u := by subst h; rfl
/-- the reference's minute before it looks at shift k -/
def utcAt (o : Int) (l : Shs) (x : Int) (k : Nat) : Int := if k = 0 then x - shB o l k else max (x - shB o l k) (shA l (k - 1))
theorem rut_is {o : Int} {l : Shs} (h : OkZ o l) (x : Int) : rut l x l.length 0 (x - o) = utcZ o l x := by
  obtain ⟨h1, h2, h3⟩ := utcN_spec h x
  have hz : utcZ o l x = utcAt o l x (utcN o l x) := rfl
  rw [hz]
  generalize utcN o l x = c at *
  have : ∀ n k, k + n = l.length → k ≤ c → rut l x n k (utcAt o l x k) = utcAt o l x c := by
    intro n
    induction n with
    | zero => intro k hk hc; rw [rut, show k = c by omega]
    | succ n ih =>
      intro k hk hc
      rw [rut]
      by_cases hkc : k = c
      · subst hkc
        have h4 := h3 k (Nat.le_refl _) (by omega)
        rw [if_pos]
        unfold utcAt
        split
        · omega
        · have := h.asc' (k - 1) k (by omega) (by omega)
          omega
      · have h4 := h2 k (by omega)
        rw [if_neg]
        · have e : utcAt o l x (k + 1) = max (shA l k) (x - shF l k) := by
            unfold utcAt
            rw [if_neg (by omega), shB_succ, show k + 1 - 1 = k by omega]
            omega
          rw [← e]
          exact ih (k + 1) (by omega) (by omega)
        · unfold utcAt
          split <;> omega
  exact this l.length 0 (by omega) (by omega)
/-- the reference sees the local minute behind shift k -/
def seen (l : Shs) (x : Int) (k : Nat) : Bool := decide (shA l k ≤ x - shF l k) && (decide (k + 1 = l.length) || decide (x - shF l k < shA l (k + 1)))
def seen0 (o : Int) (l : Shs) (x : Int) : Bool := decide (l.length = 0) || decide (x - o < shA l 0)
def tms (o : Int) (l : Shs) (x : Int) : Nat → Nat
  | 0 => if seen0 o l x then 1 else 0
  | k + 1 => tms o l x k + if seen l x k then 1 else 0
theorem tms_le (o : Int) (l : Shs) (x : Int) (k : Nat) : tms o l x k ≤ k + 1 := by
  induction k with
  | zero => rw [tms]; split <;> omega
  | succ k ih => rw [tms]; split <;> omega
theorem tms_is {o : Int} {l : Shs} (h : OkZ o l) (x : Int) : tms o l x l.length = lastN l x + 1 - utcN o l x := by
  obtain ⟨h1, h2, h3⟩ := utcN_spec h x
  obtain ⟨g1, g2, g3⟩ := lastN_spec h x
  generalize utcN o l x = c at *
  generalize lastN l x = d at *
  have : ∀ k, k ≤ l.length → tms o l x k = min k d + 1 - c := by
    intro k
    induction k with
    | zero =>
      intro _
      rw [tms]
      by_cases hc : c = 0
      · subst hc
        rw [if_pos (by
          simp only [seen0, Bool.or_eq_true, decide_eq_true_eq]
          by_cases hl : l.length = 0
          · exact .inl hl
          · have h4 := h3 0 (by omega) (by omega)
            simp only [shB, if_true] at h4
            exact .inr (by omega))]
        omega
      · have h4 := h2 0 (by omega)
        simp only [shB, if_true] at h4
        rw [if_neg (by
          simp only [seen0, Bool.or_eq_true, decide_eq_true_eq]
          omega)]
        omega
    | succ k ih =>
      intro hk
      rw [tms, ih (by omega)]
      have hs : seen l x k = true ↔ c ≤ k + 1 ∧ k + 1 ≤ d := by
        simp only [seen, Bool.or_eq_true, Bool.and_eq_true, decide_eq_true_eq]
        constructor
        · rintro ⟨e1, e2⟩
          constructor
          · by_cases hc : c ≤ k + 1
            · exact hc
            · have h4 := h2 (k + 1) (by omega)
              rw [shB_succ] at h4
              omega
          · by_cases hd : k + 1 ≤ d
            · exact hd
            · have := g3 k (by omega) (by omega)
              omega
        · rintro ⟨e1, e2⟩
          have h4 := g2 k (by omega)
          refine ⟨by omega, ?_⟩
          by_cases hl : k + 1 = l.length
          · exact .inl hl
          · have h5 := h3 (k + 1) (by omega) (by omega)
            rw [shB_succ] at h5
            exact .inr (by omega)
      cases hq : seen l x k
      · rw [hq] at hs
        simp at hs
        simp
        omega
      · rw [hq] at hs
        simp at hs
        simp
        omega
  rw [this l.length (Nat.le_refl _), Nat.min_eq_right g1]
theorem near {o : Int} {l : Shs} (h : OkZ o l) (x : Int) : utcN o l x ≤ lastN l x + 1 ∧ lastN l x ≤ utcN o l x + 1 := by
  obtain ⟨h1, h2, h3⟩ := utcN_spec h x
  obtain ⟨g1, g2, g3⟩ := lastN_spec h x
  generalize utcN o l x = c at *
  generalize lastN l x = d at *
  constructor
  · apply Nat.le_of_not_lt
    intro hlt
    have a1 := g3 d (Nat.le_refl _) (by omega)
    have a2 := h2 (d + 1) (by omega)
    rw [shB_succ] at a2
    have := h.gap d (by omega)
    omega
  · apply Nat.le_of_not_lt
    intro hlt
    have a1 := h3 c (Nat.le_refl _) (by omega)
    have a2 := g2 (c + 1) (by omega)
    have := h.gap c (by omega)
    have := h.before c (by omega)
    have := h.shift (c + 1) (by omega)
    omega
theorem ends {o : Int} {l : Shs} (h : OkZ o l) (x : Int) : (utcZ o l x ≤ lastZ o l x ↔ utcN o l x ≤ lastN l x) ∧ (utcZ o l x < lastZ o l x ↔ utcN o l x < lastN l x) := by
  obtain ⟨n1, n2⟩ := near h x
  obtain ⟨h1, h2, h3⟩ := utcN_spec h x
  obtain ⟨g1, g2, g3⟩ := lastN_spec h x
  unfold utcZ lastZ
  generalize utcN o l x = c at *
  generalize lastN l x = d at *
  have hcase : c = d + 1 ∨ c = d ∨ d = c + 1 := by omega
  rcases hcase with rfl | rfl | rfl
  · have a1 := g3 d (Nat.le_refl _) (by omega)
    have a2 := h2 d (by omega)
    rw [if_neg (by omega), if_pos (by omega), shB_succ, show d + 1 - 1 = d by omega]
    omega
  · have e1 : c = 0 ∨ shA l (c - 1) ≤ x - shB o l c := by
      by_cases hc : c = 0
      · exact .inl hc
      · have a2 := g2 (c - 1) (by omega)
        refine .inr ?_
        unfold shB
        rw [if_neg hc]
        omega
    have e2 : c < l.length → x - shB o l c < shA l c := fun hc => by have := h3 c (Nat.le_refl _) hc; omega
    split <;> split <;> omega
  · have e1 : c = 0 ∨ shA l (c - 1) ≤ x - shB o l c := by
      by_cases hc : c = 0
      · exact .inl hc
      · have a2 := g2 (c - 1) (by omega)
        refine .inr ?_
        unfold shB
        rw [if_neg hc]
        omega
    have a1 := h3 c (Nat.le_refl _) (by omega)
    have a2 := g2 c (by omega)
    have e3 : c + 1 < l.length → x - shB o l (c + 1) < shA l (c + 1) := fun hc => by have := h3 (c + 1) (by omega) hc; omega
    rw [shB_succ] at *
    split <;> split <;> omega
theorem ex_is {o : Int} {l : Shs} (h : OkZ o l) (x : Int) : decide (utcZ o l x ≤ lastZ o l x) = decide (0 < tms o l x l.length) := by
  rw [decide_eq_decide, (ends h x).1, tms_is h x]; omega
theorem tw_is {o : Int} {l : Shs} (h : OkZ o l) (x : Int) : decide (utcZ o l x < lastZ o l x) = decide (1 < tms o l x l.length) := by
  rw [decide_eq_decide, (ends h x).2, tms_is h x]; omega

end Go.Proofs.YtfgmlbmjjihhfaaGreatDoor

/- Walks of zone.Check and the reference's, with the words for a zone in memory. -/
namespace Go.Proofs.YtfgmlbmjjihhfaaGreatDoor
open Go.RowKit
set_option linter.unusedSimpArgs false
set_option linter.unusedVariables false

theorem bel_alloc (w : World) (o : Obj) : Below w.heap.size w (w.alloc o) := (Below.refl _ w).alloc (Nat.le_refl _) o
theorem bel_acc {f : Nat} {args : Array Value} {w w1 : World} {R : Ending → Prop} (h : Calls Tryz.prog f args w1 fun e w' => R e ∧ Below w1.heap.size w1 w') (hb : Below w.heap.size w w1) :
    Calls Tryz.prog f args w1 fun e w' => R e ∧ Below w.heap.size w w' := h.mono (by rintro e w' ⟨hr, h⟩; exact ⟨hr, hb.trans (h.mono hb.size)⟩)
abbrev zoneT : TypeId := 91
abbrev shiftT : TypeId := 198
/-- the shifts l lie in the row at A -/
def ShL (w : World) (A : Option Addr) (l : Shs) : Prop :=
  l = [] ∨ ∃ b o, A = some ⟨b, o, none⟩ ∧ b < w.heap.size ∧ ∀ i, i < l.length → w.cell? ⟨b, o + i * 2, none⟩ = some (.int .i64 (shA l i)) ∧ w.cell? ⟨b, o + i * 2 + 1, none⟩ = some (.int .i64 (shF l i))
theorem ShL.more {w w' : World} {A : Option Addr} {l : Shs} (h : ShL w A l) (hb : Below w.heap.size w w') : ShL w' A l := by
  rcases h with h | ⟨b, o, rfl, hlt, hc⟩
  · exact .inl h
  · exact .inr ⟨b, o, rfl, Nat.lt_of_lt_of_le hlt hb.size, fun i hi => ⟨(hb.cell (p := ⟨b, o + i * 2, none⟩) hlt).trans (hc i hi).1, (hb.cell (p := ⟨b, o + i * 2 + 1, none⟩) hlt).trans (hc i hi).2⟩⟩
theorem ShL.at {w : World} {A : Option Addr} {l : Shs} (h : ShL w A l) {k : Nat} (hk : k < l.length) :
    ∃ b o, A = some ⟨b, o, none⟩ ∧ b < w.heap.size ∧ ∀ i, i < l.length → w.cell? ⟨b, o + i * 2, none⟩ = some (.int .i64 (shA l i)) ∧ w.cell? ⟨b, o + i * 2 + 1, none⟩ = some (.int .i64 (shF l i)) := by
  rcases h with h | h
  · rw [h] at hk; simp at hk
  · exact h
abbrev encZ (o : Int) (A : Option Addr) (n c : Nat) : Value := .agg #[.int .i64 o, .slice A n c]

set_option maxHeartbeats 400000 in
theorem rOff_any (n : Int) (w : World) : Calls Tryz.prog 166 #[.int .i64 n] w fun e w' => e = .returned (.bool (offB n)) ∧ w = w' := by
  by_cases h1 : -840 ≤ n
  all_goals
    go_enter Tryz.func166, Tryz.ntmps166
    go_wp2
    go_ret
    exact ⟨ret_bool (by simp [offB]; omega), rfl⟩
def timeB (n : Int) : Bool := decide (0 ≤ n) && decide (n < 52596000)
/-! ### worlds that have only grown since w5, as a class: quiet walks of drawn regions -/
abbrev SW (w5 : World) : World → Prop := fun W => Below w5.heap.size w5 W
structure Wd (S : World → Prop) where
  w : World
  ok : S w
theorem quietS {P : Program} {S : World → Prop} {id : Nat} {Q : Exit → Act → World → Prop} {a : Act} {w : World} {l : List Oper} (hm : P.follows .mixedOrders = true) (hB : Region.lexB .any l.toArray = true) (hC : S w.drew)
    (h : wpQuiet P l.toArray (fun w' => ∃ x : Wd S, w' = x.w) (fun a' => ∀ w', (∃ x : Wd S, w' = x.w) → Q .normal a' w') l a) : (Code.region id l.toArray true).wp P Q a w :=
  wp_region_quiet (C := fun w' => ∃ x : Wd S, w' = x.w) hm hB ⟨⟨_, hC⟩, rfl⟩ (by simpa using h)
theorem quiet_S {P : Program} {f : FuncId} {args : Array Value} {W : World} {S : World → Prop} {v : Value} (h : Calls P f args W fun e w' => e = .returned v ∧ S w') :
    Calls P f args W fun e w'' => e = .returned v ∧ ∃ x : Wd S, w'' = x.w := h.mono (by rintro e w' ⟨he, hs⟩; exact ⟨he, ⟨w', hs⟩, rfl⟩)
theorem SW.cell {w5 : World} {a : Addr} {v : Value} (h : w5.cell? a = some v) (x : Wd (SW w5)) : x.w.cell? a = some v := (Below.cell (show Below w5.heap.size w5 x.w from x.ok) (World.block_lt_of_cell? w5 _ h)).trans h
theorem SW.call {f : Nat} {args : Array Value} {w5 : World} {v : Value} (h : ∀ W, Below w5.heap.size w5 W → Calls Tryz.prog f args W fun e w' => e = .returned v ∧ Below W.heap.size W w') (W : World) (hW : SW w5 W) :
    Calls Tryz.prog f args W fun e w' => e = .returned v ∧ SW w5 w' := (h W hW).mono (by rintro e w' ⟨he, hb⟩; exact ⟨he, hW.trans (hb.mono hW.size)⟩)
theorem SW.drew (w5 : World) : SW w5 w5.drew := (Below.refl _ _).drew
theorem cells_new (w : World) (cs : Array Value) (t : TypeId) (j : Nat) : (w.alloc (.cells cs t)).cell? ⟨w.heap.size, j, none⟩ = cs[j]? := cell_of_row _ _ j _ _ (0, 0) (heap_alloc_new w (.cells cs t))

end Go.Proofs.YtfgmlbmjjihhfaaGreatDoor

/- Walk of the reference's Check. -/
namespace Go.Proofs.YtfgmlbmjjihhfaaGreatDoor
open Go.RowKit
set_option linter.unusedSimpArgs false
set_option linter.unusedVariables false

set_option maxRecDepth 100000 in
set_option maxHeartbeats 2000000 in
theorem rcheck_any (o : Int) (A : Option Addr) (c : Nat) (l : Shs) (w : World) (hl : l.length < 9223372036854775808) (hL : ShL w A l) (hr : ∀ k, k < l.length → -9223372036854775808 ≤ shA l k ∧ shA l k ≤ 9223372036854775807) :
    Calls Tryz.prog 109 #[encZ o A l.length c] w fun e w' => e = .returned (.int .i64 (errZ o l)) ∧ Below w.heap.size w w' := by
  by_cases h1 : 256 < l.length
  · have i1 : (256 : Int) < (l.length : Int) := by omega
    have HR : Hid (errZ o l = 4) := Lib.hid (by rw [errZ, if_pos h1])
    clear h1
    go_enter Tryz.func109, Tryz.ntmps109
    go_wp2
    go_ret
    exact ⟨by rw [HR.out]; rfl, bel_alloc _ _⟩
  have i1 : (l.length : Int) ≤ 256 := by omega
  cases ho : offB o
  · have HR : Hid (errZ o l = 2) := Lib.hid (by rw [errZ, if_neg h1, ho]; rfl)
    have C1 := Lib.hid (fun w => ho ▸ rOff_any o w)
    clear h1 ho
    go_enter Tryz.func109, Tryz.ntmps109
    go_wp2_with (go_at_call 166; refine (C1.out _).mono ?_; rintro e w' ⟨rfl, rfl⟩)
    go_ret
    exact ⟨by rw [HR.out]; rfl, bel_alloc _ _⟩
  have HR : Hid (errZ o l = errAt l l.length 0) := Lib.hid (by rw [errZ, if_neg h1, ho]; rfl)
  have C1 := Lib.hid (fun w => ho ▸ rOff_any o w)
  clear h1 ho
  go_enter Tryz.func109, Tryz.ntmps109
  go_wp2_with (go_at_call 166; refine (C1.out _).mono ?_; rintro e w' ⟨rfl, rfl⟩)
  have hL0 := hL.more (bel_alloc w (.cells #[.int .i64 o, .slice A l.length c] zoneT))
  have z0 := cells_new w #[.int .i64 o, .slice A l.length c] zoneT 0
  have z1 := cells_new w #[.int .i64 o, .slice A l.length c] zoneT 1
  have hbw := bel_alloc w (.cells #[.int .i64 o, .slice A l.length c] zoneT)
  simp only [List.getElem?_toArray, List.getElem?_cons_zero, List.getElem?_cons_succ] at z0 z1
  clear hL C1
  generalize hw0 : w.alloc (.cells #[.int .i64 o, .slice A l.length c] zoneT) = w0 at *
  go_loopw [3] (fun vi wr => ∃ k : Nat, k ≤ l.length ∧ vi = .int .i64 k ∧ Hid (errZ o l = errAt l (l.length - k) k) ∧ (0 < k → 0 ≤ shA l (k - 1) ∧ shA l (k - 1) < 52596000) ∧ Below w0.heap.size w0 wr) (fun vi _ => l.length - (intOf vi).toNat)
  case atStart => exact ⟨0, Nat.zero_le _, rfl, HR, by omega, Below.refl _ _⟩
  case round =>
    obtain ⟨k, hk, rfl, HK, hp, hb⟩ := hrel
    by_cases hlt : k < l.length
    · obtain ⟨g, off, rfl, hgl, hcc⟩ := hL0.at hlt
      have i2 : (k : Int) < (l.length : Int) := by omega
      have HS := Lib.hid (HK.out.trans (errAt_step l k _ rfl hlt))
      obtain ⟨g0, g1⟩ := hcc k hlt
      have hrk := hr k hlt
      have CO := Lib.hid (fun W => rOff_any (shF l k) W)
      have gm : 0 < k → w0.cell? ⟨g, off + (k - 1) * 2, none⟩ = some (.int .i64 (shA l (k - 1))) := fun h => (hcc (k - 1) (by omega)).1
      have hbad : Hid (badT l k = (!timeB (shA l k) || (decide (0 < k) && decide (shA l k - shA l (k - 1) < 2880)))) := Lib.hid (by
        simp only [badT, timeB]
        congr 1
        rw [Bool.eq_iff_iff]; simp)
      clear hcc HK hr hL0
      have gk0 := (hb.cell (p := ⟨g, off + k * 2, none⟩) hgl).trans g0
      have gk1 := (hb.cell (p := ⟨g, off + k * 2 + 1, none⟩) hgl).trans g1
      generalize hak : shA l k = a at *
      have HA := Lib.hid hak
      clear hak
      generalize shF l k = f at *
      have hgr : g < wr.heap.size := Nat.lt_of_lt_of_le hgl hb.size
      have hgr2 : g ≠ wr.heap.size := by omega
      have hb5 : Below wr.heap.size wr (wr.alloc (.cells #[.int .i64 a, .int .i64 f] shiftT)) := bel_alloc _ _
      have hB : Below w.heap.size w (wr.alloc (.cells #[.int .i64 a, .int .i64 f] shiftT)) := hbw.trans ((hb.alloc hb.size _).mono hbw.size)
      have q0 := SW.cell (cells_new wr #[.int .i64 a, .int .i64 f] shiftT 0)
      have q1 := SW.cell (cells_new wr #[.int .i64 a, .int .i64 f] shiftT 1)
      have q2 := SW.cell (hb5.cell (World.block_lt_of_cell? _ _ ((hb.cell (World.block_lt_of_cell? _ _ z1)).trans z1)) |>.trans ((hb.cell (World.block_lt_of_cell? _ _ z1)).trans z1))
      have c1 := cells_new wr #[.int .i64 a, .int .i64 f] shiftT 1
      simp only [List.getElem?_toArray, List.getElem?_cons_zero, List.getElem?_cons_succ] at q0 q1 c1
      have g2 := (hb.cell (World.block_lt_of_cell? _ _ z1)).trans z1
      by_cases n1 : a < 0
      · have ht : timeB a = false := by simp [timeB]; omega
        have d1 : decide (a < 0) = true := decide_eq_true n1
        have HR2 : Hid (errZ o l = 13) := Lib.hid (by rw [HS.out, hbad.out, ht]; rfl)
        clear HS hbad ht hp gm hw0
        go_wp2
        have hNe : Nonempty (Wd (SW (wr.alloc (.cells #[.int .i64 a, .int .i64 f] shiftT)))) := ⟨⟨_, SW.drew _⟩⟩
        refine quietS (S := SW (wr.alloc (.cells #[.int .i64 a, .int .i64 f] shiftT))) (by kernel_rfl) (by kernel_rfl) (SW.drew _) ?_
        repeat (first | go_big_quiet_skip | (go_big_quiet_want; go_big_quiet_op; first | go_big_quiet_on | go_big_quiet_call ((fail))))
        refine wpQuiet_nil ?_
        rintro W ⟨⟨_, hW⟩, rfl⟩
        go_wp2
        go_ret
        exact ⟨by rw [HR2.out]; rfl, hB.trans (hW.mono hB.size)⟩
      by_cases n2 : 52596000 ≤ a
      · have ht : timeB a = false := by simp [timeB]; omega
        have d1 : decide (a < 0) = false := decide_eq_false n1
        have d2 : decide (52596000 ≤ a) = true := decide_eq_true n2
        have HR2 : Hid (errZ o l = 13) := Lib.hid (by rw [HS.out, hbad.out, ht]; rfl)
        clear HS hbad ht hp gm hw0
        go_wp2
        have hNe : Nonempty (Wd (SW (wr.alloc (.cells #[.int .i64 a, .int .i64 f] shiftT)))) := ⟨⟨_, SW.drew _⟩⟩
        refine quietS (S := SW (wr.alloc (.cells #[.int .i64 a, .int .i64 f] shiftT))) (by kernel_rfl) (by kernel_rfl) (SW.drew _) ?_
        repeat (first | go_big_quiet_skip | (go_big_quiet_want; go_big_quiet_op; first | go_big_quiet_on | go_big_quiet_call ((fail))))
        refine wpQuiet_nil ?_
        rintro W ⟨⟨_, hW⟩, rfl⟩
        go_wp2
        go_ret
        exact ⟨by rw [HR2.out]; rfl, hB.trans (hW.mono hB.size)⟩
      have ht : timeB a = true := by simp [timeB]; omega
      have d1 : decide (a < 0) = false := decide_eq_false n1
      have d2 : decide (52596000 ≤ a) = false := decide_eq_false n2
      have ha : 0 ≤ a ∧ a < 52596000 := by omega
      by_cases h0 : 0 < k
      · have q3 := SW.cell ((hb5.cell hgr).trans ((hb.cell hgl).trans (gm h0)))
        have hp' := hp h0
        have i3 : (0 : Int) < (k : Int) := by omega
        have i4 : (0 : Int) ≤ (k : Int) - 1 := by omega
        have i5 : (k : Int) - 1 < (l.length : Int) := by omega
        have i6 : ((k : Int) - 1).toNat = k - 1 := by omega
        generalize shA l (k - 1) = pr at *
        by_cases hg : a - pr < 2880
        · have HR2 : Hid (errZ o l = 13) := Lib.hid (by rw [HS.out, hbad.out, ht]; simp [h0, hg])
          clear HS hbad ht hp gm hw0
          go_wp2
          have hNe : Nonempty (Wd (SW (wr.alloc (.cells #[.int .i64 a, .int .i64 f] shiftT)))) := ⟨⟨_, SW.drew _⟩⟩
          refine quietS (S := SW (wr.alloc (.cells #[.int .i64 a, .int .i64 f] shiftT))) (by kernel_rfl) (by kernel_rfl) (SW.drew _) ?_
          repeat (first | go_big_quiet_skip | (go_big_quiet_want; go_big_quiet_op; first | go_big_quiet_on | go_big_quiet_call ((fail))))
          refine wpQuiet_nil ?_
          rintro W ⟨⟨_, hW⟩, rfl⟩
          go_wp2
          go_ret
          exact ⟨by rw [HR2.out]; rfl, hB.trans (hW.mono hB.size)⟩
        · cases ho : offB f
          · have HR2 : Hid (errZ o l = 2) := Lib.hid (by rw [HS.out, hbad.out, ht]; simp [h0, hg, ho])
            rw [ho] at CO
            clear HS hbad ht hp gm ho hw0
            go_wp2
            have hNe : Nonempty (Wd (SW (wr.alloc (.cells #[.int .i64 a, .int .i64 f] shiftT)))) := ⟨⟨_, SW.drew _⟩⟩
            refine quietS (S := SW (wr.alloc (.cells #[.int .i64 a, .int .i64 f] shiftT))) (by kernel_rfl) (by kernel_rfl) (SW.drew _) ?_
            repeat (first | go_big_quiet_skip | (go_big_quiet_want; go_big_quiet_op; first | go_big_quiet_on | go_big_quiet_call ((fail))))
            refine wpQuiet_nil ?_
            rintro W ⟨⟨_, hW⟩, rfl⟩
            have q4 := q1 ⟨_, hW⟩
            dsimp only at q4
            go_wp2_with (go_at_call 166; refine (CO.out _).mono ?_; rintro e w' ⟨rfl, rfl⟩)
            go_ret
            exact ⟨by rw [HR2.out]; rfl, hB.trans (hW.mono hB.size)⟩
          · have HR2 : Hid (errZ o l = errAt l (l.length - (k + 1)) (k + 1)) := Lib.hid (by rw [HS.out, hbad.out, ht]; simp [h0, hg, ho])
            rw [ho] at CO
            clear HS hbad ht hp gm ho hw0
            go_wp2
            have hNe : Nonempty (Wd (SW (wr.alloc (.cells #[.int .i64 a, .int .i64 f] shiftT)))) := ⟨⟨_, SW.drew _⟩⟩
            refine quietS (S := SW (wr.alloc (.cells #[.int .i64 a, .int .i64 f] shiftT))) (by kernel_rfl) (by kernel_rfl) (SW.drew _) ?_
            repeat (first | go_big_quiet_skip | (go_big_quiet_want; go_big_quiet_op; first | go_big_quiet_on | go_big_quiet_call ((fail))))
            refine wpQuiet_nil ?_
            rintro W ⟨⟨_, hW⟩, rfl⟩
            have q4 := q1 ⟨_, hW⟩
            dsimp only at q4
            go_wp2_with (go_at_call 166; refine (CO.out _).mono ?_; rintro e w' ⟨rfl, rfl⟩)
            go_roundw
            case rel => exact ⟨k + 1, by omega, by go_num, HR2, fun _ => by rw [Nat.add_sub_cancel, HA.out]; exact ha, hb.trans ((hb5.trans (hW.mono hb5.size)).mono hb.size)⟩
            case measure => simp [intOf]; omega
      · have i3 : ¬ (0 : Int) < (k : Int) := by omega
        cases ho : offB f
        · have HR2 : Hid (errZ o l = 2) := Lib.hid (by rw [HS.out, hbad.out, ht]; simp [h0, ho])
          rw [ho] at CO
          clear HS hbad ht hp gm ho hw0
          go_wp2
          have hNe : Nonempty (Wd (SW (wr.alloc (.cells #[.int .i64 a, .int .i64 f] shiftT)))) := ⟨⟨_, SW.drew _⟩⟩
          refine quietS (S := SW (wr.alloc (.cells #[.int .i64 a, .int .i64 f] shiftT))) (by kernel_rfl) (by kernel_rfl) (SW.drew _) ?_
          repeat (first | go_big_quiet_skip | (go_big_quiet_want; go_big_quiet_op; first | go_big_quiet_on | go_big_quiet_call ((fail))))
          refine wpQuiet_nil ?_
          rintro W ⟨⟨_, hW⟩, rfl⟩
          have q4 := q1 ⟨_, hW⟩
          dsimp only at q4
          go_wp2_with (go_at_call 166; refine (CO.out _).mono ?_; rintro e w' ⟨rfl, rfl⟩)
          go_ret
          exact ⟨by rw [HR2.out]; rfl, hB.trans (hW.mono hB.size)⟩
        · have HR2 : Hid (errZ o l = errAt l (l.length - (k + 1)) (k + 1)) := Lib.hid (by rw [HS.out, hbad.out, ht]; simp [h0, ho])
          rw [ho] at CO
          clear HS hbad ht hp gm ho hw0
          go_wp2
          have hNe : Nonempty (Wd (SW (wr.alloc (.cells #[.int .i64 a, .int .i64 f] shiftT)))) := ⟨⟨_, SW.drew _⟩⟩
          refine quietS (S := SW (wr.alloc (.cells #[.int .i64 a, .int .i64 f] shiftT))) (by kernel_rfl) (by kernel_rfl) (SW.drew _) ?_
          repeat (first | go_big_quiet_skip | (go_big_quiet_want; go_big_quiet_op; first | go_big_quiet_on | go_big_quiet_call ((fail))))
          refine wpQuiet_nil ?_
          rintro W ⟨⟨_, hW⟩, rfl⟩
          have q4 := q1 ⟨_, hW⟩
          dsimp only at q4
          go_wp2_with (go_at_call 166; refine (CO.out _).mono ?_; rintro e w' ⟨rfl, rfl⟩)
          go_roundw
          case rel => exact ⟨k + 1, by omega, by go_num, HR2, fun _ => by rw [Nat.add_sub_cancel, HA.out]; exact ha, hb.trans ((hb5.trans (hW.mono hb5.size)).mono hb.size)⟩
          case measure => simp [intOf]; omega
    · have g2 := (hb.cell (World.block_lt_of_cell? _ _ z1)).trans z1
      go_wp2
      go_ret
      exact ⟨by rw [HK.out, show l.length - k = 0 by omega]; rfl, hbw.trans (hb.mono hbw.size)⟩

end Go.Proofs.YtfgmlbmjjihhfaaGreatDoor
