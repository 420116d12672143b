/- Words for memory that a call makes: a buffer of bytes that is appended to (over any program). -/
import Derived.WalkKit
import Derived.WalkSpells
import Derived.WalkLawsBesides
import Derived.Deep.AppendLies
import Derived.Lib.UnsafeStr
import Derived.Lib.BufferWrite
import Derived.Lib.AppendStr
import Derived.Lib.Hide
namespace Go.Proofs.YtkcdifanhdakhaaDoor
open Go.RowKit
set_option linter.unusedSimpArgs false
set_option linter.unusedVariables false

theorem ret_bool {a b : Bool} (h : a = b) : Ending.returned (.bool a) = .returned (.bool b) := by rw [h]
theorem ret_int {k : IntKind} {a b : Int} (h : a = b) : Ending.returned (.int k a) = .returned (.int k b) := by rw [h]
theorem ret_str {a b : List UInt8} (h : a = b) : Ending.returned (.string ⟨a.toArray⟩) = .returned (.string ⟨b.toArray⟩) := by rw [h]
theorem below_drewN {B : Nat} {a w : World} (h : Below B a w) (n : Nat) : Below B a (w.drewN n) := ⟨h.os, h.tape, h.output, h.size, h.block⟩

/-- t is a slice type whose elements are the bytes e -/
structure ByteT (P : Program) (t e : TypeId) : Prop where
  ht : P.underlying t = some (.slice e)
  he : P.underlying e = some (.int .u8)
  info : (P.info? e).map (fun i => (i.zero, i.size, i.bytes)) = some (some (.int .u8 0), 1, 1)

/-- the slice value v holds the bytes l, in a row of the call's own blocks (from B on); of the blocks below B nothing has turned since a -/
structure Buf (e : TypeId) (B : Nat) (a w : World) (v : Value) (l : List UInt8) : Prop where
  own : w.ownsRow B e 1 v l.length (Lib.byteCells l)
  bel : Below B a w
  base : B ≤ w.heap.size

theorem Buf.nil {e : TypeId} {B : Nat} {a w : World} (h : Below B a w) (hB : B ≤ w.heap.size) : Buf e B a w (.slice none 0 0) [] := ⟨World.ownsRow_nil _ _ _ _, h, hB⟩
theorem Buf.of_make {e : TypeId} {B : Nat} {a w w' : World} {v : Value} (h : Below B a w) (hB : B ≤ w.heap.size) (ho : w'.ownsRow B e 1 v 0 []) (hg : w.grownBy w' none) : Buf e B a w' v [] :=
  ⟨ho, h.grown hg hB (fun _ h => by cases h), Nat.le_trans hB hg.size⟩
theorem Buf.alloc {e : TypeId} {B : Nat} {a w : World} {v : Value} {l : List UInt8} (h : Buf e B a w v l) (o : Obj) : Buf e B a (w.alloc o) v l :=
  ⟨h.own.alloc o, h.bel.alloc h.base o, by have := h.base; simp; omega⟩
theorem Buf.drew {e : TypeId} {B : Nat} {a w : World} {v : Value} {l : List UInt8} (h : Buf e B a w v l) : Buf e B a w.drew v l := ⟨h.own, h.bel.drew, h.base⟩
theorem Buf.drewN {e : TypeId} {B : Nat} {a w : World} {v : Value} {l : List UInt8} (h : Buf e B a w v l) (n : Nat) : Buf e B a (w.drewN n) v l := ⟨h.own, below_drewN h.bel n, h.base⟩
/-- a buffer that holds something is not nil -/
theorem Buf.form {e : TypeId} {B : Nat} {a w : World} {v : Value} {l : List UInt8} (h : Buf e B a w v l) (hl : l ≠ []) : ∃ g cap, v = .slice (some ⟨g, 0, none⟩) l.length cap ∧ B ≤ g ∧ g < w.heap.size :=
  h.own.form (by cases l with
    | nil => exact absurd rfl hl
    | cons _ _ => simp)
theorem Buf.cells {e : TypeId} {B : Nat} {a w : World} {l : List UInt8} {g n cap : Nat} (h : Buf e B a w (.slice (some ⟨g, 0, none⟩) n cap) l) :
    ∀ j (hj : j < l.length), w.cell? ((⟨g, 0, none⟩ : Addr).add j) = some (.int .u8 (l[j].toNat : Int)) := fun j hj =>
  h.own.cells (g := g) rfl j _ (by simp [Lib.byteCells, hj])

section
variable {P : Program} {t e : TypeId}
theorem app_news {w : World} {b : Nat} {new : List UInt8} {cs : Array Value} (hcs : cs = (Lib.byteCells new).toArray) (hb : w.heap[b]? = some (.cells cs e (0, 0))) :
    ∀ j u, (Lib.byteCells new)[j]? = some u → w.cell? ((⟨b, 0, none⟩ : Addr).add j) = some u := by
  intro j u hu
  have hadd : (⟨b, 0, none⟩ : Addr).add j = ⟨b, j, none⟩ := by unfold Addr.add; split <;> simp_all
  rw [hadd, cell_of_row w b j cs e (0, 0) hb, hcs]
  simpa using hu
theorem own_below {B : Nat} {w : World} {v : Value} {n : Nat} {xs : List Value} (h : w.ownsRow B e 1 v n xs) : ∀ k, v.ownBlock = some k → B ≤ k := fun k hk => (h.lt k hk).1

/-- 'append(v, new..)', new lying whole in a block: what the law on append leaves, for a plain region's list -/
theorem wpList_app (T : ByteT P t e) {B : Nat} {a0 w : World} {ops : Array Oper} {rest : List Oper} {o : Oper} {a : Act} {Q : Exit → Act → World → Prop} (hgd : o.guard = none) (s x : Operand)
    (ho : o.op = .call { callee := .builtin .append, args := #[s, x], argTypes := #[t, t] }) (v : Value) (l : List UInt8) (hs : a.eval s = v) (h0 : Buf e B a0 w v l)
    (b : Nat) (new : List UInt8) (m c : Nat) (hx : a.eval x = .slice (some ⟨b, 0, none⟩) m c) (hm : new.length = m) (h1 : 0 < m) {cs : Array Value} (hcs : cs = (Lib.byteCells new).toArray) (hb : w.heap[b]? = some (.cells cs e (0, 0)))
    (hlim : l.length + m ≤ 140737488355328)
    (h : ∀ v' w', Buf e B a0 w' v' (l ++ new) → wpList P ops Q rest (a.put o.dst v') w') : wpList P ops Q (o :: rest) a w := by
  obtain ⟨i, hi, hz, hz1, hz2⟩ := info_parts T.info
  refine wpList_append_lies w hgd s x t ho B e i (.int .u8 0) 1 1 T.ht hi hz hz1 hz2 rfl (by omega) v l.length (Lib.byteCells l) hs h0.own ⟨b, 0, none⟩ m c (Lib.byteCells new) hx
    (by rw [Lib.byteCells_length]; omega) (app_news hcs hb) (Lib.byteCells_one _) h1 (by unfold maxLen; omega) (by omega) h0.base w.heap.size rfl ?_
  intro g cap w' hown hgrow _ _
  refine h _ _ ⟨?_, h0.bel.grown hgrow h0.base (own_below h0.own), Nat.le_trans h0.base hgrow.size⟩
  rw [Lib.byteCells_append, List.length_append, hm]
  exact hown
/-- the same at a step of a region that draws its order -/
theorem step_app (T : ByteT P t e) {B : Nat} {a0 w : World} {ops : Array Oper} {o : Oper} {a : Act} {K : Act → World → Prop} {Q : Exit → Act → World → Prop} {E : Prop} (hgd : o.guard = none) (s x : Operand)
    (ho : o.op = .call { callee := .builtin .append, args := #[s, x], argTypes := #[t, t] }) (v : Value) (l : List UInt8) (hs : a.eval s = v) (h0 : Buf e B a0 w v l)
    (b : Nat) (new : List UInt8) (m c : Nat) (hx : a.eval x = .slice (some ⟨b, 0, none⟩) m c) (hm : new.length = m) (h1 : 0 < m) {cs : Array Value} (hcs : cs = (Lib.byteCells new).toArray) (hb : w.heap[b]? = some (.cells cs e (0, 0)))
    (hlim : l.length + m ≤ 140737488355328)
    (h : ∀ v' w', Buf e B a0 w' v' (l ++ new) → K (a.put o.dst v') w') : if Region.wanted o (yielded ops a.tmps) = true then Oper.wp P o a w K Q else E := by
  obtain ⟨i, hi, hz, hz1, hz2⟩ := info_parts T.info
  refine step_append_lies w hgd s x t ho B e i (.int .u8 0) 1 1 T.ht hi hz hz1 hz2 rfl (by omega) v l.length (Lib.byteCells l) hs h0.own ⟨b, 0, none⟩ m c (Lib.byteCells new) hx
    (by rw [Lib.byteCells_length]; omega) (app_news hcs hb) (Lib.byteCells_one _) h1 (by unfold maxLen; omega) (by omega) h0.base w.heap.size rfl ?_
  intro g cap w' hown hgrow _ _
  refine h _ _ ⟨?_, h0.bel.grown hgrow h0.base (own_below h0.own), Nat.le_trans h0.base hgrow.size⟩
  rw [Lib.byteCells_append, List.length_append, hm]
  exact hown
end
/-- a slice literal of bytes -/
theorem Buf.new {e : TypeId} {B : Nat} {a w : World} (h : Below B a w) (hB : B ≤ w.heap.size) (l : List UInt8) {cs : Array Value} (hcs : cs = (Lib.byteCells l).toArray) {n : Nat} (hn : n = l.length) (hm : l.length ≤ 140737488355328) :
    Buf e B a (w.alloc (.cells cs e)) (.slice (some ⟨w.heap.size, 0, none⟩) n n) l := by
  subst hn hcs
  refine ⟨⟨by simp [Lib.byteCells], .inr ⟨w.heap.size, l.length, (Lib.byteCells l).toArray, rfl, hB, heap_alloc_new w _, Nat.le_refl _, by unfold maxLen; omega, by simp [Lib.byteCells], ?_⟩⟩, h.alloc hB _, by simp; omega⟩
  rw [List.take_of_length_le (by simp [Lib.byteCells])]
/-- 'string(b)' -/
theorem Buf.text {P : Program} {t e d : TypeId} (T : ByteT P t e) (hd : P.underlying d = some .string) {B : Nat} {a w : World} {v : Value} {l : List UInt8} (h : Buf e B a w v l) :
    (convert t d v).run P w = .ok (.string ⟨l.toArray⟩) w := by
  rcases h.own.2 with ⟨rfl, h0⟩ | ⟨g, cap, cur, rfl, _, hg, _⟩
  · have : l = [] := List.eq_nil_of_length_eq_zero h0
    subst this
    rw [run_convert_bytes_string w t d e none 0 0 T.ht T.he hd]
    rfl
  · exact run_convert_bytes_back (P := P) w t d e ⟨g, 0, none⟩ cap l T.ht T.he hd h.cells
/-- a buffer stands while nothing that is there turns -/
theorem own_more {e : TypeId} {B size : Nat} {w w' : World} {v : Value} {n : Nat} {xs : List Value} (h : w.ownsRow B e size v n xs) (hb : Below w.heap.size w w') : w'.ownsRow B e size v n xs := by
  refine h.kept (row := none) ⟨hb.os, hb.tape, hb.output, hb.size, fun k hk _ => hb.block k hk⟩ ?_
  cases hv : v.ownBlock
  · exact .inl rfl
  · exact .inr (by simp)
theorem Buf.more {e : TypeId} {B : Nat} {a w w' : World} {v : Value} {l : List UInt8} (h : Buf e B a w v l) (hb : Below w.heap.size w w') : Buf e B a w' v l :=
  ⟨own_more h.own hb, h.bel.trans (hb.mono h.base), Nat.le_trans h.base hb.size⟩
theorem below_self {w w' : World} (h : ∃ n, w' = w.drewN n) : Below w.heap.size w w' := by
  obtain ⟨n, rfl⟩ := h
  exact below_drewN (Below.refl _ _) n
theorem isEmpty_no (r : ByteArray) (h : 0 < r.size) : r.toList.isEmpty = false := by
  rw [ByteArray.toList_eq, List.isEmpty_eq_false_iff]
  intro e
  have e := congrArg List.length e
  simp only [Array.length_toList, ByteArray.size_data, List.length_nil] at e
  omega
theorem isEmpty_yes (r : ByteArray) (h : r.size = 0) : r.toList.isEmpty = true := by
  rw [ByteArray.toList_eq, List.isEmpty_iff]
  exact List.eq_nil_of_length_eq_zero (by simp only [Array.length_toList, ByteArray.size_data]; exact h)
/-- the slice value v holds the texts ss, in memory that lies in w -/
def StrL (w : World) (v : Value) (ss : List ByteArray) : Prop :=
  ∃ A c, v = .slice A ss.length c ∧ (ss = [] ∨ ∃ b o, A = some ⟨b, o, none⟩ ∧ b < w.heap.size ∧ ∀ i (h : i < ss.length), w.cell? ⟨b, o + i, none⟩ = some (.string ss[i]))
theorem StrL.more {w w' : World} {v : Value} {ss : List ByteArray} (h : StrL w v ss) (hb : Below w.heap.size w w') : StrL w' v ss := by
  obtain ⟨A, c, rfl, h⟩ := h
  refine ⟨A, c, rfl, ?_⟩
  rcases h with h | ⟨b, o, rfl, hlt, hc⟩
  · exact .inl h
  · exact .inr ⟨b, o, rfl, Nat.lt_of_lt_of_le hlt hb.size, fun i hi => (hb.cell (p := ⟨b, o + i, none⟩) hlt).trans (hc i hi)⟩
theorem StrL.alloc {w : World} {v : Value} {ss : List ByteArray} (h : StrL w v ss) (o : Obj) : StrL (w.alloc o) v ss := h.more ((Below.refl _ _).alloc (Nat.le_refl _) _)
/-! ### a row of texts that the call makes -/
structure StrT (P : Program) (t e : TypeId) : Prop where
  ht : P.underlying t = some (.slice e)
  info : (P.info? e).map (fun i => (i.zero, i.size, i.bytes)) = some (some (.string ⟨#[]⟩), 1, 16)
structure SOwn (e : TypeId) (B : Nat) (w : World) (v : Value) (ss : List ByteArray) : Prop where
  own : w.ownsRow B e 1 v ss.length (ss.map .string)
  base : B ≤ w.heap.size
theorem SOwn.nil {e : TypeId} {B : Nat} {w : World} (hB : B ≤ w.heap.size) : SOwn e B w (.slice none 0 0) [] := ⟨World.ownsRow_nil _ _ _ _, hB⟩
theorem SOwn.more {e : TypeId} {B : Nat} {w w' : World} {v : Value} {ss : List ByteArray} (h : SOwn e B w v ss) (hb : Below w.heap.size w w') : SOwn e B w' v ss :=
  ⟨own_more h.own hb, Nat.le_trans h.base hb.size⟩
theorem SOwn.alloc {e : TypeId} {B : Nat} {w : World} {v : Value} {ss : List ByteArray} (h : SOwn e B w v ss) (o : Obj) : SOwn e B (w.alloc o) v ss := h.more ((Below.refl _ _).alloc (Nat.le_refl _) _)
theorem SOwn.strL {e : TypeId} {B : Nat} {w : World} {v : Value} {ss : List ByteArray} (h : SOwn e B w v ss) : StrL w v ss := by
  cases ss with
  | nil =>
    rcases h.own.2 with ⟨rfl, _⟩ | ⟨g, cap, cur, rfl, _⟩
    · exact ⟨none, 0, rfl, .inl rfl⟩
    · exact ⟨_, cap, rfl, .inl rfl⟩
  | cons x r =>
    obtain ⟨g, cap, rfl, _, hlt⟩ := h.own.form (by simp)
    refine ⟨_, cap, rfl, .inr ⟨g, 0, rfl, hlt, fun i hi => ?_⟩⟩
    have := h.own.cells (g := g) rfl i (.string (x :: r)[i]) (by rw [List.getElem?_map, List.getElem?_eq_getElem hi]; rfl)
    have hadd : (⟨g, 0, none⟩ : Addr).add i = ⟨g, 0 + i, none⟩ := by unfold Addr.add; split <;> simp_all
    rw [← hadd]
    exact this
theorem own_below' {e : TypeId} {size B : Nat} {w : World} {v : Value} {n : Nat} {xs : List Value} (h : w.ownsRow B e size v n xs) : ∀ k, v.ownBlock = some k → B ≤ k := fun k hk => (h.lt k hk).1
section
variable {P : Program} {t e : TypeId}
theorem wpList_sapp (T : StrT P t e) {B : Nat} {w : World} {ops : Array Oper} {rest : List Oper} {o : Oper} {a : Act} {Q : Exit → Act → World → Prop} (hgd : o.guard = none) (s x : Operand)
    (ho : o.op = .call { callee := .builtin .append, args := #[s, x], argTypes := #[t, t] }) (v : Value) (ss : List ByteArray) (hs : a.eval s = v) (h0 : SOwn e B w v ss)
    (b : Nat) (new : ByteArray) (c : Nat) (hx : a.eval x = .slice (some ⟨b, 0, none⟩) 1 c) (hb : w.heap[b]? = some (.cells #[.string new] e (0, 0)))
    (hlim : ss.length ≤ 1000000000)
    (h : ∀ v' w', SOwn e B w' v' (ss ++ [new]) → Below B w w' → wpList P ops Q rest (a.put o.dst v') w') : wpList P ops Q (o :: rest) a w := by
  obtain ⟨i, hi, hz, hz1, hz2⟩ := info_parts T.info
  refine wpList_append_lies w hgd s x t ho B e i (.string ⟨#[]⟩) 1 16 T.ht hi hz hz1 hz2 rfl (by omega) v ss.length (ss.map .string) hs h0.own ⟨b, 0, none⟩ 1 c [.string new] hx
    rfl ?_ (by intro u hu; simp at hu; subst hu; rfl) (by omega) (by unfold maxLen; omega) (by omega) h0.base w.heap.size rfl ?_
  · intro j u hu
    match j, hu with
    | 0, hu =>
      simp at hu
      subst hu
      have hadd : (⟨b, 0, none⟩ : Addr).add 0 = ⟨b, 0, none⟩ := by simp [Addr.add]
      rw [hadd, cell_of_row w b 0 #[.string new] e (0, 0) hb]
      rfl
  · intro g cap w' hown hgrow _ _
    refine h _ _ ⟨?_, Nat.le_trans h0.base hgrow.size⟩ ((Below.refl B w).grown hgrow h0.base (own_below' h0.own))
    rw [List.map_append, List.length_append]
    exact hown
end
section
variable {P : Program} {t e d : TypeId}
/-- 'append(v, s...)', s a text -/
theorem wpList_appstr (T : ByteT P t e) (hd : P.underlying d = some .string) {B : Nat} {a0 w : World} {ops : Array Oper} {rest : List Oper} {o : Oper} {a : Act} {Q : Exit → Act → World → Prop} (hgd : o.guard = none) (s x : Operand)
    (ho : o.op = .call { callee := .builtin .append, args := #[s, x], argTypes := #[t, d] }) (v : Value) (l : List UInt8) (hs : a.eval s = v) (h0 : Buf e B a0 w v l)
    (new : ByteArray) (hx : a.eval x = .string new) (hlim : l.length + new.size ≤ 140737488355328)
    (h : ∀ v' w', Buf e B a0 w' v' (l ++ new.data.toList) → wpList P ops Q rest (a.put o.dst v') w') : wpList P ops Q (o :: rest) a w := by
  obtain ⟨i, hi, hz, hz1, hz2⟩ := info_parts T.info
  refine Lib.wpList_append_own_string w hgd s x t d ho B e i T.ht hd hi hz hz1 hz2 v l.length (Lib.byteCells l) hs h0.own new hx (by unfold maxLen; omega) (by omega) h0.base ?_
  intro v' w' hown hgrow _
  refine h _ _ ⟨?_, h0.bel.grown hgrow h0.base (own_below h0.own), Nat.le_trans h0.base hgrow.size⟩
  have e1 : Lib.strCells new = Lib.byteCells new.data.toList := by simp [Lib.strCells, Lib.byteCells]
  rw [Lib.byteCells_append, List.length_append, ← e1]
  have e2 : new.data.toList.length = new.size := by simp
  rw [e2]
  exact hown
end
end Go.Proofs.YtkcdifanhdakhaaDoor
