/- Words for memory: lists of numbers and of periods, as slices. -/
import Derived.Test.YtnfdmdhpbaifiaaDoorPerA
import Derived.Deep.AppendLies
namespace Go.Proofs.YtnfdmdhpbaifiaaDoor
open Go.RowKit
set_option linter.unusedSimpArgs false
set_option linter.unusedVariables false

/-- the slice value v holds the numbers l, in memory that lies in w -/
def IntL (w : World) (v : Value) (l : List Int) : Prop :=
  ∃ A c, v = .slice A l.length c ∧ (l = [] ∨ ∃ b o, A = some ⟨b, o, none⟩ ∧ b < w.heap.size ∧ ∀ i (h : i < l.length), w.cell? ⟨b, o + i, none⟩ = some (.int .i64 l[i]))
theorem IntL.more {w w' : World} {v : Value} {l : List Int} (h : IntL w v l) (hb : Below w.heap.size w w') : IntL w' v l := by
  obtain ⟨A, c, rfl, h⟩ := h
  refine ⟨A, c, rfl, ?_⟩
  rcases h with h | ⟨b, o, rfl, hlt, hc⟩
  · exact .inl h
  · exact .inr ⟨b, o, rfl, Nat.lt_of_lt_of_le hlt hb.size, fun i hi => (hb.cell (p := ⟨b, o + i, none⟩) hlt).trans (hc i hi)⟩
theorem IntL.of_own {e : TypeId} {B : Nat} {w : World} {v : Value} {l : List Int} (h : w.ownsRow B e 1 v l.length (l.map (Value.int .i64))) : IntL w v l := by
  cases l with
  | nil =>
    rcases h.2 with ⟨rfl, _⟩ | ⟨g, cap, cur, rfl, _⟩
    · exact ⟨none, 0, rfl, .inl rfl⟩
    · exact ⟨_, cap, rfl, .inl rfl⟩
  | cons x r =>
    obtain ⟨g, cap, rfl, _, hlt⟩ := h.form (by simp)
    refine ⟨_, cap, rfl, .inr ⟨g, 0, rfl, hlt, fun i hi => ?_⟩⟩
    have := h.cells (g := g) rfl i (.int .i64 (x :: r)[i]) (by rw [List.getElem?_map, List.getElem?_eq_getElem hi]; rfl)
    have hadd : (⟨g, 0, none⟩ : Addr).add i = ⟨g, 0 + i, none⟩ := by unfold Addr.add; split <;> simp_all
    rw [← hadd]
    exact this
/-- the cells of periods, one behind the other -/
def cellsQ (l : List Per) : List Value := l.flatMap fun p => [.int .i64 p.1, .int .i64 p.2.1, .int .i64 p.2.2]
theorem cellsQ_len (l : List Per) : (cellsQ l).length = l.length * 3 := by
  induction l with
  | nil => rfl
  | cons x r ih => simp only [cellsQ, List.flatMap_cons, List.length_append, List.length_cons, List.length_nil] at ih ⊢; omega
theorem cellsQ_app (l m : List Per) : cellsQ (l ++ m) = cellsQ l ++ cellsQ m := by simp [cellsQ]
theorem cellsQ_at : ∀ (l : List Per) (i : Nat) (h : i < l.length), (cellsQ l)[i * 3]? = some (.int .i64 l[i].1) ∧ (cellsQ l)[i * 3 + 1]? = some (.int .i64 l[i].2.1) ∧ (cellsQ l)[i * 3 + 2]? = some (.int .i64 l[i].2.2)
  | [], i, h => by simp at h
  | x :: r, 0, h => by simp [cellsQ]
  | x :: r, i + 1, h => by
    have ih := cellsQ_at r i (by simpa using h)
    have e : cellsQ (x :: r) = .int .i64 x.1 :: .int .i64 x.2.1 :: .int .i64 x.2.2 :: cellsQ r := by simp [cellsQ]
    rw [e, show (i + 1) * 3 = i * 3 + 1 + 1 + 1 by omega, show i * 3 + 1 + 1 + 1 + 1 = (i * 3 + 1) + 1 + 1 + 1 by omega, show i * 3 + 1 + 1 + 1 + 2 = (i * 3 + 2) + 1 + 1 + 1 by omega]
    simp only [List.getElem?_cons_succ, List.getElem_cons_succ]
    exact ih
/-- the slice value v holds the periods l, in memory that lies in w -/
def PerL (w : World) (v : Value) (l : List Per) : Prop :=
  ∃ A c, v = .slice A l.length c ∧ (l = [] ∨ ∃ b o, A = some ⟨b, o, none⟩ ∧ b < w.heap.size ∧ ∀ i (h : i < l.length), w.cell? ⟨b, o + i * 3, none⟩ = some (.int .i64 l[i].1) ∧ w.cell? ⟨b, o + i * 3 + 1, none⟩ = some (.int .i64 l[i].2.1) ∧ w.cell? ⟨b, o + i * 3 + 2, none⟩ = some (.int .i64 l[i].2.2))
theorem PerL.more {w w' : World} {v : Value} {l : List Per} (h : PerL w v l) (hb : Below w.heap.size w w') : PerL w' v l := by
  obtain ⟨A, c, rfl, h⟩ := h
  refine ⟨A, c, rfl, ?_⟩
  rcases h with h | ⟨b, o, rfl, hlt, hc⟩
  · exact .inl h
  · exact .inr ⟨b, o, rfl, Nat.lt_of_lt_of_le hlt hb.size, fun i hi => ⟨(hb.cell (p := ⟨b, o + i * 3, none⟩) hlt).trans (hc i hi).1, (hb.cell (p := ⟨b, o + i * 3 + 1, none⟩) hlt).trans (hc i hi).2.1, (hb.cell (p := ⟨b, o + i * 3 + 2, none⟩) hlt).trans (hc i hi).2.2⟩⟩
theorem PerL.of_own {e : TypeId} {B : Nat} {w : World} {v : Value} {l : List Per} (h : w.ownsRow B e 3 v l.length (cellsQ l)) : PerL w v l := by
  cases l with
  | nil =>
    rcases h.2 with ⟨rfl, _⟩ | ⟨g, cap, cur, rfl, _⟩
    · exact ⟨none, 0, rfl, .inl rfl⟩
    · exact ⟨_, cap, rfl, .inl rfl⟩
  | cons x r =>
    obtain ⟨g, cap, rfl, _, hlt⟩ := h.form (by simp [cellsQ])
    have hadd : ∀ j, (⟨g, 0, none⟩ : Addr).add j = ⟨g, 0 + j, none⟩ := fun j => by unfold Addr.add; split <;> simp_all
    refine ⟨_, cap, rfl, .inr ⟨g, 0, rfl, hlt, fun i hi => ?_⟩⟩
    obtain ⟨a0, a1, a2⟩ := cellsQ_at (x :: r) i hi
    have h0 := h.cells (g := g) rfl _ _ a0
    have h1 := h.cells (g := g) rfl _ _ a1
    have h2 := h.cells (g := g) rfl _ _ a2
    rw [hadd] at h0 h1 h2
    exact ⟨h0, by rw [Nat.add_assoc]; exact h1, by rw [Nat.add_assoc]; exact h2⟩

/-- a row of numbers of the call's own -/
structure IOwn (e : TypeId) (B : Nat) (w : World) (v : Value) (l : List Int) : Prop where
  own : w.ownsRow B e 1 v l.length (l.map (Value.int .i64))
  base : B ≤ w.heap.size
theorem IOwn.nil {e : TypeId} {B : Nat} {w : World} (hB : B ≤ w.heap.size) : IOwn e B w (.slice none 0 0) [] := ⟨World.ownsRow_nil _ _ _ _, hB⟩
theorem IOwn.more {e : TypeId} {B : Nat} {w w' : World} {v : Value} {l : List Int} (h : IOwn e B w v l) (hb : Below w.heap.size w w') : IOwn e B w' v l := ⟨own_more h.own hb, Nat.le_trans h.base hb.size⟩
theorem IOwn.alloc {e : TypeId} {B : Nat} {w : World} {v : Value} {l : List Int} (h : IOwn e B w v l) (o : Obj) : IOwn e B (w.alloc o) v l := h.more (bel_alloc w o)
/-- a row of periods of the call's own -/
structure POwn (e : TypeId) (B : Nat) (w : World) (v : Value) (l : List Per) : Prop where
  own : w.ownsRow B e 3 v l.length (cellsQ l)
  base : B ≤ w.heap.size
theorem POwn.nil {e : TypeId} {B : Nat} {w : World} (hB : B ≤ w.heap.size) : POwn e B w (.slice none 0 0) [] := ⟨World.ownsRow_nil _ _ _ _, hB⟩
theorem POwn.more {e : TypeId} {B : Nat} {w w' : World} {v : Value} {l : List Per} (h : POwn e B w v l) (hb : Below w.heap.size w w') : POwn e B w' v l := ⟨own_more h.own hb, Nat.le_trans h.base hb.size⟩
theorem POwn.alloc {e : TypeId} {B : Nat} {w : World} {v : Value} {l : List Per} (h : POwn e B w v l) (o : Obj) : POwn e B (w.alloc o) v l := h.more (bel_alloc w o)

theorem info_int : (Tryd.prog.info? 3).map (fun i => (i.zero, i.size, i.bytes)) = some (some (.int .i64 0), 1, 8) := by kernel_rfl
theorem info_per : (Tryd.prog.info? 23).map (fun i => (i.zero, i.size, i.bytes)) = some (some (.agg #[.int .i64 0, .int .i64 0, .int .i64 0]), 3, 24) := by kernel_rfl
section
/-- 'append(v, p)' for periods -/
theorem wpList_papp {B : Nat} {w : World} {ops : Array Oper} {rest : List Oper} {o : Oper} {a : Act} {Q : Exit → Act → World → Prop} (hgd : o.guard = none) (s x : Operand)
    (ho : o.op = .call { callee := .builtin .append, args := #[s, x], argTypes := #[33, 33] }) (v : Value) (l : List Per) (hs : a.eval s = v) (h0 : POwn 23 B w v l)
    (b : Nat) (new : Per) (c : Nat) (hx : a.eval x = .slice (some ⟨b, 0, none⟩) 1 c) (hb : w.heap[b]? = some (.cells #[.int .i64 new.1, .int .i64 new.2.1, .int .i64 new.2.2] 23 (0, 0)))
    (hlim : l.length ≤ 1000000000)
    (h : ∀ v' w', POwn 23 B w' v' (l ++ [new]) → Below B w w' → wpList Tryd.prog ops Q rest (a.put o.dst v') w') : wpList Tryd.prog ops Q (o :: rest) a w := by
  obtain ⟨i, hi, hz, hz1, hz2⟩ := info_parts info_per
  refine wpList_append_lies w hgd s x 33 ho B 23 i (.agg #[.int .i64 0, .int .i64 0, .int .i64 0]) 3 24 Tryd.underlying33 hi hz hz1 hz2 rfl (by omega) v l.length (cellsQ l) hs h0.own ⟨b, 0, none⟩ 1 c (cellsQ [new]) hx
    rfl ?_ (by intro u hu; simp [cellsQ] at hu; rcases hu with rfl | rfl | rfl <;> rfl) (by omega) (by unfold maxLen; omega) (by omega) h0.base w.heap.size rfl ?_
  · exact World.news_of_block (cs := #[.int .i64 new.1, .int .i64 new.2.1, .int .i64 new.2.2]) hb
  · intro g cap w' hown hgrow _ _
    refine h _ _ ⟨?_, Nat.le_trans h0.base hgrow.size⟩ ((Below.refl B w).grown hgrow h0.base (own_below' h0.own))
    rw [cellsQ_app, List.length_append]
    exact hown
end

end Go.Proofs.YtnfdmdhpbaifiaaDoor
