/- What bid takes from the texts below: rows of ones own, rows of numbers, quiet regions, worlds. -/
import Derived.WalkKit
import Derived.WalkSpells
import Derived.WalkLawsBesides
import Derived.Deep.AppendLies
import Derived.Lib.UnsafeStr
import Derived.Lib.BufferWrite
import Derived.Lib.AppendStr
import Derived.Lib.Hide
import Derived.Test.YthillkbcbklhaaaRows
import Derived.OwnWalk
import Derived.IntWalk
import Derived.Deep.QuietTactic
import Derived.BigQuiet
import Derived.Lib.AtoiAll
import Derived.Lib.ItoaNum
import Derived.Shelf.Abstract
import Derived.Deep.LoopGhost
import Derived.Maps.OwnSet
import Derived.Deep.RegionHeld3
import Derived.Deep.Onto
import Derived.Lib.ItoaLen
import Derived.Laws.OwnMore
import Derived.Deep.OwnRows
import Derived.Deep.CutRange
import Derived.Deep.CutBlock
import Derived.OrdersHeld
import Derived.Deep.RegionWith
namespace Go.Proofs.Ythillkbcbklhaaa
open Go.RowKit
set_option linter.unusedSimpArgs false
set_option linter.unusedVariables false

theorem ret_bool {a b : Bool} (h : a = b) : Ending.returned (.bool a) = .returned (.bool b) := by rw [h]
theorem ret_int {k : IntKind} {a b : Int} (h : a = b) : Ending.returned (.int k a) = .returned (.int k b) := by rw [h]
theorem below_drewN {B : Nat} {a w : World} (h : Below B a w) (n : Nat) : Below B a (w.drewN n) := ⟨h.os, h.tape, h.output, h.size, h.block⟩

section
variable {P : Program} {t e : TypeId}
end
/-- a buffer stands while nothing that is there turns -/
theorem own_more {e : TypeId} {B size : Nat} {w w' : World} {v : Value} {n : Nat} {xs : List Value} (h : w.ownsRow B e size v n xs) (hb : Below w.heap.size w w') : w'.ownsRow B e size v n xs := by
  refine h.kept (row := none) ⟨hb.os, hb.tape, hb.output, hb.size, fun k hk _ => hb.block k hk⟩ ?_
  cases hv : v.ownBlock
  · exact .inl rfl
  · exact .inr (by simp)
section
variable {P : Program} {t e : TypeId}
end
section
variable {P : Program} {t e d : TypeId}
end
end Go.Proofs.Ythillkbcbklhaaa

namespace Go.Proofs.Ythillkbcbklhaaa
open Go.RowKit
set_option linter.unusedSimpArgs false
set_option linter.unusedVariables false

theorem bel_alloc (w : World) (o : Obj) : Below w.heap.size w (w.alloc o) := (Below.refl _ w).alloc (Nat.le_refl _) o
/-! ### worlds that have only grown since w5, as a class: quiet walks of drawn regions -/
abbrev SW (w5 : World) : World → Prop := fun W => Below w5.heap.size w5 W
structure Wd (S : World → Prop) where
  w : World
  ok : S w
theorem quietS {P : Program} {S : World → Prop} {id : Nat} {Q : Exit → Act → World → Prop} {a : Act} {w : World} {l : List Oper} (hm : P.follows .mixedOrders = true) (hB : Region.lexB .any l.toArray = true) (hC : S w.drew)
    (h : wpQuiet P l.toArray (fun w' => ∃ x : Wd S, w' = x.w) (fun a' => ∀ w', (∃ x : Wd S, w' = x.w) → Q .normal a' w') l a) : (Code.region id l.toArray true).wp P Q a w :=
  wp_region_quiet (C := fun w' => ∃ x : Wd S, w' = x.w) hm hB ⟨⟨_, hC⟩, rfl⟩ (by simpa using h)
theorem quiet_S {P : Program} {f : FuncId} {args : Array Value} {W : World} {S : World → Prop} {v : Value} (h : Calls P f args W fun e w' => e = .returned v ∧ S w') :
    Calls P f args W fun e w'' => e = .returned v ∧ ∃ x : Wd S, w'' = x.w := h.mono (by rintro e w' ⟨he, hs⟩; exact ⟨he, ⟨w', hs⟩, rfl⟩)
theorem SW.cell {w5 : World} {a : Addr} {v : Value} (h : w5.cell? a = some v) (x : Wd (SW w5)) : x.w.cell? a = some v := (Below.cell (show Below w5.heap.size w5 x.w from x.ok) (World.block_lt_of_cell? w5 _ h)).trans h
theorem SW.call {f : Nat} {args : Array Value} {w5 : World} {v : Value} (h : ∀ W, Below w5.heap.size w5 W → Calls Try.prog f args W fun e w' => e = .returned v ∧ Below W.heap.size W w') (W : World) (hW : SW w5 W) :
    Calls Try.prog f args W fun e w' => e = .returned v ∧ SW w5 w' := (h W hW).mono (by rintro e w' ⟨he, hb⟩; exact ⟨he, hW.trans (hb.mono hW.size)⟩)
theorem SW.drew (w5 : World) : SW w5 w5.drew := (Below.refl _ _).drew
theorem cells_new (w : World) (cs : Array Value) (t : TypeId) (j : Nat) : (w.alloc (.cells cs t)).cell? ⟨w.heap.size, j, none⟩ = cs[j]? := cell_of_row _ _ j _ _ (0, 0) (heap_alloc_new w (.cells cs t))

end Go.Proofs.Ythillkbcbklhaaa

namespace Go.Proofs.Ythillkbcbklhaaa
set_option linter.unusedSimpArgs false
set_option linter.unusedVariables false

end Go.Proofs.Ythillkbcbklhaaa

namespace Go.Proofs.Ythillkbcbklhaaa
open Go.RowKit
set_option linter.unusedSimpArgs false
set_option linter.unusedVariables false

end Go.Proofs.Ythillkbcbklhaaa

namespace Go.Proofs.Ythillkbcbklhaaa
open Go.RowKit Go.Shelf
set_option linter.unusedSimpArgs false
set_option linter.unusedVariables false

theorem bel_cell {w w' : World} {a : Addr} {v : Value} (h : Below w.heap.size w w') (hc : w.cell? a = some v) : w'.cell? a = some v := (h.cell (World.block_lt_of_cell? _ _ hc)).trans hc
theorem bel_get {w5 : World} {a : Addr} {v : Value} (h : w5.cell? a = some v) (W : World) (hS : SW w5 W) : W.cell? a = some v := bel_cell hS h
end Go.Proofs.Ythillkbcbklhaaa

namespace Go.Proofs.Ythillkbcbklhaaa
open Go.RowKit Go.Shelf
set_option linter.unusedSimpArgs false
set_option linter.unusedVariables false

end Go.Proofs.Ythillkbcbklhaaa

namespace Go.Proofs.Ythillkbcbklhaaa
open Go.RowKit Go.Maps Go.MapKept
open Go.WideElems (Fit rd rg pl rd_key rd_val rg_of rd_mk)
open Go.ChangeMaps (setBlock putKey notKey heap_setBlock_same heap_setBlock_other)
open Go.WideMaps (keyOf_string_mk)
set_option linter.unusedSimpArgs false
set_option linter.unusedVariables false
set_option linter.unusedSectionVars false

/-- an element, read as the value that it is -/
def Rh (v : Value) : Option (DataW Value × List MemPlace) := some (.held v, [])
section
variable {κ : Type} [DecidableEq κ] {P : Program} {k t e : TypeId} {en : κ → Value} {w w' : World} {b n : Nat} {g : κ → Option Value}
/-- block b is a map of at most n entries: at key c it has g c -/
def MapK (P : Program) (k : TypeId) (en : κ → Value) (w : World) (b n : Nat) (g : κ → Option Value) : Prop :=
  ∃ es clock, w.heap[b]? = some (.map es clock) ∧ Fit P k Rh es clock ∧ es.size ≤ n ∧ ∀ c v, g c = some v ↔ ∃ x ∈ es.toList, x.key = en c ∧ x.val = v
theorem MapK.made (w : World) (P : Program) (k : TypeId) (en : κ → Value) : MapK P k en (w.alloc (.map #[] 0)) w.heap.size 0 (fun _ => none) :=
  ⟨#[], 0, (MapKept.heap_alloc w _).1, ⟨by simp, stamped_empty 0, by simp⟩, Nat.le_refl _, by simp⟩
theorem MapK.lt (h : MapK P k en w b n g) : b < w.heap.size := by
  obtain ⟨es, clock, hb, _⟩ := h
  exact (Array.getElem?_eq_some_iff.1 hb).1
theorem MapK.same (h : MapK P k en w b n g) (he : w'.heap[b]? = w.heap[b]?) : MapK P k en w' b n g := by
  obtain ⟨es, clock, hb, r⟩ := h
  exact ⟨es, clock, he.trans hb, r⟩
theorem MapK.more (h : MapK P k en w b n g) (hb : Below w.heap.size w w') : MapK P k en w' b n g := h.same (hb.block b h.lt)
theorem MapK.grown {row : Option Nat} (h : MapK P k en w b n g) (hg : w.grownBy w' row) (hne : some b ≠ row) : MapK P k en w' b n g := h.same (hg.block b h.lt hne)
end

abbrev MapS (w : World) (b n : Nat) (g : ByteArray → Option Value) : Prop := MapK Try.prog 9 Value.string w b n g
end Go.Proofs.Ythillkbcbklhaaa

namespace Go.Proofs.Ythillkbcbklhaaa
open Go.RowKit Go.Shelf
set_option linter.unusedSimpArgs false
set_option linter.unusedVariables false

/-- of the blocks that are there, none has turned but those of which X holds -/
structure But (w w' : World) (X : Nat → Prop) : Prop where
  os : w'.os = w.os
  tape : w'.tape = w.tape
  output : w'.output = w.output
  size : w.heap.size ≤ w'.heap.size
  block : ∀ k, k < w.heap.size → ¬ X k → w'.heap[k]? = w.heap[k]?
theorem But.refl (w : World) (X : Nat → Prop) : But w w X := ⟨rfl, rfl, rfl, Nat.le_refl _, fun _ _ _ => rfl⟩
theorem But.trans {w w' w'' : World} {X Y : Nat → Prop} (h : But w w' X) (h' : But w' w'' Y) (hx : ∀ k, k < w.heap.size → Y k → X k) : But w w'' X :=
  ⟨h'.os.trans h.os, h'.tape.trans h.tape, h'.output.trans h.output, Nat.le_trans h.size h'.size, fun k hk hn => (h'.block k (Nat.lt_of_lt_of_le hk h.size) fun hy => hn (hx k hk hy)).trans (h.block k hk hn)⟩
theorem But.of_below {w w' : World} {X : Nat → Prop} (h : Below w.heap.size w w') : But w w' X := ⟨h.os, h.tape, h.output, h.size, fun k hk _ => h.block k hk⟩
theorem But.below {w w' : World} {X : Nat → Prop} (h : But w w' X) {B : Nat} (hB : B ≤ w.heap.size) (hx : ∀ k, k < B → ¬ X k) : Below B w w' := ⟨h.os, h.tape, h.output, h.size, fun k hk => h.block k (Nat.lt_of_lt_of_le hk hB) (hx k hk)⟩
end Go.Proofs.Ythillkbcbklhaaa

namespace Go.Proofs.Ythillkbcbklhaaa
open Go.RowKit Go.Shelf
set_option linter.unusedSimpArgs false
set_option linter.unusedVariables false

section
variable {α : Type} {enc : α → List Value}
def cellsR (enc : α → List Value) (l : List α) : List Value := l.flatMap enc
theorem cellsR_len {sz : Nat} (h : ∀ x, (enc x).length = sz) (l : List α) : (cellsR enc l).length = l.length * sz := by
  induction l with
  | nil => simp [cellsR]
  | cons x r ih =>
    simp only [cellsR, List.flatMap_cons, List.length_append, List.length_cons, h] at ih ⊢
    rw [ih, Nat.add_mul]; omega
theorem cellsR_app (l m : List α) : cellsR enc (l ++ m) = cellsR enc l ++ cellsR enc m := by simp [cellsR]
theorem cellsR_one (x : α) : cellsR enc [x] = enc x := by simp [cellsR]
theorem cellsR_at {sz : Nat} (h : ∀ x, (enc x).length = sz) : ∀ (l : List α) (i j : Nat) (x : α) (u : Value), l[i]? = some x → (enc x)[j]? = some u → (cellsR enc l)[i * sz + j]? = some u
  | [], i, j, x, u, hi, _ => by simp at hi
  | y :: r, 0, j, x, u, hi, hu => by
    simp at hi
    subst hi
    have hj : j < (enc y).length := (List.getElem?_eq_some_iff.1 hu).1
    simp only [cellsR, List.flatMap_cons, Nat.zero_mul, Nat.zero_add]
    rw [List.getElem?_append_left hj]
    exact hu
  | y :: r, i + 1, j, x, u, hi, hu => by
    have ih := cellsR_at h r i j x u (by simpa using hi) hu
    have e : (i + 1) * sz + j = (enc y).length + (i * sz + j) := by rw [h, Nat.add_mul]; omega
    simp only [cellsR, List.flatMap_cons] at ih ⊢
    rw [e, List.getElem?_append_right (by omega), Nat.add_sub_cancel_left]
    exact ih
/-- what a row's type must be -/
structure RT (P : Program) (t e : TypeId) (sz : Nat) (enc : α → List Value) : Prop where
  ht : P.underlying t = some (.slice e)
  info : ∃ z bytes, (P.info? e).map (fun i => (i.zero, i.size, i.bytes)) = some (some z, sz, bytes) ∧ z.cells.size = sz ∧ bytes ≤ 1000
  len : ∀ x, (enc x).length = sz
  one : ∀ x, ∀ u ∈ enc x, u.oneCell' = true
  pos : 0 < sz
/-- a row of the call's own -/
structure ROwn (e : TypeId) (sz : Nat) (enc : α → List Value) (B : Nat) (w : World) (v : Value) (l : List α) : Prop where
  own : w.ownsRow B e sz v l.length (cellsR enc l)
  base : B ≤ w.heap.size
/-- the slice value v holds the elements l -/
def RowL (sz : Nat) (enc : α → List Value) (w : World) (v : Value) (l : List α) : Prop :=
  ∃ A c, v = .slice A l.length c ∧ (l = [] ∨ ∃ b o, A = some ⟨b, o, none⟩ ∧ b < w.heap.size ∧ ∀ i x j u, l[i]? = some x → (enc x)[j]? = some u → w.cell? ⟨b, o + i * sz + j, none⟩ = some u)
variable {e : TypeId} {sz B : Nat} {w w' : World} {v : Value} {l : List α}
theorem ROwn.nil (hB : B ≤ w.heap.size) : ROwn e sz enc B w (.slice none 0 0) [] := ⟨World.ownsRow_nil _ _ _ _, hB⟩
theorem ROwn.more (h : ROwn e sz enc B w v l) (hb : Below w.heap.size w w') : ROwn e sz enc B w' v l := ⟨own_more h.own hb, Nat.le_trans h.base hb.size⟩
theorem ROwn.alloc (h : ROwn e sz enc B w v l) (o : Obj) : ROwn e sz enc B (w.alloc o) v l := h.more (bel_alloc w o)
theorem RowL.more (h : RowL sz enc w v l) (hb : Below w.heap.size w w') : RowL sz enc w' v l := by
  obtain ⟨A, c, rfl, h⟩ := h
  refine ⟨A, c, rfl, ?_⟩
  rcases h with h | ⟨b, o, rfl, hlt, hc⟩
  · exact .inl h
  · exact .inr ⟨b, o, rfl, Nat.lt_of_lt_of_le hlt hb.size, fun i x j u hi hu => (hb.cell (p := ⟨b, o + i * sz + j, none⟩) hlt).trans (hc i x j u hi hu)⟩
theorem ROwn.rowL (h : ROwn e sz enc B w v l) (hlen : ∀ x, (enc x).length = sz) : RowL sz enc w v l := by
  cases l with
  | nil =>
    rcases h.own.2 with ⟨rfl, _⟩ | ⟨g, cap, cur, rfl, _⟩
    · exact ⟨none, 0, rfl, .inl rfl⟩
    · exact ⟨_, cap, rfl, .inl rfl⟩
  | cons x r =>
    obtain ⟨g, cap, rfl, _, hlt⟩ := h.own.form (by simp)
    have hadd : ∀ j, (⟨g, 0, none⟩ : Addr).add j = ⟨g, 0 + j, none⟩ := fun j => by unfold Addr.add; split <;> simp_all
    refine ⟨_, cap, rfl, .inr ⟨g, 0, rfl, hlt, fun i y j u hi hu => ?_⟩⟩
    have h0 := h.own.cells (g := g) rfl _ _ (cellsR_at hlen _ i j y u hi hu)
    rw [hadd] at h0
    rw [Nat.add_assoc]
    exact h0
/-- an element of a row -/
theorem RowL.at (h : RowL sz enc w v l) {A : Option Addr} {n c : Nat} (hv : v = .slice A n c) {k : Nat} (hk : k < l.length) : ∃ b o, A = some ⟨b, o, none⟩ ∧ b < w.heap.size ∧ ∀ j u, (enc l[k])[j]? = some u → w.cell? ⟨b, o + k * sz + j, none⟩ = some u := by
  obtain ⟨A', c', rfl, h⟩ := h
  simp only [Value.slice.injEq] at hv
  obtain ⟨rfl, rfl, rfl⟩ := hv
  rcases h with h | ⟨b, o, rfl, hlt, hc⟩
  · rw [h] at hk; simp at hk
  · exact ⟨b, o, rfl, hlt, fun j u hu => hc k _ j u (List.getElem?_eq_getElem hk) hu⟩
/-- a row literal -/
theorem RowL.new (w : World) (l : List α) (e : TypeId) (hlen : ∀ x, (enc x).length = sz) {cs : Array Value} (hcs : cs = (cellsR enc l).toArray) (c : Nat) : RowL sz enc (w.alloc (.cells cs e)) (.slice (some ⟨w.heap.size, 0, none⟩) l.length c) l := by
  subst hcs
  refine ⟨_, c, rfl, .inr ⟨w.heap.size, 0, rfl, by simp, fun i x j u hi hu => ?_⟩⟩
  rw [cells_new, List.getElem?_toArray, Nat.zero_add]
  exact cellsR_at hlen l i j x u hi hu
theorem ROwn.new (h : B ≤ w.heap.size) (l : List α) (hlen : ∀ x, (enc x).length = sz) {cs : Array Value} (hcs : cs = (cellsR enc l).toArray) (hm : l.length ≤ 1000000) : ROwn e sz enc B (w.alloc (.cells cs e)) (.slice (some ⟨w.heap.size, 0, none⟩) l.length l.length) l := by
  subst hcs
  refine ⟨⟨cellsR_len hlen l, .inr ⟨w.heap.size, l.length, (cellsR enc l).toArray, rfl, h, heap_alloc_new w _, Nat.le_refl _, by unfold maxLen; omega, by simp [cellsR_len hlen], ?_⟩⟩, by simp; omega⟩
  rw [List.take_of_length_le (by simp [cellsR_len hlen])]

/-- what a step has changed: of the blocks that were there, v's own alone; and v' lies there, or in a new one -/
structure Chg (w w' : World) (v v' : Value) : Prop where
  but : But w w' (fun k => v.ownBlock = some k)
  own : ∀ g, v'.ownBlock = some g → v.ownBlock = some g ∨ w.heap.size ≤ g
theorem Chg.refl (w : World) (v : Value) : Chg w w v v := ⟨But.refl _ _, fun g h => .inl h⟩
theorem Chg.of_below {w w' : World} {v : Value} (h : Below w.heap.size w w') : Chg w w' v v := ⟨But.of_below h, fun g h => .inl h⟩
theorem Chg.trans {w w1 w2 : World} {v v1 v2 : Value} (h : Chg w w1 v v1) (h' : Chg w1 w2 v1 v2) : Chg w w2 v v2 where
  but := h.but.trans h'.but (fun k hk hv => by
    rcases h.own k hv with h1 | h1
    · exact h1
    · omega)
  own g hg := by
    rcases h'.own g hg with h1 | h1
    · exact h.own g h1
    · exact .inr (Nat.le_trans h.but.size h1)
theorem ROwn.low (h : ROwn e sz enc B w v l) {k : Nat} (hk : v.ownBlock = some k) : B ≤ k ∧ k < w.heap.size := h.own.lt k hk
theorem Chg.below {v' : Value} (h : Chg w w' v v') (hF : ROwn e sz enc B w v l) : Below B w w' :=
  h.but.below hF.base (fun k hk hv => by have := (hF.low hv).1; omega)
theorem Chg.cell {w w' : World} {v v' : Value} (h : Chg w w' v v') {a : Addr} {x : Value} (hc : w.cell? a = some x) (hne : v.ownBlock ≠ some a.block) : w'.cell? a = some x :=
  (World.cell?_of_block (h.but.block a.block (World.block_lt_of_cell? _ _ hc) hne)).trans hc
theorem ROwn.app {P : Program} {t : TypeId} (T : RT P t e sz enc) {g cap' : Nat} {W w1 : World} {m : List α} (h : ROwn e sz enc B w v l) (hW : Below w.heap.size w W) {n : Nat} (hn : n = l.length + m.length)
    (hown : w1.ownsRow B e sz (.slice (some ⟨g, 0, none⟩) n cap') n (cellsR enc l ++ cellsR enc m)) (hgrow : W.grownBy w1 v.ownBlock) (hloc : v.ownBlock = some g ∨ g = W.heap.size) :
    ROwn e sz enc B w1 (.slice (some ⟨g, 0, none⟩) n cap') (l ++ m) ∧ Chg w w1 v (.slice (some ⟨g, 0, none⟩) n cap') := by
  have hs := hW.size
  refine ⟨⟨by rw [cellsR_app, List.length_append, ← hn]; exact hown, Nat.le_trans h.base (Nat.le_trans hs hgrow.size)⟩, ⟨⟨hgrow.os.trans hW.os, hgrow.tape.trans hW.tape, hgrow.output.trans hW.output, Nat.le_trans hs hgrow.size, fun k hk hn => (hgrow.block k (Nat.lt_of_lt_of_le hk hs) (fun e => hn e.symm)).trans (hW.block k hk)⟩, fun k hk => ?_⟩⟩
  have e : k = g := by
    have : (Value.slice (some ⟨g, 0, none⟩) n cap').ownBlock = some g := rfl
    rw [this] at hk
    exact (Option.some.inj hk).symm
  subst e
  rcases hloc with h1 | h1
  · exact .inl h1
  · exact .inr (by omega)
section
variable {P : Program} {t : TypeId}
/-- 'append(v, x)' in a plain region; w0: the world in which the row stood, before x was laid beside it -/
theorem wpList_rapp (T : RT P t e sz enc) {w0 : World} {ops : Array Oper} {rest : List Oper} {o : Oper} {a : Act} {Q : Exit → Act → World → Prop} (hgd : o.guard = none) (s x : Operand)
    (ho : o.op = .call { callee := .builtin .append, args := #[s, x], argTypes := #[t, t] }) (h0 : ROwn e sz enc B w0 v l) (hs : a.eval s = v) (hW : Below w0.heap.size w0 w)
    (b : Nat) (new : α) (c : Nat) (hx : a.eval x = .slice (some ⟨b, 0, none⟩) 1 c) {cs : Array Value} (hcs : cs = (enc new).toArray) (hb : w.heap[b]? = some (.cells cs e (0, 0)))
    (hlim : l.length ≤ 100000000)
    (h : ∀ v' w', ROwn e sz enc B w' v' (l ++ [new]) → Chg w0 w' v v' → wpList P ops Q rest (a.put o.dst v') w') : wpList P ops Q (o :: rest) a w := by
  obtain ⟨z, bytes, hinfo, hzc, hby⟩ := T.info
  obtain ⟨i, hi, hz, hz1, hz2⟩ := info_parts hinfo
  subst hcs
  refine wpList_append_lies w hgd s x t ho B e i z sz bytes T.ht hi hz hz1 hz2 hzc T.pos v l.length (cellsR enc l) hs (h0.more hW).own ⟨b, 0, none⟩ 1 c (cellsR enc [new]) hx
    (by rw [cellsR_one, T.len]; omega) (by rw [cellsR_one]; exact World.news_of_block hb) (by rw [cellsR_one]; exact T.one new) (by omega) (by unfold maxLen; omega) ?_ (h0.more hW).base w.heap.size rfl ?_
  · have : (l.length + 1) * bytes ≤ (l.length + 1) * 1000 := Nat.mul_le_mul_left _ hby
    omega
  · intro g cap w' hown hgrow hloc _
    obtain ⟨r1, r2⟩ := h0.app T hW (m := [new]) rfl hown hgrow hloc
    exact h _ _ r1 r2
/-- the same at a step of a region that draws its order -/
theorem step_rapp (T : RT P t e sz enc) {w0 : World} {ops : Array Oper} {o : Oper} {a : Act} {K : Act → World → Prop} {Q : Exit → Act → World → Prop} {E : Prop} (hgd : o.guard = none) (s x : Operand)
    (ho : o.op = .call { callee := .builtin .append, args := #[s, x], argTypes := #[t, t] }) (h0 : ROwn e sz enc B w0 v l) (hs : a.eval s = v) (hW : Below w0.heap.size w0 w)
    (b : Nat) (new : α) (c : Nat) (hx : a.eval x = .slice (some ⟨b, 0, none⟩) 1 c) {cs : Array Value} (hcs : cs = (enc new).toArray) (hb : w.heap[b]? = some (.cells cs e (0, 0)))
    (hlim : l.length ≤ 100000000)
    (h : ∀ v' w', ROwn e sz enc B w' v' (l ++ [new]) → Chg w0 w' v v' → K (a.put o.dst v') w') : if Region.wanted o (yielded ops a.tmps) = true then Oper.wp P o a w K Q else E := by
  obtain ⟨z, bytes, hinfo, hzc, hby⟩ := T.info
  obtain ⟨i, hi, hz, hz1, hz2⟩ := info_parts hinfo
  subst hcs
  refine step_append_lies w hgd s x t ho B e i z sz bytes T.ht hi hz hz1 hz2 hzc T.pos v l.length (cellsR enc l) hs (h0.more hW).own ⟨b, 0, none⟩ 1 c (cellsR enc [new]) hx
    (by rw [cellsR_one, T.len]; omega) (by rw [cellsR_one]; exact World.news_of_block hb) (by rw [cellsR_one]; exact T.one new) (by omega) (by unfold maxLen; omega) ?_ (h0.more hW).base w.heap.size rfl ?_
  · have : (l.length + 1) * bytes ≤ (l.length + 1) * 1000 := Nat.mul_le_mul_left _ hby
    omega
  · intro g cap w' hown hgrow hloc _
    obtain ⟨r1, r2⟩ := h0.app T hW (m := [new]) rfl hown hgrow hloc
    exact h _ _ r1 r2
theorem news_of_row {w : World} {b o : Nat} {m : List α} (hlen : ∀ x, (enc x).length = sz) (hpos : 0 < sz) (hc : ∀ i x j u, m[i]? = some x → (enc x)[j]? = some u → w.cell? ⟨b, o + i * sz + j, none⟩ = some u) :
    ∀ j u, (cellsR enc m)[j]? = some u → w.cell? ((⟨b, o, none⟩ : Addr).add j) = some u := by
  intro j u hu
  have hadd : (⟨b, o, none⟩ : Addr).add j = ⟨b, o + j, none⟩ := by unfold Addr.add; split <;> simp_all
  rw [hadd]
  have hj : j < (cellsR enc m).length := (List.getElem?_eq_some_iff.1 hu).1
  rw [cellsR_len hlen] at hj
  have hi : j / sz < m.length := Nat.div_lt_of_lt_mul (by rw [Nat.mul_comm]; exact hj)
  have hm : j % sz < sz := Nat.mod_lt _ hpos
  have hd : (j / sz) * sz + j % sz = j := by rw [Nat.mul_comm]; exact Nat.div_add_mod j sz
  have hg := cellsR_at hlen m (j / sz) (j % sz) m[j / sz] ((enc m[j / sz])[j % sz]'(by rw [hlen]; exact hm)) (List.getElem?_eq_getElem hi) (List.getElem?_eq_getElem _)
  rw [hd, hu] at hg
  have := hc (j / sz) m[j / sz] (j % sz) _ (List.getElem?_eq_getElem hi) (List.getElem?_eq_getElem (by rw [hlen]; exact hm))
  rw [Nat.add_assoc, hd] at this
  rw [this, hg]
/-- 'append(v, x...)' at the operation, x not empty -/
theorem wpList_rapps (T : RT P t e sz enc) {ops : Array Oper} {rest : List Oper} {o : Oper} {a : Act} {Q : Exit → Act → World → Prop} (hgd : o.guard = none) (s x : Operand)
    (ho : o.op = .call { callee := .builtin .append, args := #[s, x], argTypes := #[t, t] }) (h0 : ROwn e sz enc B w v l) (hs : a.eval s = v)
    (b off : Nat) (m : List α) (n c : Nat) (hx : a.eval x = .slice (some ⟨b, off, none⟩) n c) (hn : n = m.length) (hm : 0 < n) (hc : ∀ i x j u, m[i]? = some x → (enc x)[j]? = some u → w.cell? ⟨b, off + i * sz + j, none⟩ = some u)
    (hlim : l.length + m.length ≤ 100000000)
    (h : ∀ v' w', ROwn e sz enc B w' v' (l ++ m) → Chg w w' v v' → wpList P ops Q rest (a.put o.dst v') w') : wpList P ops Q (o :: rest) a w := by
  obtain ⟨z, bytes, hinfo, hzc, hby⟩ := T.info
  obtain ⟨i, hi, hz, hz1, hz2⟩ := info_parts hinfo
  refine wpList_append_lies w hgd s x t ho B e i z sz bytes T.ht hi hz hz1 hz2 hzc T.pos v l.length (cellsR enc l) hs h0.own ⟨b, off, none⟩ n c (cellsR enc m) hx
    (by rw [cellsR_len T.len, hn]) (news_of_row T.len T.pos hc) ?_ hm (by unfold maxLen; omega) ?_ h0.base w.heap.size rfl ?_
  · intro u hu
    obtain ⟨y, _, hy⟩ := List.mem_flatMap.1 hu
    exact T.one y u hy
  · have : (l.length + n) * bytes ≤ (l.length + n) * 1000 := Nat.mul_le_mul_left _ hby
    omega
  · intro g cap w' hown hgrow hloc _
    obtain ⟨r1, r2⟩ := h0.app T (Below.refl _ _) (m := m) (by rw [hn]) hown hgrow hloc
    exact h _ _ r1 r2
theorem step_rapps (T : RT P t e sz enc) {ops : Array Oper} {o : Oper} {a : Act} {K : Act → World → Prop} {Q : Exit → Act → World → Prop} {E : Prop} (hgd : o.guard = none) (s x : Operand)
    (ho : o.op = .call { callee := .builtin .append, args := #[s, x], argTypes := #[t, t] }) (h0 : ROwn e sz enc B w v l) (hs : a.eval s = v)
    (b off : Nat) (m : List α) (n c : Nat) (hx : a.eval x = .slice (some ⟨b, off, none⟩) n c) (hn : n = m.length) (hm : 0 < n) (hc : ∀ i x j u, m[i]? = some x → (enc x)[j]? = some u → w.cell? ⟨b, off + i * sz + j, none⟩ = some u)
    (hlim : l.length + m.length ≤ 100000000)
    (h : ∀ v' w', ROwn e sz enc B w' v' (l ++ m) → Chg w w' v v' → K (a.put o.dst v') w') : if Region.wanted o (yielded ops a.tmps) = true then Oper.wp P o a w K Q else E := by
  obtain ⟨z, bytes, hinfo, hzc, hby⟩ := T.info
  obtain ⟨i, hi, hz, hz1, hz2⟩ := info_parts hinfo
  refine step_append_lies w hgd s x t ho B e i z sz bytes T.ht hi hz hz1 hz2 hzc T.pos v l.length (cellsR enc l) hs h0.own ⟨b, off, none⟩ n c (cellsR enc m) hx
    (by rw [cellsR_len T.len, hn]) (news_of_row T.len T.pos hc) ?_ hm (by unfold maxLen; omega) ?_ h0.base w.heap.size rfl ?_
  · intro u hu
    obtain ⟨y, _, hy⟩ := List.mem_flatMap.1 hu
    exact T.one y u hy
  · have : (l.length + n) * bytes ≤ (l.length + n) * 1000 := Nat.mul_le_mul_left _ hby
    omega
  · intro g cap w' hown hgrow hloc _
    obtain ⟨r1, r2⟩ := h0.app T (Below.refl _ _) (m := m) (by rw [hn]) hown hgrow hloc
    exact h _ _ r1 r2
end
end
end Go.Proofs.Ythillkbcbklhaaa

namespace Go.Proofs.Ythillkbcbklhaaa
open Go.RowKit Go.Shelf
set_option linter.unusedSimpArgs false
set_option linter.unusedVariables false

theorem row_get {α : Type} {enc : α → List Value} {sz : Nat} {w : World} {A : Option Addr} {n c : Nat} {L : List α} (h : RowL sz enc w (.slice A n c) L) {k : Nat} {y : α} (hk : L[k]? = some y) : ∃ b o, A = some ⟨b, o, none⟩ ∧ b < w.heap.size ∧ ∀ j u, (enc y)[j]? = some u → w.cell? ⟨b, o + k * sz + j, none⟩ = some u := by
  obtain ⟨hlt, rfl⟩ := List.getElem?_eq_some_iff.1 hk
  obtain ⟨b, o, h1, h2, h3⟩ := h.at rfl hlt
  exact ⟨b, o, h1, h2, h3⟩
end Go.Proofs.Ythillkbcbklhaaa

namespace Go.Proofs.Ythillkbcbklhaaa
open Go.RowKit Go.Shelf
set_option linter.unusedSimpArgs false
set_option linter.unusedVariables false

variable {P : Program}
end Go.Proofs.Ythillkbcbklhaaa

namespace Go.Proofs.Ythillkbcbklhaaa
open Go.RowKit Go.Shelf
set_option linter.unusedSimpArgs false
set_option linter.unusedVariables false

end Go.Proofs.Ythillkbcbklhaaa

namespace Go.Proofs.Ythillkbcbklhaaa
open Go.RowKit Go.Shelf
set_option linter.unusedSimpArgs false
set_option linter.unusedVariables false

/-- since w6 nothing has turned but v's own block -/
abbrev SX (w6 : World) (v : Value) (W : World) : Prop := But w6 W (fun k => v.ownBlock = some k)
theorem SX.cell {w6 W : World} {v : Value} {a : Addr} {x : Value} (hc : w6.cell? a = some x) (hne : v.ownBlock ≠ some a.block) (h : SX w6 v W) : W.cell? a = some x :=
  (World.cell?_of_block (h.block a.block (World.block_lt_of_cell? _ _ hc) hne)).trans hc
theorem SX.map {κ : Type} [DecidableEq κ] {P : Program} {k : TypeId} {en : κ → Value} {w6 W : World} {v : Value} {b n : Nat} {g : κ → Option Value} (hm : MapK P k en w6 b n g) (hne : v.ownBlock ≠ some b) (h : SX w6 v W) : MapK P k en W b n g := hm.same (h.block b hm.lt hne)
theorem ROwn.grown {α : Type} {enc : α → List Value} {e : TypeId} {sz B : Nat} {w w' : World} {v : Value} {l : List α} {row : Option Nat} (h : ROwn e sz enc B w v l) (hg : w.grownBy w' row) (hne : row ≠ v.ownBlock ∨ v.ownBlock = none) : ROwn e sz enc B w' v l :=
  ⟨h.own.kept hg (by
    rcases hne with h1 | h1
    · exact .inr (fun e => h1 e.symm)
    · exact .inl h1), Nat.le_trans h.base hg.size⟩
end Go.Proofs.Ythillkbcbklhaaa

namespace Go.Proofs.Ythillkbcbklhaaa
open Go.RowKit
set_option linter.unusedSimpArgs false
set_option linter.unusedVariables false

end Go.Proofs.Ythillkbcbklhaaa

namespace Go.Proofs.Ythillkbcbklhaaa
open Go.RowKit Go.Shelf
set_option linter.unusedSimpArgs false
set_option linter.unusedVariables false

end Go.Proofs.Ythillkbcbklhaaa

namespace Go.Proofs.Ythillkbcbklhaaa
open Go.RowKit Go.Shelf
set_option linter.unusedSimpArgs false
set_option linter.unusedVariables false

end Go.Proofs.Ythillkbcbklhaaa

namespace Go.Proofs.Ythillkbcbklhaaa
open Go.RowKit Go.Shelf
set_option linter.unusedSimpArgs false
set_option linter.unusedVariables false

section
variable {α : Type} {enc : α → List Value} {e : TypeId} {sz B : Nat} {w w' : World} {v : Value} {l : List α} {P : Program} {t : TypeId}
theorem run_app0 (T : RT P t e sz enc) (ty : TypeId) (h : ROwn e sz enc B w v l) (A : Option Addr) (c : Nat) : (Builtin.append_ #[t, t] ty #[v, .slice A 0 c]).run P w = .ok v w := by
  obtain ⟨z, bytes, hinfo, hzc, hby⟩ := T.info
  obtain ⟨i, hi, hz, hz1, hz2⟩ := info_parts hinfo
  have ht := T.ht
  rcases h.own.2 with ⟨rfl, h1⟩ | ⟨g, cap, cur, rfl, _, _, hnc, _⟩
  · cases A <;> simp [Builtin.append_, run_underlying ht, sizeOf, typeInfo, hi, Builtin.lenOf, Builtin.firstCells, h1, loadCells, loadCellsFrom]
  · cases A <;> simp [Builtin.append_, run_underlying ht, sizeOf, typeInfo, hi, Builtin.lenOf, Builtin.firstCells, hnc, storeCells, loadCells, loadCellsFrom]
theorem wp_rappl (T : RT P t e sz enc) {o : Oper} {a : Act} {K : Act → World → Prop} {Q : Exit → Act → World → Prop} (s x : Operand)
    (ho : o.op = .call { callee := .builtin .append, args := #[s, x], argTypes := #[t, t] }) (h0 : ROwn e sz enc B w v l) (hs : a.eval s = v) (m : List α) (u : Value) (hx : a.eval x = u) (hm : RowL sz enc w u m)
    (hlim : l.length + m.length ≤ 100000000)
    (h : ∀ v' w', ROwn e sz enc B w' v' (l ++ m) → Chg w w' v v' → K (a.put o.dst v') w') : o.wp P a w K Q := by
  obtain ⟨A, c, rfl, hm⟩ := hm
  rcases hm with rfl | ⟨b, off, rfl, hlt, hc⟩
  · have hr := run_app0 T o.type h0 A c
    have hx : a.eval x = .slice A 0 c := hx
    unfold Oper.wp execOp
    simp only [ho, resolve, invoke, builtin, Sem.run_bind, Sem.run_pure, Result.andThen_ok, List.map_toArray, List.map_cons, List.map_nil, hs, hx, hr]
    exact h v w (by rw [List.append_nil]; exact h0) (Chg.refl _ _)
  · rcases Nat.eq_zero_or_pos m.length with h1 | h1
    · have : m = [] := List.eq_nil_of_length_eq_zero h1
      subst this
      have hr := run_app0 T o.type h0 (some ⟨b, off, none⟩) c
      have hx : a.eval x = .slice (some ⟨b, off, none⟩) 0 c := hx
      unfold Oper.wp execOp
      simp only [ho, resolve, invoke, builtin, Sem.run_bind, Sem.run_pure, Result.andThen_ok, List.map_toArray, List.map_cons, List.map_nil, hs, hx, hr]
      exact h v w (by rw [List.append_nil]; exact h0) (Chg.refl _ _)
    · obtain ⟨z, bytes, hinfo, hzc, hby⟩ := T.info
      obtain ⟨i, hi, hz, hz1, hz2⟩ := info_parts hinfo
      refine wp_append_lies w s x t ho B e i z sz bytes T.ht hi hz hz1 hz2 hzc T.pos v l.length (cellsR enc l) hs h0.own ⟨b, off, none⟩ m.length c (cellsR enc m) hx
        (by rw [cellsR_len T.len]) (news_of_row T.len T.pos hc) ?_ h1 (by unfold maxLen; omega) ?_ h0.base w.heap.size rfl ?_
      · intro u hu
        obtain ⟨y, _, hy⟩ := List.mem_flatMap.1 hu
        exact T.one y u hy
      · have : (l.length + m.length) * bytes ≤ (l.length + m.length) * 1000 := Nat.mul_le_mul_left _ hby
        omega
      · intro g cap w' hown hgrow hloc _
        obtain ⟨r1, r2⟩ := h0.app T (Below.refl _ _) (m := m) rfl hown hgrow hloc
        exact h _ _ r1 r2
theorem step_rappl (T : RT P t e sz enc) {ops : Array Oper} {o : Oper} {a : Act} {K : Act → World → Prop} {Q : Exit → Act → World → Prop} {E : Prop} (hgd : o.guard = none) (s x : Operand)
    (ho : o.op = .call { callee := .builtin .append, args := #[s, x], argTypes := #[t, t] }) (h0 : ROwn e sz enc B w v l) (hs : a.eval s = v) (m : List α) (u : Value) (hx : a.eval x = u) (hm : RowL sz enc w u m)
    (hlim : l.length + m.length ≤ 100000000)
    (h : ∀ v' w', ROwn e sz enc B w' v' (l ++ m) → Chg w w' v v' → K (a.put o.dst v') w') : if Region.wanted o (yielded ops a.tmps) = true then Oper.wp P o a w K Q else E := by
  have hw : Region.wanted o (yielded ops a.tmps) = true := by simp [Region.wanted, hgd]
  rw [if_pos hw]
  exact wp_rappl T s x ho h0 hs m u hx hm hlim h
theorem wpList_rappl (T : RT P t e sz enc) {ops : Array Oper} {rest : List Oper} {o : Oper} {a : Act} {Q : Exit → Act → World → Prop} (hgd : o.guard = none) (s x : Operand)
    (ho : o.op = .call { callee := .builtin .append, args := #[s, x], argTypes := #[t, t] }) (h0 : ROwn e sz enc B w v l) (hs : a.eval s = v) (m : List α) (u : Value) (hx : a.eval x = u) (hm : RowL sz enc w u m)
    (hlim : l.length + m.length ≤ 100000000)
    (h : ∀ v' w', ROwn e sz enc B w' v' (l ++ m) → Chg w w' v v' → wpList P ops Q rest (a.put o.dst v') w') : wpList P ops Q (o :: rest) a w :=
  wpList_plain hgd fun _ hK => wp_rappl T s x ho h0 hs m u hx hm hlim fun v' w' h1 h2 => hK _ _ (h v' w' h1 h2)
end
end Go.Proofs.Ythillkbcbklhaaa

namespace Go.Proofs.Ythillkbcbklhaaa
open Go.RowKit Go.Shelf
set_option linter.unusedSimpArgs false
set_option linter.unusedVariables false

/-- the block b holds the numbers l, and they may be written -/
structure Row (W : World) (b : Nat) (l : List Int) : Prop where
  cell : ∀ j (h : j < l.length), W.cell? ⟨b, j, none⟩ = some (.int .i64 l[j])
  froz : ∀ j, j < l.length → W.frozen? ⟨b, j, none⟩ = false
  lt : b < W.heap.size
theorem Row.set {W : World} {b : Nat} {l : List Int} (h : Row W b l) (k : Nat) (hk : k < l.length) (x : Int) : Row (W.setCell ⟨b, k, none⟩ (.int .i64 x)) b (l.set k x) := by
  refine ⟨fun j hj => ?_, fun j hj => ?_, by have := h.lt; simpa using this⟩
  · have hj' : j < l.length := by rw [List.length_set] at hj; exact hj
    by_cases e : j = k
    · subst e
      rw [World.cell?_setCell_same _ _ _ (h.cell j hj')]
      simp
    · rw [World.cell?_setCell_other _ _ _ _ (by intro e'; simp only [Addr.mk.injEq] at e'; omega), h.cell j hj']
      rw [List.getElem_set_ne (by omega)]
  · rw [List.length_set] at hj
    rw [World.frozen?_setCell]; exact h.froz j hj
theorem Row.other {W : World} {b c : Nat} {l : List Int} (h : Row W b l) (hne : c ≠ b) (k : Nat) (v : Value) : Row (W.setCell ⟨c, k, none⟩ v) b l := by
  refine ⟨fun j hj => ?_, fun j hj => by rw [World.frozen?_setCell]; exact h.froz j hj, by have := h.lt; simpa using this⟩
  rw [World.cell?_setCell_other _ _ _ _ (by intro e'; simp only [Addr.mk.injEq] at e'; omega), h.cell j hj]
theorem Row.drewN {W : World} {b : Nat} {l : List Int} (h : Row W b l) (n : Nat) : Row (W.drewN n) b l := ⟨h.cell, h.froz, h.lt⟩
theorem Row.drew {W : World} {b : Nat} {l : List Int} (h : Row W b l) : Row W.drew b l := ⟨h.cell, h.froz, h.lt⟩
theorem Row.more {W W' : World} {b : Nat} {l : List Int} (h : Row W b l) (hb : Below W.heap.size W W') : Row W' b l :=
  ⟨fun j hj => (hb.cell (p := ⟨b, j, none⟩) h.lt).trans (h.cell j hj), fun j hj => (hb.frozen (p := ⟨b, j, none⟩) h.lt).trans (h.froz j hj), Nat.lt_of_lt_of_le h.lt hb.size⟩
theorem Row.alloc {W : World} {b : Nat} {l : List Int} (h : Row W b l) (o : Obj) : Row (W.alloc o) b l := h.more ((Below.refl _ _).alloc (Nat.le_refl _) _)
theorem Row.made (w : World) (n : Nat) (e : TypeId) : Row (w.alloc (.cells (madeCells #[.int .i64 0] n) e)) w.heap.size (List.replicate n 0) := by
  have hb : (w.alloc (.cells (madeCells #[.int .i64 0] n) e)).heap[w.heap.size]? = some (.cells (madeCells #[.int .i64 0] n) e (0, 0)) := heap_alloc_new w _
  refine ⟨fun j hj => ?_, fun j hj => ?_, by simp⟩
  · rw [List.length_replicate] at hj
    rw [cell_of_row _ w.heap.size j _ e (0, 0) hb, ← Array.getElem?_toList, toList_madeCells_one, List.getElem?_replicate, if_pos hj, List.getElem_replicate]
  · unfold World.frozen?
    simp only [hb]
    simp
theorem intT : (Try.prog.info? 3).map (fun i => (i.zero, i.size, i.bytes)) = some (some (.int .i64 0), 1, 8) := by kernel_rfl

def encI (n : Int) : List Value := [.int .i64 n]
theorem rowI : RT Try.prog 83 3 1 encI where
  ht := Try.underlying83
  info := ⟨.int .i64 0, 8, by kernel_rfl, rfl, by omega⟩
  len x := rfl
  one x u hu := by simp [encI] at hu; subst hu; rfl
  pos := by omega
abbrev IntR (w : World) (v : Value) (l : List Int) : Prop := RowL 1 encI w v l
theorem Row.intR {W : World} {b c : Nat} {l : List Int} (h : Row W b l) : IntR W (.slice (some ⟨b, 0, none⟩) l.length c) l :=
  ⟨_, _, rfl, .inr ⟨b, 0, rfl, h.lt, fun i x j u hi hu => by
    obtain ⟨hi', rfl⟩ := List.getElem?_eq_some_iff.1 hi
    cases j with
    | zero => simp [encI] at hu; subst hu; rw [Nat.zero_add, Nat.mul_one, Nat.add_zero]; exact h.cell i hi'
    | succ j => simp [encI] at hu⟩⟩
def tab (f : Nat → Int) (n : Nat) : List Int := (List.range n).map f
theorem tab_len (f : Nat → Int) (n : Nat) : (tab f n).length = n := by simp [tab]
theorem tab_snoc (f : Nat → Int) (k : Nat) : tab f (k + 1) = tab f k ++ [f k] := by simp [tab, List.range_succ]
theorem tab_zero (n : Nat) (f : Nat → Int) : tab (fun j => if j < 0 then f j else 0) n = List.replicate n 0 := by
  apply List.ext_getElem
  · simp [tab]
  · intro i h1 h2; simp [tab]
theorem tab_full (n : Nat) (f : Nat → Int) : tab (fun j => if j < n then f j else 0) n = tab f n := by
  apply List.ext_getElem
  · simp [tab]
  · intro i h1 h2
    have h1' : i < n := by simpa [tab] using h1
    simp [tab, h1']
theorem tab_put (n k : Nat) (f : Nat → Int) (h : k < n) : (tab (fun j => if j < k then f j else 0) n).set k (f k) = tab (fun j => if j < k + 1 then f j else 0) n := by
  apply List.ext_getElem
  · simp [tab]
  · intro i h1 h2
    have h1' : i < n := by simpa [tab] using h1
    rw [List.getElem_set]
    simp only [tab, List.getElem_map, List.getElem_range]
    by_cases e : k = i
    · subst e; simp
    · rw [if_neg e]
      by_cases h3 : i < k
      · rw [if_pos h3, if_pos (by omega)]
      · rw [if_neg h3, if_neg (by omega)]
end Go.Proofs.Ythillkbcbklhaaa

namespace Go.Proofs.Ythillkbcbklhaaa
open Go.RowKit Go.Shelf Go.Maps
set_option linter.unusedSimpArgs false
set_option linter.unusedVariables false

theorem cell_no_map {w : World} {a : Addr} {x : Value} {b n : Nat} {g : ByteArray → Option Value} (hc : w.cell? a = some x) (hm : MapS w b n g) : a.block ≠ b := by
  obtain ⟨es, clock, hb, _⟩ := hm
  rintro rfl
  simp [World.cell?, hb] at hc
theorem RowL.but {α : Type} {enc : α → List Value} {sz : Nat} {w w' : World} {v : Value} {l : List α} {b n : Nat} {g : ByteArray → Option Value} (h : RowL sz enc w v l) (hm : MapS w b n g) (hb : But w w' (fun k => k = b)) : RowL sz enc w' v l := by
  obtain ⟨A, c, rfl, h⟩ := h
  refine ⟨A, c, rfl, ?_⟩
  rcases h with h | ⟨b0, o, rfl, hlt, hc⟩
  · exact .inl h
  · refine .inr ⟨b0, o, rfl, Nat.lt_of_lt_of_le hlt hb.size, fun i x j u hi hu => ?_⟩
    have h0 := hc i x j u hi hu
    exact (World.cell?_of_block (hb.block b0 hlt (cell_no_map h0 hm))).trans h0
theorem But.grown {w w' w'' : World} {X : Nat → Prop} {row : Option Nat} (h : But w w' X) (hg : w'.grownBy w'' row) (hX : ∀ k, row = some k → k < w.heap.size → X k) : But w w'' X :=
  ⟨hg.os.trans h.os, hg.tape.trans h.tape, hg.output.trans h.output, Nat.le_trans h.size hg.size, fun k hk hn => (hg.block k (Nat.lt_of_lt_of_le hk h.size) (fun e => hn (hX k e.symm hk))).trans (h.block k hk hn)⟩
theorem But.low {w w' w'' : World} {X Y : Nat → Prop} (h : But w w' X) (h' : But w' w'' Y) (hY : ∀ k, k < w.heap.size → Y k → X k) : But w w'' X :=
  ⟨h'.os.trans h.os, h'.tape.trans h.tape, h'.output.trans h.output, Nat.le_trans h.size h'.size, fun k hk hn => (h'.block k (Nat.lt_of_lt_of_le hk h.size) (fun hy => hn (hY k hk hy))).trans (h.block k hk hn)⟩

end Go.Proofs.Ythillkbcbklhaaa

namespace Go.Proofs.Ythillkbcbklhaaa
open Go.RowKit Go.Shelf
set_option linter.unusedSimpArgs false
set_option linter.unusedVariables false

theorem But.setCell (w : World) (r j : Nat) (v : Value) : But w (w.setCell ⟨r, j, none⟩ v) (fun k => k = r) := by
  refine ⟨?_, ?_, ?_, ?_, fun k _ hk => heap_setCell_other w _ k v hk⟩ <;> simp [World.setCell] <;> (try split) <;> simp
theorem S2.heap {w : World} {N : Nat} {t : TypeId} {a0 a1 : Value} (h : w.heap[N]? = some (.cells #[a0, a1] t (0, 0))) (v0 v1 : Value) : ((w.setCell ⟨N, 0, none⟩ v0).setCell ⟨N, 1, none⟩ v1).heap[N]? = some (.cells #[v0, v1] t (0, 0)) := by
  have e1 : (w.setCell ⟨N, 0, none⟩ v0).heap[N]? = some (.cells #[v0, a1] t (0, 0)) := heap_setCell_same w N 0 _ t v0 h
  exact heap_setCell_same _ N 1 _ t v1 e1
theorem S2.but (w : World) (N : Nat) (v0 v1 : Value) : But w ((w.setCell ⟨N, 0, none⟩ v0).setCell ⟨N, 1, none⟩ v1) (fun k => k = N) :=
  (But.setCell w N 0 v0).trans (But.setCell _ N 1 v1) (fun _ _ h => h)
end Go.Proofs.Ythillkbcbklhaaa

namespace Go.Proofs.Ythillkbcbklhaaa
open Go.RowKit Go.Shelf
set_option linter.unusedSimpArgs false
set_option linter.unusedVariables false

theorem RowL.other {α : Type} {enc : α → List Value} {sz : Nat} {W : World} {A : Option Addr} {n c : Nat} {l : List α} (h : RowL sz enc W (.slice A n c) l) {G : Nat} (hne : l = [] ∨ ∀ g o, A = some ⟨g, o, none⟩ → g ≠ G) (q : Nat) (x : Value) : RowL sz enc (W.setCell ⟨G, q, none⟩ x) (.slice A n c) l := by
  obtain ⟨A', c', h1, h2⟩ := h
  simp only [Value.slice.injEq] at h1
  obtain ⟨rfl, rfl, rfl⟩ := h1
  refine ⟨_, _, rfl, ?_⟩
  rcases h2 with h | ⟨b, o, rfl, hlt, hc⟩
  · exact .inl h
  · rcases hne with hne | hne
    · exact .inl hne
    · refine .inr ⟨b, o, rfl, by simpa using hlt, fun i x' j u hi hu => ?_⟩
      rw [World.cell?_setCell_other _ _ _ _ (by intro e; simp only [Addr.mk.injEq] at e; exact hne b o rfl e.1.symm)]
      exact hc i x' j u hi hu
end Go.Proofs.Ythillkbcbklhaaa

namespace Go.Proofs.Ythillkbcbklhaaa
open Go.RowKit Go.Shelf
set_option linter.unusedSimpArgs false
set_option linter.unusedVariables false

theorem S4.heap {w : World} {N : Nat} {t : TypeId} {a0 a1 a2 a3 : Value} (h : w.heap[N]? = some (.cells #[a0, a1, a2, a3] t (0, 0))) (v0 v1 v2 v3 : Value) : ((((w.setCell ⟨N, 0, none⟩ v0).setCell ⟨N, 1, none⟩ v1).setCell ⟨N, 2, none⟩ v2).setCell ⟨N, 3, none⟩ v3).heap[N]? = some (.cells #[v0, v1, v2, v3] t (0, 0)) := by
  have e1 : (w.setCell ⟨N, 0, none⟩ v0).heap[N]? = some (.cells #[v0, a1, a2, a3] t (0, 0)) := heap_setCell_same w N 0 _ t v0 h
  have e2 : ((w.setCell ⟨N, 0, none⟩ v0).setCell ⟨N, 1, none⟩ v1).heap[N]? = some (.cells #[v0, v1, a2, a3] t (0, 0)) := heap_setCell_same _ N 1 _ t v1 e1
  have e3 : (((w.setCell ⟨N, 0, none⟩ v0).setCell ⟨N, 1, none⟩ v1).setCell ⟨N, 2, none⟩ v2).heap[N]? = some (.cells #[v0, v1, v2, a3] t (0, 0)) := heap_setCell_same _ N 2 _ t v2 e2
  exact heap_setCell_same _ N 3 _ t v3 e3
theorem S4.but (w : World) (N : Nat) (v0 v1 v2 v3 : Value) : But w ((((w.setCell ⟨N, 0, none⟩ v0).setCell ⟨N, 1, none⟩ v1).setCell ⟨N, 2, none⟩ v2).setCell ⟨N, 3, none⟩ v3) (fun k => k = N) :=
  (((But.setCell w N 0 v0).trans (But.setCell _ N 1 v1) (fun _ _ h => h)).trans (But.setCell _ N 2 v2) (fun _ _ h => h)).trans (But.setCell _ N 3 v3) (fun _ _ h => h)
end Go.Proofs.Ythillkbcbklhaaa

namespace Go.Proofs.Ythillkbcbklhaaa
open Go.RowKit Go.Shelf Go.Maps
set_option linter.unusedSimpArgs false
set_option linter.unusedVariables false

theorem MapK.mono {κ : Type} [DecidableEq κ] {P : Program} {k : TypeId} {en : κ → Value} {w : World} {b n m : Nat} {g : κ → Option Value} (h : MapK P k en w b n g) (hm : n ≤ m) : MapK P k en w b m g := by
  obtain ⟨es, clock, hb, F, hs, hg⟩ := h
  exact ⟨es, clock, hb, F, Nat.le_trans hs hm, hg⟩
theorem But.grownBy {w w' : World} {b : Nat} (h : But w w' (fun k => k = b)) : w.grownBy w' (some b) :=
  ⟨h.os, h.tape, h.output, h.size, fun k hk hn => h.block k hk (fun e => hn (by rw [e]))⟩
end Go.Proofs.Ythillkbcbklhaaa

namespace Go.Proofs.Ythillkbcbklhaaa
open Go.RowKit Go.Shelf
set_option linter.unusedSimpArgs false
set_option linter.unusedVariables false

theorem int_at {w : World} {A : Option Addr} {n c : Nat} {l : List Int} (h : IntR w (.slice A n c) l) {k : Nat} {x : Int} (hk : l[k]? = some x) : ∃ b o, A = some ⟨b, o, none⟩ ∧ w.cell? ⟨b, o + k, none⟩ = some (.int .i64 x) := by
  obtain ⟨b, o, e, _, hc⟩ := row_get h hk
  have := hc 0 _ rfl
  rw [Nat.mul_one, Nat.add_zero] at this
  exact ⟨b, o, e, this⟩
end Go.Proofs.Ythillkbcbklhaaa
