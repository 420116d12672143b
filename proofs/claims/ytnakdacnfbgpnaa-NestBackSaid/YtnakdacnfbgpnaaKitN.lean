/- Words for memory, rows, cabins. -/
import Derived.WalkKit
import Derived.WalkSpells
import Derived.WalkLawsBesides
import Derived.Deep.AppendLies
import Derived.Lib.UnsafeStr
import Derived.Lib.BufferWrite
import Derived.Lib.AppendStr
import Derived.Lib.Hide
import Derived.Test.YtnakdacnfbgpnaaRows
import Derived.OwnWalk
import Derived.IntWalk
import Derived.Deep.QuietTactic
import Derived.BigQuiet
import Derived.Lib.AtoiAll
import Derived.Lib.ItoaNum
import Derived.Shelf.Abstract
import Derived.Deep.LoopGhost
import Derived.Maps.OwnSet
import Derived.Deep.RegionHeld3
import Derived.Deep.Onto
import Derived.Lib.ItoaLen
import Derived.Laws.OwnMore
import Derived.Deep.OwnRows
import Derived.Deep.CutRange
import Derived.Deep.CutBlock
import Derived.OrdersHeld
import Derived.Deep.RegionWith
namespace Go.Proofs.Ytnakdacnfbgpnaa
open Go.RowKit
set_option linter.unusedSimpArgs false
set_option linter.unusedVariables false

theorem ret_bool {a b : Bool} (h : a = b) : Ending.returned (.bool a) = .returned (.bool b) := by rw [h]
theorem ret_int {k : IntKind} {a b : Int} (h : a = b) : Ending.returned (.int k a) = .returned (.int k b) := by rw [h]
theorem below_drewN {B : Nat} {a w : World} (h : Below B a w) (n : Nat) : Below B a (w.drewN n) := ⟨h.os, h.tape, h.output, h.size, h.block⟩

section
variable {P : Program} {t e : TypeId}
end
/-- a buffer stands while nothing that is there turns -/
theorem own_more {e : TypeId} {B size : Nat} {w w' : World} {v : Value} {n : Nat} {xs : List Value} (h : w.ownsRow B e size v n xs) (hb : Below w.heap.size w w') : w'.ownsRow B e size v n xs := by
  refine h.kept (row := none) ⟨hb.os, hb.tape, hb.output, hb.size, fun k hk _ => hb.block k hk⟩ ?_
  cases hv : v.ownBlock
  · exact .inl rfl
  · exact .inr (by simp)
theorem isEmpty_no (r : ByteArray) (h : 0 < r.size) : r.toList.isEmpty = false := by
  rw [ByteArray.toList_eq, List.isEmpty_eq_false_iff]
  intro e
  have e := congrArg List.length e
  simp only [Array.length_toList, ByteArray.size_data, List.length_nil] at e
  omega
section
variable {P : Program} {t e : TypeId}
end
section
variable {P : Program} {t e d : TypeId}
end
end Go.Proofs.Ytnakdacnfbgpnaa

namespace Go.Proofs.Ytnakdacnfbgpnaa
open Go.RowKit
set_option linter.unusedSimpArgs false
set_option linter.unusedVariables false

theorem bel_alloc (w : World) (o : Obj) : Below w.heap.size w (w.alloc o) := (Below.refl _ w).alloc (Nat.le_refl _) o
/-! ### worlds that have only grown since w5, as a class: quiet walks of drawn regions -/
abbrev SW (w5 : World) : World → Prop := fun W => Below w5.heap.size w5 W
structure Wd (S : World → Prop) where
  w : World
  ok : S w
theorem quietS {P : Program} {S : World → Prop} {id : Nat} {Q : Exit → Act → World → Prop} {a : Act} {w : World} {l : List Oper} (hm : P.follows .mixedOrders = true) (hB : Region.lexB .any l.toArray = true) (hC : S w.drew)
    (h : wpQuiet P l.toArray (fun w' => ∃ x : Wd S, w' = x.w) (fun a' => ∀ w', (∃ x : Wd S, w' = x.w) → Q .normal a' w') l a) : (Code.region id l.toArray true).wp P Q a w :=
  wp_region_quiet (C := fun w' => ∃ x : Wd S, w' = x.w) hm hB ⟨⟨_, hC⟩, rfl⟩ (by simpa using h)
theorem quiet_S {P : Program} {f : FuncId} {args : Array Value} {W : World} {S : World → Prop} {v : Value} (h : Calls P f args W fun e w' => e = .returned v ∧ S w') :
    Calls P f args W fun e w'' => e = .returned v ∧ ∃ x : Wd S, w'' = x.w := h.mono (by rintro e w' ⟨he, hs⟩; exact ⟨he, ⟨w', hs⟩, rfl⟩)
theorem SW.cell {w5 : World} {a : Addr} {v : Value} (h : w5.cell? a = some v) (x : Wd (SW w5)) : x.w.cell? a = some v := (Below.cell (show Below w5.heap.size w5 x.w from x.ok) (World.block_lt_of_cell? w5 _ h)).trans h
theorem SW.call {f : Nat} {args : Array Value} {w5 : World} {v : Value} (h : ∀ W, Below w5.heap.size w5 W → Calls Try.prog f args W fun e w' => e = .returned v ∧ Below W.heap.size W w') (W : World) (hW : SW w5 W) :
    Calls Try.prog f args W fun e w' => e = .returned v ∧ SW w5 w' := (h W hW).mono (by rintro e w' ⟨he, hb⟩; exact ⟨he, hW.trans (hb.mono hW.size)⟩)
theorem SW.drew (w5 : World) : SW w5 w5.drew := (Below.refl _ _).drew
theorem cells_new (w : World) (cs : Array Value) (t : TypeId) (j : Nat) : (w.alloc (.cells cs t)).cell? ⟨w.heap.size, j, none⟩ = cs[j]? := cell_of_row _ _ j _ _ (0, 0) (heap_alloc_new w (.cells cs t))

end Go.Proofs.Ytnakdacnfbgpnaa

namespace Go.Proofs.Ytnakdacnfbgpnaa
set_option linter.unusedSimpArgs false
set_option linter.unusedVariables false

def dgB (c : UInt8) : Bool := decide (48 ≤ (c.toNat : Int) ∧ (c.toNat : Int) ≤ 57)
/-! ### what is written is read -/
theorem decDigits_step (u : Nat) (h : 10 ≤ u) : Lib.decDigits u = Lib.decDigits (u / 10) ++ [UInt8.ofNat (48 + u % 10)] := by
  rw [Lib.decDigits, dif_neg (by omega)]
theorem decDigits_small (u : Nat) (h : u < 10) : Lib.decDigits u = [UInt8.ofNat (48 + u)] := by
  rw [Lib.decDigits, dif_pos h]
end Go.Proofs.Ytnakdacnfbgpnaa

namespace Go.Proofs.Ytnakdacnfbgpnaa
open Go.RowKit
set_option linter.unusedSimpArgs false
set_option linter.unusedVariables false

/-- a byte is a capital letter, a digit -/
def upB (c : UInt8) : Bool := decide (65 ≤ (c.toNat : Int) ∧ (c.toNat : Int) ≤ 90)

set_option maxHeartbeats 400000 in
theorem upper_any (c : UInt8) (w : World) : Calls Try.prog 41 #[.int .u8 c.toNat] w fun e w' => e = .returned (.bool (upB c)) ∧ w = w' := by
  by_cases h1 : 65 ≤ (c.toNat : Int)
  · go_enter Try.func41, Try.ntmps41
    go_wp2
    go_ret
    exact ⟨ret_bool (by simp [upB]; omega), rfl⟩
  · go_enter Try.func41, Try.ntmps41
    go_wp2
    go_ret
    exact ⟨ret_bool (by simp [upB]; omega), rfl⟩
set_option maxHeartbeats 400000 in
theorem digit_any (c : UInt8) (w : World) : Calls Try.prog 42 #[.int .u8 c.toNat] w fun e w' => e = .returned (.bool (dgB c)) ∧ w = w' := by
  by_cases h1 : 48 ≤ (c.toNat : Int)
  · go_enter Try.func42, Try.ntmps42
    go_wp2
    go_ret
    exact ⟨ret_bool (by simp [dgB]; omega), rfl⟩
  · go_enter Try.func42, Try.ntmps42
    go_wp2
    go_ret
    exact ⟨ret_bool (by simp [dgB]; omega), rfl⟩

/-- all bytes from k on have a property -/
def allFrom (p : UInt8 → Bool) (s : ByteArray) (k : Nat) : Bool := (s.data.toList.drop k).all p
theorem allFrom_step (p : UInt8 → Bool) (s : ByteArray) (k : Nat) (h : k < s.size) : allFrom p s k = (p s[k] && allFrom p s (k + 1)) := by
  have e : s.data.toList.drop k = s[k] :: s.data.toList.drop (k + 1) := by
    rw [List.drop_eq_getElem_cons (by simpa using h)]; rfl
  simp only [allFrom, e, List.all_cons]
theorem allFrom_end (p : UInt8 → Bool) (s : ByteArray) (k : Nat) (h : s.size ≤ k) : allFrom p s k = true := by
  have e : s.data.toList.drop k = [] := List.drop_eq_nil_of_le (by simpa using h)
  simp only [allFrom, e, List.all_nil]

/-- just n bytes, all of them capital letters -/
def capsB (s : ByteArray) (n : Int) : Bool := decide ((s.size : Int) = n) && allFrom upB s 0

set_option maxHeartbeats 400000 in
theorem letters_any (s : ByteArray) (n : Int) (w : World) (hs : s.size ≤ maxLen) :
    Calls Try.prog 51 #[.string s, .int .i64 n] w fun e w' => e = .returned (.bool (capsB s n)) ∧ w = w' := by
  unfold maxLen at hs
  go_enter Try.func51, Try.ntmps51
  go_wp2
  go_loop [5] (fun i => ∃ k : Nat, k ≤ s.size ∧ i = .int .i64 k ∧ allFrom upB s 0 = allFrom upB s k) (fun i => s.size - (intOf i).toNat)
  case atStart => exact ⟨0, Nat.zero_le _, rfl, rfl⟩
  case round =>
    obtain ⟨k, hk, rfl, he⟩ := hrel
    have He := Lib.hid he
    clear he
    by_cases hlt : k < s.size
    · cases hc : upB s[k]
      · go_wp2_with (go_at_call 41; refine (upper_any _ _).mono ?_; rintro e w' ⟨rfl, rfl⟩)
        go_ret
        exact ⟨ret_bool (by simp [capsB, He.out, allFrom_step upB s k hlt, hc]), rfl⟩
      · have Hc := Lib.hid (allFrom_step upB s k hlt)
        go_wp2_with (go_at_call 41; refine (upper_any _ _).mono ?_; rintro e w' ⟨rfl, rfl⟩)
        go_round
        case rel => exact ⟨k + 1, by omega, by go_num, by rw [He.out, Hc.out, hc]; rfl⟩
        case measure => simp [intOf]; omega
    · go_wp2
      go_ret
      refine ⟨ret_bool ?_, rfl⟩
      rw [capsB, He.out, allFrom_end upB s k (by omega), Bool.and_true]
      rfl

/-- capital letters and digits, from a to b of them -/
def cdB (c : UInt8) : Bool := upB c || dgB c
def codeB (s : ByteArray) (a b : Int) : Bool := decide (a ≤ (s.size : Int)) && decide ((s.size : Int) ≤ b) && allFrom cdB s 0

set_option maxHeartbeats 400000 in
theorem rcode_any (s : ByteArray) (a b : Int) (w : World) (hs : s.size ≤ maxLen) :
    Calls Try.prog 32 #[.string s, .int .i64 a, .int .i64 b] w fun e w' => e = .returned (.bool (codeB s a b)) ∧ w = w' := by
  unfold maxLen at hs
  go_enter Try.func32, Try.ntmps32
  go_wp2
  go_loop [7] (fun i => ∃ k : Nat, k ≤ s.size ∧ i = .int .i64 k ∧ allFrom cdB s 0 = allFrom cdB s k) (fun i => s.size - (intOf i).toNat)
  case atStart => exact ⟨0, Nat.zero_le _, rfl, rfl⟩
  case round =>
    obtain ⟨k, hk, rfl, he⟩ := hrel
    have He := Lib.hid he
    clear he
    by_cases hlt : k < s.size
    · have Hc := Lib.hid (allFrom_step cdB s k hlt)
      cases hc : upB s[k]
      · cases hd : dgB s[k]
        · go_wp2_with (first | (go_at_call 41; refine (upper_any _ _).mono ?_; rintro e w' ⟨rfl, rfl⟩) | (go_at_call 42; refine (digit_any _ _).mono ?_; rintro e w' ⟨rfl, rfl⟩))
          go_ret
          exact ⟨ret_bool (by simp [codeB, He.out, Hc.out, cdB, hc, hd]), rfl⟩
        · go_wp2_with (first | (go_at_call 41; refine (upper_any _ _).mono ?_; rintro e w' ⟨rfl, rfl⟩) | (go_at_call 42; refine (digit_any _ _).mono ?_; rintro e w' ⟨rfl, rfl⟩))
          go_round
          case rel => exact ⟨k + 1, by omega, by go_num, by rw [He.out, Hc.out, cdB, hc, hd]; rfl⟩
          case measure => simp [intOf]; omega
      · go_wp2_with (first | (go_at_call 41; refine (upper_any _ _).mono ?_; rintro e w' ⟨rfl, rfl⟩) | (go_at_call 42; refine (digit_any _ _).mono ?_; rintro e w' ⟨rfl, rfl⟩))
        go_round
        case rel => exact ⟨k + 1, by omega, by go_num, by rw [He.out, Hc.out, cdB, hc]; rfl⟩
        case measure => simp [intOf]; omega
    · have hfin : codeB s a b = (decide (a ≤ (s.size : Int)) && decide ((s.size : Int) ≤ b)) := by rw [codeB, He.out, allFrom_end cdB s k (by omega), Bool.and_true]
      have Hfin := Lib.hid hfin
      clear hfin
      by_cases h1 : a ≤ (s.size : Int)
      · go_wp2
        go_ret
        exact ⟨ret_bool (by rw [Hfin.out]; simp [h1]), rfl⟩
      · go_wp2
        go_ret
        exact ⟨ret_bool (by rw [Hfin.out]; simp; omega), rfl⟩

end Go.Proofs.Ytnakdacnfbgpnaa

namespace Go.Proofs.Ytnakdacnfbgpnaa
open Go.RowKit Go.Shelf
set_option linter.unusedSimpArgs false
set_option linter.unusedVariables false

theorem bel_cell {w w' : World} {a : Addr} {v : Value} (h : Below w.heap.size w w') (hc : w.cell? a = some v) : w'.cell? a = some v := (h.cell (World.block_lt_of_cell? _ _ hc)).trans hc
theorem bel_get {w5 : World} {a : Addr} {v : Value} (h : w5.cell? a = some v) (W : World) (hS : SW w5 W) : W.cell? a = some v := bel_cell hS h
end Go.Proofs.Ytnakdacnfbgpnaa

namespace Go.Proofs.Ytnakdacnfbgpnaa
open Go.RowKit Go.Shelf
set_option linter.unusedSimpArgs false
set_option linter.unusedVariables false

abbrev noB : ByteArray := ⟨#[]⟩
/-- texts are equal -/
def eqS (s t : ByteArray) : Bool := s.toList == t.toList
theorem eqS_iff (s t : ByteArray) : eqS s t = true ↔ s = t := by
  unfold eqS
  rw [beq_iff_eq, ByteArray.toList_eq, ByteArray.toList_eq]
  constructor
  · intro h
    have := congrArg List.toArray h
    simp at this
    cases s; cases t
    simpa using this
  · rintro rfl; rfl
end Go.Proofs.Ytnakdacnfbgpnaa

namespace Go.Proofs.Ytnakdacnfbgpnaa
open Go.RowKit Go.Maps Go.MapKept
open Go.WideElems (Fit rd rg pl rd_key rd_val rg_of rd_mk)
open Go.ChangeMaps (setBlock putKey notKey heap_setBlock_same heap_setBlock_other)
open Go.WideMaps (keyOf_string_mk)
set_option linter.unusedSimpArgs false
set_option linter.unusedVariables false
set_option linter.unusedSectionVars false

/-- an element, read as the value that it is -/
def Rh (v : Value) : Option (DataW Value × List MemPlace) := some (.held v, [])
section
variable {κ : Type} [DecidableEq κ] {P : Program} {k t e : TypeId} {en : κ → Value} {w w' : World} {b n : Nat} {g : κ → Option Value}
/-- block b is a map of at most n entries: at key c it has g c -/
def MapK (P : Program) (k : TypeId) (en : κ → Value) (w : World) (b n : Nat) (g : κ → Option Value) : Prop :=
  ∃ es clock, w.heap[b]? = some (.map es clock) ∧ Fit P k Rh es clock ∧ es.size ≤ n ∧ ∀ c v, g c = some v ↔ ∃ x ∈ es.toList, x.key = en c ∧ x.val = v
theorem MapK.made (w : World) (P : Program) (k : TypeId) (en : κ → Value) : MapK P k en (w.alloc (.map #[] 0)) w.heap.size 0 (fun _ => none) :=
  ⟨#[], 0, (MapKept.heap_alloc w _).1, ⟨by simp, stamped_empty 0, by simp⟩, Nat.le_refl _, by simp⟩
theorem MapK.lt (h : MapK P k en w b n g) : b < w.heap.size := by
  obtain ⟨es, clock, hb, _⟩ := h
  exact (Array.getElem?_eq_some_iff.1 hb).1
theorem MapK.same (h : MapK P k en w b n g) (he : w'.heap[b]? = w.heap[b]?) : MapK P k en w' b n g := by
  obtain ⟨es, clock, hb, r⟩ := h
  exact ⟨es, clock, he.trans hb, r⟩
theorem MapK.more (h : MapK P k en w b n g) (hb : Below w.heap.size w w') : MapK P k en w' b n g := h.same (hb.block b h.lt)
theorem MapK.grown {row : Option Nat} (h : MapK P k en w b n g) (hg : w.grownBy w' row) (hne : some b ≠ row) : MapK P k en w' b n g := h.same (hg.block b h.lt hne)
end

abbrev MapS (w : World) (b n : Nat) (g : ByteArray → Option Value) : Prop := MapK Try.prog 9 Value.string w b n g
end Go.Proofs.Ytnakdacnfbgpnaa

namespace Go.Proofs.Ytnakdacnfbgpnaa
open Go.RowKit Go.Shelf
set_option linter.unusedSimpArgs false
set_option linter.unusedVariables false

/-- of the blocks that are there, none has turned but those of which X holds -/
structure But (w w' : World) (X : Nat → Prop) : Prop where
  os : w'.os = w.os
  tape : w'.tape = w.tape
  output : w'.output = w.output
  size : w.heap.size ≤ w'.heap.size
  block : ∀ k, k < w.heap.size → ¬ X k → w'.heap[k]? = w.heap[k]?
theorem But.refl (w : World) (X : Nat → Prop) : But w w X := ⟨rfl, rfl, rfl, Nat.le_refl _, fun _ _ _ => rfl⟩
theorem But.trans {w w' w'' : World} {X Y : Nat → Prop} (h : But w w' X) (h' : But w' w'' Y) (hx : ∀ k, k < w.heap.size → Y k → X k) : But w w'' X :=
  ⟨h'.os.trans h.os, h'.tape.trans h.tape, h'.output.trans h.output, Nat.le_trans h.size h'.size, fun k hk hn => (h'.block k (Nat.lt_of_lt_of_le hk h.size) fun hy => hn (hx k hk hy)).trans (h.block k hk hn)⟩
theorem But.of_below {w w' : World} {X : Nat → Prop} (h : Below w.heap.size w w') : But w w' X := ⟨h.os, h.tape, h.output, h.size, fun k hk _ => h.block k hk⟩
theorem But.below {w w' : World} {X : Nat → Prop} (h : But w w' X) {B : Nat} (hB : B ≤ w.heap.size) (hx : ∀ k, k < B → ¬ X k) : Below B w w' := ⟨h.os, h.tape, h.output, h.size, fun k hk => h.block k (Nat.lt_of_lt_of_le hk hB) (hx k hk)⟩
end Go.Proofs.Ytnakdacnfbgpnaa

namespace Go.Proofs.Ytnakdacnfbgpnaa
open Go.RowKit Go.Shelf
set_option linter.unusedSimpArgs false
set_option linter.unusedVariables false

section
variable {α : Type} {enc : α → List Value}
def cellsR (enc : α → List Value) (l : List α) : List Value := l.flatMap enc
theorem cellsR_len {sz : Nat} (h : ∀ x, (enc x).length = sz) (l : List α) : (cellsR enc l).length = l.length * sz := by
  induction l with
  | nil => simp [cellsR]
  | cons x r ih =>
    simp only [cellsR, List.flatMap_cons, List.length_append, List.length_cons, h] at ih ⊢
    rw [ih, Nat.add_mul]; omega
theorem cellsR_app (l m : List α) : cellsR enc (l ++ m) = cellsR enc l ++ cellsR enc m := by simp [cellsR]
theorem cellsR_one (x : α) : cellsR enc [x] = enc x := by simp [cellsR]
theorem cellsR_at {sz : Nat} (h : ∀ x, (enc x).length = sz) : ∀ (l : List α) (i j : Nat) (x : α) (u : Value), l[i]? = some x → (enc x)[j]? = some u → (cellsR enc l)[i * sz + j]? = some u
  | [], i, j, x, u, hi, _ => by simp at hi
  | y :: r, 0, j, x, u, hi, hu => by
    simp at hi
    subst hi
    have hj : j < (enc y).length := (List.getElem?_eq_some_iff.1 hu).1
    simp only [cellsR, List.flatMap_cons, Nat.zero_mul, Nat.zero_add]
    rw [List.getElem?_append_left hj]
    exact hu
  | y :: r, i + 1, j, x, u, hi, hu => by
    have ih := cellsR_at h r i j x u (by simpa using hi) hu
    have e : (i + 1) * sz + j = (enc y).length + (i * sz + j) := by rw [h, Nat.add_mul]; omega
    simp only [cellsR, List.flatMap_cons] at ih ⊢
    rw [e, List.getElem?_append_right (by omega), Nat.add_sub_cancel_left]
    exact ih
/-- what a row's type must be -/
structure RT (P : Program) (t e : TypeId) (sz : Nat) (enc : α → List Value) : Prop where
  ht : P.underlying t = some (.slice e)
  info : ∃ z bytes, (P.info? e).map (fun i => (i.zero, i.size, i.bytes)) = some (some z, sz, bytes) ∧ z.cells.size = sz ∧ bytes ≤ 1000
  len : ∀ x, (enc x).length = sz
  one : ∀ x, ∀ u ∈ enc x, u.oneCell' = true
  pos : 0 < sz
/-- a row of the call's own -/
structure ROwn (e : TypeId) (sz : Nat) (enc : α → List Value) (B : Nat) (w : World) (v : Value) (l : List α) : Prop where
  own : w.ownsRow B e sz v l.length (cellsR enc l)
  base : B ≤ w.heap.size
/-- the slice value v holds the elements l -/
def RowL (sz : Nat) (enc : α → List Value) (w : World) (v : Value) (l : List α) : Prop :=
  ∃ A c, v = .slice A l.length c ∧ (l = [] ∨ ∃ b o, A = some ⟨b, o, none⟩ ∧ b < w.heap.size ∧ ∀ i x j u, l[i]? = some x → (enc x)[j]? = some u → w.cell? ⟨b, o + i * sz + j, none⟩ = some u)
variable {e : TypeId} {sz B : Nat} {w w' : World} {v : Value} {l : List α}
theorem ROwn.nil (hB : B ≤ w.heap.size) : ROwn e sz enc B w (.slice none 0 0) [] := ⟨World.ownsRow_nil _ _ _ _, hB⟩
theorem ROwn.more (h : ROwn e sz enc B w v l) (hb : Below w.heap.size w w') : ROwn e sz enc B w' v l := ⟨own_more h.own hb, Nat.le_trans h.base hb.size⟩
theorem ROwn.alloc (h : ROwn e sz enc B w v l) (o : Obj) : ROwn e sz enc B (w.alloc o) v l := h.more (bel_alloc w o)
theorem RowL.more (h : RowL sz enc w v l) (hb : Below w.heap.size w w') : RowL sz enc w' v l := by
  obtain ⟨A, c, rfl, h⟩ := h
  refine ⟨A, c, rfl, ?_⟩
  rcases h with h | ⟨b, o, rfl, hlt, hc⟩
  · exact .inl h
  · exact .inr ⟨b, o, rfl, Nat.lt_of_lt_of_le hlt hb.size, fun i x j u hi hu => (hb.cell (p := ⟨b, o + i * sz + j, none⟩) hlt).trans (hc i x j u hi hu)⟩
theorem ROwn.rowL (h : ROwn e sz enc B w v l) (hlen : ∀ x, (enc x).length = sz) : RowL sz enc w v l := by
  cases l with
  | nil =>
    rcases h.own.2 with ⟨rfl, _⟩ | ⟨g, cap, cur, rfl, _⟩
    · exact ⟨none, 0, rfl, .inl rfl⟩
    · exact ⟨_, cap, rfl, .inl rfl⟩
  | cons x r =>
    obtain ⟨g, cap, rfl, _, hlt⟩ := h.own.form (by simp)
    have hadd : ∀ j, (⟨g, 0, none⟩ : Addr).add j = ⟨g, 0 + j, none⟩ := fun j => by unfold Addr.add; split <;> simp_all
    refine ⟨_, cap, rfl, .inr ⟨g, 0, rfl, hlt, fun i y j u hi hu => ?_⟩⟩
    have h0 := h.own.cells (g := g) rfl _ _ (cellsR_at hlen _ i j y u hi hu)
    rw [hadd] at h0
    rw [Nat.add_assoc]
    exact h0
/-- an element of a row -/
theorem RowL.at (h : RowL sz enc w v l) {A : Option Addr} {n c : Nat} (hv : v = .slice A n c) {k : Nat} (hk : k < l.length) : ∃ b o, A = some ⟨b, o, none⟩ ∧ b < w.heap.size ∧ ∀ j u, (enc l[k])[j]? = some u → w.cell? ⟨b, o + k * sz + j, none⟩ = some u := by
  obtain ⟨A', c', rfl, h⟩ := h
  simp only [Value.slice.injEq] at hv
  obtain ⟨rfl, rfl, rfl⟩ := hv
  rcases h with h | ⟨b, o, rfl, hlt, hc⟩
  · rw [h] at hk; simp at hk
  · exact ⟨b, o, rfl, hlt, fun j u hu => hc k _ j u (List.getElem?_eq_getElem hk) hu⟩
/-- a row literal -/
theorem RowL.new (w : World) (l : List α) (e : TypeId) (hlen : ∀ x, (enc x).length = sz) {cs : Array Value} (hcs : cs = (cellsR enc l).toArray) (c : Nat) : RowL sz enc (w.alloc (.cells cs e)) (.slice (some ⟨w.heap.size, 0, none⟩) l.length c) l := by
  subst hcs
  refine ⟨_, c, rfl, .inr ⟨w.heap.size, 0, rfl, by simp, fun i x j u hi hu => ?_⟩⟩
  rw [cells_new, List.getElem?_toArray, Nat.zero_add]
  exact cellsR_at hlen l i j x u hi hu
theorem ROwn.new (h : B ≤ w.heap.size) (l : List α) (hlen : ∀ x, (enc x).length = sz) {cs : Array Value} (hcs : cs = (cellsR enc l).toArray) (hm : l.length ≤ 1000000) : ROwn e sz enc B (w.alloc (.cells cs e)) (.slice (some ⟨w.heap.size, 0, none⟩) l.length l.length) l := by
  subst hcs
  refine ⟨⟨cellsR_len hlen l, .inr ⟨w.heap.size, l.length, (cellsR enc l).toArray, rfl, h, heap_alloc_new w _, Nat.le_refl _, by unfold maxLen; omega, by simp [cellsR_len hlen], ?_⟩⟩, by simp; omega⟩
  rw [List.take_of_length_le (by simp [cellsR_len hlen])]

/-- what a step has changed: of the blocks that were there, v's own alone; and v' lies there, or in a new one -/
structure Chg (w w' : World) (v v' : Value) : Prop where
  but : But w w' (fun k => v.ownBlock = some k)
  own : ∀ g, v'.ownBlock = some g → v.ownBlock = some g ∨ w.heap.size ≤ g
theorem Chg.refl (w : World) (v : Value) : Chg w w v v := ⟨But.refl _ _, fun g h => .inl h⟩
theorem Chg.of_below {w w' : World} {v : Value} (h : Below w.heap.size w w') : Chg w w' v v := ⟨But.of_below h, fun g h => .inl h⟩
theorem Chg.trans {w w1 w2 : World} {v v1 v2 : Value} (h : Chg w w1 v v1) (h' : Chg w1 w2 v1 v2) : Chg w w2 v v2 where
  but := h.but.trans h'.but (fun k hk hv => by
    rcases h.own k hv with h1 | h1
    · exact h1
    · omega)
  own g hg := by
    rcases h'.own g hg with h1 | h1
    · exact h.own g h1
    · exact .inr (Nat.le_trans h.but.size h1)
theorem ROwn.low (h : ROwn e sz enc B w v l) {k : Nat} (hk : v.ownBlock = some k) : B ≤ k ∧ k < w.heap.size := h.own.lt k hk
theorem Chg.below {v' : Value} (h : Chg w w' v v') (hF : ROwn e sz enc B w v l) : Below B w w' :=
  h.but.below hF.base (fun k hk hv => by have := (hF.low hv).1; omega)
theorem Chg.cell {w w' : World} {v v' : Value} (h : Chg w w' v v') {a : Addr} {x : Value} (hc : w.cell? a = some x) (hne : v.ownBlock ≠ some a.block) : w'.cell? a = some x :=
  (World.cell?_of_block (h.but.block a.block (World.block_lt_of_cell? _ _ hc) hne)).trans hc
theorem ROwn.app {P : Program} {t : TypeId} (T : RT P t e sz enc) {g cap' : Nat} {W w1 : World} {m : List α} (h : ROwn e sz enc B w v l) (hW : Below w.heap.size w W) {n : Nat} (hn : n = l.length + m.length)
    (hown : w1.ownsRow B e sz (.slice (some ⟨g, 0, none⟩) n cap') n (cellsR enc l ++ cellsR enc m)) (hgrow : W.grownBy w1 v.ownBlock) (hloc : v.ownBlock = some g ∨ g = W.heap.size) :
    ROwn e sz enc B w1 (.slice (some ⟨g, 0, none⟩) n cap') (l ++ m) ∧ Chg w w1 v (.slice (some ⟨g, 0, none⟩) n cap') := by
  have hs := hW.size
  refine ⟨⟨by rw [cellsR_app, List.length_append, ← hn]; exact hown, Nat.le_trans h.base (Nat.le_trans hs hgrow.size)⟩, ⟨⟨hgrow.os.trans hW.os, hgrow.tape.trans hW.tape, hgrow.output.trans hW.output, Nat.le_trans hs hgrow.size, fun k hk hn => (hgrow.block k (Nat.lt_of_lt_of_le hk hs) (fun e => hn e.symm)).trans (hW.block k hk)⟩, fun k hk => ?_⟩⟩
  have e : k = g := by
    have : (Value.slice (some ⟨g, 0, none⟩) n cap').ownBlock = some g := rfl
    rw [this] at hk
    exact (Option.some.inj hk).symm
  subst e
  rcases hloc with h1 | h1
  · exact .inl h1
  · exact .inr (by omega)
section
variable {P : Program} {t : TypeId}
/-- 'append(v, x)' in a plain region; w0: the world in which the row stood, before x was laid beside it -/
theorem wpList_rapp (T : RT P t e sz enc) {w0 : World} {ops : Array Oper} {rest : List Oper} {o : Oper} {a : Act} {Q : Exit → Act → World → Prop} (hgd : o.guard = none) (s x : Operand)
    (ho : o.op = .call { callee := .builtin .append, args := #[s, x], argTypes := #[t, t] }) (h0 : ROwn e sz enc B w0 v l) (hs : a.eval s = v) (hW : Below w0.heap.size w0 w)
    (b : Nat) (new : α) (c : Nat) (hx : a.eval x = .slice (some ⟨b, 0, none⟩) 1 c) {cs : Array Value} (hcs : cs = (enc new).toArray) (hb : w.heap[b]? = some (.cells cs e (0, 0)))
    (hlim : l.length ≤ 100000000)
    (h : ∀ v' w', ROwn e sz enc B w' v' (l ++ [new]) → Chg w0 w' v v' → wpList P ops Q rest (a.put o.dst v') w') : wpList P ops Q (o :: rest) a w := by
  obtain ⟨z, bytes, hinfo, hzc, hby⟩ := T.info
  obtain ⟨i, hi, hz, hz1, hz2⟩ := info_parts hinfo
  subst hcs
  refine wpList_append_lies w hgd s x t ho B e i z sz bytes T.ht hi hz hz1 hz2 hzc T.pos v l.length (cellsR enc l) hs (h0.more hW).own ⟨b, 0, none⟩ 1 c (cellsR enc [new]) hx
    (by rw [cellsR_one, T.len]; omega) (by rw [cellsR_one]; exact World.news_of_block hb) (by rw [cellsR_one]; exact T.one new) (by omega) (by unfold maxLen; omega) ?_ (h0.more hW).base w.heap.size rfl ?_
  · have : (l.length + 1) * bytes ≤ (l.length + 1) * 1000 := Nat.mul_le_mul_left _ hby
    omega
  · intro g cap w' hown hgrow hloc _
    obtain ⟨r1, r2⟩ := h0.app T hW (m := [new]) rfl hown hgrow hloc
    exact h _ _ r1 r2
/-- the same at a step of a region that draws its order -/
theorem step_rapp (T : RT P t e sz enc) {w0 : World} {ops : Array Oper} {o : Oper} {a : Act} {K : Act → World → Prop} {Q : Exit → Act → World → Prop} {E : Prop} (hgd : o.guard = none) (s x : Operand)
    (ho : o.op = .call { callee := .builtin .append, args := #[s, x], argTypes := #[t, t] }) (h0 : ROwn e sz enc B w0 v l) (hs : a.eval s = v) (hW : Below w0.heap.size w0 w)
    (b : Nat) (new : α) (c : Nat) (hx : a.eval x = .slice (some ⟨b, 0, none⟩) 1 c) {cs : Array Value} (hcs : cs = (enc new).toArray) (hb : w.heap[b]? = some (.cells cs e (0, 0)))
    (hlim : l.length ≤ 100000000)
    (h : ∀ v' w', ROwn e sz enc B w' v' (l ++ [new]) → Chg w0 w' v v' → K (a.put o.dst v') w') : if Region.wanted o (yielded ops a.tmps) = true then Oper.wp P o a w K Q else E := by
  obtain ⟨z, bytes, hinfo, hzc, hby⟩ := T.info
  obtain ⟨i, hi, hz, hz1, hz2⟩ := info_parts hinfo
  subst hcs
  refine step_append_lies w hgd s x t ho B e i z sz bytes T.ht hi hz hz1 hz2 hzc T.pos v l.length (cellsR enc l) hs (h0.more hW).own ⟨b, 0, none⟩ 1 c (cellsR enc [new]) hx
    (by rw [cellsR_one, T.len]; omega) (by rw [cellsR_one]; exact World.news_of_block hb) (by rw [cellsR_one]; exact T.one new) (by omega) (by unfold maxLen; omega) ?_ (h0.more hW).base w.heap.size rfl ?_
  · have : (l.length + 1) * bytes ≤ (l.length + 1) * 1000 := Nat.mul_le_mul_left _ hby
    omega
  · intro g cap w' hown hgrow hloc _
    obtain ⟨r1, r2⟩ := h0.app T hW (m := [new]) rfl hown hgrow hloc
    exact h _ _ r1 r2
theorem news_of_row {w : World} {b o : Nat} {m : List α} (hlen : ∀ x, (enc x).length = sz) (hpos : 0 < sz) (hc : ∀ i x j u, m[i]? = some x → (enc x)[j]? = some u → w.cell? ⟨b, o + i * sz + j, none⟩ = some u) :
    ∀ j u, (cellsR enc m)[j]? = some u → w.cell? ((⟨b, o, none⟩ : Addr).add j) = some u := by
  intro j u hu
  have hadd : (⟨b, o, none⟩ : Addr).add j = ⟨b, o + j, none⟩ := by unfold Addr.add; split <;> simp_all
  rw [hadd]
  have hj : j < (cellsR enc m).length := (List.getElem?_eq_some_iff.1 hu).1
  rw [cellsR_len hlen] at hj
  have hi : j / sz < m.length := Nat.div_lt_of_lt_mul (by rw [Nat.mul_comm]; exact hj)
  have hm : j % sz < sz := Nat.mod_lt _ hpos
  have hd : (j / sz) * sz + j % sz = j := by rw [Nat.mul_comm]; exact Nat.div_add_mod j sz
  have hg := cellsR_at hlen m (j / sz) (j % sz) m[j / sz] ((enc m[j / sz])[j % sz]'(by rw [hlen]; exact hm)) (List.getElem?_eq_getElem hi) (List.getElem?_eq_getElem _)
  rw [hd, hu] at hg
  have := hc (j / sz) m[j / sz] (j % sz) _ (List.getElem?_eq_getElem hi) (List.getElem?_eq_getElem (by rw [hlen]; exact hm))
  rw [Nat.add_assoc, hd] at this
  rw [this, hg]
/-- 'append(v, x...)' at the operation, x not empty -/
theorem wpList_rapps (T : RT P t e sz enc) {ops : Array Oper} {rest : List Oper} {o : Oper} {a : Act} {Q : Exit → Act → World → Prop} (hgd : o.guard = none) (s x : Operand)
    (ho : o.op = .call { callee := .builtin .append, args := #[s, x], argTypes := #[t, t] }) (h0 : ROwn e sz enc B w v l) (hs : a.eval s = v)
    (b off : Nat) (m : List α) (n c : Nat) (hx : a.eval x = .slice (some ⟨b, off, none⟩) n c) (hn : n = m.length) (hm : 0 < n) (hc : ∀ i x j u, m[i]? = some x → (enc x)[j]? = some u → w.cell? ⟨b, off + i * sz + j, none⟩ = some u)
    (hlim : l.length + m.length ≤ 100000000)
    (h : ∀ v' w', ROwn e sz enc B w' v' (l ++ m) → Chg w w' v v' → wpList P ops Q rest (a.put o.dst v') w') : wpList P ops Q (o :: rest) a w := by
  obtain ⟨z, bytes, hinfo, hzc, hby⟩ := T.info
  obtain ⟨i, hi, hz, hz1, hz2⟩ := info_parts hinfo
  refine wpList_append_lies w hgd s x t ho B e i z sz bytes T.ht hi hz hz1 hz2 hzc T.pos v l.length (cellsR enc l) hs h0.own ⟨b, off, none⟩ n c (cellsR enc m) hx
    (by rw [cellsR_len T.len, hn]) (news_of_row T.len T.pos hc) ?_ hm (by unfold maxLen; omega) ?_ h0.base w.heap.size rfl ?_
  · intro u hu
    obtain ⟨y, _, hy⟩ := List.mem_flatMap.1 hu
    exact T.one y u hy
  · have : (l.length + n) * bytes ≤ (l.length + n) * 1000 := Nat.mul_le_mul_left _ hby
    omega
  · intro g cap w' hown hgrow hloc _
    obtain ⟨r1, r2⟩ := h0.app T (Below.refl _ _) (m := m) (by rw [hn]) hown hgrow hloc
    exact h _ _ r1 r2
theorem step_rapps (T : RT P t e sz enc) {ops : Array Oper} {o : Oper} {a : Act} {K : Act → World → Prop} {Q : Exit → Act → World → Prop} {E : Prop} (hgd : o.guard = none) (s x : Operand)
    (ho : o.op = .call { callee := .builtin .append, args := #[s, x], argTypes := #[t, t] }) (h0 : ROwn e sz enc B w v l) (hs : a.eval s = v)
    (b off : Nat) (m : List α) (n c : Nat) (hx : a.eval x = .slice (some ⟨b, off, none⟩) n c) (hn : n = m.length) (hm : 0 < n) (hc : ∀ i x j u, m[i]? = some x → (enc x)[j]? = some u → w.cell? ⟨b, off + i * sz + j, none⟩ = some u)
    (hlim : l.length + m.length ≤ 100000000)
    (h : ∀ v' w', ROwn e sz enc B w' v' (l ++ m) → Chg w w' v v' → K (a.put o.dst v') w') : if Region.wanted o (yielded ops a.tmps) = true then Oper.wp P o a w K Q else E := by
  obtain ⟨z, bytes, hinfo, hzc, hby⟩ := T.info
  obtain ⟨i, hi, hz, hz1, hz2⟩ := info_parts hinfo
  refine step_append_lies w hgd s x t ho B e i z sz bytes T.ht hi hz hz1 hz2 hzc T.pos v l.length (cellsR enc l) hs h0.own ⟨b, off, none⟩ n c (cellsR enc m) hx
    (by rw [cellsR_len T.len, hn]) (news_of_row T.len T.pos hc) ?_ hm (by unfold maxLen; omega) ?_ h0.base w.heap.size rfl ?_
  · intro u hu
    obtain ⟨y, _, hy⟩ := List.mem_flatMap.1 hu
    exact T.one y u hy
  · have : (l.length + n) * bytes ≤ (l.length + n) * 1000 := Nat.mul_le_mul_left _ hby
    omega
  · intro g cap w' hown hgrow hloc _
    obtain ⟨r1, r2⟩ := h0.app T (Below.refl _ _) (m := m) (by rw [hn]) hown hgrow hloc
    exact h _ _ r1 r2
end
end
end Go.Proofs.Ytnakdacnfbgpnaa

namespace Go.Proofs.Ytnakdacnfbgpnaa
open Go.RowKit Go.Shelf
set_option linter.unusedSimpArgs false
set_option linter.unusedVariables false

theorem row_get {α : Type} {enc : α → List Value} {sz : Nat} {w : World} {A : Option Addr} {n c : Nat} {L : List α} (h : RowL sz enc w (.slice A n c) L) {k : Nat} {y : α} (hk : L[k]? = some y) : ∃ b o, A = some ⟨b, o, none⟩ ∧ b < w.heap.size ∧ ∀ j u, (enc y)[j]? = some u → w.cell? ⟨b, o + k * sz + j, none⟩ = some u := by
  obtain ⟨hlt, rfl⟩ := List.getElem?_eq_some_iff.1 hk
  obtain ⟨b, o, h1, h2, h3⟩ := h.at rfl hlt
  exact ⟨b, o, h1, h2, h3⟩
end Go.Proofs.Ytnakdacnfbgpnaa

namespace Go.Proofs.Ytnakdacnfbgpnaa
open Go.RowKit Go.Shelf
set_option linter.unusedSimpArgs false
set_option linter.unusedVariables false

/-- a violation: its error, and where it is -/
abbrev Flt := Int × ByteArray
/-- the errors that are none are left out -/
def okE (es : List Int) : List Int := es.filter fun e => decide (e ≠ 0)
def pick (s : ByteArray) (es : List Int) : List Flt := (okE es).map fun e => (e, s)
theorem pick_app (s : ByteArray) (a b : List Int) : pick s (a ++ b) = pick s a ++ pick s b := by simp [pick, okE]
theorem pick_one (s : ByteArray) (e : Int) (h : e ≠ 0) : pick s [e] = [(e, s)] := by simp [pick, okE, h]
theorem pick_le (s : ByteArray) (es : List Int) : (pick s es).length ≤ es.length := by
  unfold pick okE
  rw [List.length_map]
  exact List.length_filter_le _ _

def decA (i : Nat) : ByteArray := ⟨(Lib.itoa (i : Int)).toArray⟩
variable {P : Program}
end Go.Proofs.Ytnakdacnfbgpnaa

namespace Go.Proofs.Ytnakdacnfbgpnaa
open Go.RowKit Go.Shelf
set_option linter.unusedSimpArgs false
set_option linter.unusedVariables false

abbrev fltT : TypeId := 54
def encF (x : Flt) : List Value := [.int .i64 x.1, .string x.2]
theorem rtF : RT Try.prog 40 fltT 2 encF where
  ht := Try.underlying40
  info := ⟨.agg #[.int .i64 0, .string noB], 24, by kernel_rfl, rfl, by omega⟩
  len x := rfl
  one x u hu := by simp [encF] at hu; rcases hu with rfl | rfl <;> rfl
  pos := by omega
abbrev FOwn (B : Nat) (w : World) (v : Value) (l : List Flt) : Prop := ROwn fltT 2 encF B w v l
abbrev FltL (w : World) (v : Value) (l : List Flt) : Prop := RowL 2 encF w v l

end Go.Proofs.Ytnakdacnfbgpnaa

namespace Go.Proofs.Ytnakdacnfbgpnaa
open Go.RowKit Go.Shelf
set_option linter.unusedSimpArgs false
set_option linter.unusedVariables false

/-- since w6 nothing has turned but v's own block -/
abbrev SX (w6 : World) (v : Value) (W : World) : Prop := But w6 W (fun k => v.ownBlock = some k)
theorem SX.cell {w6 W : World} {v : Value} {a : Addr} {x : Value} (hc : w6.cell? a = some x) (hne : v.ownBlock ≠ some a.block) (h : SX w6 v W) : W.cell? a = some x :=
  (World.cell?_of_block (h.block a.block (World.block_lt_of_cell? _ _ hc) hne)).trans hc
theorem SX.map {κ : Type} [DecidableEq κ] {P : Program} {k : TypeId} {en : κ → Value} {w6 W : World} {v : Value} {b n : Nat} {g : κ → Option Value} (hm : MapK P k en w6 b n g) (hne : v.ownBlock ≠ some b) (h : SX w6 v W) : MapK P k en W b n g := hm.same (h.block b hm.lt hne)
theorem ROwn.grown {α : Type} {enc : α → List Value} {e : TypeId} {sz B : Nat} {w w' : World} {v : Value} {l : List α} {row : Option Nat} (h : ROwn e sz enc B w v l) (hg : w.grownBy w' row) (hne : row ≠ v.ownBlock ∨ v.ownBlock = none) : ROwn e sz enc B w' v l :=
  ⟨h.own.kept hg (by
    rcases hne with h1 | h1
    · exact .inr (fun e => h1 e.symm)
    · exact .inl h1), Nat.le_trans h.base hg.size⟩
theorem decA_size (k : Nat) (h : k < 100) : (decA k).size ≤ 21 := by
  have := Lib.itoa_length_le (k : Int) (by omega) (by omega)
  show (Lib.itoa (k : Int)).toArray.size ≤ 21
  simpa using this
end Go.Proofs.Ytnakdacnfbgpnaa

namespace Go.Proofs.Ytnakdacnfbgpnaa
open Go.RowKit
set_option linter.unusedSimpArgs false
set_option linter.unusedVariables false

def tenA : ByteArray := ⟨#[48, 49, 50, 51, 52, 53, 54, 55, 56, 57]⟩
theorem ten_all : ∀ n : Fin 10, (tenA.extract n.val (n.val + 1)).data.toList = [UInt8.ofNat (48 + n.val)] := by decide +kernel
theorem ten_cut (n m : Nat) (h : n < 10) (hm : m = n + 1) : (⟨#[48, 49, 50, 51, 52, 53, 54, 55, 56, 57]⟩ : ByteArray).extract n m = ⟨[UInt8.ofNat (48 + n)].toArray⟩ := by
  subst hm
  exact WideShapes.bytes_inj (ten_all ⟨n, h⟩)

theorem quiet_ex {P : Program} {f : FuncId} {args : Array Value} {w : World} {n : Nat} {v : Value} (h : ∀ W, Calls P f args W fun e w' => e = .returned v ∧ ∃ m, w' = W.drewN m) :
    Calls P f args (w.drewN n) fun e w'' => e = .returned v ∧ ∃ m, w'' = w.drewN m :=
  (h _).mono fun _ _ ⟨he, m, hm⟩ => ⟨he, n + m, by rw [hm, World.drewN_drewN]⟩
theorem dec_len (u : Nat) (h : u ≤ 9223372036854775807) : (⟨(Lib.decDigits u).toArray⟩ : ByteArray).size ≤ 21 := by
  have h1 := Lib.itoa_length_le (u : Int) (by omega) (by omega)
  have h2 : Lib.itoa (u : Int) = Lib.decDigits u := by
    unfold Lib.itoa
    rw [if_neg (by omega)]
    congr 1
  rw [h2] at h1
  simpa [ByteArray.size] using h1
def U64 (n : Nat) : Prop := n < 18446744073709551616
theorem u64_div (n : Nat) (h : U64 n) : IntKind.u64.wrap ((n : Int) / 10) = (n : Int) / 10 := by rw [IntKind.wrap_u64]; unfold U64 at h; omega

set_option maxRecDepth 100000 in
set_option maxHeartbeats 1000000 in
theorem rdigits_any : ∀ (n : Nat) (w : World), U64 n →
    Calls Try.prog 48 #[.int .u64 n] w fun e w' => e = .returned (.string ⟨(Lib.decDigits n).toArray⟩) ∧ ∃ k, w' = w.drewN k
  | n, w, hn => by
    by_cases h : n < 10
    · have HD : Hid (Lib.decDigits n = [UInt8.ofNat (48 + n)]) := Lib.hid (decDigits_small n h)
      have b1 : (n : Int) < 10 := by omega
      have HC := Lib.hid (ten_cut n (n + 1) h rfl)
      go_enter Try.func48, Try.ntmps48
      go_wp2
      go_ret
      exact ⟨by rw [HD.out, ← HC.out]; rfl, 0, rfl⟩
    · have ih : ∀ w, Calls Try.prog 48 #[.int .u64 ((n : Int) / 10)] w fun e w' => e = .returned (.string ⟨(Lib.decDigits (n / 10)).toArray⟩) ∧ ∃ k, w' = w.drewN k := by
        intro w
        rw [show ((n : Int) / 10) = ((n / 10 : Nat) : Int) from by omega]
        exact rdigits_any (n / 10) w (by unfold U64 at hn ⊢; omega)
      have HIH := Lib.hid ih
      have e1 := u64_div n hn
      have e2 : ((n : Int)).tmod 10 = (n : Int) % 10 := Int.tmod_eq_emod_of_nonneg (by omega)
      have e3 : IntKind.u64.wrap ((n : Int) % 10 + 1) = (n : Int) % 10 + 1 := by rw [IntKind.wrap_u64]; omega
      have HF : Hid ((⟨(Lib.decDigits (n / 10)).toArray⟩ : ByteArray) ++ (⟨#[48, 49, 50, 51, 52, 53, 54, 55, 56, 57]⟩ : ByteArray).extract ((n : Int) % 10).toNat ((n : Int) % 10 + 1).toNat = ⟨(Lib.decDigits n).toArray⟩) := Lib.hid (by
        rw [ten_cut ((n : Int) % 10).toNat ((n : Int) % 10 + 1).toNat (by omega) (by omega), decDigits_step n (by omega)]
        apply WideShapes.bytes_inj
        rw [show ((n : Int) % 10).toNat = n % 10 from by omega]
        simp)
      have hadd := fun W => run_string_add_sum (P := Try.prog) (w := W) (⟨(Lib.decDigits (n / 10)).toArray⟩ : ByteArray) ((⟨#[48, 49, 50, 51, 52, 53, 54, 55, 56, 57]⟩ : ByteArray).extract ((n : Int) % 10).toNat ((n : Int) % 10 + 1).toNat) (by
        have h1 := dec_len (n / 10) (by unfold U64 at hn; omega)
        have h2 : ((⟨#[48, 49, 50, 51, 52, 53, 54, 55, 56, 57]⟩ : ByteArray).extract ((n : Int) % 10).toNat ((n : Int) % 10 + 1).toNat).size ≤ 10 := by
          rw [ByteArray.size_extract]; show min _ 10 - _ ≤ 10; omega
        omega)
      clear ih hn
      have b1 : ¬ (n : Int) < 10 := by omega
      have c1 : (0 : Int) ≤ (n : Int) % 10 := by omega
      have c2 : (n : Int) % 10 < 10 := by omega
      have hsl := fun W => run_slice_string (P := Try.prog) W 9 (⟨#[48, 49, 50, 51, 52, 53, 54, 55, 56, 57]⟩ : ByteArray) .u64 .u64 ((n : Int) % 10) ((n : Int) % 10 + 1) Try.underlying9 c1 (by omega) (by show (n : Int) % 10 + 1 ≤ 10; omega)
      go_enter Try.func48, Try.ntmps48
      go_wp2_with (fail)
      go_quiet ((go_at_call 48; exact quiet_ex HIH.out))
      go_wp2
      go_ret
      exact ⟨by rw [← HF.out]; rfl, _, rfl⟩
termination_by n => n
decreasing_by omega

theorem neg_arg (n : Int) (h0 : -9223372036854775808 ≤ n) (hn : n < 0) : IntKind.u64.wrap (IntKind.u64.wrap (wrap64 (-wrap64 (n + 1))) + 1) = (n.natAbs : Int) := by
  have e1 : wrap64 (n + 1) = n + 1 := by unfold wrap64; omega
  have e2 : wrap64 (-(n + 1)) = -(n + 1) := by unfold wrap64; omega
  rw [e1, e2, IntKind.wrap_u64, IntKind.wrap_u64]
  omega
theorem pos_arg (n : Int) (h1 : n ≤ 9223372036854775807) (hn : ¬ n < 0) : IntKind.u64.wrap n = (n.toNat : Int) := by
  rw [IntKind.wrap_u64]
  omega
set_option maxRecDepth 100000 in
set_option maxHeartbeats 1000000 in
theorem rdecimal_any (n : Int) (w : World) (h0 : -9223372036854775808 ≤ n) (h1 : n ≤ 9223372036854775807) :
    Calls Try.prog 40 #[.int .i64 n] w fun e w' => e = .returned (.string ⟨(Lib.itoa n).toArray⟩) ∧ ∃ k, w' = w.drewN k := by
  by_cases hn : n < 0
  · have HC : Hid (∀ w, Calls Try.prog 48 #[.int .u64 (IntKind.u64.wrap (IntKind.u64.wrap (wrap64 (-wrap64 (n + 1))) + 1))] w fun e w' => e = .returned (.string ⟨(Lib.decDigits n.natAbs).toArray⟩) ∧ ∃ k, w' = w.drewN k) := Lib.hid (by
      intro w; rw [neg_arg n h0 hn]; exact rdigits_any n.natAbs w (by unfold U64; omega))
    have HF : Hid ((⟨#[45]⟩ : ByteArray) ++ (⟨(Lib.decDigits n.natAbs).toArray⟩ : ByteArray) = ⟨(Lib.itoa n).toArray⟩) := Lib.hid (by
      apply WideShapes.bytes_inj
      unfold Lib.itoa
      rw [if_pos hn]
      simp)
    have hlen : (⟨#[45]⟩ : ByteArray).size + (⟨(Lib.decDigits n.natAbs).toArray⟩ : ByteArray).size ≤ 9223372036854775807 := by
      have h2 := Lib.itoa_length_le n h0 h1
      unfold Lib.itoa at h2
      rw [if_pos hn] at h2
      have h3 : (⟨(Lib.decDigits n.natAbs).toArray⟩ : ByteArray).size = (Lib.decDigits n.natAbs).length := by simp [ByteArray.size]
      have h4 : (⟨#[45]⟩ : ByteArray).size = 1 := rfl
      simp only [List.length_cons] at h2
      omega
    have hadd := fun W => run_string_add_sum (P := Try.prog) (w := W) (⟨#[45]⟩ : ByteArray) (⟨(Lib.decDigits n.natAbs).toArray⟩ : ByteArray) hlen
    clear h0 h1 hlen
    go_enter Try.func40, Try.ntmps40
    go_wp2_with (go_at_call 48; refine (HC.out _).mono ?_; rintro e w' ⟨rfl, k, rfl⟩)
    go_ret
    exact ⟨by rw [← HF.out]; rfl, k, rfl⟩
  · have HC : Hid (∀ w, Calls Try.prog 48 #[.int .u64 (IntKind.u64.wrap n)] w fun e w' => e = .returned (.string ⟨(Lib.decDigits n.toNat).toArray⟩) ∧ ∃ k, w' = w.drewN k) := Lib.hid (by
      intro w; rw [pos_arg n h1 hn]; exact rdigits_any n.toNat w (by unfold U64; omega))
    have HF : Hid ((⟨(Lib.decDigits n.toNat).toArray⟩ : ByteArray) = ⟨(Lib.itoa n).toArray⟩) := Lib.hid (by
      unfold Lib.itoa
      rw [if_neg hn])
    clear h0 h1
    go_enter Try.func40, Try.ntmps40
    go_wp2_with (go_at_call 48; refine (HC.out _).mono ?_; rintro e w' ⟨rfl, k, rfl⟩)
    go_ret
    exact ⟨by rw [← HF.out]; rfl, k, rfl⟩
end Go.Proofs.Ytnakdacnfbgpnaa

namespace Go.Proofs.Ytnakdacnfbgpnaa
open Go.RowKit Go.Shelf
set_option linter.unusedSimpArgs false
set_option linter.unusedVariables false

theorem rdec_small (k : Nat) (h : k < 100) (w : World) : Calls Try.prog 40 #[.int .i64 (k : Int)] w fun e w' => e = .returned (.string (decA k)) ∧ Below w.heap.size w w' :=
  (rdecimal_any (k : Int) w (by omega) (by omega)).mono (by rintro e w' ⟨rfl, n, rfl⟩; exact ⟨rfl, below_drewN (Below.refl _ _) n⟩)
end Go.Proofs.Ytnakdacnfbgpnaa

namespace Go.Proofs.Ytnakdacnfbgpnaa
open Go.RowKit Go.Shelf
set_option linter.unusedSimpArgs false
set_option linter.unusedVariables false

end Go.Proofs.Ytnakdacnfbgpnaa

namespace Go.Proofs.Ytnakdacnfbgpnaa
open Go.RowKit Go.Shelf
set_option linter.unusedSimpArgs false
set_option linter.unusedVariables false

section
variable {α : Type} {enc : α → List Value} {e : TypeId} {sz B : Nat} {w w' : World} {v : Value} {l : List α} {P : Program} {t : TypeId}
theorem run_app0 (T : RT P t e sz enc) (ty : TypeId) (h : ROwn e sz enc B w v l) (A : Option Addr) (c : Nat) : (Builtin.append_ #[t, t] ty #[v, .slice A 0 c]).run P w = .ok v w := by
  obtain ⟨z, bytes, hinfo, hzc, hby⟩ := T.info
  obtain ⟨i, hi, hz, hz1, hz2⟩ := info_parts hinfo
  have ht := T.ht
  rcases h.own.2 with ⟨rfl, h1⟩ | ⟨g, cap, cur, rfl, _, _, hnc, _⟩
  · cases A <;> simp [Builtin.append_, run_underlying ht, sizeOf, typeInfo, hi, Builtin.lenOf, Builtin.firstCells, h1, loadCells, loadCellsFrom]
  · cases A <;> simp [Builtin.append_, run_underlying ht, sizeOf, typeInfo, hi, Builtin.lenOf, Builtin.firstCells, hnc, storeCells, loadCells, loadCellsFrom]
theorem wp_rappl (T : RT P t e sz enc) {o : Oper} {a : Act} {K : Act → World → Prop} {Q : Exit → Act → World → Prop} (s x : Operand)
    (ho : o.op = .call { callee := .builtin .append, args := #[s, x], argTypes := #[t, t] }) (h0 : ROwn e sz enc B w v l) (hs : a.eval s = v) (m : List α) (u : Value) (hx : a.eval x = u) (hm : RowL sz enc w u m)
    (hlim : l.length + m.length ≤ 100000000)
    (h : ∀ v' w', ROwn e sz enc B w' v' (l ++ m) → Chg w w' v v' → K (a.put o.dst v') w') : o.wp P a w K Q := by
  obtain ⟨A, c, rfl, hm⟩ := hm
  rcases hm with rfl | ⟨b, off, rfl, hlt, hc⟩
  · have hr := run_app0 T o.type h0 A c
    have hx : a.eval x = .slice A 0 c := hx
    unfold Oper.wp execOp
    simp only [ho, resolve, invoke, builtin, Sem.run_bind, Sem.run_pure, Result.andThen_ok, List.map_toArray, List.map_cons, List.map_nil, hs, hx, hr]
    exact h v w (by rw [List.append_nil]; exact h0) (Chg.refl _ _)
  · rcases Nat.eq_zero_or_pos m.length with h1 | h1
    · have : m = [] := List.eq_nil_of_length_eq_zero h1
      subst this
      have hr := run_app0 T o.type h0 (some ⟨b, off, none⟩) c
      have hx : a.eval x = .slice (some ⟨b, off, none⟩) 0 c := hx
      unfold Oper.wp execOp
      simp only [ho, resolve, invoke, builtin, Sem.run_bind, Sem.run_pure, Result.andThen_ok, List.map_toArray, List.map_cons, List.map_nil, hs, hx, hr]
      exact h v w (by rw [List.append_nil]; exact h0) (Chg.refl _ _)
    · obtain ⟨z, bytes, hinfo, hzc, hby⟩ := T.info
      obtain ⟨i, hi, hz, hz1, hz2⟩ := info_parts hinfo
      refine wp_append_lies w s x t ho B e i z sz bytes T.ht hi hz hz1 hz2 hzc T.pos v l.length (cellsR enc l) hs h0.own ⟨b, off, none⟩ m.length c (cellsR enc m) hx
        (by rw [cellsR_len T.len]) (news_of_row T.len T.pos hc) ?_ h1 (by unfold maxLen; omega) ?_ h0.base w.heap.size rfl ?_
      · intro u hu
        obtain ⟨y, _, hy⟩ := List.mem_flatMap.1 hu
        exact T.one y u hy
      · have : (l.length + m.length) * bytes ≤ (l.length + m.length) * 1000 := Nat.mul_le_mul_left _ hby
        omega
      · intro g cap w' hown hgrow hloc _
        obtain ⟨r1, r2⟩ := h0.app T (Below.refl _ _) (m := m) rfl hown hgrow hloc
        exact h _ _ r1 r2
theorem wpList_rappl (T : RT P t e sz enc) {ops : Array Oper} {rest : List Oper} {o : Oper} {a : Act} {Q : Exit → Act → World → Prop} (hgd : o.guard = none) (s x : Operand)
    (ho : o.op = .call { callee := .builtin .append, args := #[s, x], argTypes := #[t, t] }) (h0 : ROwn e sz enc B w v l) (hs : a.eval s = v) (m : List α) (u : Value) (hx : a.eval x = u) (hm : RowL sz enc w u m)
    (hlim : l.length + m.length ≤ 100000000)
    (h : ∀ v' w', ROwn e sz enc B w' v' (l ++ m) → Chg w w' v v' → wpList P ops Q rest (a.put o.dst v') w') : wpList P ops Q (o :: rest) a w :=
  wpList_plain hgd fun _ hK => wp_rappl T s x ho h0 hs m u hx hm hlim fun v' w' h1 h2 => hK _ _ (h v' w' h1 h2)
end
end Go.Proofs.Ytnakdacnfbgpnaa

namespace Go.Proofs.Ytnakdacnfbgpnaa
open Go.RowKit Go.Shelf
set_option linter.unusedSimpArgs false
set_option linter.unusedVariables false

structure Cl where
  code : ByteArray
  prot : Int
structure Cb where
  name : ByteArray
  seats : Int
  over : Int
  A : Option Addr
  c : Nat
  l : List Cl
structure Cf where
  equip : ByteArray
  A : Option Addr
  c : Nat
  l : List Cb
def encCl (x : Cl) : List Value := [.string x.code, .int .i64 x.prot]
def encCb (x : Cb) : List Value := [.string x.name, .int .i64 x.seats, .int .i64 x.over, .slice x.A x.l.length x.c]
def encCf (x : Cf) : List Value := [.string x.equip, .slice x.A x.l.length x.c]
abbrev aggCb (x : Cb) : Value := .agg #[.string x.name, .int .i64 x.seats, .int .i64 x.over, .slice x.A x.l.length x.c]
abbrev clT : TypeId := 47
abbrev cbT : TypeId := 24
abbrev cfT : TypeId := 44
abbrev ClL (w : World) (v : Value) (l : List Cl) : Prop := RowL 2 encCl w v l
/-- the classes of a cabin, the cabins of a configuration lie in memory -/
def CbAt (w : World) (b : Cb) : Prop := ClL w (.slice b.A b.l.length b.c) b.l
def CbL (w : World) (v : Value) (l : List Cb) : Prop := RowL 4 encCb w v l ∧ ∀ b ∈ l, CbAt w b
def CfAt (w : World) (f : Cf) : Prop := CbL w (.slice f.A f.l.length f.c) f.l
def CfL (w : World) (v : Value) (l : List Cf) : Prop := RowL 2 encCf w v l ∧ ∀ f ∈ l, CfAt w f
theorem CbAt.more {w w' : World} {b : Cb} (h : CbAt w b) (hb : Below w.heap.size w w') : CbAt w' b := RowL.more h hb
theorem CbL.more {w w' : World} {v : Value} {l : List Cb} (h : CbL w v l) (hb : Below w.heap.size w w') : CbL w' v l := ⟨h.1.more hb, fun b hm => (h.2 b hm).more hb⟩
theorem CfAt.more {w w' : World} {f : Cf} (h : CfAt w f) (hb : Below w.heap.size w w') : CfAt w' f := CbL.more h hb
theorem CfL.more {w w' : World} {v : Value} {l : List Cf} (h : CfL w v l) (hb : Below w.heap.size w w') : CfL w' v l := ⟨h.1.more hb, fun b hm => (h.2 b hm).more hb⟩

/-! ### sizes -/
structure OkCl (x : Cl) : Prop where
  code : x.code.size ≤ maxLen
  lo : -9223372036854775808 ≤ x.prot
  hi : x.prot ≤ 9223372036854775807
structure OkCb (b : Cb) : Prop where
  name : b.name.size ≤ maxLen
  len : b.l.length ≤ 30
  cls : ∀ x ∈ b.l, OkCl x
structure OkCf (f : Cf) : Prop where
  equip : f.equip.size ≤ maxLen
  len : f.l.length ≤ 8
  cab : ∀ b ∈ f.l, OkCb b

/-! ### violations -/
def whC (b : Bool) (e : Int) : Int := if b = true then e else 0
theorem pick_wh (s : ByteArray) (b : Bool) (e : Int) (he : e ≠ 0) : pick s [whC b e] = if b = true then [(e, s)] else [] := by
  cases b
  · rfl
  · exact pick_one s e he
def sizB (b : Cb) : Bool := decide (1 ≤ b.seats) && decide (b.seats ≤ 999) && decide (0 ≤ b.over) && decide (b.over ≤ 999)
/-- the least number that the class k may protect, the most that a class may -/
def leastP (l : List Cl) : Nat → Int
  | 0 => 0
  | k + 1 => match l[k]? with
    | some x => if x.prot < 0 then 0 else x.prot
    | none => 0
def mostP (b : Cb) : Int := if sizB b = true then b.seats + b.over else 9223372036854775807
def badP (b : Cb) (k : Nat) (x : Cl) : Bool := decide (x.prot < leastP b.l k) || decide (mostP b < x.prot)
def anyS (L : List ByteArray) (s : ByteArray) : Bool := L.any fun c => decide (c = s)
def badN (n : Nat) (m : Int) : Bool := decide ((n : Int) < 1) || decide (m < (n : Int))
/-- ' class ' ¦ ' cabin ' ¦ 'config ' -/
def clsW : ByteArray := ⟨#[32, 99, 108, 97, 115, 115, 32]⟩
def cabW : ByteArray := ⟨#[32, 99, 97, 98, 105, 110, 32]⟩
def conW : ByteArray := ⟨#[99, 111, 110, 102, 105, 103, 32]⟩
def codesC (l : List Cl) : List ByteArray := l.map Cl.code
def codesB (l : List Cb) : List ByteArray := l.flatMap fun b => codesC b.l
def clsE (S : List ByteArray) (b : Cb) (k : Nat) (x : Cl) : List Int := [whC (!capsB x.code 1) 16, whC (anyS (S ++ codesC (b.l.take k)) x.code) 6, whC (badP b k x) 2]
/-- the pieces of the first k elements, one after another -/
def flatG {α β : Type} (l : List α) (g : Nat → α → List β) (k : Nat) : List β := (List.range k).flatMap fun i => match l[i]? with
  | some x => g i x
  | none => []
theorem flat_succ {α β : Type} (l : List α) (g : Nat → α → List β) (k : Nat) (x : α) (h : l[k]? = some x) : flatG l g (k + 1) = flatG l g k ++ g k x := by
  unfold flatG
  rw [List.range_succ, List.flatMap_append, List.flatMap_cons, List.flatMap_nil, List.append_nil, h]
theorem flat_le {α β : Type} (l : List α) (g : Nat → α → List β) (m : Nat) (hm : ∀ i x, l[i]? = some x → (g i x).length ≤ m) : ∀ k, (flatG l g k).length ≤ m * k
  | 0 => Nat.le_refl _
  | k + 1 => by
    have ih := flat_le l g m hm k
    unfold flatG at ih ⊢
    rw [List.range_succ, List.flatMap_append, List.flatMap_cons, List.flatMap_nil, List.append_nil, List.length_append, Nat.mul_succ]
    cases h : l[k]? with
    | none => simp only [List.length_nil]; omega
    | some x => have := hm k x h; simp only; omega
def clsF (at_ : ByteArray) (S : List ByteArray) (b : Cb) (k : Nat) : List Flt := flatG b.l (fun i x => pick (at_ ++ clsW ++ decA i) (clsE S b i x)) k
def cabE (l : List Cb) (k : Nat) (b : Cb) : List Int := [whC (!codeB b.name 1 8) 5, whC (anyS ((l.take k).map Cb.name) b.name) 6, whC (!sizB b) 2, whC (badN b.l.length 26) 4]
def cabF (at_ : ByteArray) (l : List Cb) (k : Nat) : List Flt := flatG l (fun i b => pick (at_ ++ cabW ++ decA i) (cabE l i b) ++ clsF (at_ ++ cabW ++ decA i) (codesB (l.take i)) b b.l.length) k
def conE (l : List Cf) (k : Nat) (f : Cf) : List Int := [whC (!codeB f.equip 3 3) 5, whC (anyS ((l.take k).map Cf.equip) f.equip) 6, whC (badN f.l.length 4) 4]
def conF (l : List Cf) (k : Nat) : List Flt := flatG l (fun i f => pick (conW ++ decA i) (conE l i f) ++ cabF (conW ++ decA i) f.l f.l.length) k
theorem clsF_succ (at_ : ByteArray) (S : List ByteArray) (b : Cb) (k : Nat) (x : Cl) (h : b.l[k]? = some x) : clsF at_ S b (k + 1) = clsF at_ S b k ++ pick (at_ ++ clsW ++ decA k) (clsE S b k x) := flat_succ b.l (fun i x => pick (at_ ++ clsW ++ decA i) (clsE S b i x)) k x h
theorem clsF_le (at_ : ByteArray) (S : List ByteArray) (b : Cb) (k : Nat) : (clsF at_ S b k).length ≤ 3 * k := flat_le b.l (fun i x => pick (at_ ++ clsW ++ decA i) (clsE S b i x)) 3 (fun i x _ => pick_le _ _) k
theorem cabF_succ (at_ : ByteArray) (l : List Cb) (k : Nat) (b : Cb) (h : l[k]? = some b) : cabF at_ l (k + 1) = cabF at_ l k ++ (pick (at_ ++ cabW ++ decA k) (cabE l k b) ++ clsF (at_ ++ cabW ++ decA k) (codesB (l.take k)) b b.l.length) := flat_succ l (fun i b => pick (at_ ++ cabW ++ decA i) (cabE l i b) ++ clsF (at_ ++ cabW ++ decA i) (codesB (l.take i)) b b.l.length) k b h
theorem cabF_le (at_ : ByteArray) (l : List Cb) (hl : ∀ b ∈ l, b.l.length ≤ 30) (k : Nat) : (cabF at_ l k).length ≤ 94 * k := flat_le l (fun i b => pick (at_ ++ cabW ++ decA i) (cabE l i b) ++ clsF (at_ ++ cabW ++ decA i) (codesB (l.take i)) b b.l.length) 94 (fun i b h => by
  have h1 := pick_le (at_ ++ cabW ++ decA i) (cabE l i b)
  have h2 := clsF_le (at_ ++ cabW ++ decA i) (codesB (l.take i)) b b.l.length
  have h3 := hl b (List.mem_of_getElem? h)
  have h4 : (cabE l i b).length = 4 := rfl
  rw [List.length_append]; omega) k
theorem conF_succ (l : List Cf) (k : Nat) (f : Cf) (h : l[k]? = some f) : conF l (k + 1) = conF l k ++ (pick (conW ++ decA k) (conE l k f) ++ cabF (conW ++ decA k) f.l f.l.length) := flat_succ l (fun i f => pick (conW ++ decA i) (conE l i f) ++ cabF (conW ++ decA i) f.l f.l.length) k f h
theorem conF_le (l : List Cf) (hl : ∀ f ∈ l, OkCf f) (k : Nat) : (conF l k).length ≤ 755 * k := flat_le l (fun i f => pick (conW ++ decA i) (conE l i f) ++ cabF (conW ++ decA i) f.l f.l.length) 755 (fun i f h => by
  have hf := hl f (List.mem_of_getElem? h)
  have h1 := pick_le (conW ++ decA i) (conE l i f)
  have h2 := cabF_le (conW ++ decA i) f.l (fun b hb => (hf.cab b hb).len) f.l.length
  have h3 := hf.len
  have h4 : (conE l i f).length = 3 := rfl
  rw [List.length_append]; omega) k

theorem codesC_snoc (l : List Cl) (k : Nat) (x : Cl) (h : l[k]? = some x) : codesC (l.take (k + 1)) = codesC (l.take k) ++ [x.code] := by
  rw [List.take_add_one, h]; simp [codesC]
theorem codesB_snoc (l : List Cb) (k : Nat) (b : Cb) (h : l[k]? = some b) : codesB (l.take (k + 1)) = codesB (l.take k) ++ codesC b.l := by
  rw [List.take_add_one, h]; simp [codesB]
theorem map_snoc {α β : Type} (f : α → β) (l : List α) (k : Nat) (x : α) (h : l[k]? = some x) : (l.take (k + 1)).map f = (l.take k).map f ++ [f x] := by
  rw [List.take_add_one, h]; simp
theorem anyS_snoc (L : List ByteArray) (c s : ByteArray) : anyS (L ++ [c]) s = (anyS L s || (c.toList == s.toList)) := by
  have h : decide (c = s) = eqS c s := by
    rw [Bool.eq_iff_iff, eqS_iff, decide_eq_true_iff]
  unfold anyS
  rw [List.any_append, List.any_cons, List.any_nil, Bool.or_false, h]
  rfl

/-! ### the reference's words -/
/-- whether a number of protected seats is wrong, as the reference asks -/
theorem badP_ref (b : Cb) (k : Nat) (x y : Cl) (h : 0 < k → b.l[k - 1]? = some y) (hx : x.prot ≤ 9223372036854775807) :
    badP b k x = (decide (x.prot < 0) || (decide (0 < k) && decide (x.prot < y.prot)) || (sizB b && decide (b.seats + b.over < x.prot))) := by
  unfold badP mostP
  have h1 : decide (x.prot < leastP b.l k) = (decide (x.prot < 0) || (decide (0 < k) && decide (x.prot < y.prot))) := by
    cases k with
    | zero => rw [Bool.eq_iff_iff]; simp [leastP]; exact decide_eq_true_iff
    | succ k =>
      have h := h (by omega)
      rw [Nat.add_sub_cancel] at h
      simp only [leastP, h]
      rw [Bool.eq_iff_iff]
      simp only [decide_eq_true_eq, Bool.or_eq_true, Bool.and_eq_true]
      split <;> omega
  rw [h1]
  congr 1
  cases sizB b with
  | true => simp
  | false => simp; omega
theorem app_assoc (a b c : ByteArray) : a ++ b ++ c = a ++ (b ++ c) := by
  apply ByteArray.ext
  simp [ByteArray.data_append, Array.append_assoc]
/-- 'word' with a space behind it, and one before it where a path stands ahead -/
def clsR : ByteArray := ⟨#[99, 108, 97, 115, 115]⟩
def cabR : ByteArray := ⟨#[99, 97, 98, 105, 110]⟩
def conR : ByteArray := ⟨#[99, 111, 110, 102, 105, 103]⟩
def spA : ByteArray := ⟨#[32]⟩
theorem cls_path (p d : ByteArray) : p ++ spA ++ clsR ++ spA ++ d = p ++ clsW ++ d := by
  rw [show p ++ spA ++ clsR ++ spA = p ++ clsW by rw [app_assoc, app_assoc]; rfl]
theorem cab_path (p d : ByteArray) : p ++ spA ++ cabR ++ spA ++ d = p ++ cabW ++ d := by
  rw [show p ++ spA ++ cabR ++ spA = p ++ cabW by rw [app_assoc, app_assoc]; rfl]
theorem con_path (d : ByteArray) : noB ++ conR ++ spA ++ d = conW ++ d := rfl
end Go.Proofs.Ytnakdacnfbgpnaa

namespace Go.Proofs.Ytnakdacnfbgpnaa
open Go.RowKit Go.Shelf
set_option linter.unusedSimpArgs false
set_option linter.unusedVariables false

set_option maxHeartbeats 1000000 in
theorem inRange_any (b : Cb) (w : World) : Calls Try.prog 43 #[aggCb b] w fun e w' => e = .returned (.bool (sizB b)) ∧ Below w.heap.size w w' := by
  have HU : Hid (sizB b = (decide (1 ≤ b.seats) && decide (b.seats ≤ 999) && decide (0 ≤ b.over) && decide (b.over ≤ 999))) := Lib.hid rfl
  by_cases h1 : 1 ≤ b.seats
  · by_cases h2 : b.seats ≤ 999
    · by_cases h3 : 0 ≤ b.over
      all_goals
        go_enter Try.func43, Try.ntmps43
        go_wp2
        go_ret
        exact ⟨ret_bool (by rw [HU.out]; first | (simp [h1, h2, h3]; done) | (simp [h1, h2, h3]; omega)), bel_alloc _ _⟩
    · go_enter Try.func43, Try.ntmps43
      go_wp2
      go_ret
      exact ⟨ret_bool (by rw [HU.out]; first | (simp [h1, h2]; done) | (simp [h1, h2]; omega)), bel_alloc _ _⟩
  · go_enter Try.func43, Try.ntmps43
    go_wp2
    go_ret
    exact ⟨ret_bool (by rw [HU.out]; first | (simp [h1]; done) | (simp [h1]; omega)), bel_alloc _ _⟩
theorem sizB_in {b : Cb} (h : sizB b = true) : 1 ≤ b.seats ∧ b.seats ≤ 999 ∧ 0 ≤ b.over ∧ b.over ≤ 999 := by
  simp only [sizB, Bool.and_eq_true, decide_eq_true_eq] at h
  exact ⟨h.1.1.1, h.1.1.2, h.1.2, h.2⟩
/-- the sum, as the machine adds -/
theorem auth_any (b : Cb) (w : World) (h : sizB b = true) : Calls Try.prog 46 #[aggCb b] w fun e w' => e = .returned (.int .i64 (b.seats + b.over)) ∧ Below w.heap.size w w' := by
  obtain ⟨h1, h2, h3, h4⟩ := sizB_in h
  have e1 : IntKind.i64.wrap (b.seats + b.over) = b.seats + b.over := by rw [IntKind.wrap_i64]; omega
  go_enter Try.func46, Try.ntmps46
  go_wp2
  go_ret
  exact ⟨rfl, bel_alloc _ _⟩
theorem rauth_any (b : Cb) (w : World) (h : sizB b = true) : Calls Try.prog 21 #[aggCb b] w fun e w' => e = .returned (.int .i64 (b.seats + b.over)) ∧ Below w.heap.size w w' := by
  obtain ⟨h1, h2, h3, h4⟩ := sizB_in h
  have e1 : IntKind.i64.wrap (b.seats + b.over) = b.seats + b.over := by rw [IntKind.wrap_i64]; omega
  go_enter Try.func21, Try.ntmps21
  go_wp2
  go_ret
  exact ⟨rfl, bel_alloc _ _⟩
set_option maxHeartbeats 1000000 in
/-- a path without anything ahead, and one behind another -/
theorem rplace0_any (w0 : ByteArray) (k : Nat) (w : World) (hk : k < 100) (hw : w0.size ≤ 100) : Calls Try.prog 31 #[.string ⟨#[]⟩, .string w0, .int .i64 (k : Int)] w fun e w' => e = .returned (.string (noB ++ w0 ++ spA ++ decA k)) ∧ Below w.heap.size w w' := by
  have KD := Lib.hid (fun W => rdec_small k (by omega) W)
  have hd := decA_size k hk
  have s0 : noB.size = 0 := rfl
  have s1 : spA.size = 1 := rfl
  have a1 : ∀ W : World, (Op.stringOp .add (⟨#[]⟩ : ByteArray) w0).run Try.prog W = .ok (.string (noB ++ w0)) W := fun W => run_string_add_sum W _ _ (by have : (⟨#[]⟩ : ByteArray).size = 0 := rfl; omega)
  have a2 : ∀ W : World, (Op.stringOp .add (noB ++ w0) (⟨#[32]⟩ : ByteArray)).run Try.prog W = .ok (.string (noB ++ w0 ++ spA)) W := fun W => run_string_add_sum W _ _ (by have : (⟨#[32]⟩ : ByteArray).size = 1 := rfl; simp only [ByteArray.size_append]; omega)
  have a3 : ∀ W : World, (Op.stringOp .add (noB ++ w0 ++ spA) (decA k)).run Try.prog W = .ok (.string (noB ++ w0 ++ spA ++ decA k)) W := fun W => run_string_add_sum W _ _ (by simp only [ByteArray.size_append]; omega)
  clear hd s0 s1
  generalize noB ++ w0 = x1 at *
  generalize x1 ++ spA = x2 at *
  generalize decA k = dk at *
  go_enter Try.func31, Try.ntmps31
  go_wp2_with (go_at_call 40; refine (KD.out _).mono ?_; rintro e w' ⟨rfl, hb⟩)
  go_ret
  exact ⟨rfl, hb⟩
set_option maxHeartbeats 1000000 in
theorem rplace_any (p w0 : ByteArray) (k : Nat) (w : World) (hk : k < 100) (hw : w0.size ≤ 100) (hp : 0 < p.size) (hp2 : p.size ≤ 1000) : Calls Try.prog 31 #[.string p, .string w0, .int .i64 (k : Int)] w fun e w' => e = .returned (.string (p ++ spA ++ w0 ++ spA ++ decA k)) ∧ Below w.heap.size w w' := by
  have KD := Lib.hid (fun W => rdec_small k (by omega) W)
  have hd := decA_size k hk
  have s1 : spA.size = 1 := rfl
  have s2 : (⟨#[32]⟩ : ByteArray).size = 1 := rfl
  have a0 : ∀ W : World, (Op.stringOp .add p (⟨#[32]⟩ : ByteArray)).run Try.prog W = .ok (.string (p ++ spA)) W := fun W => run_string_add_sum W _ _ (by omega)
  have a1 : ∀ W : World, (Op.stringOp .add (p ++ spA) w0).run Try.prog W = .ok (.string (p ++ spA ++ w0)) W := fun W => run_string_add_sum W _ _ (by simp only [ByteArray.size_append]; omega)
  have a2 : ∀ W : World, (Op.stringOp .add (p ++ spA ++ w0) (⟨#[32]⟩ : ByteArray)).run Try.prog W = .ok (.string (p ++ spA ++ w0 ++ spA)) W := fun W => run_string_add_sum W _ _ (by simp only [ByteArray.size_append]; omega)
  have a3 : ∀ W : World, (Op.stringOp .add (p ++ spA ++ w0 ++ spA) (decA k)).run Try.prog W = .ok (.string (p ++ spA ++ w0 ++ spA ++ decA k)) W := fun W => run_string_add_sum W _ _ (by simp only [ByteArray.size_append]; omega)
  have e0 := isEmpty_no p hp
  clear hd s1 s2
  generalize p ++ spA = x0 at *
  generalize x0 ++ w0 = x1 at *
  generalize x1 ++ spA = x2 at *
  generalize decA k = dk at *
  go_enter Try.func31, Try.ntmps31
  go_wp2_with (go_at_call 40; refine (KD.out _).mono ?_; rintro e w' ⟨rfl, hb⟩)
  go_ret
  exact ⟨rfl, hb⟩
end Go.Proofs.Ytnakdacnfbgpnaa

namespace Go.Proofs.Ytnakdacnfbgpnaa
open Go.RowKit Go.Shelf
set_option linter.unusedSimpArgs false
set_option linter.unusedVariables false

/-- the block b holds the numbers l, and they may be written -/
structure Row (W : World) (b : Nat) (l : List Int) : Prop where
  cell : ∀ j (h : j < l.length), W.cell? ⟨b, j, none⟩ = some (.int .i64 l[j])
  froz : ∀ j, j < l.length → W.frozen? ⟨b, j, none⟩ = false
  lt : b < W.heap.size
theorem Row.set {W : World} {b : Nat} {l : List Int} (h : Row W b l) (k : Nat) (hk : k < l.length) (x : Int) : Row (W.setCell ⟨b, k, none⟩ (.int .i64 x)) b (l.set k x) := by
  refine ⟨fun j hj => ?_, fun j hj => ?_, by have := h.lt; simpa using this⟩
  · have hj' : j < l.length := by rw [List.length_set] at hj; exact hj
    by_cases e : j = k
    · subst e
      rw [World.cell?_setCell_same _ _ _ (h.cell j hj')]
      simp
    · rw [World.cell?_setCell_other _ _ _ _ (by intro e'; simp only [Addr.mk.injEq] at e'; omega), h.cell j hj']
      rw [List.getElem_set_ne (by omega)]
  · rw [List.length_set] at hj
    rw [World.frozen?_setCell]; exact h.froz j hj
theorem Row.other {W : World} {b c : Nat} {l : List Int} (h : Row W b l) (hne : c ≠ b) (k : Nat) (v : Value) : Row (W.setCell ⟨c, k, none⟩ v) b l := by
  refine ⟨fun j hj => ?_, fun j hj => by rw [World.frozen?_setCell]; exact h.froz j hj, by have := h.lt; simpa using this⟩
  rw [World.cell?_setCell_other _ _ _ _ (by intro e'; simp only [Addr.mk.injEq] at e'; omega), h.cell j hj]
theorem Row.drewN {W : World} {b : Nat} {l : List Int} (h : Row W b l) (n : Nat) : Row (W.drewN n) b l := ⟨h.cell, h.froz, h.lt⟩
theorem Row.drew {W : World} {b : Nat} {l : List Int} (h : Row W b l) : Row W.drew b l := ⟨h.cell, h.froz, h.lt⟩
theorem Row.more {W W' : World} {b : Nat} {l : List Int} (h : Row W b l) (hb : Below W.heap.size W W') : Row W' b l :=
  ⟨fun j hj => (hb.cell (p := ⟨b, j, none⟩) h.lt).trans (h.cell j hj), fun j hj => (hb.frozen (p := ⟨b, j, none⟩) h.lt).trans (h.froz j hj), Nat.lt_of_lt_of_le h.lt hb.size⟩
theorem Row.alloc {W : World} {b : Nat} {l : List Int} (h : Row W b l) (o : Obj) : Row (W.alloc o) b l := h.more ((Below.refl _ _).alloc (Nat.le_refl _) _)
theorem Row.made (w : World) (n : Nat) (e : TypeId) : Row (w.alloc (.cells (madeCells #[.int .i64 0] n) e)) w.heap.size (List.replicate n 0) := by
  have hb : (w.alloc (.cells (madeCells #[.int .i64 0] n) e)).heap[w.heap.size]? = some (.cells (madeCells #[.int .i64 0] n) e (0, 0)) := heap_alloc_new w _
  refine ⟨fun j hj => ?_, fun j hj => ?_, by simp⟩
  · rw [List.length_replicate] at hj
    rw [cell_of_row _ w.heap.size j _ e (0, 0) hb, ← Array.getElem?_toList, toList_madeCells_one, List.getElem?_replicate, if_pos hj, List.getElem_replicate]
  · unfold World.frozen?
    simp only [hb]
    simp
theorem intT : (Try.prog.info? 3).map (fun i => (i.zero, i.size, i.bytes)) = some (some (.int .i64 0), 1, 8) := by kernel_rfl

def encI (n : Int) : List Value := [.int .i64 n]
theorem rowI : RT Try.prog 25 3 1 encI where
  ht := Try.underlying25
  info := ⟨.int .i64 0, 8, by kernel_rfl, rfl, by omega⟩
  len x := rfl
  one x u hu := by simp [encI] at hu; subst hu; rfl
  pos := by omega
abbrev IntR (w : World) (v : Value) (l : List Int) : Prop := RowL 1 encI w v l
theorem Row.intR {W : World} {b c : Nat} {l : List Int} (h : Row W b l) : IntR W (.slice (some ⟨b, 0, none⟩) l.length c) l :=
  ⟨_, _, rfl, .inr ⟨b, 0, rfl, h.lt, fun i x j u hi hu => by
    obtain ⟨hi', rfl⟩ := List.getElem?_eq_some_iff.1 hi
    cases j with
    | zero => simp [encI] at hu; subst hu; rw [Nat.zero_add, Nat.mul_one, Nat.add_zero]; exact h.cell i hi'
    | succ j => simp [encI] at hu⟩⟩
def tab (f : Nat → Int) (n : Nat) : List Int := (List.range n).map f
theorem tab_len (f : Nat → Int) (n : Nat) : (tab f n).length = n := by simp [tab]
theorem tab_snoc (f : Nat → Int) (k : Nat) : tab f (k + 1) = tab f k ++ [f k] := by simp [tab, List.range_succ]
theorem tab_zero (n : Nat) (f : Nat → Int) : tab (fun j => if j < 0 then f j else 0) n = List.replicate n 0 := by
  apply List.ext_getElem
  · simp [tab]
  · intro i h1 h2; simp [tab]
theorem tab_full (n : Nat) (f : Nat → Int) : tab (fun j => if j < n then f j else 0) n = tab f n := by
  apply List.ext_getElem
  · simp [tab]
  · intro i h1 h2
    have h1' : i < n := by simpa [tab] using h1
    simp [tab, h1']
theorem tab_put (n k : Nat) (f : Nat → Int) (h : k < n) : (tab (fun j => if j < k then f j else 0) n).set k (f k) = tab (fun j => if j < k + 1 then f j else 0) n := by
  apply List.ext_getElem
  · simp [tab]
  · intro i h1 h2
    have h1' : i < n := by simpa [tab] using h1
    rw [List.getElem_set]
    simp only [tab, List.getElem_map, List.getElem_range]
    by_cases e : k = i
    · subst e; simp
    · rw [if_neg e]
      by_cases h3 : i < k
      · rw [if_pos h3, if_pos (by omega)]
      · rw [if_neg h3, if_neg (by omega)]
/-- the limit of the class k -/
def limA (b : Cb) : Nat → Int
  | 0 => b.seats + b.over
  | k + 1 => match b.l[k]? with
    | some x => b.seats + b.over - x.prot
    | none => 0
structure LimP (b : Cb) : Prop where
  siz : sizB b = true
  len : b.l.length ≤ 30
  pro : ∀ x ∈ b.l, 0 ≤ x.prot ∧ x.prot ≤ 1998
/-- the memory while the limits are laid -/
structure LimW (w : World) (Z G : Nat) (vs : List Value) (l : List Int) (W : World) : Prop where
  box : ∀ j y, vs[j]? = some y → W.cell? ⟨Z, j, none⟩ = some y
  row : Row W G l
  bel : Below w.heap.size w W
theorem LimW.more {w : World} {Z G : Nat} {vs : List Value} {l : List Int} {W W' : World} (h : LimW w Z G vs l W) (hb : Below W.heap.size W W') : LimW w Z G vs l W' :=
  ⟨fun j y hy => bel_cell hb (h.box j y hy), h.row.more hb, h.bel.trans (hb.mono h.bel.size)⟩
theorem LimW.set {w : World} {Z G : Nat} {vs : List Value} {l : List Int} {W : World} (h : LimW w Z G vs l W) (hne : Z ≠ G) (hG : w.heap.size ≤ G) (k : Nat) (hk : k < l.length) (x : Int) : LimW w Z G vs (l.set k x) (W.setCell ⟨G, k, none⟩ (.int .i64 x)) :=
  ⟨fun j y hy => by rw [World.cell?_setCell_other _ _ _ _ (by intro e; simp only [Addr.mk.injEq] at e; omega)]; exact h.box j y hy, h.row.set k hk x, h.bel.setCell (p := ⟨G, k, none⟩) hG _⟩
set_option maxRecDepth 100000 in
set_option maxHeartbeats 8000000 in
theorem limits_any (b : Cb) (w : World) (hb : CbAt w b) (hP : LimP b) : Calls Try.prog 36 #[aggCb b] w fun e w' => ∃ v', e = .returned v' ∧ IntR w' v' (tab (limA b) b.l.length) ∧ Below w.heap.size w w' := by
  have hlen := hP.len
  obtain ⟨s1, s2, s3, s4⟩ := sizB_in hP.siz
  have HP := Lib.hid hP
  obtain ⟨i0, hi, hz0, hz1, hz2⟩ := info_parts intT
  have HI := Lib.hid hi
  have HZ0 := Lib.hid hz0
  have HZ1 := Lib.hid hz1
  have HZ2 := Lib.hid hz2
  obtain ⟨A, hA⟩ : ∃ A, A = b.A := ⟨_, rfl⟩
  have HB : Hid (ClL w (.slice A b.l.length b.c) b.l) := Lib.hid (by rw [hA]; exact hb)
  obtain ⟨vs, hvs⟩ : ∃ vs : List Value, vs = [.string b.name, .int .i64 b.seats, .int .i64 b.over, .slice A b.l.length b.c] := ⟨_, rfl⟩
  have KA : Hid (∀ W, Calls Try.prog 46 #[.agg #[.string b.name, .int .i64 b.seats, .int .i64 b.over, .slice A b.l.length b.c]] W fun e w' => e = .returned (.int .i64 (b.seats + b.over)) ∧ Below W.heap.size W w') := Lib.hid (fun W => by rw [hA]; exact auth_any b W hP.siz)
  have hbA := bel_alloc w (.cells #[.string b.name, .int .i64 b.seats, .int .i64 b.over, .slice A b.l.length b.c] cbT)
  have hbB := bel_alloc (w.alloc (.cells #[.string b.name, .int .i64 b.seats, .int .i64 b.over, .slice A b.l.length b.c] cbT)) (.cells (madeCells #[.int .i64 0] b.l.length) 3)
  have q0 : ∀ j y, vs[j]? = some y → ((w.alloc (.cells #[.string b.name, .int .i64 b.seats, .int .i64 b.over, .slice A b.l.length b.c] cbT)).alloc (.cells (madeCells #[.int .i64 0] b.l.length) 3)).cell? ⟨w.heap.size, j, none⟩ = some y := fun j y hy => bel_cell hbB ((cells_new w _ cbT j).trans (by rw [← hy, hvs]; simp))
  have qr := Row.made (w.alloc (.cells #[.string b.name, .int .i64 b.seats, .int .i64 b.over, .slice A b.l.length b.c] cbT)) b.l.length 3
  rw [World.size_alloc] at qr
  obtain ⟨Z, hZ⟩ : ∃ Z, Z = w.heap.size := ⟨_, rfl⟩
  have LW : LimW w Z (Z + 1) vs (tab (fun j => if j < 0 then limA b j else 0) b.l.length) ((w.alloc (.cells #[.string b.name, .int .i64 b.seats, .int .i64 b.over, .slice A b.l.length b.c] cbT)).alloc (.cells (madeCells #[.int .i64 0] b.l.length) 3)) := ⟨by rw [hZ]; exact q0, by rw [hZ, tab_zero]; exact qr, hbA.trans (hbB.mono hbA.size)⟩
  have y3 := (cells_new w #[.string b.name, .int .i64 b.seats, .int .i64 b.over, .slice A b.l.length b.c] cbT 3).trans (show _ = some (Value.slice A b.l.length b.c) from rfl)
  clear hb hi hz0 hz1 hz2 hbA hbB q0 qr hP
  rw [show aggCb b = .agg #[.string b.name, .int .i64 b.seats, .int .i64 b.over, .slice A b.l.length b.c] by rw [hA]]
  have HVS := Lib.hid hvs
  clear hA hvs
  obtain ⟨n, hn⟩ : ∃ n, n = b.l.length := ⟨_, rfl⟩
  have HN := Lib.hid hn
  rw [← hn] at hlen LW KA HB y3 HVS ⊢
  clear hn
  go_enter Try.func36, Try.ntmps36
  go_upto_region 2 with (at_make; refine wpList_make_row _ rfl _ _ 25 rfl 3 i0 (.int .i64 0) Try.underlying25 HI.out HZ0.out HZ1.out rfl _ _ n rfl rfl (by rw [HZ2.out]; omega) (by omega) ?_)
  rw [← hZ]
  have HZ := Lib.hid hZ
  have HLW := Lib.hid LW
  generalize (w.alloc (.cells #[.string b.name, .int .i64 b.seats, .int .i64 b.over, .slice A n b.c] cbT)).alloc (.cells (madeCells #[.int .i64 0] n) 3) = w5 at *
  clear hZ LW y3
  have b0 := HLW.out.box 0 _ (by rw [HVS.out]; rfl)
  have b1 := HLW.out.box 1 _ (by rw [HVS.out]; rfl)
  have b2 := HLW.out.box 2 _ (by rw [HVS.out]; rfl)
  have b3 := HLW.out.box 3 _ (by rw [HVS.out]; rfl)
  go_upto_region 3 with (go_at_call 46; refine (KA.out _).mono ?_; rintro e w6 ⟨rfl, hb6⟩)
  have HLW := Lib.hid (HLW.out.more hb6)
  have b3 := bel_cell hb6 b3
  clear b0 b1 b2 hb6
  go_wp2
  clear b3
  go_loopw [4, 16] (fun s4 vi wr => ∃ k : Nat, k ≤ n ∧ vi = .int .i64 k ∧ s4 = .int .i64 (limA b k) ∧ Hid (LimW w Z (Z + 1) vs (tab (fun j => if j < k then limA b j else 0) n) wr)) (fun _ vi _ => n - (intOf vi).toNat)
  case atStart => exact ⟨0, Nat.zero_le _, rfl, rfl, HLW⟩
  case round =>
    obtain ⟨k, hk, rfl, rfl, HK⟩ := hrel
    clear HLW
    by_cases hlt : k < n
    · obtain ⟨x, hx⟩ : ∃ x, b.l[k]? = some x := ⟨_, List.getElem?_eq_getElem (by have := HN.out; omega)⟩
      obtain ⟨bb, off, e1, hgl, hc⟩ := row_get (HB.out.more HK.out.bel) hx
      cases e1
      have i2 : (k : Int) < (n : Int) := by omega
      have d0 := hc 0 _ rfl
      have d1 := hc 1 _ rfl
      rw [Nat.add_zero] at d0
      obtain ⟨p1, p2⟩ := HP.out.pro x (List.mem_of_getElem? hx)
      have HX : Hid (limA b (k + 1) = b.seats + b.over - x.prot) := Lib.hid (by simp only [limA, hx])
      have HNB : Hid (LimW w Z (Z + 1) vs (tab (fun j => if j < k + 1 then limA b j else 0) n) ((wr.alloc (.cells #[.string x.code, .int .i64 x.prot] clT)).setCell ⟨Z + 1, k, none⟩ (.int .i64 (limA b k)))) := Lib.hid (by
        have h := (HK.out.more (bel_alloc wr (.cells #[.string x.code, .int .i64 x.prot] clT))).set (by omega) (by have := HZ.out; omega) k (by rw [tab_len]; exact hlt) (limA b k)
        rw [tab_put n k _ hlt] at h
        exact h)
      have hr0 : (wr.alloc (.cells #[.string x.code, .int .i64 x.prot] clT)).cell? ⟨Z + 1, k, none⟩ = some (.int .i64 0) := by
        have h := (HK.out.row.alloc (.cells #[.string x.code, .int .i64 x.prot] clT)).cell k (by rw [tab_len]; exact hlt)
        simpa [tab] using h
      have hr1 : (wr.alloc (.cells #[.string x.code, .int .i64 x.prot] clT)).frozen? ⟨Z + 1, k, none⟩ = false := (HK.out.row.alloc (.cells #[.string x.code, .int .i64 x.prot] clT)).froz k (by rw [tab_len]; exact hlt)
      have n1 : ((wr.alloc (.cells #[.string x.code, .int .i64 x.prot] clT)).setCell ⟨Z + 1, k, none⟩ (.int .i64 (limA b k))).cell? ⟨wr.heap.size, 1, none⟩ = some (.int .i64 x.prot) := by
        rw [World.cell?_setCell_other _ _ _ _ (by intro e; simp only [Addr.mk.injEq] at e; have := HK.out.row.lt; omega)]
        exact cells_new wr _ clT 1
      obtain ⟨NB, hNB⟩ : ∃ NB, NB = wr.heap.size := ⟨_, rfl⟩
      rw [← hNB] at n1
      clear hc hgl hx
      generalize limA b k = lk at *
      go_upto_region 7 with fail
      rw [← hNB]
      clear d0 d1 hr0 hr1 hNB
      generalize (wr.alloc (.cells #[.string x.code, .int .i64 x.prot] clT)).setCell ⟨Z + 1, k, none⟩ (.int .i64 lk) = w7 at *
      have g0 : ∀ z : Wd (SW w7), z.w.cell? ⟨Z, 0, none⟩ = some (Value.string b.name) := fun z => bel_get (HNB.out.box 0 _ (by rw [HVS.out]; rfl)) _ z.ok
      have g1 : ∀ z : Wd (SW w7), z.w.cell? ⟨Z, 1, none⟩ = some (Value.int .i64 b.seats) := fun z => bel_get (HNB.out.box 1 _ (by rw [HVS.out]; rfl)) _ z.ok
      have g2 : ∀ z : Wd (SW w7), z.w.cell? ⟨Z, 2, none⟩ = some (Value.int .i64 b.over) := fun z => bel_get (HNB.out.box 2 _ (by rw [HVS.out]; rfl)) _ z.ok
      have g3 : ∀ z : Wd (SW w7), z.w.cell? ⟨Z, 3, none⟩ = some (Value.slice (some ⟨bb, off, none⟩) n b.c) := fun z => bel_get (HNB.out.box 3 _ (by rw [HVS.out]; rfl)) _ z.ok
      have g4 : ∀ z : Wd (SW w7), z.w.cell? ⟨NB, 1, none⟩ = some (Value.int .i64 x.prot) := fun z => bel_get n1 _ z.ok
      have KQ : Hid (∀ W, SW w7 W → Calls Try.prog 46 #[.agg #[.string b.name, .int .i64 b.seats, .int .i64 b.over, .slice (some ⟨bb, off, none⟩) n b.c]] W fun e w' => e = .returned (.int .i64 (b.seats + b.over)) ∧ SW w7 w') := Lib.hid (fun W h => (KA.out W).mono (by rintro e w' ⟨rfl, hb⟩; exact ⟨rfl, Below.trans h (Below.mono hb h.size)⟩))
      have hS0 : SW w7 w7.drew := SW.drew _
      have hw : IntKind.i64.wrap (b.seats + b.over - x.prot) = b.seats + b.over - x.prot := by rw [IntKind.wrap_i64]; omega
      have hNe : Nonempty (Wd (SW w7)) := ⟨⟨_, hS0⟩⟩
      refine quietS (S := SW w7) (by kernel_rfl) (by kernel_rfl) (hS0) ?_
      repeat (first | go_big_quiet_skip | (go_big_quiet_want; go_big_quiet_op; first | go_big_quiet_on | go_big_quiet_call (((go_at_call 46; exact quiet_S (KQ.out _ (Wd.ok _)))))))
      refine wpQuiet_nil ?_
      rintro W ⟨⟨_, hW⟩, rfl⟩
      have HY := Lib.hid (HNB.out.more hW)
      clear g0 g1 g2 g3 g4 hW n1
      go_wp2
      go_roundw
      case rel => exact ⟨k + 1, by omega, by go_num, by rw [HX.out], HY⟩
      case measure => simp [intOf]; omega
    · have HE : Hid (k = n) := Lib.hid (by omega)
      have HR : Hid (IntR wr (.slice (some ⟨Z + 1, 0, none⟩) n n) (tab (limA b) n) ∧ Below w.heap.size w wr) := Lib.hid (by
        have h := HK.out.row
        rw [HE.out, tab_full] at h
        have h2 := h.intR (c := n)
        rw [tab_len] at h2
        exact ⟨h2, HK.out.bel⟩)
      go_wp2
      go_ret
      exact ⟨_, rfl, HR.out⟩
set_option maxRecDepth 100000 in
set_option maxHeartbeats 8000000 in
theorem rlimits_any (b : Cb) (w : World) (hb : CbAt w b) (hP : LimP b) : Calls Try.prog 38 #[aggCb b] w fun e w' => ∃ v', e = .returned v' ∧ IntR w' v' (tab (limA b) b.l.length) ∧ Below w.heap.size w w' := by
  have hlen := hP.len
  obtain ⟨s1, s2, s3, s4⟩ := sizB_in hP.siz
  have HP := Lib.hid hP
  have HB := Lib.hid hb
  have KA := Lib.hid (fun W => rauth_any b W hP.siz)
  have hbA := bel_alloc w (.cells #[.string b.name, .int .i64 b.seats, .int .i64 b.over, .slice b.A b.l.length b.c] cbT)
  have q0 := (cells_new w #[.string b.name, .int .i64 b.seats, .int .i64 b.over, .slice b.A b.l.length b.c] cbT 0).trans (show _ = some (Value.string b.name) from rfl)
  have q1 := (cells_new w #[.string b.name, .int .i64 b.seats, .int .i64 b.over, .slice b.A b.l.length b.c] cbT 1).trans (show _ = some (Value.int .i64 b.seats) from rfl)
  have q2 := (cells_new w #[.string b.name, .int .i64 b.seats, .int .i64 b.over, .slice b.A b.l.length b.c] cbT 2).trans (show _ = some (Value.int .i64 b.over) from rfl)
  have q3 := (cells_new w #[.string b.name, .int .i64 b.seats, .int .i64 b.over, .slice b.A b.l.length b.c] cbT 3).trans (show _ = some (Value.slice b.A b.l.length b.c) from rfl)
  obtain ⟨Z, hZ⟩ : ∃ Z, Z = w.heap.size := ⟨_, rfl⟩
  rw [← hZ] at q0 q1 q2 q3
  obtain ⟨n, hn⟩ : ∃ n, n = b.l.length := ⟨_, rfl⟩
  have HN := Lib.hid hn
  rw [← hn] at hlen
  clear hb hP hn
  rw [← HN.out]
  go_enter Try.func38, Try.ntmps38
  go_upto_region 1 with fail
  rw [← hZ]
  have HB5 := Lib.hid hbA
  generalize w.alloc (.cells #[.string b.name, .int .i64 b.seats, .int .i64 b.over, .slice b.A b.l.length b.c] cbT) = w5 at *
  clear hZ hbA
  rw [← HN.out] at q3
  have Q0 := Lib.hid (fun W (h : SW w5 W) => bel_get q0 _ h)
  have Q1 := Lib.hid (fun W (h : SW w5 W) => bel_get q1 _ h)
  have Q2 := Lib.hid (fun W (h : SW w5 W) => bel_get q2 _ h)
  have Q3 := Lib.hid (fun W (h : SW w5 W) => bel_get q3 _ h)
  clear q0 q1 q2 q3
  have HI : Hid (ROwn 3 1 encI w5.heap.size w5 (.slice none 0 0) (tab (limA b) 0) ∧ SW w5 w5) := Lib.hid ⟨ROwn.nil (Nat.le_refl _), Below.refl _ _⟩
  go_wp2
  go_loopg [3, 4] n (fun kx v3 v4 wr => ∃ (v : Value) (k : Nat), v = v3 ∧ v4 = .int .i64 k ∧ k + kx = n ∧ Hid (ROwn 3 1 encI w5.heap.size wr v (tab (limA b) k) ∧ SW w5 wr))
  case atStart => exact ⟨_, 0, rfl, rfl, by omega, HI⟩
  case round =>
    obtain ⟨v, k, rfl, rfl, hkx, HH⟩ := hrel
    clear HI
    have HKX := Lib.hid hkx
    have z3 := Q3.out _ HH.out.2
    by_cases hlt : k < n
    · have hk30 : k < 30 := by omega
      have i1 : (k : Int) < (n : Int) := by omega
      have z0 := Q0.out _ HH.out.2
      have z1 := Q1.out _ HH.out.2
      have z2 := Q2.out _ HH.out.2
      have KQ : Hid (∀ W, SW w5 W → Calls Try.prog 21 #[.agg #[.string b.name, .int .i64 b.seats, .int .i64 b.over, .slice b.A n b.c]] W fun e w' => e = .returned (.int .i64 (b.seats + b.over)) ∧ Below W.heap.size W w') := Lib.hid (fun W h => by rw [HN.out]; exact KA.out W)
      have HLm : Hid ((tab (limA b) k).length ≤ 100000000) := Lib.hid (by rw [tab_len]; omega)
      have HNX : Hid (k + 1 + (n - (k + 1)) = n) := Lib.hid (by omega)
      clear hkx
      cases k with
      | zero =>
        have HX : Hid (tab (limA b) (0 + 1) = tab (limA b) 0 ++ [b.seats + b.over]) := Lib.hid (by rw [tab_snoc]; rfl)
        go_upto_if 16 with (go_at_call 21; refine (KQ.out _ HH.out.2).mono ?_; rintro e w6 ⟨rfl, hb6⟩)
        have hO := HH.out.1.more hb6
        have HS6 : Hid (SW w5 w6) := Lib.hid (Below.trans HH.out.2 (Below.mono hb6 HH.out.2.size))
        clear z0 z1 z2 z3 hb6
        go_wp2_with (at_builtin; refine wpList_rapp rowI rfl _ _ rfl hO rfl (bel_alloc _ _) _ (b.seats + b.over) _ rfl (cs := #[.int .i64 (b.seats + b.over)]) rfl (heap_alloc_new _ _) HLm.out ?_; intro v1 w1 hO1 hC1)
        have HY : Hid (ROwn 3 1 encI w5.heap.size w1 v1 (tab (limA b) (0 + 1)) ∧ SW w5 w1) := Lib.hid (by rw [HX.out]; exact ⟨hO1, Below.trans HS6.out (hC1.below (B := w5.heap.size) hO)⟩)
        clear hO hO1 hC1
        go_roundg (n - (0 + 1))
        case measure => have := HKX.out; omega
        case rel => exact ⟨_, 0 + 1, rfl, by go_num, HNX.out, HY⟩
      | succ q =>
        obtain ⟨x, hx⟩ : ∃ x, b.l[q]? = some x := ⟨_, List.getElem?_eq_getElem (by have := HN.out; omega)⟩
        have HXX := Lib.hid hx
        obtain ⟨p1, p2⟩ := HP.out.pro x (List.mem_of_getElem? hx)
        have HX : Hid (tab (limA b) (q + 1 + 1) = tab (limA b) (q + 1) ++ [b.seats + b.over - x.prot]) := Lib.hid (by rw [tab_snoc]; simp only [limA, hx])
        have k1 : 0 < (q : Int) + 1 := by omega
        have k2 : (0 : Int) < ((q + 1 : Nat) : Int) := by omega
        have i3 : (q : Int) < (n : Int) := by omega
        have w1 : IntKind.i64.wrap (q : Int) = (q : Int) := IntWalk.i64_in _ (by omega)
        have hw : IntKind.i64.wrap (b.seats + b.over - x.prot) = b.seats + b.over - x.prot := by rw [IntKind.wrap_i64]; omega
        clear hx
        go_upto_if 16 with (go_at_call 21; refine (KQ.out _ HH.out.2).mono ?_; rintro e w6 ⟨rfl, hb6⟩)
        have hO := HH.out.1.more hb6
        have HS6 : Hid (SW w5 w6) := Lib.hid (Below.trans HH.out.2 (Below.mono hb6 HH.out.2.size))
        obtain ⟨bb, off, e1, hgl, hc⟩ := row_get ((CbAt.more HB.out (HB5.out.trans (Below.mono HS6.out HB5.out.size)))) HXX.out
        have d1 := hc 1 _ rfl
        have z3 := bel_cell hb6 z3
        rw [e1] at z3
        clear z0 z1 z2 hb6 hc hgl e1
        go_wp2_with (at_builtin; refine wpList_rapp rowI rfl _ _ rfl hO rfl (bel_alloc _ _) _ (b.seats + b.over - x.prot) _ rfl (cs := #[.int .i64 (b.seats + b.over - x.prot)]) rfl (heap_alloc_new _ _) HLm.out ?_; intro v1 w1 hO1 hC1)
        have HY : Hid (ROwn 3 1 encI w5.heap.size w1 v1 (tab (limA b) (q + 1 + 1)) ∧ SW w5 w1) := Lib.hid (by rw [HX.out]; exact ⟨hO1, Below.trans HS6.out (hC1.below (B := w5.heap.size) hO)⟩)
        clear hO hO1 hC1
        go_roundg (n - (q + 1 + 1))
        case measure => have := HKX.out; omega
        case rel => exact ⟨_, q + 1 + 1, rfl, by go_num, HNX.out, HY⟩
    · have HE : Hid (k = n) := Lib.hid (by omega)
      have HR : Hid (IntR wr v (tab (limA b) n) ∧ Below w.heap.size w wr) := Lib.hid (by
        have h := HH.out
        rw [HE.out] at h
        exact ⟨h.1.rowL rowI.len, HB5.out.trans (Below.mono h.2 HB5.out.size)⟩)
      have i2 : ¬ (k : Int) < (n : Int) := by omega
      clear HH
      go_wp2
      go_ret
      exact ⟨_, rfl, HR.out⟩
end Go.Proofs.Ytnakdacnfbgpnaa

namespace Go.Proofs.Ytnakdacnfbgpnaa
open Go.RowKit Go.Shelf Go.Maps
set_option linter.unusedSimpArgs false
set_option linter.unusedVariables false

theorem rclass_any (s : ByteArray) (w : World) (hs : s.size ≤ maxLen) : Calls Try.prog 49 #[.string s] w fun e w' => e = .returned (.bool (capsB s 1)) ∧ w = w' := by
  go_enter Try.func49, Try.ntmps49
  go_wp2_with (go_at_call 51; refine (letters_any _ _ _ hs).mono ?_; rintro e w' ⟨rfl, rfl⟩)
  go_ret
  exact ⟨rfl, rfl⟩
theorem cell_no_map {w : World} {a : Addr} {x : Value} {b n : Nat} {g : ByteArray → Option Value} (hc : w.cell? a = some x) (hm : MapS w b n g) : a.block ≠ b := by
  obtain ⟨es, clock, hb, _⟩ := hm
  rintro rfl
  simp [World.cell?, hb] at hc
theorem RowL.but {α : Type} {enc : α → List Value} {sz : Nat} {w w' : World} {v : Value} {l : List α} {b n : Nat} {g : ByteArray → Option Value} (h : RowL sz enc w v l) (hm : MapS w b n g) (hb : But w w' (fun k => k = b)) : RowL sz enc w' v l := by
  obtain ⟨A, c, rfl, h⟩ := h
  refine ⟨A, c, rfl, ?_⟩
  rcases h with h | ⟨b0, o, rfl, hlt, hc⟩
  · exact .inl h
  · refine .inr ⟨b0, o, rfl, Nat.lt_of_lt_of_le hlt hb.size, fun i x j u hi hu => ?_⟩
    have h0 := hc i x j u hi hu
    exact (World.cell?_of_block (hb.block b0 hlt (cell_no_map h0 hm))).trans h0
theorem CbL.but {w w' : World} {v : Value} {l : List Cb} {b n : Nat} {g : ByteArray → Option Value} (h : CbL w v l) (hm : MapS w b n g) (hb : But w w' (fun k => k = b)) : CbL w' v l :=
  ⟨h.1.but hm hb, fun x hx => RowL.but (h.2 x hx) hm hb⟩
theorem But.grown {w w' w'' : World} {X : Nat → Prop} {row : Option Nat} (h : But w w' X) (hg : w'.grownBy w'' row) (hX : ∀ k, row = some k → k < w.heap.size → X k) : But w w'' X :=
  ⟨hg.os.trans h.os, hg.tape.trans h.tape, hg.output.trans h.output, Nat.le_trans h.size hg.size, fun k hk hn => (hg.block k (Nat.lt_of_lt_of_le hk h.size) (fun e => hn (hX k e.symm hk))).trans (h.block k hk hn)⟩
theorem But.low {w w' w'' : World} {X Y : Nat → Prop} (h : But w w' X) (h' : But w' w'' Y) (hY : ∀ k, k < w.heap.size → Y k → X k) : But w w'' X :=
  ⟨h'.os.trans h.os, h'.tape.trans h.tape, h'.output.trans h.output, Nat.le_trans h.size h'.size, fun k hk hn => (h'.block k (Nat.lt_of_lt_of_le hk h.size) (fun hy => hn (hY k hk hy))).trans (h.block k hk hn)⟩

end Go.Proofs.Ytnakdacnfbgpnaa

namespace Go.Proofs.Ytnakdacnfbgpnaa
open Go.RowKit Go.Shelf
set_option linter.unusedSimpArgs false
set_option linter.unusedVariables false

theorem anyS_snoc2 (L : List ByteArray) (l : List Cl) (k : Nat) (y : Cl) (s : ByteArray) (h : l[k]? = some y) : anyS (L ++ codesC (l.take (k + 1))) s = (anyS (L ++ codesC (l.take k)) s || (y.code.toList == s.toList)) := by
  rw [codesC_snoc l k y h, ← List.append_assoc, anyS_snoc]
theorem anyS_of {L M : List ByteArray} {s : ByteArray} (h : anyS L s = true) (hs : ∀ x ∈ L, x ∈ M) : anyS M s = true := by
  unfold anyS at h ⊢
  rw [List.any_eq_true] at h ⊢
  obtain ⟨x, hx, he⟩ := h
  exact ⟨x, hs x hx, he⟩
/-- a code that stands before the class k of the cabin i is among those before it -/
theorem occ_hit (l : List Cb) (i k i' k' : Nat) (b b' : Cb) (y : Cl) (s : ByteArray) (hb : l[i]? = some b) (hb' : l[i']? = some b') (hy : b'.l[k']? = some y) (hle : i' ≤ i) (hlt : i' = i → k' < k) (he : (y.code.toList == s.toList) = true) :
    anyS (codesB (l.take i) ++ codesC (b.l.take k)) s = true := by
  have h0 : anyS [y.code] s = true := by
    have h := anyS_snoc [] y.code s
    rw [he] at h
    simpa using h
  refine anyS_of h0 (fun x hx => ?_)
  rw [List.mem_singleton] at hx
  subst hx
  by_cases h : i' = i
  · subst h
    rw [hb] at hb'
    cases hb'
    refine List.mem_append_right _ (List.mem_map.2 ⟨y, ?_, rfl⟩)
    exact List.mem_of_getElem? (i := k') (by rw [List.getElem?_take, if_pos (hlt rfl)]; exact hy)
  · refine List.mem_append_left _ (List.mem_flatMap.2 ⟨b', List.mem_of_getElem? (i := i') (by rw [List.getElem?_take, if_pos (by omega)]; exact hb'), List.mem_map.2 ⟨y, List.mem_of_getElem? hy, rfl⟩⟩)

set_option maxRecDepth 100000 in
set_option maxHeartbeats 8000000 in
theorem roccurs_any (eq : ByteArray) (A : Option Addr) (c : Nat) (l : List Cb) (i k : Nat) (b : Cb) (x : Cl) (w : World) (hv : CbL w (.slice A l.length c) l) (hb : l[i]? = some b) (hx : b.l[k]? = some x) (hn : l.length ≤ 8) (hok : ∀ b ∈ l, b.l.length ≤ 30) :
    Calls Try.prog 50 #[.agg #[.string eq, .slice A l.length c], .int .i64 (i : Int), .int .i64 (k : Int)] w fun e w' => e = .returned (.bool (anyS (codesB (l.take i) ++ codesC (b.l.take k)) x.code)) ∧ Below w.heap.size w w' := by
  have hil : i < l.length := (List.getElem?_eq_some_iff.1 hb).1
  have hkl : k < b.l.length := (List.getElem?_eq_some_iff.1 hx).1
  have hbl := hok b (List.mem_of_getElem? hb)
  obtain ⟨b1, o1, e1, hb1, hc1⟩ := row_get hv.1 hb
  cases e1
  obtain ⟨b2, o2, e2, hb2, hc2⟩ := row_get (hv.2 b (List.mem_of_getElem? hb)) hx
  have x3 := hc1 3 _ rfl
  rw [e2] at x3
  have x0 := hc2 0 _ rfl
  rw [Nat.add_zero] at x0
  have HV := Lib.hid hv
  have HOK := Lib.hid hok
  have q1 := (cells_new w #[.string eq, .slice (some ⟨b1, o1, none⟩) l.length c] cfT 1).trans (show _ = some (Value.slice (some ⟨b1, o1, none⟩) l.length c) from rfl)
  have hb5 := bel_alloc w (.cells #[.string eq, .slice (some ⟨b1, o1, none⟩) l.length c] cfT)
  obtain ⟨Z, hZ⟩ : ∃ Z, Z = w.heap.size := ⟨_, rfl⟩
  rw [← hZ] at q1
  have x3 := bel_cell hb5 x3
  have x0 := bel_cell hb5 x0
  clear hb1 hc1 e2 hb2 hc2 hv hok
  have HB := Lib.hid hb
  have HX := Lib.hid hx
  clear hb hx
  go_enter Try.func50, Try.ntmps50
  go_upto_region 1 with fail
  rw [← hZ]
  have HZ := Lib.hid hZ
  clear hZ
  have HB5 := Lib.hid hb5
  generalize w.alloc (.cells #[.string eq, .slice (some ⟨b1, o1, none⟩) l.length c] cfT) = w5 at *
  clear hb5
  have HV5 : Hid (CbL w5 (.slice (some ⟨b1, o1, none⟩) l.length c) l) := Lib.hid (HV.out.more HB5.out)
  have Q1 := Lib.hid (fun W (h : SW w5 W) => bel_get q1 _ h)
  have X3 := Lib.hid (fun W (h : SW w5 W) => bel_get x3 _ h)
  have X0 := Lib.hid (fun W (h : SW w5 W) => bel_get x0 _ h)
  clear q1 x3 x0
  go_wp2
  go_loopg [7] i (fun kx v7 wr => ∃ i' : Nat, v7 = .int .i64 i' ∧ i' + kx = i ∧ Hid (anyS (codesB (l.take i')) x.code = false) ∧ SW w5 wr)
  case atStart => exact ⟨0, rfl, by omega, Lib.hid rfl, Below.refl _ _⟩
  case round =>
    obtain ⟨i', rfl, hix, HNo, hS⟩ := hrel
    have HIX := Lib.hid hix
    have j1 : (i' : Int) ≤ (i : Int) := by omega
    have j2 : (i' : Int) < (l.length : Int) := by omega
    have hi8 : i' < 8 := by omega
    obtain ⟨b', hb'⟩ : ∃ b', l[i']? = some b' := ⟨_, List.getElem?_eq_getElem (by omega)⟩
    have hlen' := HOK.out b' (List.mem_of_getElem? hb')
    have HB' := Lib.hid hb'
    have HSR := Lib.hid hS
    obtain ⟨nb, hnb⟩ : ∃ nb, nb = b'.l.length := ⟨_, rfl⟩
    have HNB := Lib.hid hnb
    rw [← hnb] at hlen'
    have HI0 : Hid (anyS (codesB (l.take i') ++ codesC (b'.l.take 0)) x.code = false) := Lib.hid (by have := HNo.out; simpa [codesC] using this)
    clear hb' hnb hix hS
    go_wp2
    go_loopg [8] nb (fun kx v8 wq => ∃ k' : Nat, v8 = .int .i64 k' ∧ k' + kx = nb ∧ Hid ((i' = i → k' ≤ k) ∧ anyS (codesB (l.take i') ++ codesC (b'.l.take k')) x.code = false) ∧ SW wr wq)
    case atStart => exact ⟨0, rfl, by omega, Lib.hid ⟨fun _ => Nat.zero_le _, HI0.out⟩, Below.refl _ _⟩
    case round =>
      obtain ⟨k', rfl, hkx, HK, hSq⟩ := hrel
      have HKX := Lib.hid hkx
      have hS5 : SW w5 wr := Below.trans HSR.out (Below.mono hSq HSR.out.size)
      have HS5 := Lib.hid hS5
      have hk30 : k' ≤ 30 := by omega
      have p1 := Q1.out _ hS5
      obtain ⟨b3, o3, e3, hb3, hc3⟩ := row_get (HV5.out.more hS5).1 HB'.out
      cases e3
      have p3 := hc3 3 _ rfl
      by_cases hlt : k' < nb
      · obtain ⟨y, hy⟩ : ∃ y, b'.l[k']? = some y := ⟨_, List.getElem?_eq_getElem (by have := HNB.out; omega)⟩
        obtain ⟨b4, o4, e4, hb4, hc4⟩ := row_get ((HV5.out.more hS5).2 b' (List.mem_of_getElem? HB'.out)) hy
        rw [e4] at p3
        rw [← HNB.out] at p3
        have p0 := hc4 0 _ rfl
        rw [Nat.add_zero] at p0
        have i1 : (k' : Int) < (nb : Int) := by omega
        have i2 : (i : Int) < (l.length : Int) := by omega
        have i3 : (k : Int) < (b.l.length : Int) := by omega
        have x3 := X3.out _ hS5
        have x0 := X0.out _ hS5
        have HY := Lib.hid hy
        have HSq := Lib.hid hSq
        clear hc3 e4 hb4 hc4 hb3 hy hSq hkx
        by_cases hii : i' = i
        · by_cases hkk : k' = k
          · have HR : Hid (false = anyS (codesB (l.take i) ++ codesC (b.l.take k)) x.code) := Lib.hid (by
              have h := HK.out.2
              have hb2 : b' = b := by have h1 := HB'.out; rw [hii, HB.out] at h1; exact (Option.some.inj h1).symm
              rw [hii, hkk, hb2] at h
              exact h.symm)
            have g1 : ((i' : Int) == (i : Int)) = true := by simp [hii]
            have g2 : ((k' : Int) == (k : Int)) = true := by simp [hkk]
            clear hii hkk
            go_wp2
            go_ret
            exact ⟨ret_bool HR.out, HB5.out.trans (Below.mono HS5.out HB5.out.size)⟩
          · have g1 : ((i' : Int) == (i : Int)) = true := by simp [hii]
            have g2 : ((k' : Int) == (k : Int)) = false := by rw [beq_eq_false_iff_ne]; omega
            have HLT : Hid (i' = i → k' + 1 ≤ k) := Lib.hid (fun h => by have := HK.out.1 h; omega)
            clear hii hkk
            cases he : (y.code.toList == x.code.toList) with
            | true =>
              have HR : Hid (true = anyS (codesB (l.take i) ++ codesC (b.l.take k)) x.code) := Lib.hid (occ_hit l i k i' k' b b' y x.code HB.out HB'.out HY.out (by omega) (fun h => by have := HLT.out h; omega) he).symm
              go_wp2
              go_quiet (fail)
              go_wp2
              go_ret
              exact ⟨ret_bool HR.out, below_drewN (HB5.out.trans (Below.mono HS5.out HB5.out.size)) _⟩
            | false =>
              have HK2 : Hid ((i' = i → k' + 1 ≤ k) ∧ anyS (codesB (l.take i') ++ codesC (b'.l.take (k' + 1))) x.code = false) := Lib.hid ⟨HLT.out, by rw [anyS_snoc2 _ _ _ _ _ HY.out, HK.out.2, he]; rfl⟩
              go_wp2
              go_quiet (fail)
              go_wp2
              go_roundg (nb - (k' + 1))
              case measure => have := HKX.out; omega
              case rel => exact ⟨k' + 1, by go_num, by omega, HK2, below_drewN HSq.out _⟩
        · have g1 : ((i' : Int) == (i : Int)) = false := by rw [beq_eq_false_iff_ne]; omega
          have HLT : Hid (i' = i → k' + 1 ≤ k) := Lib.hid (fun h => absurd h hii)
          clear hii
          cases he : (y.code.toList == x.code.toList) with
          | true =>
            have HR : Hid (true = anyS (codesB (l.take i) ++ codesC (b.l.take k)) x.code) := Lib.hid (occ_hit l i k i' k' b b' y x.code HB.out HB'.out HY.out (by omega) (fun h => by have := HLT.out h; omega) he).symm
            go_wp2
            go_quiet (fail)
            go_wp2
            go_ret
            exact ⟨ret_bool HR.out, below_drewN (HB5.out.trans (Below.mono HS5.out HB5.out.size)) _⟩
          | false =>
            have HK2 : Hid ((i' = i → k' + 1 ≤ k) ∧ anyS (codesB (l.take i') ++ codesC (b'.l.take (k' + 1))) x.code = false) := Lib.hid ⟨HLT.out, by rw [anyS_snoc2 _ _ _ _ _ HY.out, HK.out.2, he]; rfl⟩
            go_wp2
            go_quiet (fail)
            go_wp2
            go_roundg (nb - (k' + 1))
            case measure => have := HKX.out; omega
            case rel => exact ⟨k' + 1, by go_num, by omega, HK2, below_drewN HSq.out _⟩
      · have i1 : ¬ (k' : Int) < (nb : Int) := by omega
        have hkn : k' = nb := by omega
        have hne : i' ≠ i := fun h => by
          have h1 := HK.out.1 h
          have hb2 : b' = b := by have h1 := HB'.out; rw [h, HB.out] at h1; exact (Option.some.inj h1).symm
          have := HNB.out
          rw [hb2] at this
          omega
        rw [← HNB.out] at p3
        have HNo2 : Hid (anyS (codesB (l.take (i' + 1))) x.code = false) := Lib.hid (by
          rw [codesB_snoc l i' b' HB'.out]
          have h := HK.out.2
          have e : b'.l.take k' = b'.l := List.take_of_length_le (by have := HNB.out; omega)
          rw [e] at h
          exact h)
        have hg : i' + 1 ≤ i := by omega
        clear hne hkn
        go_wp2
        go_roundg (i - (i' + 1))
        case measure => have := HIX.out; omega
        case rel => exact ⟨i' + 1, by go_num, by omega, HNo2, hS5⟩
end Go.Proofs.Ytnakdacnfbgpnaa

namespace Go.Proofs.Ytnakdacnfbgpnaa
open Go.RowKit Go.Shelf
set_option linter.unusedSimpArgs false
set_option linter.unusedVariables false

/-- what a round of the reference's checks knows: the violations so far, the element's copy in block N -/
structure VarS {α : Type} (enc : α → List Value) (w5 : World) (N : Nat) (x : α) (W : World) (u : Value) (L : List Flt) : Prop where
  own : FOwn w5.heap.size W u L
  sw : SW w5 W
  el : ∀ j y, (enc x)[j]? = some y → W.cell? ⟨N, j, none⟩ = some y
  ne : u.ownBlock ≠ some N
  inB : N < W.heap.size
theorem VarS.more {α : Type} {enc : α → List Value} {w5 W W' : World} {N : Nat} {x : α} {u : Value} {L : List Flt} (h : VarS enc w5 N x W u L) (hb : Below W.heap.size W W') : VarS enc w5 N x W' u L :=
  ⟨h.own.more hb, Below.trans h.sw (hb.mono h.sw.size), fun j y hy => bel_cell hb (h.el j y hy), h.ne, Nat.lt_of_lt_of_le h.inB hb.size⟩
theorem VarS.app {α : Type} {enc : α → List Value} {w5 W W' : World} {N : Nat} {x : α} {u u' : Value} {L L' : List Flt} (h : VarS enc w5 N x W u L) (hO : FOwn w5.heap.size W' u' L') (hC : Chg W W' u u') : VarS enc w5 N x W' u' L' :=
  ⟨hO, Below.trans h.sw (hC.below h.own), fun j y hy => hC.cell (h.el j y hy) h.ne, fun e => by
    rcases hC.own N e with h1 | h1
    · exact h.ne h1
    · have := h.inB; omega, Nat.lt_of_lt_of_le h.inB hC.but.size⟩
theorem But.setCell (w : World) (r j : Nat) (v : Value) : But w (w.setCell ⟨r, j, none⟩ v) (fun k => k = r) := by
  refine ⟨?_, ?_, ?_, ?_, fun k _ hk => heap_setCell_other w _ k v hk⟩ <;> simp [World.setCell] <;> (try split) <;> simp
theorem lt_of_cell2 {w : World} {n : Nat} {o : Obj} (h : w.heap[n]? = some o) : n < w.heap.size := (Array.getElem?_eq_some_iff.1 h).1
theorem S2.heap {w : World} {N : Nat} {t : TypeId} {a0 a1 : Value} (h : w.heap[N]? = some (.cells #[a0, a1] t (0, 0))) (v0 v1 : Value) : ((w.setCell ⟨N, 0, none⟩ v0).setCell ⟨N, 1, none⟩ v1).heap[N]? = some (.cells #[v0, v1] t (0, 0)) := by
  have e1 : (w.setCell ⟨N, 0, none⟩ v0).heap[N]? = some (.cells #[v0, a1] t (0, 0)) := heap_setCell_same w N 0 _ t v0 h
  exact heap_setCell_same _ N 1 _ t v1 e1
theorem S2.but (w : World) (N : Nat) (v0 v1 : Value) : But w ((w.setCell ⟨N, 0, none⟩ v0).setCell ⟨N, 1, none⟩ v1) (fun k => k = N) :=
  (But.setCell w N 0 v0).trans (But.setCell _ N 1 v1) (fun _ _ h => h)
theorem row_cell {α : Type} {enc : α → List Value} {W : World} {N : Nat} {x : α} {cs : Array Value} {t : TypeId} (h : W.heap[N]? = some (.cells cs t (0, 0))) (hc : cs = (enc x).toArray) : ∀ j y, (enc x)[j]? = some y → W.cell? ⟨N, j, none⟩ = some y := fun j y hy => (cell_of_row W N j _ _ (0, 0) h).trans (by rw [hc]; simpa using hy)
set_option maxRecDepth 100000 in
set_option maxHeartbeats 16000000 in
theorem rclasses_any (eq : ByteArray) (A : Option Addr) (c : Nat) (l : List Cb) (i : Nat) (b : Cb) (p : ByteArray) (w : World) (hv : CbL w (.slice A l.length c) l) (hb : l[i]? = some b) (hn : l.length ≤ 8) (hok : ∀ b ∈ l, OkCb b) (hp : 0 < p.size) (hp2 : p.size ≤ 200) :
    Calls Try.prog 44 #[.agg #[.string eq, .slice A l.length c], .int .i64 (i : Int), .string p] w fun e w' => ∃ v', e = .returned v' ∧ FOwn w.heap.size w' v' (clsF p (codesB (l.take i)) b b.l.length) ∧ Below w.heap.size w w' := by
  have hil : i < l.length := (List.getElem?_eq_some_iff.1 hb).1
  obtain ⟨b1, o1, e1, hb1, hc1⟩ := row_get hv.1 hb
  cases e1
  have x0 := hc1 0 _ rfl
  have x1 := hc1 1 _ rfl
  have x2 := hc1 2 _ rfl
  have x3 := hc1 3 _ rfl
  rw [Nat.add_zero] at x0
  have HOK := Lib.hid hok
  have hokb := hok b (List.mem_of_getElem? hb)
  have hlen := hokb.len
  have hbA := bel_alloc w (.cells #[.string eq, .slice (some ⟨b1, o1, none⟩) l.length c] cfT)
  have hbB := bel_alloc (w.alloc (.cells #[.string eq, .slice (some ⟨b1, o1, none⟩) l.length c] cfT)) (.cells #[.string b.name, .int .i64 b.seats, .int .i64 b.over, .slice b.A b.l.length b.c] cbT)
  have q0 := bel_cell hbB ((cells_new w #[.string eq, .slice (some ⟨b1, o1, none⟩) l.length c] cfT 0).trans (show _ = some (Value.string eq) from rfl))
  have q1 := bel_cell hbB ((cells_new w #[.string eq, .slice (some ⟨b1, o1, none⟩) l.length c] cfT 1).trans (show _ = some (Value.slice (some ⟨b1, o1, none⟩) l.length c) from rfl))
  have r0 := (cells_new (w.alloc (.cells #[.string eq, .slice (some ⟨b1, o1, none⟩) l.length c] cfT)) #[.string b.name, .int .i64 b.seats, .int .i64 b.over, .slice b.A b.l.length b.c] cbT 0).trans (show _ = some (Value.string b.name) from rfl)
  have r1 := (cells_new (w.alloc (.cells #[.string eq, .slice (some ⟨b1, o1, none⟩) l.length c] cfT)) #[.string b.name, .int .i64 b.seats, .int .i64 b.over, .slice b.A b.l.length b.c] cbT 1).trans (show _ = some (Value.int .i64 b.seats) from rfl)
  have r2 := (cells_new (w.alloc (.cells #[.string eq, .slice (some ⟨b1, o1, none⟩) l.length c] cfT)) #[.string b.name, .int .i64 b.seats, .int .i64 b.over, .slice b.A b.l.length b.c] cbT 2).trans (show _ = some (Value.int .i64 b.over) from rfl)
  have r3 := (cells_new (w.alloc (.cells #[.string eq, .slice (some ⟨b1, o1, none⟩) l.length c] cfT)) #[.string b.name, .int .i64 b.seats, .int .i64 b.over, .slice b.A b.l.length b.c] cbT 3).trans (show _ = some (Value.slice b.A b.l.length b.c) from rfl)
  rw [World.size_alloc] at r0 r1 r2 r3
  have hbAB := hbA.trans (hbB.mono hbA.size)
  obtain ⟨Z, hZ⟩ : ∃ Z, Z = w.heap.size := ⟨_, rfl⟩
  rw [← hZ] at q0 q1 r0 r1 r2 r3
  have HV := Lib.hid hv
  have HB := Lib.hid hb
  have hi2 : (i : Int) < (l.length : Int) := by omega
  have x0 := bel_cell hbA x0
  have x1 := bel_cell hbA x1
  have x2 := bel_cell hbA x2
  have x3 := bel_cell hbA x3
  clear hv hok hb hc1 hb1 hbB
  obtain ⟨S, hSS⟩ : ∃ S, S = codesB (l.take i) := ⟨_, rfl⟩
  rw [← hSS]
  have HSS := Lib.hid hSS
  clear hSS
  obtain ⟨nb, hnb⟩ : ∃ nb, nb = b.l.length := ⟨_, rfl⟩
  have HNB := Lib.hid hnb
  rw [← hnb] at hlen ⊢
  clear hnb
  go_enter Try.func44, Try.ntmps44
  go_upto_region 3 with fail
  rw [← hZ]
  clear x0 x1 x2 x3 hbA
  have HZ := Lib.hid hZ
  have HB5 := Lib.hid hbAB
  generalize (w.alloc (.cells #[.string eq, .slice (some ⟨b1, o1, none⟩) l.length c] cfT)).alloc (.cells #[.string b.name, .int .i64 b.seats, .int .i64 b.over, .slice b.A b.l.length b.c] cbT) = w5 at *
  clear hZ hbAB
  have HV5 : Hid (∀ W, SW w5 W → CbL W (.slice (some ⟨b1, o1, none⟩) l.length c) l) := Lib.hid (fun W h => HV.out.more (HB5.out.trans (Below.mono h HB5.out.size)))
  have Q0 := Lib.hid (fun W (h : SW w5 W) => bel_get q0 _ h)
  have Q1 := Lib.hid (fun W (h : SW w5 W) => bel_get q1 _ h)
  have R0 := Lib.hid (fun W (h : SW w5 W) => bel_get r0 _ h)
  have R1 := Lib.hid (fun W (h : SW w5 W) => bel_get r1 _ h)
  have R2 := Lib.hid (fun W (h : SW w5 W) => bel_get r2 _ h)
  have R3 := Lib.hid (fun W (h : SW w5 W) => bel_get r3 _ h)
  clear q0 q1 r0 r1 r2 r3
  have HI : Hid (FOwn w5.heap.size w5 (.slice none 0 0) (clsF p S b 0) ∧ SW w5 w5) := Lib.hid ⟨ROwn.nil (Nat.le_refl _), Below.refl _ _⟩
  go_wp2
  go_loopg [7, 9] nb (fun kx v7 v9 wr => ∃ (v : Value) (k : Nat), v = v7 ∧ v9 = .int .i64 k ∧ k + kx = nb ∧ Hid (FOwn w5.heap.size wr v (clsF p S b k) ∧ SW w5 wr))
  case atStart => exact ⟨_, 0, rfl, rfl, by omega, HI⟩
  case round =>
    obtain ⟨v, k, rfl, rfl, hkx, HH⟩ := hrel
    clear HI
    have HKX := Lib.hid hkx
    have c3 := R3.out _ HH.out.2
    rw [← HNB.out] at c3
    by_cases hlt : k < nb
    · obtain ⟨x, hx⟩ : ∃ x, b.l[k]? = some x := ⟨_, List.getElem?_eq_getElem (by have := HNB.out; omega)⟩
      have HX := Lib.hid hx
      obtain ⟨b2, o2, e2, hb2, hc2⟩ := row_get ((HV5.out _ HH.out.2).2 b (List.mem_of_getElem? HB.out)) hx
      rw [e2] at c3
      have d0 := hc2 0 _ rfl
      have d1 := hc2 1 _ rfl
      rw [Nat.add_zero] at d0
      have i1 : (k : Int) < (nb : Int) := by omega
      have hox := hokb.cls x (List.mem_of_getElem? hx)
      have HOX := Lib.hid hox
      have hS5 : SW w5 wr := HH.out.2
      have hvN : ∀ N, wr.heap.size ≤ N → v.ownBlock ≠ some N := fun N hN h => by have := (HH.out.1.low h).2; omega
      have KP := Lib.hid (fun W => rplace_any p clsR k W (by omega) (by decide) hp (by omega))
      rw [cls_path] at KP
      have HT : Hid (clsF p S b (k + 1) = clsF p S b k ++ pick (p ++ clsW ++ decA k) [whC (!capsB x.code 1) 16] ++ pick (p ++ clsW ++ decA k) [whC (anyS (S ++ codesC (b.l.take k)) x.code) 6] ++ pick (p ++ clsW ++ decA k) [whC (badP b k x) 2]) := Lib.hid (by
        rw [clsF_succ p S b k x hx, show clsE S b k x = [whC (!capsB x.code 1) 16, whC (anyS (S ++ codesC (b.l.take k)) x.code) 6, whC (badP b k x) 2] from rfl]
        simp only [List.append_assoc, ← pick_app, List.cons_append, List.nil_append])
      have KO : Hid (∀ W, SW w5 W → Calls Try.prog 50 #[.agg #[.string eq, .slice (some ⟨b1, o1, none⟩) l.length c], .int .i64 (i : Int), .int .i64 (k : Int)] W fun e w' => e = .returned (.bool (anyS (S ++ codesC (b.l.take k)) x.code)) ∧ Below W.heap.size W w') := Lib.hid (fun W h => by rw [HSS.out]; exact roccurs_any eq _ c l i k b x W (HV5.out W h) HB.out HX.out hn (fun b hb => (HOK.out b hb).len))
      have KC := Lib.hid (fun W => rclass_any x.code W hox.code)
      have HFL : Hid ((clsF p S b k).length ≤ 1000) := Lib.hid (by have := clsF_le p S b k; omega)
      generalize hBL : clsF p S b k = BL at *
      generalize hnm : p ++ clsW ++ decA k = nm at *
      generalize capsB x.code 1 = cb at *
      generalize anyS (S ++ codesC (b.l.take k)) x.code = tw at *
      generalize hbm : badP b k x = bm at *
      have HBP := Lib.hid hbm
      have HR2 : Hid (∀ W, SW w5 W → 0 < k → ∃ y, b.l[k - 1]? = some y ∧ W.cell? ⟨b2, o2 + (k - 1) * 2 + 1, none⟩ = some (.int .i64 y.prot)) := Lib.hid (fun W h hk0 => by
        obtain ⟨y, hy⟩ : ∃ y, b.l[k - 1]? = some y := ⟨_, List.getElem?_eq_getElem (by have := HNB.out; omega)⟩
        obtain ⟨b3, o3, e3, hb3, hc3⟩ := row_get ((HV5.out _ h).2 b (List.mem_of_getElem? HB.out)) hy
        rw [e2] at e3
        cases e3
        exact ⟨y, hy, hc3 1 _ rfl⟩)
      have HE2 := Lib.hid e2
      clear hb2 hc2 e2 hbm hox hx hBL hnm hkx
      have C3 := fun W (h : SW wr W) => bel_get c3 _ h
      have D0 := fun W (h : SW wr W) => bel_get d0 _ h
      have D1 := fun W (h : SW wr W) => bel_get d1 _ h
      go_upto_region 6 with fail
      go_cut [10, 11] from 17 to 84 (fun v10 v11 wx => v10 = .string nm ∧ ∃ N : Nat, v11 = .pointer (some ⟨N, 0, none⟩) ∧ Hid (VarS encCl w5 N x wx v BL))
      case first =>
        clear KO KC HR2 HT
        have hS : (SW wr) _ := SW.drew _
        refine wp_region_held_drew (S := SW wr) (by kernel_rfl) hS (fun _ => ?_)
        refine wpAnyH_take (i := 0) (v := ?vR60) rfl (by kernel_rfl) (by kernel_rfl) (by kernel_rfl) (fun _ _ _ h => h) (Or.inl ⟨by rfl, ?hyR60⟩) hS ?restR60
        case hyR60 =>
          intro w hSw
          first | (go_simp; done) | (go_simp; with_reducible rfl)
        try simp only [Act.put, List.setIfInBounds_toArray, List.set_cons_zero, List.set_cons_succ]
        refine wpAnyH_take (i := 1) (v := ?vR61) rfl (by kernel_rfl) (by kernel_rfl) (by kernel_rfl) (fun _ _ _ h => h) (Or.inl ⟨by rfl, ?hyR61⟩) hS ?restR61
        case hyR61 =>
          intro w hSw
          first | (go_simp; done) | (go_simp; with_reducible rfl)
        try simp only [Act.put, List.setIfInBounds_toArray, List.set_cons_zero, List.set_cons_succ]
        refine wpAnyH_take (i := 3) (v := ?vR63) rfl (by kernel_rfl) (by kernel_rfl) (by kernel_rfl) (fun _ _ _ h => h) (Or.inl ⟨by rfl, ?hyR63⟩) hS ?restR63
        case hyR63 =>
          intro w hSw
          first | (go_simp; done) | (go_simp; with_reducible rfl)
        try simp only [Act.put, List.setIfInBounds_toArray, List.set_cons_zero, List.set_cons_succ]
        refine wpAnyH_take (i := 4) (v := ?vR64) rfl (by kernel_rfl) (by kernel_rfl) (by kernel_rfl) (fun _ _ _ h => h) (Or.inl ⟨by rfl, ?hyR64⟩) hS ?restR64
        case hyR64 =>
          intro w hSw
          have k0 := C3 w hSw; have k1 := D0 w hSw; have k2 := D1 w hSw
          first | (go_simp; done) | (go_simp; with_reducible rfl)
        try simp only [Act.put, List.setIfInBounds_toArray, List.set_cons_zero, List.set_cons_succ]
        refine wpAnyH_take (i := 5) (v := ?vR65) rfl (by kernel_rfl) (by kernel_rfl) (by kernel_rfl) (fun _ _ _ h => h) (Or.inl ⟨by rfl, ?hyR65⟩) hS ?restR65
        case hyR65 =>
          intro w hSw
          first | (go_simp; done) | (go_simp; with_reducible rfl)
        try simp only [Act.put, List.setIfInBounds_toArray, List.set_cons_zero, List.set_cons_succ]
        refine wpAnyH_take (i := 6) (v := ?vR66) rfl (by kernel_rfl) (by kernel_rfl) (by kernel_rfl) (fun _ _ _ h => h) (Or.inl ⟨by rfl, ?hyR66⟩) hS ?restR66
        case hyR66 =>
          intro w hSw
          have k0 := C3 w hSw; have k1 := D0 w hSw; have k2 := D1 w hSw
          first | (go_simp; done) | (go_simp; with_reducible rfl)
        try simp only [Act.put, List.setIfInBounds_toArray, List.set_cons_zero, List.set_cons_succ]
        refine wpAnyH_take (i := 7) (v := ?vR67) rfl (by kernel_rfl) (by kernel_rfl) (by kernel_rfl) (fun _ _ _ h => h) (Or.inl ⟨by rfl, ?hyR67⟩) hS ?restR67
        case hyR67 =>
          intro w hSw
          have k0 := C3 w hSw; have k1 := D0 w hSw; have k2 := D1 w hSw
          first | (go_simp; done) | (go_simp; with_reducible rfl)
        try simp only [Act.put, List.setIfInBounds_toArray, List.set_cons_zero, List.set_cons_succ]
        refine wpAnyH_ready (rs := [2, 8]) (by kernel_rfl) (by simp) ?_
        refine AllReadyH.cons rfl (fun K hK => ?_) (AllReadyH.cons rfl (fun K hK => ?_) AllReadyH.nil)
        · go_simp
          go_wp2_with ((go_at_call 31; refine (KP.out _).mono ?_; rintro e w9 ⟨rfl, hb9⟩; have hS9 : SW wr w9 := Below.trans hS (Below.mono hb9 hS.size); have hS := hS9))
          refine hK.out _ _ hS (fun _ => ?_)
          clear hK K
          refine wpAnyH_ready (rs := [8]) (by kernel_rfl) (by simp) ?_
          refine AllReadyH.cons rfl (fun K hK => ?_) AllReadyH.nil
          go_simp
          have hSp := hS
          have hS := Below.trans hSp (Below.mono (bel_alloc _ (.cells #[.string noB, .int .i64 0] clT)) hSp.size)
          refine hK.out _ _ hS (fun _ => ?_)
          clear hK K
          refine wpAnyH_take (i := 9) (v := ?vR6a9) rfl (by kernel_rfl) (by kernel_rfl) (by kernel_rfl) (fun _ _ _ h => h) (Or.inl ⟨by rfl, ?hyR6a9⟩) hS ?restR6a9
          case hyR6a9 =>
            intro w hSw
            first | (go_simp; done) | (go_simp; with_reducible rfl)
          try simp only [Act.put, List.setIfInBounds_toArray, List.set_cons_zero, List.set_cons_succ]
          refine wpAnyH_ready (rs := [10]) (by kernel_rfl) (by simp) ?_
          refine AllReadyH.cons rfl (fun K hK => ?_) AllReadyH.nil
          go_simp
          have hNg : wr.heap.size ≤ w9.heap.size := hS9.size
          have hS : SW wr (w9.alloc (.cells #[.string x.code, .int .i64 x.prot] clT)) := Below.trans hS9 (Below.mono (bel_alloc w9 _) hS9.size)
          have hRow := heap_alloc_new w9 (.cells #[.string x.code, .int .i64 x.prot] clT)
          refine hK.out _ _ hS (fun _ => ?_)
          clear hK K
          refine wpAnyH_done (by kernel_rfl) ?_ _
          try simp only [List.getElem_toArray, List.getElem_cons_succ, List.getElem_cons_zero, List.set_cons_zero, List.set_cons_succ]
          try simp only [List.setIfInBounds_toArray, List.set_cons_zero, List.set_cons_succ]
          go_wp2_with fail
          go_meet
          exact ⟨rfl, _, rfl, Lib.hid ⟨HH.out.1.more hS, Below.trans hS5 (Below.mono hS hS5.size), row_cell (enc := encCl) (x := x) hRow rfl, hvN _ hNg, lt_of_cell2 hRow⟩⟩
        · go_simp
          have hSp := hS
          have hN0 := heap_alloc_new wr.drew (.cells #[.string noB, .int .i64 0] clT)
          have hS := Below.trans hSp (Below.mono (bel_alloc _ (.cells #[.string noB, .int .i64 0] clT)) hSp.size)
          refine hK.out _ _ hS (fun _ => ?_)
          clear hK K
          refine wpAnyH_ready (rs := [2]) (by kernel_rfl) (by simp) ?_
          refine AllReadyH.cons rfl (fun K hK => ?_) AllReadyH.nil
          go_simp
          go_wp2_with ((go_at_call 31; refine (KP.out _).mono ?_; rintro e w9 ⟨rfl, hb9⟩; have hS9 : SW wr w9 := Below.trans hS (Below.mono hb9 hS.size); have hS := hS9))
          refine hK.out _ _ hS (fun _ => ?_)
          clear hK K
          refine wpAnyH_take (i := 9) (v := ?vR6b9) rfl (by kernel_rfl) (by kernel_rfl) (by kernel_rfl) (fun _ _ _ h => h) (Or.inl ⟨by rfl, ?hyR6b9⟩) hS ?restR6b9
          case hyR6b9 =>
            intro w hSw
            first | (go_simp; done) | (go_simp; with_reducible rfl)
          try simp only [Act.put, List.setIfInBounds_toArray, List.set_cons_zero, List.set_cons_succ]
          refine wpAnyH_ready (rs := [10]) (by kernel_rfl) (by simp) ?_
          refine AllReadyH.cons rfl (fun K hK => ?_) AllReadyH.nil
          have hN : w9.heap[wr.heap.size]? = some (.cells #[.string noB, .int .i64 0] clT (0, 0)) := (hb9.block _ (lt_of_cell2 hN0)).trans hN0
          have n0 := (cell_of_row _ _ 0 _ _ (0, 0) hN).trans (show _ = some _ from rfl)
          have n1 := (cell_of_row _ _ 1 _ _ (0, 0) hN).trans (show _ = some _ from rfl)
          have z0 := frozen_of_row _ _ 0 _ _ hN
          have z1 := frozen_of_row _ _ 1 _ _ hN
          go_simp
          have hNg : wr.heap.size ≤ wr.heap.size := Nat.le_refl _
          have hS : SW wr ((w9.setCell ⟨wr.heap.size, 0, none⟩ (.string x.code)).setCell ⟨wr.heap.size, 1, none⟩ (.int .i64 x.prot)) := Below.trans hS9 ((S2.but w9 wr.heap.size (.string x.code) (.int .i64 x.prot)).below hS9.size (fun q hq he => by have : q = wr.heap.size := he; omega))
          have hRow := S2.heap hN (.string x.code) (.int .i64 x.prot)
          refine hK.out _ _ hS (fun _ => ?_)
          clear hK K
          refine wpAnyH_done (by kernel_rfl) ?_ _
          try simp only [List.getElem_toArray, List.getElem_cons_succ, List.getElem_cons_zero, List.set_cons_zero, List.set_cons_succ]
          try simp only [List.setIfInBounds_toArray, List.set_cons_zero, List.set_cons_succ]
          go_wp2_with fail
          go_meet
          exact ⟨rfl, _, rfl, Lib.hid ⟨HH.out.1.more hS, Below.trans hS5 (Below.mono hS hS5.size), row_cell (enc := encCl) (x := x) hRow rfl, hvN _ hNg, lt_of_cell2 hRow⟩⟩
      case rest =>
        obtain ⟨rfl, N, rfl, HVS⟩ := hcut
        clear C3 D0 D1 c3 d0 d1 KP hvN
        have n0 := HVS.out.el 0 _ rfl
        obtain ⟨wa, hwa⟩ : ∃ wa, wa = wc := ⟨_, rfl⟩
        subst hwa
        go_upto_if 35 with (go_at_call 49; refine (KC.out _).mono ?_; rintro e w' ⟨rfl, rfl⟩)
        go_cut [7] from 17 to 84 (fun u wx => Hid (VarS encCl w5 N x wx u (BL ++ pick nm [whC (!cb) 16])))
        case first =>
          have HLn : Hid ((BL).length ≤ 100000000) := Lib.hid (by have := HFL.out; have := HFL.out; omega)
          clear HT KO HR2 HBP n0 HNB HV5 HX HH
          cases cb with
          | true =>
            go_wp2
            go_meet
            exact Lib.hid (by rw [pick_wh nm _ 16 (by omega)]; simpa using HVS.out)
          | false =>
            go_wp2_with (at_builtin; refine wpList_rapp rtF rfl _ _ rfl HVS.out.own rfl (bel_alloc _ _) _ (16, nm) _ rfl (cs := #[.int .i64 16, .string nm]) rfl (heap_alloc_new _ _) HLn.out ?_; intro v1 w1 hO1 hC1)
            go_meet
            exact Lib.hid (by rw [pick_wh nm _ 16 (by omega)]; exact HVS.out.app hO1 hC1)
        case rest =>
          have HVS := hcut
          clear hcut n0 KC
          obtain ⟨wb, hwb⟩ : ∃ wb, wb = wc := ⟨_, rfl⟩
          subst hwb
          have q0 := Q0.out _ HVS.out.sw
          have q1 := Q1.out _ HVS.out.sw
          go_upto_if 44 with (go_at_call 50; refine (KO.out _ HVS.out.sw).mono ?_; rintro e wd ⟨rfl, hbd⟩)
          have HVS : Hid (VarS encCl w5 N x wd _ _) := Lib.hid (HVS.out.more hbd)
          clear q0 q1 hbd KO
          go_cut [7] from 17 to 84 (fun u wx => Hid (VarS encCl w5 N x wx u (BL ++ pick nm [whC (!cb) 16] ++ pick nm [whC tw 6])))
          case first =>
            have HLn : Hid ((BL ++ pick nm [whC (!cb) 16]).length ≤ 100000000) := Lib.hid (by have := HFL.out; have := HFL.out; have h0 := pick_le nm [whC (!cb) 16]; simp only [List.length_append, List.length_cons, List.length_nil] at h0 ⊢; omega)
            clear HT HR2 HBP HNB HV5 HX HH
            cases tw with
            | false =>
              go_wp2
              go_meet
              exact Lib.hid (by rw [pick_wh nm _ 6 (by omega)]; simpa using HVS.out)
            | true =>
              go_wp2_with (at_builtin; refine wpList_rapp rtF rfl _ _ rfl HVS.out.own rfl (bel_alloc _ _) _ (6, nm) _ rfl (cs := #[.int .i64 6, .string nm]) rfl (heap_alloc_new _ _) HLn.out ?_; intro v1 w1 hO1 hC1)
              go_meet
              exact Lib.hid (by rw [pick_wh nm _ 6 (by omega)]; exact HVS.out.app hO1 hC1)
          case rest =>
            have HVS := hcut
            clear hcut
            obtain ⟨we, hwe⟩ : ∃ we, we = wc := ⟨_, rfl⟩
            subst hwe
            have n1 := HVS.out.el 1 _ rfl
            have s0 := R0.out _ HVS.out.sw
            have s1 := R1.out _ HVS.out.sw
            have s2 := R2.out _ HVS.out.sw
            have s3 := R3.out _ HVS.out.sw
            rw [HE2.out, ← HNB.out] at s3
            have HNX : Hid (k + 1 + (nb - (k + 1)) = nb) := Lib.hid (by have := HKX.out; omega)
            go_upto_region 11 with fail
            go_cut [79] from 17 to 84 (fun v79 wx => v79 = .bool bm ∧ SW we wx)
            case first =>
              have KI : Hid (∀ W, SW we W → Calls Try.prog 43 #[.agg #[.string b.name, .int .i64 b.seats, .int .i64 b.over, .slice (some ⟨b2, o2, none⟩) nb b.c]] W fun e w' => e = .returned (.bool (sizB b)) ∧ SW we w') := Lib.hid (fun W h => by
                have h1 := inRange_any b W
                dsimp only [aggCb] at h1
                rw [HE2.out, ← HNB.out] at h1
                exact h1.mono (by rintro e w' ⟨rfl, hb⟩; exact ⟨rfl, Below.trans h (Below.mono hb h.size)⟩))
              have KA : Hid (∀ W, SW we W → sizB b = true → Calls Try.prog 21 #[.agg #[.string b.name, .int .i64 b.seats, .int .i64 b.over, .slice (some ⟨b2, o2, none⟩) nb b.c]] W fun e w' => e = .returned (.int .i64 (b.seats + b.over)) ∧ SW we w') := Lib.hid (fun W h hz => by
                have h1 := rauth_any b W hz
                dsimp only [aggCb] at h1
                rw [HE2.out, ← HNB.out] at h1
                exact h1.mono (by rintro e w' ⟨rfl, hb⟩; exact ⟨rfl, Below.trans h (Below.mono hb h.size)⟩))
              have HBR : Hid (∀ y : Cl, (0 < k → b.l[k - 1]? = some y) → bm = (decide (x.prot < 0) || (decide (0 < k) && decide (x.prot < y.prot)) || (sizB b && decide (b.seats + b.over < x.prot)))) := Lib.hid (fun y hy => by rw [← HBP.out]; exact badP_ref b k x y hy HOX.out.hi)
              have HYY := Lib.hid (HR2.out we HVS.out.sw)
              have hS0 : SW we we.drew := SW.drew _
              have g1 : ∀ z : Wd (SW we), z.w.cell? ⟨N, 1, none⟩ = some (Value.int .i64 x.prot) := fun z => bel_get n1 _ z.ok
              have g0 : ∀ z : Wd (SW we), z.w.cell? ⟨Z + 1, 0, none⟩ = some (Value.string b.name) := fun z => bel_get s0 _ z.ok
              have g2 : ∀ z : Wd (SW we), z.w.cell? ⟨Z + 1, 1, none⟩ = some (Value.int .i64 b.seats) := fun z => bel_get s1 _ z.ok
              have g3 : ∀ z : Wd (SW we), z.w.cell? ⟨Z + 1, 2, none⟩ = some (Value.int .i64 b.over) := fun z => bel_get s2 _ z.ok
              have g4 : ∀ z : Wd (SW we), z.w.cell? ⟨Z + 1, 3, none⟩ = some (Value.slice (some ⟨b2, o2, none⟩) nb b.c) := fun z => bel_get s3 _ z.ok
              clear n1 s0 s1 s2 s3 HT HVS HR2 HBP HOX HNX HH HV5 HOK
              obtain ⟨sb, hsb⟩ : ∃ sb, sb = sizB b := ⟨_, rfl⟩
              have HSB := Lib.hid hsb
              clear hsb
              cases h0 : decide (x.prot < 0) with
              | true =>
                have h0' : x.prot < 0 := of_decide_eq_true h0
                have HR : Hid (true = bm) := Lib.hid (by
                  by_cases hk0 : 0 < k
                  · obtain ⟨y, hy, _⟩ := HYY.out hk0
                    rw [HBR.out y (fun _ => hy)]; simp [h0']
                  · rw [HBR.out x (fun h => absurd h hk0)]; simp [h0'])
                have hz : True := trivial
                have hNe : Nonempty (Wd (SW we)) := ⟨⟨_, hS0⟩⟩
                refine quietS (S := SW we) (by kernel_rfl) (by kernel_rfl) (hS0) ?_
                repeat (first | go_big_quiet_skip | (go_big_quiet_want; go_big_quiet_op; first | go_big_quiet_on | go_big_quiet_call (((first | (go_at_call 43; exact quiet_S (KI.out _ (Wd.ok _))) | (go_at_call 21; exact quiet_S (KA.out _ (Wd.ok _) hz)))))))
                refine wpQuiet_nil ?_
                rintro W ⟨⟨_, hW⟩, rfl⟩
                go_wp2
                go_meet
                exact ⟨by rw [HR.out], hW⟩
              | false =>
                have h0' : ¬ x.prot < 0 := of_decide_eq_false h0
                cases k with
                | zero =>
                  cases hz : sizB b with
                  | false =>
                    rw [hz] at KI
                    have HR : Hid (false = bm) := Lib.hid (by rw [HBR.out x (fun h => absurd h (by omega))]; simp [h0', hz])
                    have hNe : Nonempty (Wd (SW we)) := ⟨⟨_, hS0⟩⟩
                    refine quietS (S := SW we) (by kernel_rfl) (by kernel_rfl) (hS0) ?_
                    repeat (first | go_big_quiet_skip | (go_big_quiet_want; go_big_quiet_op; first | go_big_quiet_on | go_big_quiet_call (((first | (go_at_call 43; exact quiet_S (KI.out _ (Wd.ok _))) | (go_at_call 21; exact quiet_S (KA.out _ (Wd.ok _) hz)))))))
                    refine wpQuiet_nil ?_
                    rintro W ⟨⟨_, hW⟩, rfl⟩
                    go_wp2
                    go_meet
                    exact ⟨by rw [HR.out], hW⟩
                  | true =>
                    rw [hz] at KI
                    cases h9 : decide (b.seats + b.over < x.prot) with
                    | true =>
                      have h9' : b.seats + b.over < x.prot := of_decide_eq_true h9
                      have HR : Hid (true = bm) := Lib.hid (by rw [HBR.out x (fun h => absurd h (by omega))]; simp [h0', hz, h9'])
                      have hNe : Nonempty (Wd (SW we)) := ⟨⟨_, hS0⟩⟩
                      refine quietS (S := SW we) (by kernel_rfl) (by kernel_rfl) (hS0) ?_
                      repeat (first | go_big_quiet_skip | (go_big_quiet_want; go_big_quiet_op; first | go_big_quiet_on | go_big_quiet_call (((first | (go_at_call 43; exact quiet_S (KI.out _ (Wd.ok _))) | (go_at_call 21; exact quiet_S (KA.out _ (Wd.ok _) hz)))))))
                      refine wpQuiet_nil ?_
                      rintro W ⟨⟨_, hW⟩, rfl⟩
                      go_wp2
                      go_meet
                      exact ⟨by rw [HR.out], hW⟩
                    | false =>
                      have h9' : ¬ b.seats + b.over < x.prot := of_decide_eq_false h9
                      have HR : Hid (false = bm) := Lib.hid (by rw [HBR.out x (fun h => absurd h (by omega))]; simp [h0', hz, h9'])
                      have hNe : Nonempty (Wd (SW we)) := ⟨⟨_, hS0⟩⟩
                      refine quietS (S := SW we) (by kernel_rfl) (by kernel_rfl) (hS0) ?_
                      repeat (first | go_big_quiet_skip | (go_big_quiet_want; go_big_quiet_op; first | go_big_quiet_on | go_big_quiet_call (((first | (go_at_call 43; exact quiet_S (KI.out _ (Wd.ok _))) | (go_at_call 21; exact quiet_S (KA.out _ (Wd.ok _) hz)))))))
                      refine wpQuiet_nil ?_
                      rintro W ⟨⟨_, hW⟩, rfl⟩
                      go_wp2
                      go_meet
                      exact ⟨by rw [HR.out], hW⟩
                | succ q =>
                  obtain ⟨y, hy, hyc⟩ := HYY.out (by omega)
                  rw [Nat.add_sub_cancel] at hy hyc
                  have HYq := Lib.hid hy
                  have g5 : ∀ z : Wd (SW we), z.w.cell? ⟨b2, o2 + q * 2 + 1, none⟩ = some (Value.int .i64 y.prot) := fun z => bel_get hyc _ z.ok
                  have k1 : 0 < (q : Int) + 1 := by omega
                  have k2 : (0 : Int) < ((q + 1 : Nat) : Int) := by omega
                  have i3 : (q : Int) < (nb : Int) := by omega
                  have w1 : IntKind.i64.wrap (q : Int) = (q : Int) := IntWalk.i64_in _ (by omega)
                  clear hy hyc HYY
                  cases h5 : decide (x.prot < y.prot) with
                  | true =>
                    have h5' : x.prot < y.prot := of_decide_eq_true h5
                    have HR : Hid (true = bm) := Lib.hid (by rw [HBR.out y (fun _ => by rw [Nat.add_sub_cancel]; exact HYq.out)]; simp [h5'])
                    have hz : True := trivial
                    have hNe : Nonempty (Wd (SW we)) := ⟨⟨_, hS0⟩⟩
                    refine quietS (S := SW we) (by kernel_rfl) (by kernel_rfl) (hS0) ?_
                    repeat (first | go_big_quiet_skip | (go_big_quiet_want; go_big_quiet_op; first | go_big_quiet_on | go_big_quiet_call (((first | (go_at_call 43; exact quiet_S (KI.out _ (Wd.ok _))) | (go_at_call 21; exact quiet_S (KA.out _ (Wd.ok _) hz)))))))
                    refine wpQuiet_nil ?_
                    rintro W ⟨⟨_, hW⟩, rfl⟩
                    go_wp2
                    go_meet
                    exact ⟨by rw [HR.out], hW⟩
                  | false =>
                    have h5' : ¬ x.prot < y.prot := of_decide_eq_false h5
                    cases hz : sizB b with
                    | false =>
                      rw [hz] at KI
                      have HR : Hid (false = bm) := Lib.hid (by rw [HBR.out y (fun _ => by rw [Nat.add_sub_cancel]; exact HYq.out)]; simp [h0', h5', hz])
                      have hNe : Nonempty (Wd (SW we)) := ⟨⟨_, hS0⟩⟩
                      refine quietS (S := SW we) (by kernel_rfl) (by kernel_rfl) (hS0) ?_
                      repeat (first | go_big_quiet_skip | (go_big_quiet_want; go_big_quiet_op; first | go_big_quiet_on | go_big_quiet_call (((first | (go_at_call 43; exact quiet_S (KI.out _ (Wd.ok _))) | (go_at_call 21; exact quiet_S (KA.out _ (Wd.ok _) hz)))))))
                      refine wpQuiet_nil ?_
                      rintro W ⟨⟨_, hW⟩, rfl⟩
                      go_wp2
                      go_meet
                      exact ⟨by rw [HR.out], hW⟩
                    | true =>
                      rw [hz] at KI
                      cases h9 : decide (b.seats + b.over < x.prot) with
                      | true =>
                        have h9' : b.seats + b.over < x.prot := of_decide_eq_true h9
                        have HR : Hid (true = bm) := Lib.hid (by rw [HBR.out y (fun _ => by rw [Nat.add_sub_cancel]; exact HYq.out)]; simp [h0', h5', hz, h9'])
                        have hNe : Nonempty (Wd (SW we)) := ⟨⟨_, hS0⟩⟩
                        refine quietS (S := SW we) (by kernel_rfl) (by kernel_rfl) (hS0) ?_
                        repeat (first | go_big_quiet_skip | (go_big_quiet_want; go_big_quiet_op; first | go_big_quiet_on | go_big_quiet_call (((first | (go_at_call 43; exact quiet_S (KI.out _ (Wd.ok _))) | (go_at_call 21; exact quiet_S (KA.out _ (Wd.ok _) hz)))))))
                        refine wpQuiet_nil ?_
                        rintro W ⟨⟨_, hW⟩, rfl⟩
                        go_wp2
                        go_meet
                        exact ⟨by rw [HR.out], hW⟩
                      | false =>
                        have h9' : ¬ b.seats + b.over < x.prot := of_decide_eq_false h9
                        have HR : Hid (false = bm) := Lib.hid (by rw [HBR.out y (fun _ => by rw [Nat.add_sub_cancel]; exact HYq.out)]; simp [h0', h5', hz, h9'])
                        have hNe : Nonempty (Wd (SW we)) := ⟨⟨_, hS0⟩⟩
                        refine quietS (S := SW we) (by kernel_rfl) (by kernel_rfl) (hS0) ?_
                        repeat (first | go_big_quiet_skip | (go_big_quiet_want; go_big_quiet_op; first | go_big_quiet_on | go_big_quiet_call (((first | (go_at_call 43; exact quiet_S (KI.out _ (Wd.ok _))) | (go_at_call 21; exact quiet_S (KA.out _ (Wd.ok _) hz)))))))
                        refine wpQuiet_nil ?_
                        rintro W ⟨⟨_, hW⟩, rfl⟩
                        go_wp2
                        go_meet
                        exact ⟨by rw [HR.out], hW⟩
            case rest =>
              obtain ⟨rfl, hbe⟩ := hcut
              have HVS : Hid (VarS encCl w5 N x wc _ _) := Lib.hid (HVS.out.more hbe)
              clear hbe n1 s0 s1 s2 s3
              obtain ⟨wf, hwf⟩ : ∃ wf, wf = wc := ⟨_, rfl⟩
              subst hwf
              have HLn : Hid ((BL ++ pick nm [whC (!cb) 16] ++ pick nm [whC tw 6]).length ≤ 100000000) := Lib.hid (by have := HFL.out; have h0 := pick_le nm [whC (!cb) 16]; have h1 := pick_le nm [whC tw 6]; simp only [List.length_append, List.length_cons, List.length_nil] at h0 h1 ⊢; omega)
              clear HR2 HBP HNB HV5 HX HH
              go_upto_if 79 with fail
              cases bm with
              | false =>
                have HY : Hid (FOwn w5.heap.size wf _ (clsF p S b (k + 1)) ∧ SW w5 wf) := Lib.hid (by rw [HT.out, pick_wh nm false 2 (by omega)]; exact ⟨by simpa using HVS.out.own, HVS.out.sw⟩)
                clear HVS
                go_wp2
                go_roundg (nb - (k + 1))
                case measure => have := HKX.out; omega
                case rel => exact ⟨_, k + 1, rfl, by go_num, HNX.out, HY⟩
              | true =>
                go_wp2_with (at_builtin; refine wpList_rapp rtF rfl _ _ rfl HVS.out.own rfl (bel_alloc _ _) _ (2, nm) _ rfl (cs := #[.int .i64 2, .string nm]) rfl (heap_alloc_new _ _) HLn.out ?_; intro v1 w1 hO1 hC1)
                have HY : Hid (FOwn w5.heap.size w1 v1 (clsF p S b (k + 1)) ∧ SW w5 w1) := Lib.hid (by rw [HT.out, pick_wh nm true 2 (by omega)]; exact ⟨hO1, (HVS.out.app hO1 hC1).sw⟩)
                clear HVS hO1 hC1
                go_roundg (nb - (k + 1))
                case measure => have := HKX.out; omega
                case rel => exact ⟨_, k + 1, rfl, by go_num, HNX.out, HY⟩
    · have HE : Hid (k = nb) := Lib.hid (by omega)
      have HR : Hid (FOwn w.heap.size wr v (clsF p S b nb) ∧ Below w.heap.size w wr) := Lib.hid (by
        have h := HH.out
        rw [HE.out] at h
        exact ⟨⟨h.1.own.mono HB5.out.size, Nat.le_trans HB5.out.size h.2.size⟩, HB5.out.trans (Below.mono h.2 HB5.out.size)⟩)
      have i2 : ¬ (k : Int) < (nb : Int) := by omega
      clear HH
      go_wp2
      go_ret
      exact ⟨_, rfl, HR.out⟩
end Go.Proofs.Ytnakdacnfbgpnaa

namespace Go.Proofs.Ytnakdacnfbgpnaa
open Go.RowKit Go.Shelf
set_option linter.unusedSimpArgs false
set_option linter.unusedVariables false

/-! ### plain: a copy of a configuration -/
def pcb (b : Cb) : ByteArray × Int × Int × List Cl := (b.name, b.seats, b.over, b.l)
/-- the same configuration, wherever it lies -/
structure SamC (f g : Cf) : Prop where
  eq : f.equip = g.equip
  l : f.l.map pcb = g.l.map pcb
theorem SamC.refl (f : Cf) : SamC f f := ⟨rfl, rfl⟩
/-- block G holds the cabins L, and may be written; their classes lie elsewhere -/
structure CbRow (W : World) (G : Nat) (L : List Cb) : Prop where
  cell : ∀ i b j u, L[i]? = some b → (encCb b)[j]? = some u → W.cell? ⟨G, i * 4 + j, none⟩ = some u
  froz : ∀ j, W.frozen? ⟨G, j, none⟩ = false
  lt : G < W.heap.size
  cls : ∀ b ∈ L, CbAt W b ∧ (b.l = [] ∨ ∀ g o, b.A = some ⟨g, o, none⟩ → g ≠ G)
theorem CbRow.more {W W' : World} {G : Nat} {L : List Cb} (h : CbRow W G L) (hb : Below W.heap.size W W') : CbRow W' G L :=
  ⟨fun i b j u hi hu => bel_cell hb (h.cell i b j u hi hu), fun j => (hb.frozen (p := ⟨G, j, none⟩) h.lt).trans (h.froz j), Nat.lt_of_lt_of_le h.lt hb.size, fun b hm => ⟨(h.cls b hm).1.more hb, (h.cls b hm).2⟩⟩
theorem RowL.other {α : Type} {enc : α → List Value} {sz : Nat} {W : World} {A : Option Addr} {n c : Nat} {l : List α} (h : RowL sz enc W (.slice A n c) l) {G : Nat} (hne : l = [] ∨ ∀ g o, A = some ⟨g, o, none⟩ → g ≠ G) (q : Nat) (x : Value) : RowL sz enc (W.setCell ⟨G, q, none⟩ x) (.slice A n c) l := by
  obtain ⟨A', c', h1, h2⟩ := h
  simp only [Value.slice.injEq] at h1
  obtain ⟨rfl, rfl, rfl⟩ := h1
  refine ⟨_, _, rfl, ?_⟩
  rcases h2 with h | ⟨b, o, rfl, hlt, hc⟩
  · exact .inl h
  · rcases hne with hne | hne
    · exact .inl hne
    · refine .inr ⟨b, o, rfl, by simpa using hlt, fun i x' j u hi hu => ?_⟩
      rw [World.cell?_setCell_other _ _ _ _ (by intro e; simp only [Addr.mk.injEq] at e; exact hne b o rfl e.1.symm)]
      exact hc i x' j u hi hu
theorem CbRow.set {W : World} {G : Nat} {L : List Cb} (h : CbRow W G L) {k : Nat} {b : Cb} (hb : L[k]? = some b) (A' : Option Addr) (c' : Nat) (hcl : ClL W (.slice A' b.l.length c') b.l) (hne : b.l = [] ∨ ∀ g o, A' = some ⟨g, o, none⟩ → g ≠ G) :
    CbRow (W.setCell ⟨G, k * 4 + 3, none⟩ (.slice A' b.l.length c')) G (L.set k { b with A := A', c := c' }) := by
  have hk := (List.getElem?_eq_some_iff.1 hb).1
  refine ⟨fun i x j u hi hu => ?_, fun j => by rw [World.frozen?_setCell]; exact h.froz j, by have := h.lt; simpa using this, fun x hx => ?_⟩
  · have hj : j < 4 := by have := (List.getElem?_eq_some_iff.1 hu).1; simpa [encCb] using this
    rw [List.getElem?_set] at hi
    by_cases e : k = i
    · subst e
      rw [if_pos rfl, if_pos hk] at hi
      cases hi
      by_cases e3 : j = 3
      · subst e3
        have hu' : u = .slice A' b.l.length c' := by simpa [encCb] using hu.symm
        rw [hu', World.cell?_setCell_same _ _ _ (h.cell k b 3 _ hb rfl)]
      · rw [World.cell?_setCell_other _ _ _ _ (by intro e; simp only [Addr.mk.injEq] at e; omega)]
        refine h.cell k b j u hb ?_
        have h3 : j = 0 ∨ j = 1 ∨ j = 2 := by omega
        rcases h3 with rfl | rfl | rfl <;> simpa [encCb] using hu
    · rw [if_neg e] at hi
      rw [World.cell?_setCell_other _ _ _ _ (by intro e'; simp only [Addr.mk.injEq] at e'; omega)]
      exact h.cell i x j u hi hu
  · rcases List.mem_or_eq_of_mem_set hx with hm | rfl
    · exact ⟨RowL.other (h.cls x hm).1 (h.cls x hm).2 _ _, (h.cls x hm).2⟩
    · exact ⟨RowL.other hcl hne _ _, hne⟩
theorem CbL.other {W : World} {A : Option Addr} {n c : Nat} {L : List Cb} (h : CbL W (.slice A n c) L) {G : Nat} (h1 : L = [] ∨ ∀ g o, A = some ⟨g, o, none⟩ → g ≠ G) (h2 : ∀ b ∈ L, b.l = [] ∨ ∀ g o, b.A = some ⟨g, o, none⟩ → g ≠ G) (q : Nat) (x : Value) : CbL (W.setCell ⟨G, q, none⟩ x) (.slice A n c) L :=
  ⟨RowL.other h.1 h1 q x, fun b hm => RowL.other (h.2 b hm) (h2 b hm) q x⟩
end Go.Proofs.Ytnakdacnfbgpnaa

namespace Go.Proofs.Ytnakdacnfbgpnaa
open Go.RowKit Go.Shelf
set_option linter.unusedSimpArgs false
set_option linter.unusedVariables false

theorem S4.heap {w : World} {N : Nat} {t : TypeId} {a0 a1 a2 a3 : Value} (h : w.heap[N]? = some (.cells #[a0, a1, a2, a3] t (0, 0))) (v0 v1 v2 v3 : Value) : ((((w.setCell ⟨N, 0, none⟩ v0).setCell ⟨N, 1, none⟩ v1).setCell ⟨N, 2, none⟩ v2).setCell ⟨N, 3, none⟩ v3).heap[N]? = some (.cells #[v0, v1, v2, v3] t (0, 0)) := by
  have e1 : (w.setCell ⟨N, 0, none⟩ v0).heap[N]? = some (.cells #[v0, a1, a2, a3] t (0, 0)) := heap_setCell_same w N 0 _ t v0 h
  have e2 : ((w.setCell ⟨N, 0, none⟩ v0).setCell ⟨N, 1, none⟩ v1).heap[N]? = some (.cells #[v0, v1, a2, a3] t (0, 0)) := heap_setCell_same _ N 1 _ t v1 e1
  have e3 : (((w.setCell ⟨N, 0, none⟩ v0).setCell ⟨N, 1, none⟩ v1).setCell ⟨N, 2, none⟩ v2).heap[N]? = some (.cells #[v0, v1, v2, a3] t (0, 0)) := heap_setCell_same _ N 2 _ t v2 e2
  exact heap_setCell_same _ N 3 _ t v3 e3
theorem S4.but (w : World) (N : Nat) (v0 v1 v2 v3 : Value) : But w ((((w.setCell ⟨N, 0, none⟩ v0).setCell ⟨N, 1, none⟩ v1).setCell ⟨N, 2, none⟩ v2).setCell ⟨N, 3, none⟩ v3) (fun k => k = N) :=
  (((But.setCell w N 0 v0).trans (But.setCell _ N 1 v1) (fun _ _ h => h)).trans (But.setCell _ N 2 v2) (fun _ _ h => h)).trans (But.setCell _ N 3 v3) (fun _ _ h => h)
set_option maxRecDepth 100000 in
set_option maxHeartbeats 16000000 in
theorem rcabins_any (eq : ByteArray) (A : Option Addr) (c : Nat) (l : List Cb) (p : ByteArray) (w : World) (hv : CbL w (.slice A l.length c) l) (hn : l.length ≤ 8) (hok : ∀ b ∈ l, OkCb b) (hp : 0 < p.size) (hp2 : p.size ≤ 100) :
    Calls Try.prog 33 #[.agg #[.string eq, .slice A l.length c], .string p] w fun e w' => ∃ v', e = .returned v' ∧ FOwn w.heap.size w' v' (cabF p l l.length) ∧ Below w.heap.size w w' := by
  have HOK := Lib.hid hok
  have hbA := bel_alloc w (.cells #[.string eq, .slice A l.length c] cfT)
  have q0 := (cells_new w #[.string eq, .slice A l.length c] cfT 0).trans (show _ = some (Value.string eq) from rfl)
  have q1 := (cells_new w #[.string eq, .slice A l.length c] cfT 1).trans (show _ = some (Value.slice A l.length c) from rfl)
  obtain ⟨Z, hZ⟩ : ∃ Z, Z = w.heap.size := ⟨_, rfl⟩
  rw [← hZ] at q0 q1
  have HV := Lib.hid hv
  clear hv hok
  obtain ⟨nl, hnl⟩ : ∃ nl, nl = l.length := ⟨_, rfl⟩
  have HNL := Lib.hid hnl
  go_enter Try.func33, Try.ntmps33
  go_upto_region 1 with fail
  rw [← hZ]
  have HZ := Lib.hid hZ
  have HB5 := Lib.hid hbA
  generalize w.alloc (.cells #[.string eq, .slice A l.length c] cfT) = w5 at *
  clear hZ hbA hnl
  have HV5 : Hid (∀ W, SW w5 W → CbL W (.slice A l.length c) l) := Lib.hid (fun W h => HV.out.more (HB5.out.trans (Below.mono h HB5.out.size)))
  have Q0 := Lib.hid (fun W (h : SW w5 W) => bel_get q0 _ h)
  have Q1 := Lib.hid (fun W (h : SW w5 W) => bel_get q1 _ h)
  clear q0 q1
  have HI : Hid (FOwn w5.heap.size w5 (.slice none 0 0) (cabF p l 0) ∧ SW w5 w5) := Lib.hid ⟨ROwn.nil (Nat.le_refl _), Below.refl _ _⟩
  go_wp2
  go_loopg [5, 6] l.length (fun kx v5 v6 wr => ∃ (v : Value) (i : Nat), v = v5 ∧ v6 = .int .i64 i ∧ i + kx = l.length ∧ Hid (FOwn w5.heap.size wr v (cabF p l i) ∧ SW w5 wr))
  case atStart => exact ⟨_, 0, rfl, rfl, by omega, HI⟩
  case round =>
    obtain ⟨v, i, rfl, rfl, hkx, HH⟩ := hrel
    clear HI
    have HKX := Lib.hid hkx
    have c1 := Q1.out _ HH.out.2
    by_cases hlt : i < l.length
    · obtain ⟨b, hb⟩ : ∃ b, l[i]? = some b := ⟨_, List.getElem?_eq_getElem hlt⟩
      have HB := Lib.hid hb
      obtain ⟨b1, o1, e1, hb1, hc1⟩ := row_get (HV5.out _ HH.out.2).1 hb
      cases e1
      obtain ⟨bA, hA⟩ : ∃ A, A = b.A := ⟨_, rfl⟩
      have HA := Lib.hid hA
      have d0 := hc1 0 _ rfl
      have d1 := hc1 1 _ rfl
      have d2 := hc1 2 _ rfl
      have d3 := hc1 3 _ rfl
      rw [Nat.add_zero] at d0
      rw [← hA] at d3
      have i1 : (i : Int) < (l.length : Int) := by omega
      have hox := HOK.out b (List.mem_of_getElem? hb)
      have HOX := Lib.hid hox
      have hS5 : SW w5 wr := HH.out.2
      have hvN : ∀ N, wr.heap.size ≤ N → v.ownBlock ≠ some N := fun N hN h => by have := (HH.out.1.low h).2; omega
      have KP := Lib.hid (fun W => rplace_any p cabR i W (by omega) (by decide) hp (by omega))
      rw [cab_path] at KP
      obtain ⟨tw, htw⟩ : ∃ tw : Nat → Bool, tw = fun j => anyS ((l.take j).map Cb.name) b.name := ⟨_, rfl⟩
      have HT : Hid (cabF p l (i + 1) = cabF p l i ++ pick (p ++ cabW ++ decA i) [whC (!codeB b.name 1 8) 5] ++ pick (p ++ cabW ++ decA i) [whC (tw i) 6] ++ pick (p ++ cabW ++ decA i) [whC (!sizB b) 2] ++ pick (p ++ cabW ++ decA i) [whC (badN b.l.length 26) 4] ++ clsF (p ++ cabW ++ decA i) (codesB (l.take i)) b b.l.length) := Lib.hid (by
        rw [htw, cabF_succ p l i b hb, show cabE l i b = [whC (!codeB b.name 1 8) 5, whC (anyS ((l.take i).map Cb.name) b.name) 6, whC (!sizB b) 2, whC (badN b.l.length 26) 4] from rfl]
        simp only [List.append_assoc, ← pick_app, List.cons_append, List.nil_append])
      have HTW : Hid (∀ j (h : j < i), ∃ y, l[j]? = some y ∧ tw (j + 1) = (tw j || (y.name.toList == b.name.toList))) := Lib.hid (fun j h => ⟨l[j]'(by omega), List.getElem?_eq_getElem _, by
        rw [htw]
        show anyS ((l.take (j + 1)).map Cb.name) b.name = _
        rw [map_snoc Cb.name l j _ (List.getElem?_eq_getElem (show j < l.length by omega)), anyS_snoc]⟩)
      have HTW0 : Hid (tw 0 = false) := Lib.hid (by rw [htw]; rfl)
      have KC := Lib.hid (fun W => rcode_any b.name 1 8 W hox.name)
      have KI : Hid (∀ W, Calls Try.prog 43 #[.agg #[.string b.name, .int .i64 b.seats, .int .i64 b.over, .slice bA b.l.length b.c]] W fun e w' => e = .returned (.bool (sizB b)) ∧ Below W.heap.size W w') := Lib.hid (fun W => by
        have h1 := inRange_any b W
        dsimp only [aggCb] at h1
        rw [← hA] at h1
        exact h1)
      have hsz : 0 < (p ++ cabW ++ decA i).size ∧ (p ++ cabW ++ decA i).size ≤ 200 := by have := decA_size i (by omega); have e : cabW.size = 7 := rfl; simp only [ByteArray.size_append]; omega
      have HFL : Hid ((cabF p l i).length ≤ 10000) := Lib.hid (by have := cabF_le p l (fun b hb => (HOK.out b hb).len) i; omega)
      have KK : Hid (∀ W, SW w5 W → Calls Try.prog 44 #[.agg #[.string eq, .slice (some ⟨b1, o1, none⟩) l.length c], .int .i64 (i : Int), .string (p ++ cabW ++ decA i)] W fun e w' => ∃ v', e = .returned v' ∧ FltL w' v' (clsF (p ++ cabW ++ decA i) (codesB (l.take i)) b b.l.length) ∧ Below W.heap.size W w') := Lib.hid (fun W h => (rclasses_any eq _ c l i b _ W (HV5.out W h) HB.out hn HOK.out hsz.1 hsz.2).mono (by rintro e w' ⟨v', rfl, h1, h2⟩; exact ⟨v', rfl, h1.rowL rtF.len, h2⟩))
      have HCL : Hid ((clsF (p ++ cabW ++ decA i) (codesB (l.take i)) b b.l.length).length ≤ 90) := Lib.hid (by have := clsF_le (p ++ cabW ++ decA i) (codesB (l.take i)) b b.l.length; have := hox.len; omega)
      have HBM : Hid (badN b.l.length 26 = (decide ((b.l.length : Int) < 1) || decide (26 < (b.l.length : Int)))) := Lib.hid rfl
      generalize hBL : cabF p l i = BL at *
      generalize hnm : p ++ cabW ++ decA i = nm at *
      generalize codeB b.name 1 8 = cb at *
      generalize sizB b = sb at *
      generalize badN b.l.length 26 = bm at *
      generalize clsF nm (codesB (l.take i)) b b.l.length = CF at *
      clear hb1 hc1 hb hBL hnm hkx hA hsz hox htw
      have C1 := fun W (h : SW wr W) => bel_get c1 _ h
      have D0 := fun W (h : SW wr W) => bel_get d0 _ h
      have D1 := fun W (h : SW wr W) => bel_get d1 _ h
      have D2 := fun W (h : SW wr W) => bel_get d2 _ h
      have D3 := fun W (h : SW wr W) => bel_get d3 _ h
      have HNX : Hid (i + 1 + (l.length - (i + 1)) = l.length) := Lib.hid (by have := HKX.out; omega)
      go_upto_region 5 with fail
      go_cut [7, 8, 9] from 11 to 86 (fun v7 v8 v9 wx => v7 = .string nm ∧ v9 = .bool false ∧ ∃ N : Nat, v8 = .pointer (some ⟨N, 0, none⟩) ∧ Hid (VarS encCb w5 N b wx v BL))
      case first =>
        clear KC HT KI KK HTW HTW0 HCL HBM HOK
        have hS : (SW wr) _ := SW.drew _
        refine wp_region_held_drew (S := SW wr) (by kernel_rfl) hS (fun _ => ?_)
        refine wpAnyH_take (i := 0) (v := ?vR50) rfl (by kernel_rfl) (by kernel_rfl) (by kernel_rfl) (fun _ _ _ h => h) (Or.inl ⟨by rfl, ?hyR50⟩) hS ?restR50
        case hyR50 =>
          intro w hSw
          first | (go_simp; done) | (go_simp; with_reducible rfl)
        try simp only [Act.put, List.setIfInBounds_toArray, List.set_cons_zero, List.set_cons_succ]
        refine wpAnyH_take (i := 1) (v := ?vR51) rfl (by kernel_rfl) (by kernel_rfl) (by kernel_rfl) (fun _ _ _ h => h) (Or.inl ⟨by rfl, ?hyR51⟩) hS ?restR51
        case hyR51 =>
          intro w hSw
          first | (go_simp; done) | (go_simp; with_reducible rfl)
        try simp only [Act.put, List.setIfInBounds_toArray, List.set_cons_zero, List.set_cons_succ]
        refine wpAnyH_take (i := 3) (v := ?vR53) rfl (by kernel_rfl) (by kernel_rfl) (by kernel_rfl) (fun _ _ _ h => h) (Or.inl ⟨by rfl, ?hyR53⟩) hS ?restR53
        case hyR53 =>
          intro w hSw
          first | (go_simp; done) | (go_simp; with_reducible rfl)
        try simp only [Act.put, List.setIfInBounds_toArray, List.set_cons_zero, List.set_cons_succ]
        refine wpAnyH_take (i := 4) (v := ?vR54) rfl (by kernel_rfl) (by kernel_rfl) (by kernel_rfl) (fun _ _ _ h => h) (Or.inl ⟨by rfl, ?hyR54⟩) hS ?restR54
        case hyR54 =>
          intro w hSw
          have k0 := C1 w hSw; have k1 := D0 w hSw; have k2 := D1 w hSw; have k3 := D2 w hSw; have k4 := D3 w hSw
          first | (go_simp; done) | (go_simp; with_reducible rfl)
        try simp only [Act.put, List.setIfInBounds_toArray, List.set_cons_zero, List.set_cons_succ]
        refine wpAnyH_take (i := 5) (v := ?vR55) rfl (by kernel_rfl) (by kernel_rfl) (by kernel_rfl) (fun _ _ _ h => h) (Or.inl ⟨by rfl, ?hyR55⟩) hS ?restR55
        case hyR55 =>
          intro w hSw
          first | (go_simp; done) | (go_simp; with_reducible rfl)
        try simp only [Act.put, List.setIfInBounds_toArray, List.set_cons_zero, List.set_cons_succ]
        refine wpAnyH_take (i := 6) (v := ?vR56) rfl (by kernel_rfl) (by kernel_rfl) (by kernel_rfl) (fun _ _ _ h => h) (Or.inl ⟨by rfl, ?hyR56⟩) hS ?restR56
        case hyR56 =>
          intro w hSw
          have k0 := C1 w hSw; have k1 := D0 w hSw; have k2 := D1 w hSw; have k3 := D2 w hSw; have k4 := D3 w hSw
          first | (go_simp; done) | (go_simp; with_reducible rfl)
        try simp only [Act.put, List.setIfInBounds_toArray, List.set_cons_zero, List.set_cons_succ]
        refine wpAnyH_take (i := 7) (v := ?vR57) rfl (by kernel_rfl) (by kernel_rfl) (by kernel_rfl) (fun _ _ _ h => h) (Or.inl ⟨by rfl, ?hyR57⟩) hS ?restR57
        case hyR57 =>
          intro w hSw
          have k0 := C1 w hSw; have k1 := D0 w hSw; have k2 := D1 w hSw; have k3 := D2 w hSw; have k4 := D3 w hSw
          first | (go_simp; done) | (go_simp; with_reducible rfl)
        try simp only [Act.put, List.setIfInBounds_toArray, List.set_cons_zero, List.set_cons_succ]
        refine wpAnyH_ready (rs := [2, 8]) (by kernel_rfl) (by simp) ?_
        refine AllReadyH.cons rfl (fun K hK => ?_) (AllReadyH.cons rfl (fun K hK => ?_) AllReadyH.nil)
        · go_simp
          go_wp2_with ((go_at_call 31; refine (KP.out _).mono ?_; rintro e w9 ⟨rfl, hb9⟩; have hS9 : SW wr w9 := Below.trans hS (Below.mono hb9 hS.size); have hS := hS9))
          refine hK.out _ _ hS (fun _ => ?_)
          clear hK K
          refine wpAnyH_ready (rs := [8]) (by kernel_rfl) (by simp) ?_
          refine AllReadyH.cons rfl (fun K hK => ?_) AllReadyH.nil
          go_simp
          have hSp := hS
          have hS := Below.trans hSp (Below.mono (bel_alloc _ (.cells #[.string noB, .int .i64 0, .int .i64 0, .slice none 0 0] cbT)) hSp.size)
          refine hK.out _ _ hS (fun _ => ?_)
          clear hK K
          refine wpAnyH_take (i := 9) (v := ?vR5a9) rfl (by kernel_rfl) (by kernel_rfl) (by kernel_rfl) (fun _ _ _ h => h) (Or.inl ⟨by rfl, ?hyR5a9⟩) hS ?restR5a9
          case hyR5a9 =>
            intro w hSw
            first | (go_simp; done) | (go_simp; with_reducible rfl)
          try simp only [Act.put, List.setIfInBounds_toArray, List.set_cons_zero, List.set_cons_succ]
          refine wpAnyH_ready (rs := [10]) (by kernel_rfl) (by simp) ?_
          refine AllReadyH.cons rfl (fun K hK => ?_) AllReadyH.nil
          go_simp
          have hNg : wr.heap.size ≤ w9.heap.size := hS9.size
          have hS : SW wr (w9.alloc (.cells #[.string b.name, .int .i64 b.seats, .int .i64 b.over, .slice bA b.l.length b.c] cbT)) := Below.trans hS9 (Below.mono (bel_alloc w9 _) hS9.size)
          have hRow := heap_alloc_new w9 (.cells #[.string b.name, .int .i64 b.seats, .int .i64 b.over, .slice bA b.l.length b.c] cbT)
          refine hK.out _ _ hS (fun _ => ?_)
          clear hK K
          refine wpAnyH_take (i := 11) (v := ?vR5a11) rfl (by kernel_rfl) (by kernel_rfl) (by kernel_rfl) (fun _ _ _ h => h) (Or.inl ⟨by rfl, ?hyR5a11⟩) hS ?restR5a11
          case hyR5a11 =>
            intro w hSw
            first | (go_simp; done) | (go_simp; with_reducible rfl)
          try simp only [Act.put, List.setIfInBounds_toArray, List.set_cons_zero, List.set_cons_succ]
          refine wpAnyH_done (by kernel_rfl) ?_ _
          try simp only [List.getElem_toArray, List.getElem_cons_succ, List.getElem_cons_zero, List.set_cons_zero, List.set_cons_succ]
          try simp only [List.setIfInBounds_toArray, List.set_cons_zero, List.set_cons_succ]
          go_wp2_with fail
          go_meet
          exact ⟨rfl, rfl, _, rfl, Lib.hid ⟨HH.out.1.more hS, Below.trans hS5 (Below.mono hS hS5.size), row_cell (enc := encCb) (x := b) hRow (by unfold encCb; rw [← HA.out]), hvN _ hNg, lt_of_cell2 hRow⟩⟩
        · go_simp
          have hSp := hS
          have hN0 := heap_alloc_new wr.drew (.cells #[.string noB, .int .i64 0, .int .i64 0, .slice none 0 0] cbT)
          have hS := Below.trans hSp (Below.mono (bel_alloc _ (.cells #[.string noB, .int .i64 0, .int .i64 0, .slice none 0 0] cbT)) hSp.size)
          refine hK.out _ _ hS (fun _ => ?_)
          clear hK K
          refine wpAnyH_ready (rs := [2]) (by kernel_rfl) (by simp) ?_
          refine AllReadyH.cons rfl (fun K hK => ?_) AllReadyH.nil
          go_simp
          go_wp2_with ((go_at_call 31; refine (KP.out _).mono ?_; rintro e w9 ⟨rfl, hb9⟩; have hS9 : SW wr w9 := Below.trans hS (Below.mono hb9 hS.size); have hS := hS9))
          refine hK.out _ _ hS (fun _ => ?_)
          clear hK K
          refine wpAnyH_take (i := 9) (v := ?vR5b9) rfl (by kernel_rfl) (by kernel_rfl) (by kernel_rfl) (fun _ _ _ h => h) (Or.inl ⟨by rfl, ?hyR5b9⟩) hS ?restR5b9
          case hyR5b9 =>
            intro w hSw
            first | (go_simp; done) | (go_simp; with_reducible rfl)
          try simp only [Act.put, List.setIfInBounds_toArray, List.set_cons_zero, List.set_cons_succ]
          refine wpAnyH_ready (rs := [10]) (by kernel_rfl) (by simp) ?_
          refine AllReadyH.cons rfl (fun K hK => ?_) AllReadyH.nil
          have hN : w9.heap[wr.heap.size]? = some (.cells #[.string noB, .int .i64 0, .int .i64 0, .slice none 0 0] cbT (0, 0)) := (hb9.block _ (lt_of_cell2 hN0)).trans hN0
          have n0 := (cell_of_row _ _ 0 _ _ (0, 0) hN).trans (show _ = some _ from rfl)
          have n1 := (cell_of_row _ _ 1 _ _ (0, 0) hN).trans (show _ = some _ from rfl)
          have n2 := (cell_of_row _ _ 2 _ _ (0, 0) hN).trans (show _ = some _ from rfl)
          have n3 := (cell_of_row _ _ 3 _ _ (0, 0) hN).trans (show _ = some _ from rfl)
          have z0 := frozen_of_row _ _ 0 _ _ hN
          have z1 := frozen_of_row _ _ 1 _ _ hN
          have z2 := frozen_of_row _ _ 2 _ _ hN
          have z3 := frozen_of_row _ _ 3 _ _ hN
          go_simp
          have hNg : wr.heap.size ≤ wr.heap.size := Nat.le_refl _
          have hS : SW wr ((((w9.setCell ⟨wr.heap.size, 0, none⟩ (.string b.name)).setCell ⟨wr.heap.size, 1, none⟩ (.int .i64 b.seats)).setCell ⟨wr.heap.size, 2, none⟩ (.int .i64 b.over)).setCell ⟨wr.heap.size, 3, none⟩ (.slice bA b.l.length b.c)) := Below.trans hS9 ((S4.but w9 wr.heap.size (.string b.name) (.int .i64 b.seats) (.int .i64 b.over) (.slice bA b.l.length b.c)).below hS9.size (fun q hq he => by have : q = wr.heap.size := he; omega))
          have hRow := S4.heap hN (.string b.name) (.int .i64 b.seats) (.int .i64 b.over) (.slice bA b.l.length b.c)
          refine hK.out _ _ hS (fun _ => ?_)
          clear hK K
          refine wpAnyH_take (i := 11) (v := ?vR5b11) rfl (by kernel_rfl) (by kernel_rfl) (by kernel_rfl) (fun _ _ _ h => h) (Or.inl ⟨by rfl, ?hyR5b11⟩) hS ?restR5b11
          case hyR5b11 =>
            intro w hSw
            first | (go_simp; done) | (go_simp; with_reducible rfl)
          try simp only [Act.put, List.setIfInBounds_toArray, List.set_cons_zero, List.set_cons_succ]
          refine wpAnyH_done (by kernel_rfl) ?_ _
          try simp only [List.getElem_toArray, List.getElem_cons_succ, List.getElem_cons_zero, List.set_cons_zero, List.set_cons_succ]
          try simp only [List.setIfInBounds_toArray, List.set_cons_zero, List.set_cons_succ]
          go_wp2_with fail
          go_meet
          exact ⟨rfl, rfl, _, rfl, Lib.hid ⟨HH.out.1.more hS, Below.trans hS5 (Below.mono hS hS5.size), row_cell (enc := encCb) (x := b) hRow (by unfold encCb; rw [← HA.out]), hvN _ hNg, lt_of_cell2 hRow⟩⟩

      case rest =>
        obtain ⟨rfl, rfl, N, rfl, HVS⟩ := hcut
        clear C1 D0 D1 D2 D3 c1 d0 d1 d2 d3 KP hvN
        obtain ⟨wa, hwa⟩ : ∃ wa, wa = wc := ⟨_, rfl⟩
        subst hwa
        have NM : Hid (∀ W, SW wa W → W.cell? ⟨N, 0, none⟩ = some (.string b.name)) := Lib.hid (fun W h => bel_cell h (HVS.out.el 0 _ rfl))
        have HSA : Hid (SW w5 wa) := Lib.hid HVS.out.sw
        go_upto_region 7 with fail
        go_loopg [9, 10] i (fun kx v9 v10 wq => ∃ (j : Nat), j + kx = i ∧ v10 = .int .i64 j ∧ v9 = .bool (tw j) ∧ SW wa wq)
        case atStart => exact ⟨0, by omega, rfl, by rw [HTW0.out], Below.refl _ _⟩
        case round =>
          obtain ⟨j, hjx, rfl, rfl, hS⟩ := hrel
          by_cases hlt2 : j < i
          · obtain ⟨y, hjc, hty⟩ := HTW.out j hlt2
            have hSq5 : SW w5 _ := Below.trans HSA.out (Below.mono hS HSA.out.size)
            have k0 := NM.out _ hS
            have c1 := Q1.out _ hSq5
            obtain ⟨b2, o2, e2, hbl2, hc2⟩ := row_get (HV5.out _ hSq5).1 hjc
            cases e2
            have d0 := hc2 0 _ rfl
            rw [Nat.add_zero] at d0
            have i4 : (j : Int) < (i : Int) := by omega
            have i5 : (j : Int) < (l.length : Int) := by omega
            have HTY := Lib.hid hty
            have HJX := Lib.hid hjx
            generalize tw j = tj at *
            clear hjc hty hc2 hjx hbl2 HTW HTW0 HT HFL HVS HV5 hSq5
            cases tj with
            | true =>
              go_wp2
              go_quiet (fail)
              go_wp2
              go_roundg (i - (j + 1))
              case measure => have := HJX.out; omega
              case rel => exact ⟨j + 1, by have := HJX.out; omega, by go_num, by rw [HTY.out]; rfl, below_drewN hS _⟩
            | false =>
            cases e1 : (y.name.toList == b.name.toList) with
            | false =>
              go_wp2
              go_quiet (fail)
              go_wp2
              go_roundg (i - (j + 1))
              case measure => have := HJX.out; omega
              case rel => exact ⟨j + 1, by have := HJX.out; omega, by go_num, by rw [HTY.out, e1]; rfl, below_drewN hS _⟩
            | true =>
              go_wp2
              go_quiet (fail)
              go_wp2
              go_roundg (i - (j + 1))
              case measure => have := HJX.out; omega
              case rel => exact ⟨j + 1, by have := HJX.out; omega, by go_num, by rw [HTY.out, e1]; rfl, below_drewN hS _⟩
          · have hij : i = j := by omega
            subst hij
            have HVS : Hid (VarS encCb w5 N b _ _ BL) := Lib.hid (HVS.out.more hS)
            clear hS hjx hlt2 HTW HTW0 NM HSA
            have n0 := HVS.out.el 0 _ rfl
            generalize tw i = twi at *
            have i4 : ¬ (i : Int) < (i : Int) := by omega
            go_upto_if 46 with (go_at_call 32; refine (KC.out _).mono ?_; rintro e w' ⟨rfl, rfl⟩)
            go_cut [5] from 11 to 86 (fun u wx => Hid (VarS encCb w5 N b wx u (BL ++ pick nm [whC (!cb) 5])))
            case first =>
              have HLn : Hid ((BL).length ≤ 100000000) := Lib.hid (by have := HFL.out; omega)
              clear HT KK HV5 HCL HBM HH n0
              cases cb with
              | true =>
                go_wp2
                go_meet
                exact Lib.hid (by rw [pick_wh nm _ 5 (by omega)]; simpa using HVS.out)
              | false =>
                go_wp2_with (at_builtin; refine wpList_rapp rtF rfl _ _ rfl HVS.out.own rfl (bel_alloc _ _) _ (5, nm) _ rfl (cs := #[.int .i64 5, .string nm]) rfl (heap_alloc_new _ _) HLn.out ?_; intro v1 w1 hO1 hC1)
                go_meet
                exact Lib.hid (by rw [pick_wh nm _ 5 (by omega)]; exact HVS.out.app hO1 hC1)
            case rest =>
              have HVS := hcut
              clear hcut n0 KC
              obtain ⟨wb, hwq⟩ : ∃ wq, wq = wc := ⟨_, rfl⟩
              subst hwq
              go_upto_if 52 with fail
              go_cut [5] from 11 to 86 (fun u wx => Hid (VarS encCb w5 N b wx u (BL ++ pick nm [whC (!cb) 5] ++ pick nm [whC twi 6])))
              case first =>
                have HLn : Hid ((BL ++ pick nm [whC (!cb) 5]).length ≤ 100000000) := Lib.hid (by have := HFL.out; have h0 := pick_le nm [whC (!cb) 5]; simp only [List.length_append, List.length_cons, List.length_nil] at h0 ⊢; omega)
                clear HT KK HV5 HCL HBM HH
                cases twi with
                | false =>
                  go_wp2
                  go_meet
                  exact Lib.hid (by rw [pick_wh nm _ 6 (by omega)]; simpa using HVS.out)
                | true =>
                  go_wp2_with (at_builtin; refine wpList_rapp rtF rfl _ _ rfl HVS.out.own rfl (bel_alloc _ _) _ (6, nm) _ rfl (cs := #[.int .i64 6, .string nm]) rfl (heap_alloc_new _ _) HLn.out ?_; intro v1 w1 hO1 hC1)
                  go_meet
                  exact Lib.hid (by rw [pick_wh nm _ 6 (by omega)]; exact HVS.out.app hO1 hC1)
              case rest =>
                have HVS := hcut
                clear hcut
                obtain ⟨wb2, hwq⟩ : ∃ wq, wq = wc := ⟨_, rfl⟩
                subst hwq
                have n0 := HVS.out.el 0 _ rfl
                have n1 := HVS.out.el 1 _ rfl
                have n2 := HVS.out.el 2 _ rfl
                have n3 := HVS.out.el 3 _ rfl
                rw [← HA.out] at n3
                go_upto_if 60 with (go_at_call 43; refine (KI.out _).mono ?_; rintro e wd ⟨rfl, hbd⟩)
                have HVS : Hid (VarS encCb w5 N b wd _ _) := Lib.hid (HVS.out.more hbd)
                clear hbd KI n0 n1 n2 n3
                go_cut [5] from 11 to 86 (fun u wx => Hid (VarS encCb w5 N b wx u (BL ++ pick nm [whC (!cb) 5] ++ pick nm [whC twi 6] ++ pick nm [whC (!sb) 2])))
                case first =>
                  have HLn : Hid ((BL ++ pick nm [whC (!cb) 5] ++ pick nm [whC twi 6]).length ≤ 100000000) := Lib.hid (by have := HFL.out; have h0 := pick_le nm [whC (!cb) 5]; have h1 := pick_le nm [whC twi 6]; simp only [List.length_append, List.length_cons, List.length_nil] at h0 h1 ⊢; omega)
                  clear HT KK HV5 HCL HBM HH
                  cases sb with
                  | true =>
                    go_wp2
                    go_meet
                    exact Lib.hid (by rw [pick_wh nm _ 2 (by omega)]; simpa using HVS.out)
                  | false =>
                    go_wp2_with (at_builtin; refine wpList_rapp rtF rfl _ _ rfl HVS.out.own rfl (bel_alloc _ _) _ (2, nm) _ rfl (cs := #[.int .i64 2, .string nm]) rfl (heap_alloc_new _ _) HLn.out ?_; intro v1 w1 hO1 hC1)
                    go_meet
                    exact Lib.hid (by rw [pick_wh nm _ 2 (by omega)]; exact HVS.out.app hO1 hC1)
                case rest =>
                  have HVS := hcut
                  clear hcut
                  obtain ⟨we, hwq⟩ : ∃ wq, wq = wc := ⟨_, rfl⟩
                  subst hwq
                  have n3 := HVS.out.el 3 _ rfl
                  go_upto_region 16 with fail
                  go_cut [75] from 11 to 86 (fun v75 wx => v75 = .bool bm ∧ wx = we)
                  case first =>
                    clear HVS HT KK HV5 HCL HH
                    cases h0 : decide ((b.l.length : Int) < 1) with
                    | true =>
                      have h0' : (b.l.length : Int) < 1 := of_decide_eq_true h0
                      have HB9 : Hid (true = bm) := Lib.hid (by rw [HBM.out, h0]; rfl)
                      go_wp2
                      go_meet
                      exact ⟨by rw [HB9.out], rfl⟩
                    | false =>
                      have h0' : ¬ (b.l.length : Int) < 1 := of_decide_eq_false h0
                      cases h9 : decide (26 < (b.l.length : Int)) with
                      | true =>
                        have h9' : 26 < (b.l.length : Int) := of_decide_eq_true h9
                        have HB9 : Hid (true = bm) := Lib.hid (by rw [HBM.out, h9, Bool.or_true])
                        go_wp2
                        go_meet
                        exact ⟨by rw [HB9.out], rfl⟩
                      | false =>
                        have h9' : ¬ 26 < (b.l.length : Int) := of_decide_eq_false h9
                        have HB9 : Hid (false = bm) := Lib.hid (by rw [HBM.out, h0, h9]; rfl)
                        go_wp2
                        go_meet
                        exact ⟨by rw [HB9.out], rfl⟩
                  case rest =>
                    obtain ⟨rfl, hwc⟩ := hcut
                    have hwc := hwc.symm
                    subst hwc
                    clear n3 HBM
                    go_upto_if 75 with fail
                    go_cut [5] from 11 to 86 (fun u wx => Hid (VarS encCb w5 N b wx u (BL ++ pick nm [whC (!cb) 5] ++ pick nm [whC twi 6] ++ pick nm [whC (!sb) 2] ++ pick nm [whC bm 4])))
                    case first =>
                      have HLn : Hid ((BL ++ pick nm [whC (!cb) 5] ++ pick nm [whC twi 6] ++ pick nm [whC (!sb) 2]).length ≤ 100000000) := Lib.hid (by have := HFL.out; have h0 := pick_le nm [whC (!cb) 5]; have h1 := pick_le nm [whC twi 6]; have h2 := pick_le nm [whC (!sb) 2]; simp only [List.length_append, List.length_cons, List.length_nil] at h0 h1 h2 ⊢; omega)
                      clear HT KK HV5 HCL HH
                      cases bm with
                      | false =>
                        go_wp2
                        go_meet
                        exact Lib.hid (by rw [pick_wh nm _ 4 (by omega)]; simpa using HVS.out)
                      | true =>
                        go_wp2_with (at_builtin; refine wpList_rapp rtF rfl _ _ rfl HVS.out.own rfl (bel_alloc _ _) _ (4, nm) _ rfl (cs := #[.int .i64 4, .string nm]) rfl (heap_alloc_new _ _) HLn.out ?_; intro v1 w1 hO1 hC1)
                        go_meet
                        exact Lib.hid (by rw [pick_wh nm _ 4 (by omega)]; exact HVS.out.app hO1 hC1)
                    case rest =>
                      have HVS := hcut
                      clear hcut
                      obtain ⟨wf, hwq⟩ : ∃ wq, wq = wc := ⟨_, rfl⟩
                      subst hwq
                      have q0 := Q0.out _ HVS.out.sw
                      have q1 := Q1.out _ HVS.out.sw
                      have HLm : Hid ((BL ++ pick nm [whC (!cb) 5] ++ pick nm [whC twi 6] ++ pick nm [whC (!sb) 2] ++ pick nm [whC bm 4]).length + CF.length ≤ 100000000) := Lib.hid (by have := HFL.out; have := HCL.out; have h0 := pick_le nm [whC (!cb) 5]; have h1 := pick_le nm [whC twi 6]; have h2 := pick_le nm [whC (!sb) 2]; have h3 := pick_le nm [whC bm 4]; simp only [List.length_append, List.length_cons, List.length_nil] at h0 h1 h2 h3 ⊢; omega)
                      go_wp2_with (first | (go_at_call 44; refine (KK.out _ HVS.out.sw).mono ?_; rintro e w10 ⟨v10, rfl, hF10, hB10⟩) | (at_builtin; refine wpList_rappl rtF rfl _ _ rfl (HVS.out.own.more hB10) rfl _ _ rfl hF10 HLm.out ?_; intro v11 w11 hO11 hC11; refine Hid.out ?_))
                      have HY : Hid (FOwn w5.heap.size w11 v11 (cabF p l (i + 1)) ∧ SW w5 w11) := Lib.hid (by rw [HT.out]; exact ⟨hO11, ((HVS.out.more hB10).app hO11 hC11).sw⟩)
                      clear HVS hO11 hC11 hB10 hF10 q0 q1
                      refine Lib.hid ?_
                      go_wp2
                      go_roundg (l.length - (i + 1))
                      case measure => have := HKX.out; omega
                      case rel => exact ⟨_, i + 1, rfl, by go_num, HNX.out, HY⟩
    · have HE : Hid (i = l.length) := Lib.hid (by omega)
      have HR : Hid (FOwn w.heap.size wr v (cabF p l l.length) ∧ Below w.heap.size w wr) := Lib.hid (by
        have h := HH.out
        rw [HE.out] at h
        exact ⟨⟨h.1.own.mono HB5.out.size, Nat.le_trans HB5.out.size h.2.size⟩, HB5.out.trans (Below.mono h.2 HB5.out.size)⟩)
      have i2 : ¬ (i : Int) < (l.length : Int) := by omega
      clear HH
      go_wp2
      go_ret
      exact ⟨_, rfl, HR.out⟩
end Go.Proofs.Ytnakdacnfbgpnaa

namespace Go.Proofs.Ytnakdacnfbgpnaa
open Go.RowKit Go.Shelf
set_option linter.unusedSimpArgs false
set_option linter.unusedVariables false

def smallF (f : Cf) : Prop := f.l.length ≤ 8 ∧ ∀ b ∈ f.l, b.l.length ≤ 30
end Go.Proofs.Ytnakdacnfbgpnaa

namespace Go.Proofs.Ytnakdacnfbgpnaa
open Go.RowKit Go.Shelf Go.Maps
set_option linter.unusedSimpArgs false
set_option linter.unusedVariables false

theorem MapK.mono {κ : Type} [DecidableEq κ] {P : Program} {k : TypeId} {en : κ → Value} {w : World} {b n m : Nat} {g : κ → Option Value} (h : MapK P k en w b n g) (hm : n ≤ m) : MapK P k en w b m g := by
  obtain ⟨es, clock, hb, F, hs, hg⟩ := h
  exact ⟨es, clock, hb, F, Nat.le_trans hs hm, hg⟩
theorem But.grownBy {w w' : World} {b : Nat} (h : But w w' (fun k => k = b)) : w.grownBy w' (some b) :=
  ⟨h.os, h.tape, h.output, h.size, fun k hk hn => h.block k hk (fun e => hn (by rw [e]))⟩
end Go.Proofs.Ytnakdacnfbgpnaa

namespace Go.Proofs.Ytnakdacnfbgpnaa
open Go.RowKit Go.Shelf
set_option linter.unusedSimpArgs false
set_option linter.unusedVariables false

set_option maxRecDepth 100000 in
set_option maxHeartbeats 16000000 in
theorem rcheck_any (A : Option Addr) (c : Nat) (l : List Cf) (w : World) (hv : CfL w (.slice A l.length c) l) (hn : l.length ≤ 8) (hok : ∀ f ∈ l, OkCf f) :
    Calls Try.prog 22 #[.slice A l.length c] w fun e w' => ∃ v', e = .returned v' ∧ FOwn w.heap.size w' v' (conF l l.length) ∧ Below w.heap.size w w' := by
  have HOK := Lib.hid hok
  have HV := Lib.hid hv
  clear hv hok
  have HV5 : Hid (∀ W, SW w W → CfL W (.slice A l.length c) l) := Lib.hid (fun W h => HV.out.more h)
  have HI : Hid (FOwn w.heap.size w (.slice none 0 0) (conF l 0) ∧ SW w w) := Lib.hid ⟨ROwn.nil (Nat.le_refl _), Below.refl _ _⟩
  go_enter Try.func22, Try.ntmps22
  go_wp2
  go_loopg [3, 4] l.length (fun kx v3 v4 wr => ∃ (v : Value) (i : Nat), v = v3 ∧ v4 = .int .i64 i ∧ i + kx = l.length ∧ Hid (FOwn w.heap.size wr v (conF l i) ∧ SW w wr))
  case atStart => exact ⟨_, 0, rfl, rfl, by omega, HI⟩
  case round =>
    obtain ⟨v, i, rfl, rfl, hkx, HH⟩ := hrel
    clear HI
    have HKX := Lib.hid hkx
    by_cases hlt : i < l.length
    · obtain ⟨f, hf⟩ : ∃ f, l[i]? = some f := ⟨_, List.getElem?_eq_getElem hlt⟩
      have HF := Lib.hid hf
      obtain ⟨b1, o1, e1, hb1, hc1⟩ := row_get (HV5.out _ HH.out.2).1 hf
      cases e1
      obtain ⟨fA, hA⟩ : ∃ A, A = f.A := ⟨_, rfl⟩
      have HA := Lib.hid hA
      have i1 : (i : Int) < (l.length : Int) := by omega
      have hox := HOK.out f (List.mem_of_getElem? hf)
      have HOX := Lib.hid hox
      have KP := Lib.hid (fun W => rplace0_any conR i W (by omega) (by decide))
      rw [con_path] at KP
      obtain ⟨tw, htw⟩ : ∃ tw : Nat → Bool, tw = fun j => anyS ((l.take j).map Cf.equip) f.equip := ⟨_, rfl⟩
      have HT : Hid (conF l (i + 1) = conF l i ++ pick (conW ++ decA i) [whC (!codeB f.equip 3 3) 5] ++ pick (conW ++ decA i) [whC (tw i) 6] ++ pick (conW ++ decA i) [whC (badN f.l.length 4) 4] ++ cabF (conW ++ decA i) f.l f.l.length) := Lib.hid (by
        rw [htw, conF_succ l i f hf, show conE l i f = [whC (!codeB f.equip 3 3) 5, whC (anyS ((l.take i).map Cf.equip) f.equip) 6, whC (badN f.l.length 4) 4] from rfl]
        simp only [List.append_assoc, ← pick_app, List.cons_append, List.nil_append])
      have HTW : Hid (∀ j (h : j < i), ∃ y, l[j]? = some y ∧ tw (j + 1) = (tw j || (y.equip.toList == f.equip.toList))) := Lib.hid (fun j h => ⟨l[j]'(by omega), List.getElem?_eq_getElem _, by
        rw [htw]
        show anyS ((l.take (j + 1)).map Cf.equip) f.equip = _
        rw [map_snoc Cf.equip l j _ (List.getElem?_eq_getElem (show j < l.length by omega)), anyS_snoc]⟩)
      have HTW0 : Hid (tw 0 = false) := Lib.hid (by rw [htw]; rfl)
      have KC := Lib.hid (fun W => rcode_any f.equip 3 3 W hox.equip)
      have hsz : 0 < (conW ++ decA i).size ∧ (conW ++ decA i).size ≤ 100 := by have := decA_size i (by omega); have e : conW.size = 7 := rfl; simp only [ByteArray.size_append]; omega
      have HFL : Hid ((conF l i).length ≤ 10000) := Lib.hid (by have := conF_le l HOK.out i; omega)
      have KK : Hid (∀ W, SW w W → Calls Try.prog 33 #[.agg #[.string f.equip, .slice fA f.l.length f.c], .string (conW ++ decA i)] W fun e w' => ∃ v', e = .returned v' ∧ FltL w' v' (cabF (conW ++ decA i) f.l f.l.length) ∧ Below W.heap.size W w') := Lib.hid (fun W h => by
        have h1 := rcabins_any f.equip f.A f.c f.l (conW ++ decA i) W ((HV5.out W h).2 f (List.mem_of_getElem? HF.out)) hox.len hox.cab hsz.1 hsz.2
        rw [← HA.out] at h1
        exact h1.mono (by rintro e w' ⟨v', rfl, h1, h2⟩; exact ⟨v', rfl, h1.rowL rtF.len, h2⟩))
      have HCL : Hid ((cabF (conW ++ decA i) f.l f.l.length).length ≤ 1000) := Lib.hid (by have := cabF_le (conW ++ decA i) f.l (fun b hb => (hox.cab b hb).len) f.l.length; have := hox.len; omega)
      have HBM : Hid (badN f.l.length 4 = (decide ((f.l.length : Int) < 1) || decide (4 < (f.l.length : Int)))) := Lib.hid rfl
      have E0 : Hid (∀ W, SW w W → W.cell? ⟨b1, o1 + i * 2, none⟩ = some (.string f.equip) ∧ W.cell? ⟨b1, o1 + i * 2 + 1, none⟩ = some (.slice fA f.l.length f.c)) := Lib.hid (fun W h => by
        obtain ⟨b2, o2, e2, hb2, hc2⟩ := row_get (HV5.out W h).1 HF.out
        cases e2
        have h0 := hc2 0 _ rfl
        have h1 := hc2 1 _ rfl
        rw [← hA] at h1
        rw [Nat.add_zero] at h0
        exact ⟨h0, h1⟩)
      generalize hBL : conF l i = BL at *
      generalize hnm : conW ++ decA i = nm at *
      generalize codeB f.equip 3 3 = cb at *
      generalize badN f.l.length 4 = bm at *
      generalize cabF nm f.l f.l.length = CF at *
      clear hb1 hc1 hf hBL hnm hkx hA hsz hox htw
      have HNX : Hid (i + 1 + (l.length - (i + 1)) = l.length) := Lib.hid (by have := HKX.out; omega)
      have HVS : Hid (FOwn w.heap.size wr v BL ∧ SW w wr) := HH
      go_upto_region 7 with (go_at_call 31; refine (KP.out _).mono ?_; rintro e wa ⟨rfl, hba⟩)
      have HVS : Hid (FOwn w.heap.size wa v BL ∧ SW w wa) := Lib.hid ⟨HVS.out.1.more hba, Below.trans HVS.out.2 (Below.mono hba HVS.out.2.size)⟩
      clear hba KP
      have HSA : Hid (SW w wa) := Lib.hid HVS.out.2
      go_loopg [6, 7] i (fun kx v6 v7 wq => ∃ (j : Nat), j + kx = i ∧ v7 = .int .i64 j ∧ v6 = .bool (tw j) ∧ SW wa wq)
      case atStart => exact ⟨0, by omega, rfl, by rw [HTW0.out], Below.refl _ _⟩
      case round =>
        obtain ⟨j, hjx, rfl, rfl, hS⟩ := hrel
        by_cases hlt2 : j < i
        · obtain ⟨y, hjc, hty⟩ := HTW.out j hlt2
          have hSq5 : SW w _ := Below.trans HSA.out (Below.mono hS HSA.out.size)
          have k0 := (E0.out _ hSq5).1
          obtain ⟨b2, o2, e2, hbl2, hc2⟩ := row_get (HV5.out _ hSq5).1 hjc
          cases e2
          have d0 := hc2 0 _ rfl
          rw [Nat.add_zero] at d0
          have i4 : (j : Int) < (i : Int) := by omega
          have i5 : (j : Int) < (l.length : Int) := by omega
          have HTY := Lib.hid hty
          have HJX := Lib.hid hjx
          generalize tw j = tj at *
          clear hjc hty hc2 hjx hbl2 HTW HTW0 HT HFL HVS HV5 hSq5 KK
          cases tj with
          | true =>
            go_wp2
            go_quiet (fail)
            go_wp2
            go_roundg (i - (j + 1))
            case measure => have := HJX.out; omega
            case rel => exact ⟨j + 1, by have := HJX.out; omega, by go_num, by rw [HTY.out]; rfl, below_drewN hS _⟩
          | false =>
          cases e1 : (y.equip.toList == f.equip.toList) with
          | false =>
            go_wp2
            go_quiet (fail)
            go_wp2
            go_roundg (i - (j + 1))
            case measure => have := HJX.out; omega
            case rel => exact ⟨j + 1, by have := HJX.out; omega, by go_num, by rw [HTY.out, e1]; rfl, below_drewN hS _⟩
          | true =>
            go_wp2
            go_quiet (fail)
            go_wp2
            go_roundg (i - (j + 1))
            case measure => have := HJX.out; omega
            case rel => exact ⟨j + 1, by have := HJX.out; omega, by go_num, by rw [HTY.out, e1]; rfl, below_drewN hS _⟩
        · have hij : i = j := by omega
          subst hij
          have HVS : Hid (FOwn w.heap.size _ v BL ∧ SW w _) := Lib.hid ⟨HVS.out.1.more hS, Below.trans HVS.out.2 (Below.mono hS HVS.out.2.size)⟩
          clear hS hjx hlt2 HTW HTW0 HSA
          obtain ⟨n0, n1⟩ := E0.out _ HVS.out.2
          generalize tw i = twi at *
          have i4 : ¬ (i : Int) < (i : Int) := by omega
          go_upto_if 41 with (go_at_call 32; refine (KC.out _).mono ?_; rintro e w' ⟨rfl, rfl⟩)
          go_cut [3] from 8 to 81 (fun u wx => Hid (FOwn w.heap.size wx u (BL ++ pick nm [whC (!cb) 5]) ∧ SW w wx))
          case first =>
            have HLn : Hid ((BL).length ≤ 100000000) := Lib.hid (by have := HFL.out; omega)
            clear HT KK HV5 HCL HBM HH n0 n1
            cases cb with
            | true =>
              go_wp2
              go_meet
              exact Lib.hid (by rw [pick_wh nm _ 5 (by omega)]; simpa using HVS.out)
            | false =>
              go_wp2_with (at_builtin; refine wpList_rapp rtF rfl _ _ rfl HVS.out.1 rfl (bel_alloc _ _) _ (5, nm) _ rfl (cs := #[.int .i64 5, .string nm]) rfl (heap_alloc_new _ _) HLn.out ?_; intro v1 w1 hO1 hC1)
              go_meet
              exact Lib.hid (by rw [pick_wh nm _ 5 (by omega)]; exact ⟨hO1, Below.trans HVS.out.2 (hC1.below (B := w.heap.size) HVS.out.1)⟩)
          case rest =>
            have HVS := hcut
            clear hcut n0 n1 KC
            obtain ⟨wb, hwq⟩ : ∃ wq, wq = wc := ⟨_, rfl⟩
            subst hwq
            go_upto_if 47 with fail
            go_cut [3] from 8 to 81 (fun u wx => Hid (FOwn w.heap.size wx u (BL ++ pick nm [whC (!cb) 5] ++ pick nm [whC twi 6]) ∧ SW w wx))
            case first =>
              have HLn : Hid ((BL ++ pick nm [whC (!cb) 5]).length ≤ 100000000) := Lib.hid (by have := HFL.out; have h0 := pick_le nm [whC (!cb) 5]; simp only [List.length_append, List.length_cons, List.length_nil] at h0 ⊢; omega)
              clear HT KK HV5 HCL HBM HH
              cases twi with
              | false =>
                go_wp2
                go_meet
                exact Lib.hid (by rw [pick_wh nm _ 6 (by omega)]; simpa using HVS.out)
              | true =>
                go_wp2_with (at_builtin; refine wpList_rapp rtF rfl _ _ rfl HVS.out.1 rfl (bel_alloc _ _) _ (6, nm) _ rfl (cs := #[.int .i64 6, .string nm]) rfl (heap_alloc_new _ _) HLn.out ?_; intro v1 w1 hO1 hC1)
                go_meet
                exact Lib.hid (by rw [pick_wh nm _ 6 (by omega)]; exact ⟨hO1, Below.trans HVS.out.2 (hC1.below (B := w.heap.size) HVS.out.1)⟩)
            case rest =>
              have HVS := hcut
              clear hcut
              obtain ⟨we, hwq⟩ : ∃ wq, wq = wc := ⟨_, rfl⟩
              subst hwq
              obtain ⟨n0, n1⟩ := E0.out _ HVS.out.2
              go_upto_region 14 with fail
              go_cut [68] from 8 to 81 (fun v68 wx => v68 = .bool bm ∧ wx = we)
              case first =>
                clear HVS HT KK HV5 HCL HH
                cases h0 : decide ((f.l.length : Int) < 1) with
                | true =>
                  have h0' : (f.l.length : Int) < 1 := of_decide_eq_true h0
                  have HB9 : Hid (true = bm) := Lib.hid (by rw [HBM.out, h0]; rfl)
                  go_wp2
                  go_meet
                  exact ⟨by rw [HB9.out], rfl⟩
                | false =>
                  have h0' : ¬ (f.l.length : Int) < 1 := of_decide_eq_false h0
                  cases h9 : decide (4 < (f.l.length : Int)) with
                  | true =>
                    have h9' : 4 < (f.l.length : Int) := of_decide_eq_true h9
                    have HB9 : Hid (true = bm) := Lib.hid (by rw [HBM.out, h9, Bool.or_true])
                    go_wp2
                    go_meet
                    exact ⟨by rw [HB9.out], rfl⟩
                  | false =>
                    have h9' : ¬ 4 < (f.l.length : Int) := of_decide_eq_false h9
                    have HB9 : Hid (false = bm) := Lib.hid (by rw [HBM.out, h0, h9]; rfl)
                    go_wp2
                    go_meet
                    exact ⟨by rw [HB9.out], rfl⟩
              case rest =>
                obtain ⟨rfl, hwc⟩ := hcut
                have hwc := hwc.symm
                subst hwc
                clear n0 n1 HBM
                go_upto_if 68 with fail
                go_cut [3] from 8 to 81 (fun u wx => Hid (FOwn w.heap.size wx u (BL ++ pick nm [whC (!cb) 5] ++ pick nm [whC twi 6] ++ pick nm [whC bm 4]) ∧ SW w wx))
                case first =>
                  have HLn : Hid ((BL ++ pick nm [whC (!cb) 5] ++ pick nm [whC twi 6]).length ≤ 100000000) := Lib.hid (by have := HFL.out; have h0 := pick_le nm [whC (!cb) 5]; have h1 := pick_le nm [whC twi 6]; simp only [List.length_append, List.length_cons, List.length_nil] at h0 h1 ⊢; omega)
                  clear HT KK HV5 HCL HH
                  cases bm with
                  | false =>
                    go_wp2
                    go_meet
                    exact Lib.hid (by rw [pick_wh nm _ 4 (by omega)]; simpa using HVS.out)
                  | true =>
                    go_wp2_with (at_builtin; refine wpList_rapp rtF rfl _ _ rfl HVS.out.1 rfl (bel_alloc _ _) _ (4, nm) _ rfl (cs := #[.int .i64 4, .string nm]) rfl (heap_alloc_new _ _) HLn.out ?_; intro v1 w1 hO1 hC1)
                    go_meet
                    exact Lib.hid (by rw [pick_wh nm _ 4 (by omega)]; exact ⟨hO1, Below.trans HVS.out.2 (hC1.below (B := w.heap.size) HVS.out.1)⟩)
                case rest =>
                  have HVS := hcut
                  clear hcut
                  obtain ⟨wf, hwq⟩ : ∃ wq, wq = wc := ⟨_, rfl⟩
                  subst hwq
                  obtain ⟨n0, n1⟩ := E0.out _ HVS.out.2
                  have HLm : Hid ((BL ++ pick nm [whC (!cb) 5] ++ pick nm [whC twi 6] ++ pick nm [whC bm 4]).length + CF.length ≤ 100000000) := Lib.hid (by have := HFL.out; have := HCL.out; have h0 := pick_le nm [whC (!cb) 5]; have h1 := pick_le nm [whC twi 6]; have h2 := pick_le nm [whC bm 4]; simp only [List.length_append, List.length_cons, List.length_nil] at h0 h1 h2 ⊢; omega)
                  go_wp2_with (first | (go_at_call 33; refine (KK.out _ HVS.out.2).mono ?_; rintro e w10 ⟨v10, rfl, hF10, hB10⟩) | (at_builtin; refine wpList_rappl rtF rfl _ _ rfl (HVS.out.1.more hB10) rfl _ _ rfl hF10 HLm.out ?_; intro v11 w11 hO11 hC11; refine Hid.out ?_))
                  have HY : Hid (FOwn w.heap.size w11 v11 (conF l (i + 1)) ∧ SW w w11) := Lib.hid (by rw [HT.out]; exact ⟨hO11, Below.trans (Below.trans HVS.out.2 (Below.mono hB10 HVS.out.2.size)) (hC11.below (B := w.heap.size) (HVS.out.1.more hB10))⟩)
                  clear HVS hO11 hC11 hB10 hF10 n0 n1
                  refine Lib.hid ?_
                  go_wp2
                  go_roundg (l.length - (i + 1))
                  case measure => have := HKX.out; omega
                  case rel => exact ⟨_, i + 1, rfl, by go_num, HNX.out, HY⟩
    · have HE : Hid (i = l.length) := Lib.hid (by omega)
      have HR : Hid (FOwn w.heap.size wr v (conF l l.length) ∧ Below w.heap.size w wr) := Lib.hid (by
        have h := HH.out
        rw [HE.out] at h
        exact h)
      have i2 : ¬ (i : Int) < (l.length : Int) := by omega
      clear HH
      go_wp2
      go_ret
      exact ⟨_, rfl, HR.out⟩
end Go.Proofs.Ytnakdacnfbgpnaa

namespace Go.Proofs.Ytnakdacnfbgpnaa
open Go.RowKit Go.Shelf
set_option linter.unusedSimpArgs false
set_option linter.unusedVariables false

/-- what a machine's values are bound to -/
structure SzCf (f : Cf) : Prop where
  equip : f.equip.size ≤ maxLen
  name : ∀ b ∈ f.l, b.name.size ≤ maxLen
  cls : ∀ b ∈ f.l, ∀ x ∈ b.l, OkCl x
theorem SzCf.ok {f : Cf} (h : SzCf f) (hs : smallF f) : OkCf f := ⟨h.equip, hs.1, fun b hb => ⟨h.name b hb, hs.2 b hb, h.cls b hb⟩⟩
end Go.Proofs.Ytnakdacnfbgpnaa

namespace Go.Proofs.Ytnakdacnfbgpnaa
open Go.RowKit Go.Shelf
set_option linter.unusedSimpArgs false
set_option linter.unusedVariables false

theorem flat_nil {α β : Type} {l : List α} {g : Nat → α → List β} {n : Nat} (h : flatG l g n = []) {i : Nat} {x : α} (hi : i < n) (hx : l[i]? = some x) : g i x = [] := by
  unfold flatG at h
  rw [List.flatMap_eq_nil_iff] at h
  have := h i (List.mem_range.2 hi)
  rw [hx] at this
  exact this
theorem pick_none {s : ByteArray} {es : List Int} (h : pick s es = []) : ∀ e ∈ es, e = 0 := by
  intro e he
  apply Classical.byContradiction
  intro hne
  have : (e, s) ∈ pick s es := List.mem_map.2 ⟨e, List.mem_filter.2 ⟨he, by simpa using hne⟩, rfl⟩
  rw [h] at this
  cases this
theorem wh_zero {b : Bool} {e : Int} (h : whC b e = 0) (he : e ≠ 0) : b = false := by
  cases b with
  | false => rfl
  | true => exact absurd h he
/-- what a right configuration is -/
structure RightF (f : Cf) : Prop where
  siz : ∀ b ∈ f.l, sizB b = true
  bad : ∀ b ∈ f.l, ∀ (k : Nat) (x : Cl), b.l[k]? = some x → badP b k x = false
  new : ∀ (i k : Nat) (b : Cb) (x : Cl), f.l[i]? = some b → b.l[k]? = some x → anyS (codesB (f.l.take i) ++ codesC (b.l.take k)) x.code = false
theorem right_of {l : List Cf} (h : conF l l.length = []) : ∀ f ∈ l, RightF f := by
  intro f hf
  obtain ⟨m, hm, rfl⟩ := List.getElem_of_mem hf
  have h1 := flat_nil h hm (List.getElem?_eq_getElem hm)
  have h2 : cabF (conW ++ decA m) l[m].l l[m].l.length = [] := (List.append_eq_nil_iff.1 h1).2
  have hcab : ∀ (i : Nat) (b : Cb), l[m].l[i]? = some b → pick (conW ++ decA m ++ cabW ++ decA i) (cabE l[m].l i b) = [] ∧ clsF (conW ++ decA m ++ cabW ++ decA i) (codesB (l[m].l.take i)) b b.l.length = [] := fun i b hb =>
    List.append_eq_nil_iff.1 (flat_nil h2 (List.getElem?_eq_some_iff.1 hb).1 hb)
  have hcls : ∀ (i k : Nat) (b : Cb) (x : Cl), l[m].l[i]? = some b → b.l[k]? = some x → ∀ e ∈ clsE (codesB (l[m].l.take i)) b k x, e = 0 := fun i k b x hb hx =>
    pick_none (flat_nil (hcab i b hb).2 (List.getElem?_eq_some_iff.1 hx).1 hx)
  refine ⟨fun b hb => ?_, fun b hb k x hx => ?_, fun i k b x hb hx => ?_⟩
  · obtain ⟨i, hi, rfl⟩ := List.getElem_of_mem hb
    have := pick_none (hcab i _ (List.getElem?_eq_getElem hi)).1 (whC (!sizB l[m].l[i]) 2) (by simp [cabE])
    have := wh_zero this (by omega)
    simpa using this
  · obtain ⟨i, hi, rfl⟩ := List.getElem_of_mem hb
    exact wh_zero (hcls i k _ x (List.getElem?_eq_getElem hi) hx (whC (badP l[m].l[i] k x) 2) (by simp [clsE])) (by omega)
  · exact wh_zero (hcls i k b x hb hx (whC (anyS (codesB (l[m].l.take i) ++ codesC (b.l.take k)) x.code) 6) (by simp [clsE])) (by omega)
end Go.Proofs.Ytnakdacnfbgpnaa

namespace Go.Proofs.Ytnakdacnfbgpnaa
open Go.RowKit Go.Shelf
set_option linter.unusedSimpArgs false
set_option linter.unusedVariables false

theorem lim_right {f : Cf} (h : RightF f) {b : Cb} (hb : b ∈ f.l) (hl : b.l.length ≤ 30) : LimP b ∧ (∀ k, k < b.l.length → 0 ≤ limA b k) ∧ ∀ k, k + 1 < b.l.length → limA b (k + 1) ≤ limA b k := by
  have hs := h.siz b hb
  obtain ⟨s1, s2, s3, s4⟩ := sizB_in hs
  have hm : mostP b = b.seats + b.over := by unfold mostP; rw [if_pos hs]
  have hk : ∀ (k : Nat) (x : Cl), b.l[k]? = some x → leastP b.l k ≤ x.prot ∧ x.prot ≤ b.seats + b.over := fun k x hx => by
    have := h.bad b hb k x hx
    unfold badP at this
    rw [Bool.or_eq_false_iff, decide_eq_false_iff_not, decide_eq_false_iff_not, hm] at this
    exact ⟨by omega, by omega⟩
  have hpos : ∀ (k : Nat) (x : Cl), b.l[k]? = some x → 0 ≤ x.prot := fun k x hx => by
    have := (hk k x hx).1
    have h0 : 0 ≤ leastP b.l k := by
      cases k with
      | zero => exact Int.le_refl _
      | succ k =>
        simp only [leastP]
        split
        · split <;> omega
        · omega
    omega
  refine ⟨⟨hs, hl, fun x hx => ?_⟩, fun k hk' => ?_, fun k hk' => ?_⟩
  · obtain ⟨k, hk', rfl⟩ := List.getElem_of_mem hx
    have h1 := hpos k _ (List.getElem?_eq_getElem hk')
    have h2 := (hk k _ (List.getElem?_eq_getElem hk')).2
    exact ⟨h1, by omega⟩
  · cases k with
    | zero => simp only [limA]; omega
    | succ k =>
      obtain ⟨x, hx⟩ : ∃ x, b.l[k]? = some x := ⟨_, List.getElem?_eq_getElem (by omega)⟩
      have := (hk k x hx).2
      simp only [limA, hx]
      omega
  · obtain ⟨x, hx⟩ : ∃ x, b.l[k]? = some x := ⟨_, List.getElem?_eq_getElem (by omega)⟩
    have h1 := hpos k x hx
    cases k with
    | zero => simp only [limA, hx]; omega
    | succ k =>
      obtain ⟨y, hy⟩ : ∃ y, b.l[k]? = some y := ⟨_, List.getElem?_eq_getElem (by omega)⟩
      have h2 := (hk (k + 1) x hx).1
      simp only [leastP, hy] at h2
      simp only [limA, hx, hy]
      split at h2 <;> omega
theorem int_at {w : World} {A : Option Addr} {n c : Nat} {l : List Int} (h : IntR w (.slice A n c) l) {k : Nat} {x : Int} (hk : l[k]? = some x) : ∃ b o, A = some ⟨b, o, none⟩ ∧ w.cell? ⟨b, o + k, none⟩ = some (.int .i64 x) := by
  obtain ⟨b, o, e, _, hc⟩ := row_get h hk
  have := hc 0 _ rfl
  rw [Nat.mul_one, Nat.add_zero] at this
  exact ⟨b, o, e, this⟩
end Go.Proofs.Ytnakdacnfbgpnaa
