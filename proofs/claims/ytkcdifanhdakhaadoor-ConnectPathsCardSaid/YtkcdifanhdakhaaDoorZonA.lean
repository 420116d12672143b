/- Walks of zone.Check and the reference's, with the words for a zone in memory. -/
import Derived.Test.YtkcdifanhdakhaaDoorRows
import Derived.Test.YtkcdifanhdakhaaDoorMem
import Derived.Test.YtkcdifanhdakhaaDoorCalD
import Derived.Test.YtkcdifanhdakhaaDoorZonP
import Derived.OwnWalk
import Derived.IntWalk
import Derived.Deep.QuietTactic
import Derived.BigQuiet
namespace Go.Proofs.YtkcdifanhdakhaaDoor
open Go.RowKit
set_option linter.unusedSimpArgs false
set_option linter.unusedVariables false

theorem bel_alloc (w : World) (o : Obj) : Below w.heap.size w (w.alloc o) := (Below.refl _ w).alloc (Nat.le_refl _) o
theorem bel_acc {f : Nat} {args : Array Value} {w w1 : World} {R : Ending → Prop} (h : Calls Tryd.prog f args w1 fun e w' => R e ∧ Below w1.heap.size w1 w') (hb : Below w.heap.size w w1) :
    Calls Tryd.prog f args w1 fun e w' => R e ∧ Below w.heap.size w w' := h.mono (by rintro e w' ⟨hr, h⟩; exact ⟨hr, hb.trans (h.mono hb.size)⟩)
abbrev zoneT : TypeId := 42
abbrev shiftT : TypeId := 114
/-- the shifts l lie in the row at A -/
def ShL (w : World) (A : Option Addr) (l : Shs) : Prop :=
  l = [] ∨ ∃ b o, A = some ⟨b, o, none⟩ ∧ b < w.heap.size ∧ ∀ i, i < l.length → w.cell? ⟨b, o + i * 2, none⟩ = some (.int .i64 (shA l i)) ∧ w.cell? ⟨b, o + i * 2 + 1, none⟩ = some (.int .i64 (shF l i))
theorem ShL.more {w w' : World} {A : Option Addr} {l : Shs} (h : ShL w A l) (hb : Below w.heap.size w w') : ShL w' A l := by
  rcases h with h | ⟨b, o, rfl, hlt, hc⟩
  · exact .inl h
  · exact .inr ⟨b, o, rfl, Nat.lt_of_lt_of_le hlt hb.size, fun i hi => ⟨(hb.cell (p := ⟨b, o + i * 2, none⟩) hlt).trans (hc i hi).1, (hb.cell (p := ⟨b, o + i * 2 + 1, none⟩) hlt).trans (hc i hi).2⟩⟩
theorem ShL.at {w : World} {A : Option Addr} {l : Shs} (h : ShL w A l) {k : Nat} (hk : k < l.length) :
    ∃ b o, A = some ⟨b, o, none⟩ ∧ b < w.heap.size ∧ ∀ i, i < l.length → w.cell? ⟨b, o + i * 2, none⟩ = some (.int .i64 (shA l i)) ∧ w.cell? ⟨b, o + i * 2 + 1, none⟩ = some (.int .i64 (shF l i)) := by
  rcases h with h | h
  · rw [h] at hk; simp at hk
  · exact h
abbrev encZ (o : Int) (A : Option Addr) (n c : Nat) : Value := .agg #[.int .i64 o, .slice A n c]

set_option maxHeartbeats 400000 in
theorem rOff_any (n : Int) (w : World) : Calls Tryd.prog 69 #[.int .i64 n] w fun e w' => e = .returned (.bool (offB n)) ∧ w = w' := by
  by_cases h1 : -840 ≤ n
  all_goals
    go_enter Tryd.func69, Tryd.ntmps69
    go_wp2
    go_ret
    exact ⟨ret_bool (by simp [offB]; omega), rfl⟩
def timeB (n : Int) : Bool := decide (0 ≤ n) && decide (n < 52596000)
/-! ### worlds that have only grown since w5, as a class: quiet walks of drawn regions -/
abbrev SW (w5 : World) : World → Prop := fun W => Below w5.heap.size w5 W
structure Wd (S : World → Prop) where
  w : World
  ok : S w
theorem quietS {P : Program} {S : World → Prop} {id : Nat} {Q : Exit → Act → World → Prop} {a : Act} {w : World} {l : List Oper} (hm : P.follows .mixedOrders = true) (hB : Region.lexB .any l.toArray = true) (hC : S w.drew)
    (h : wpQuiet P l.toArray (fun w' => ∃ x : Wd S, w' = x.w) (fun a' => ∀ w', (∃ x : Wd S, w' = x.w) → Q .normal a' w') l a) : (Code.region id l.toArray true).wp P Q a w :=
  wp_region_quiet (C := fun w' => ∃ x : Wd S, w' = x.w) hm hB ⟨⟨_, hC⟩, rfl⟩ (by simpa using h)
theorem quiet_S {P : Program} {f : FuncId} {args : Array Value} {W : World} {S : World → Prop} {v : Value} (h : Calls P f args W fun e w' => e = .returned v ∧ S w') :
    Calls P f args W fun e w'' => e = .returned v ∧ ∃ x : Wd S, w'' = x.w := h.mono (by rintro e w' ⟨he, hs⟩; exact ⟨he, ⟨w', hs⟩, rfl⟩)
theorem SW.cell {w5 : World} {a : Addr} {v : Value} (h : w5.cell? a = some v) (x : Wd (SW w5)) : x.w.cell? a = some v := (Below.cell (show Below w5.heap.size w5 x.w from x.ok) (World.block_lt_of_cell? w5 _ h)).trans h
theorem SW.call {f : Nat} {args : Array Value} {w5 : World} {v : Value} (h : ∀ W, Below w5.heap.size w5 W → Calls Tryd.prog f args W fun e w' => e = .returned v ∧ Below W.heap.size W w') (W : World) (hW : SW w5 W) :
    Calls Tryd.prog f args W fun e w' => e = .returned v ∧ SW w5 w' := (h W hW).mono (by rintro e w' ⟨he, hb⟩; exact ⟨he, hW.trans (hb.mono hW.size)⟩)
theorem SW.drew (w5 : World) : SW w5 w5.drew := (Below.refl _ _).drew
theorem cells_new (w : World) (cs : Array Value) (t : TypeId) (j : Nat) : (w.alloc (.cells cs t)).cell? ⟨w.heap.size, j, none⟩ = cs[j]? := cell_of_row _ _ j _ _ (0, 0) (heap_alloc_new w (.cells cs t))

end Go.Proofs.YtkcdifanhdakhaaDoor
