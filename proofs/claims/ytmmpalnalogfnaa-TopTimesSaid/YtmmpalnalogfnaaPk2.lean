/- Words and walks that the laws below ask: PlaC, PlaI, PlaJ0, PlaJ1, PlaJ2, PlaJ3, PlaD, FliA, FrameQ, FliB, ZonC, ZonD, FliC, PlaN, Shelf, PlaL, FliD, FliE, FliF, FliG, PerP, PerA, PerB, PerC. -/
import Derived.Deep.AppendLies
import Derived.Deep.RegionLaw
import Derived.Shelf.Abstract
import Derived.Deep.LoopGhost
import Derived.WalkKit
import Derived.ProofKit
import Derived.OpenShut
import Derived.ShutString
import Derived.Carry
import Derived.SizedLaws
import Derived.SliceStrings
import Derived.Lib.SmallJoins
import Derived.Deep.SlicePairs
import Derived.Test.YtmmpalnalogfnaaRows
import Derived.ChangeMaps5
import Derived.ChangeSlices
import Derived.Deep.CutRange
import Derived.Shelf.Small.Wraps
import Derived.Test.YtmmpalnalogfnaaProg
import Derived.Deep.RegionHeld3
import Derived.Deep.Onto
import Derived.Lib.ItoaLen
import Derived.OwnWalk
import Derived.IntWalk
import Derived.Deep.QuietTactic
import Derived.BigQuiet
import Derived.Test.YtmmpalnalogfnaaPk1
/- Walks of Country, Clone and Find. -/
namespace Go.Proofs.Ytmmpalnalogfnaa
open Go.RowKit Go.Shelf
set_option linter.unusedSimpArgs false
set_option linter.unusedVariables false

theorem info_shift : (Try.prog.info? shiftT).map (fun i => (i.zero, i.size, i.bytes)) = some (some (.agg #[.int .i64 0, .int .i64 0]), 2, 16) := by kernel_rfl
def cellsH (l : Shs) : List Value := l.flatMap fun x => [.int .i64 x.1, .int .i64 x.2]
theorem cellsH_len (l : Shs) : (cellsH l).length = l.length * 2 := by
  induction l with
  | nil => rfl
  | cons x r ih => simp only [cellsH, List.flatMap_cons, List.length_append, List.length_cons, List.length_nil] at ih ⊢; omega
theorem cellsH_at : ∀ (l : Shs) (i : Nat) (h : i < l.length), (cellsH l)[i * 2]? = some (.int .i64 (shA l i)) ∧ (cellsH l)[i * 2 + 1]? = some (.int .i64 (shF l i))
  | [], i, h => by simp at h
  | x :: r, 0, h => by simp [cellsH, shA, shF]
  | x :: r, i + 1, h => by
    have ih := cellsH_at r i (by simpa using h)
    have e : cellsH (x :: r) = .int .i64 x.1 :: .int .i64 x.2 :: cellsH r := by simp [cellsH]
    have e2 : shA (x :: r) (i + 1) = shA r i := by simp [shA]
    have e3 : shF (x :: r) (i + 1) = shF r i := by simp [shF]
    rw [e, e2, e3, show (i + 1) * 2 = i * 2 + 1 + 1 by omega, show i * 2 + 1 + 1 + 1 = (i * 2 + 1) + 1 + 1 by omega]
    simp only [List.getElem?_cons_succ]
    exact ih
theorem ShL.of_own {B : Nat} {w : World} {g cap : Nat} {l : Shs} (h : w.ownsRow B shiftT 2 (.slice (some ⟨g, 0, none⟩) l.length cap) l.length (cellsH l)) (hg : g < w.heap.size) : ShL w (some ⟨g, 0, none⟩) l := by
  refine .inr ⟨g, 0, rfl, hg, fun i hi => ?_⟩
  have hc := cellsH_at l i hi
  have hadd : ∀ j, (⟨g, 0, none⟩ : Addr).add j = ⟨g, 0 + j, none⟩ := fun j => by unfold Addr.add; split <;> simp_all
  have a0 := h.cells (g := g) rfl _ _ hc.1
  have a1 := h.cells (g := g) rfl _ _ hc.2
  rw [hadd] at a0 a1
  exact ⟨a0, by rw [Nat.add_assoc]; exact a1⟩

theorem nil_yes (n c : Nat) (w : World) : (binOp .eql 42 (.slice none n c) (.slice none 0 0)).run Try.prog w = .ok (.bool true) w := by kernel_rfl
theorem nil_no (a : Addr) (n c : Nat) (w : World) : (binOp .eql 42 (.slice (some a) n c) (.slice none 0 0)).run Try.prog w = .ok (.bool false) w := by kernel_rfl
theorem ShL.news {w : World} {ad : Addr} {l : Shs} (h : ShL w (some ad) l) : ∀ j u, (cellsH l)[j]? = some u → w.cell? (ad.add j) = some u := by
  intro j u hu
  have hj : j < l.length * 2 := by rw [← cellsH_len]; exact (List.getElem?_eq_some_iff.1 hu).1
  rcases h with h | ⟨b, o, e, _, hc⟩
  · rw [h] at hj; simp at hj
  · cases e
    have hadd : ∀ j, (⟨b, o, none⟩ : Addr).add j = ⟨b, o + j, none⟩ := fun j => by unfold Addr.add; split <;> simp_all
    rw [hadd]
    obtain ⟨m, hm⟩ : ∃ m, j = m * 2 ∨ j = m * 2 + 1 := ⟨j / 2, by omega⟩
    rcases hm with rfl | rfl
    · rw [(cellsH_at l m (by omega)).1] at hu
      cases hu
      exact (hc m (by omega)).1
    · rw [(cellsH_at l m (by omega)).2] at hu
      cases hu
      have := (hc m (by omega)).2
      rw [Nat.add_assoc] at this
      exact this
theorem cellsH_one (l : Shs) : ∀ u ∈ cellsH l, u.oneCell' = true := by
  intro u hu
  simp only [cellsH, List.mem_flatMap] at hu
  obtain ⟨x, _, hx⟩ := hu
  simp at hx
  rcases hx with rfl | rfl <;> rfl

set_option maxRecDepth 100000 in
set_option maxHeartbeats 2000000 in
theorem clone_any (A : Option Addr) (c : Nat) (l : Shs) (w : World) (hl : l.length ≤ 300) (hL : ShL w A l) :
    Calls Try.prog 35 #[.slice A l.length c] w fun e w' => ∃ A' c', e = .returned (.slice A' l.length c') ∧ ShL w' A' l ∧ Below w.heap.size w w' ∧ (A' = none ∨ ∃ g, A' = some ⟨g, 0, none⟩ ∧ w.heap.size ≤ g) := by
  obtain ⟨i, hi, hz, hz1, hz2⟩ := info_parts info_shift
  cases A with
  | none =>
    have h0 : l = [] := by
      rcases hL with h | ⟨b, o, h, _⟩
      · exact h
      · cases h
    subst h0
    have n1 := nil_yes 0 c w
    go_enter Try.func35, Try.ntmps35
    go_wp2
    go_ret
    exact ⟨none, 0, rfl, .inl rfl, Below.refl _ _, .inl rfl⟩
  | some ad =>
    have n1 := nil_no ad l.length c w
    have hb0 := bel_alloc w (.cells #[] shiftT)
    by_cases h0 : l = []
    · subst h0
      have n1 := nil_no ad 0 c w
      go_enter Try.func35, Try.ntmps35
      go_wp2
      go_ret
      exact ⟨some ⟨w.heap.size, 0, none⟩, 0, rfl, .inl rfl, hb0, .inr ⟨_, rfl, Nat.le_refl _⟩⟩
    · have hlp : 0 < l.length := List.length_pos_iff.2 h0
      have HN := Lib.hid ((hL.more hb0).news)
      have HC := Lib.hid (cellsH_len l)
      have HO := Lib.hid (World.ownsRow_made (base := w.heap.size) (e := shiftT) (size := 2) w #[] 0 (Nat.le_refl _) (by unfold maxLen; omega) rfl)
      have hsz : w.heap.size ≤ (w.alloc (.cells #[] shiftT)).heap.size := hb0.size
      clear h0 hL
      go_enter Try.func35, Try.ntmps35
      go_wp2_with (refine wpList_append_lies _ rfl _ _ 42 rfl w.heap.size shiftT i (.agg #[.int .i64 0, .int .i64 0]) 2 16 Try.underlying42 hi hz hz1 hz2 rfl (by omega) _ 0 [] rfl HO.out ad l.length c (cellsH l) rfl HC.out HN.out (cellsH_one l) hlp (by unfold maxLen; omega) (by omega) hsz _ rfl ?_; intro g cap w' hown hgrow _ hgl)
      go_ret
      have e : 0 + l.length = l.length := Nat.zero_add _
      rw [e, List.nil_append] at hown
      exact ⟨some ⟨g, 0, none⟩, cap, by simp, ShL.of_own hown hgl, hb0.grown hgrow hb0.size (fun k hk => by cases hk; exact Nat.le_refl _), .inr ⟨g, rfl, (hown.lt g rfl).1⟩⟩

end Go.Proofs.Ytmmpalnalogfnaa

/- Walks of the queue's Pop and Push. -/
namespace Go.Proofs.Ytmmpalnalogfnaa
open Go.RowKit Go.Shelf
set_option linter.unusedSimpArgs false
set_option linter.unusedVariables false

end Go.Proofs.Ytmmpalnalogfnaa

/- Walks of container/heap over the queue. -/
namespace Go.Proofs.Ytmmpalnalogfnaa
open Go.RowKit Go.Shelf
set_option linter.unusedSimpArgs false
set_option linter.unusedVariables false

end Go.Proofs.Ytmmpalnalogfnaa

/- Walks of container/heap: up. -/
namespace Go.Proofs.Ytmmpalnalogfnaa
open Go.RowKit Go.Shelf
set_option linter.unusedSimpArgs false
set_option linter.unusedVariables false

end Go.Proofs.Ytmmpalnalogfnaa

/- Walks of container/heap: down, Push, Pop. -/
namespace Go.Proofs.Ytmmpalnalogfnaa
open Go.RowKit Go.Shelf
set_option linter.unusedSimpArgs false
set_option linter.unusedVariables false

end Go.Proofs.Ytmmpalnalogfnaa

/- Walks of container/heap: Push, Pop. -/
namespace Go.Proofs.Ytmmpalnalogfnaa
open Go.RowKit Go.Shelf
set_option linter.unusedSimpArgs false
set_option linter.unusedVariables false

theorem But.weak {w w' : World} {X Y : Nat → Prop} (h : But w w' X) (hx : ∀ k, X k → Y k) : But w w' Y := ⟨h.os, h.tape, h.output, h.size, fun k hk hn => h.block k hk fun hy => hn (hx k hy)⟩
end Go.Proofs.Ytmmpalnalogfnaa

/- Walk of Find. -/
namespace Go.Proofs.Ytmmpalnalogfnaa
open Go.RowKit Go.Shelf
set_option linter.unusedSimpArgs false
set_option linter.unusedVariables false

theorem frozen_more {w w' : World} {b j : Nat} (hb : Below w.heap.size w w') (hlt : b < w.heap.size) (h : w.frozen? ⟨b, j, none⟩ = false) : w'.frozen? ⟨b, j, none⟩ = false := (World.frozen?_of_block (a := ⟨b, j, none⟩) (hb.block b hlt)).trans h
theorem ShL.but {w w' : World} {X : Nat → Prop} {A : Option Addr} {l : Shs} (h : ShL w A l) (hb : But w w' X) (hA : A = none ∨ ∃ g, A = some ⟨g, 0, none⟩ ∧ ¬ X g) : ShL w' A l := by
  rcases h with h | ⟨b, o, rfl, hlt, hc⟩
  · exact .inl h
  · have hx : ¬ X b := by
      rcases hA with h | ⟨g, e, hx⟩
      · cases h
      · cases e; exact hx
    exact .inr ⟨b, o, rfl, Nat.lt_of_lt_of_le hlt hb.size, fun i hi => ⟨(World.cell?_of_block (a := ⟨b, o + i * 2, none⟩) (hb.block b hlt hx)).trans (hc i hi).1, (World.cell?_of_block (a := ⟨b, o + i * 2 + 1, none⟩) (hb.block b hlt hx)).trans (hc i hi).2⟩⟩

/-- five stores into a block of an airport -/
def S5 (w : World) (N : Nat) (v0 v1 v2 v3 v4 : Value) : World := ((((w.setCell ⟨N, 0, none⟩ v0).setCell ⟨N, 1, none⟩ v1).setCell ⟨N, 2, none⟩ v2).setCell ⟨N, 3, none⟩ v3).setCell ⟨N, 4, none⟩ v4
theorem S5.heap {w : World} {N : Nat} {a0 a1 a2 a3 a4 : Value} (h : w.heap[N]? = some (.cells #[a0, a1, a2, a3, a4] airT (0, 0))) (v0 v1 v2 v3 v4 : Value) : (S5 w N v0 v1 v2 v3 v4).heap[N]? = some (.cells #[v0, v1, v2, v3, v4] airT (0, 0)) := by
  have e1 := heap_setCell_same w N 0 _ airT v0 h
  have e2 := heap_setCell_same _ N 1 _ airT v1 e1
  have e3 := heap_setCell_same _ N 2 _ airT v2 e2
  have e4 := heap_setCell_same _ N 3 _ airT v3 e3
  have e5 := heap_setCell_same _ N 4 _ airT v4 e4
  exact e5
theorem S5.but (w : World) (N : Nat) (v0 v1 v2 v3 v4 : Value) : But w (S5 w N v0 v1 v2 v3 v4) (fun k => k = N) :=
  ((((But.setCell w N 0 v0).trans (But.setCell _ N 1 v1) (fun _ _ h => h)).trans (But.setCell _ N 2 v2) (fun _ _ h => h)).trans (But.setCell _ N 3 v3) (fun _ _ h => h)).trans (But.setCell _ N 4 v4) (fun _ _ h => h)
end Go.Proofs.Ytmmpalnalogfnaa

/- Words for flights; walks of flight's leaves. -/
namespace Go.Proofs.Ytmmpalnalogfnaa
open Go.RowKit Go.Shelf
set_option linter.unusedSimpArgs false
set_option linter.unusedVariables false

/-- a leg -/
structure Lg where
  f : ByteArray
  t : ByteArray
  dep : Int
  arr : Int
  eq : ByteArray
abbrev legT : TypeId := 52
abbrev fliT : TypeId := 30
def encLg (x : Lg) : List Value := [.string x.f, .string x.t, .int .i64 x.dep, .int .i64 x.arr, .string x.eq]
abbrev LegL (w : World) (v : Value) (l : List Lg) : Prop := RowL 5 encLg w v l
/-- a flight by value -/
structure FV where
  car : ByteArray
  num : Int
  pf : Int
  pt : Int
  pd : Int
  A : Option Addr
  c : Nat
  lg : List Lg
abbrev encFl (f : FV) : Value := .agg #[.string f.car, .int .i64 f.num, .int .i64 f.pf, .int .i64 f.pt, .int .i64 f.pd, .slice f.A f.lg.length f.c]
structure OkG (x : Lg) : Prop where
  f : x.f.size ≤ maxLen
  t : x.t.size ≤ maxLen
  eq : x.eq.size ≤ maxLen
  dep : -9223372036854775808 ≤ x.dep ∧ x.dep ≤ 9223372036854775807
  arr : -9223372036854775808 ≤ x.arr ∧ x.arr ≤ 9223372036854775807
theorem LegL.get {w : World} {A : Option Addr} {n c : Nat} {l : List Lg} (h : LegL w (.slice A n c) l) {k : Nat} (hk : k < l.length) : ∃ b o x, A = some ⟨b, o, none⟩ ∧ b < w.heap.size ∧ l[k]? = some x ∧
    w.cell? ⟨b, o + k * 5, none⟩ = some (.string x.f) ∧ w.cell? ⟨b, o + k * 5 + 1, none⟩ = some (.string x.t) ∧ w.cell? ⟨b, o + k * 5 + 2, none⟩ = some (.int .i64 x.dep) ∧ w.cell? ⟨b, o + k * 5 + 3, none⟩ = some (.int .i64 x.arr) ∧ w.cell? ⟨b, o + k * 5 + 4, none⟩ = some (.string x.eq) := by
  obtain ⟨b, o, h1, h2, h3⟩ := h.at rfl hk
  exact ⟨b, o, l[k], h1, h2, List.getElem?_eq_getElem hk, h3 0 _ rfl, h3 1 _ rfl, h3 2 _ rfl, h3 3 _ rfl, h3 4 _ rfl⟩

def numB (n : Int) : Bool := decide (1 ≤ n) && decide (n ≤ 9999)
def cntB (n : Nat) : Bool := decide (1 ≤ n) && decide (n ≤ 6)
def minB (n : Int) : Bool := decide (-1440 ≤ n) && decide (n ≤ 5759)
end Go.Proofs.Ytmmpalnalogfnaa

/- What a row of flights that lists no variable asks besides the walks: arguments opened (places, flights). -/
namespace Go.Proofs.Ytmmpalnalogfnaa
open Go.ChangeShapes Go.WideShapes Go.ChangeAt Go.RowKit
set_option linter.unusedSimpArgs false
set_option linter.unusedVariables false

theorem own : ownKnob Try.prog.godebug = none := by kernel_rfl
theorem laidOut : laidOutB Try.prog = true := by kernel_rfl
/-! ### Places among the arguments -/
theorem int_bounds {a : Int} (h : (Lit.int .i64 a).wf = true) : -9223372036854775808 ≤ a ∧ a ≤ 9223372036854775807 := by
  have e1 : IntKind.i64.min = -9223372036854775808 := rfl
  have e2 : IntKind.i64.max = 9223372036854775807 := rfl
  simp only [Lit.wf, e1, e2, Bool.and_eq_true, decide_eq_true_eq] at h
  omega
theorem cells_string : Try.prog.cellsOf 9 = 1 := by kernel_rfl
theorem cells_int : Try.prog.cellsOf 3 = 1 := by kernel_rfl
theorem cells_shift : Try.prog.cellsOf 80 = 2 := by kernel_rfl
theorem cells_zone : Try.prog.cellsOf 44 = 2 := by kernel_rfl
theorem cells_shs : Try.prog.cellsOf 42 = 1 := by kernel_rfl
theorem cells_air : Try.prog.cellsOf 46 = 5 := by kernel_rfl
theorem cells_dst : Try.prog.cellsOf 105 = 3 := by kernel_rfl
theorem cells_places : Try.prog.cellsOf 25 = 2 := by kernel_rfl
theorem shs_at (f : Nat → Int × Int) (n i : Nat) (h : i < n) : ((List.range n).map f).getD i (0, 0) = f i := by
  rw [List.getD_eq_getElem?_getD, List.getElem?_map, List.getElem?_range h]; rfl
theorem open_shs {H : Type} {enc : TypeId × Value → H} {W : World} {n : Nat} {v : Value} {y : DataW H × List MemPlace} (h : DataW.trod enc Try.prog W 0 (fun _ => true) true n 42 [v] = some y) :
    ∃ (A : Option Addr) (c : Nat) (l : Shs), v = .slice A l.length c ∧ ShL W A l ∧ (∀ k, k < l.length → -9223372036854775808 ≤ shA l k ∧ shA l k ≤ 9223372036854775807) ∧ l.length < 9223372036854775808 := by
  rcases Deep.open_slice_pairs Try.underlying42 Try.underlying80 cells_shift rfl rfl cells_int cells_int h with ⟨hcs, rfl⟩ | ⟨a, len, cap, m', n, V0, V1, D0, D1, P0, P1, hcs, _, hl, hm, hmm, rfl, hx⟩
  · simp at hcs
    subst hcs
    exact ⟨none, 0, [], rfl, .inl rfl, fun k hk => by simp at hk, by simp⟩
  · simp at hcs
    subst hcs
    simp at hmm
    subst hmm
    have em : maxLen = 9223372036854775807 := by decide
    have each : ∀ i, i < m' → ∃ q : Int × Int, V0 i = .int .i64 q.1 ∧ V1 i = .int .i64 q.2 ∧ -9223372036854775808 ≤ q.1 ∧ q.1 ≤ 9223372036854775807 := fun i hi => by
      obtain ⟨_, _, g0, g1⟩ := hx i hi
      obtain ⟨x, e0, _, w0⟩ := DataW.trod_int Try.underlying3 g0
      obtain ⟨y, e1, _, w1⟩ := DataW.trod_int Try.underlying3 g1
      simp at e0 e1
      exact ⟨(x, y), e0, e1, int_bounds w0⟩
    obtain ⟨f, hf⟩ := Deep.choose_lt each
    have el : ((List.range len).map f).length = len := by simp
    refine ⟨some a, m', (List.range len).map f, by rw [el], ?_, ?_, by rw [el]; omega⟩
    · rcases Nat.eq_zero_or_pos len with h0 | h0
      · left; rw [h0]; rfl
      · right
        obtain ⟨b, off, spot⟩ := a
        have h1 := (hx 0 (by omega)).1
        have hspot : spot = none := by simpa [Addr.add] using World.cell?_spot h1
        subst hspot
        have hadd : ∀ i, (⟨b, off, none⟩ : Addr).add i = ⟨b, off + i, none⟩ := fun i => by unfold Addr.add; split <;> simp_all
        refine ⟨b, off, rfl, by simpa [Addr.add] using World.block_lt_of_cell? _ _ h1, fun i hi => ?_⟩
        rw [el] at hi
        obtain ⟨g0, g1, _, _⟩ := hx i (by omega)
        obtain ⟨e0, e1, _⟩ := hf i (by omega)
        rw [hadd, e0] at g0
        rw [hadd, e1] at g1
        unfold shA shF
        rw [shs_at f len i hi]
        exact ⟨g0, by rw [Nat.add_assoc]; exact g1⟩
    · intro k hk
      rw [el] at hk
      unfold shA
      rw [shs_at f len k hk]
      exact (hf k (by omega)).2.2
instance : Inhabited Air := ⟨airZ⟩
instance : Inhabited Dst := ⟨⟨noB, noB, 0⟩⟩
theorem len2 {α : Type} : ∀ {l : List α}, l.length = 2 → ∃ a b, l = [a, b]
  | [a, b], _ => ⟨a, b, rfl⟩
theorem len3 {α : Type} : ∀ {l : List α}, l.length = 3 → ∃ a b c, l = [a, b, c]
  | [a, b, c], _ => ⟨a, b, c, rfl⟩
theorem len4 {α : Type} : ∀ {l : List α}, l.length = 4 → ∃ a b c d, l = [a, b, c, d]
  | [a, b, c, d], _ => ⟨a, b, c, d, rfl⟩
theorem len5 {α : Type} : ∀ {l : List α}, l.length = 5 → ∃ a b c d e, l = [a, b, c, d, e]
  | [a, b, c, d, e], _ => ⟨a, b, c, d, e, rfl⟩
set_option maxRecDepth 100000 in
theorem open_air {H : Type} {enc : TypeId × Value → H} {W : World} {n b o : Nat} {cs : List Value} {y : DataW H × List MemPlace} (hc : W.cells? 0 ⟨b, o, none⟩ 5 = some cs) (h : DataW.trod enc Try.prog W 0 (fun _ => true) true n 46 cs = some y) :
    ∃ a : Air, AirAt W b o a ∧ OkA a := by
  obtain ⟨_, hlen, hcell⟩ := World.cells?_some hc
  obtain ⟨xs, k, _, _, _, hxl, hf⟩ := DataW.trod_struct Try.underlying46 h
  obtain ⟨y0, y1, y2, y3, rfl⟩ := len4 hxl
  obtain ⟨v0, v1, v2, v3, v4, rfl⟩ := len5 hlen
  all_goals
    have g0 := hf 0 _ rfl
    have g1 := hf 1 _ rfl
    have g2 := hf 2 _ rfl
    have g3 := hf 3 _ rfl
    simp [cells_string, cells_zone] at g0 g1 g2 g3
    obtain ⟨s0, e0, _, z0⟩ := DataW.trod_string Try.underlying9 g0
    obtain ⟨s1, e1, _, z1⟩ := DataW.trod_string Try.underlying9 g1
    obtain ⟨s2, e2, _, z2⟩ := DataW.trod_string Try.underlying9 g2
    obtain ⟨zs, k2, _, _, _, hzl, hz⟩ := DataW.trod_struct Try.underlying44 g3
    obtain ⟨u0, u1, rfl⟩ := len2 hzl
    all_goals
      have q0 := hz 0 _ rfl
      have q1 := hz 1 _ rfl
      simp [cells_int, cells_shs] at q0 q1
      obtain ⟨x, e3, _, w3⟩ := DataW.trod_int Try.underlying3 q0
      obtain ⟨A, c, l, e4, hL, hr, hl⟩ := open_shs q1
      simp at e0 e1 e2 e3
      subst e0 e1 e2 e3 e4
      have hadd : ∀ j, (⟨b, o, none⟩ : Addr).add j = ⟨b, o + j, none⟩ := fun j => by unfold Addr.add; split <;> simp_all
      have c0 := hcell 0 (by omega)
      have c1 := hcell 1 (by omega)
      have c2 := hcell 2 (by omega)
      have c3 := hcell 3 (by omega)
      have c4 := hcell 4 (by omega)
      rw [hadd] at c0 c1 c2 c3 c4
      exact ⟨⟨s0, s1, s2, x, A, c, l⟩, ⟨by simpa using c0, by simpa using c1, by simpa using c2, by simpa using c3, by simpa using c4, hL⟩, ⟨z0, z1, z2, hl, hr⟩⟩
set_option maxRecDepth 100000 in
theorem open_dst {H : Type} {enc : TypeId × Value → H} {W : World} {n b o : Nat} {cs : List Value} {y : DataW H × List MemPlace} (hc : W.cells? 0 ⟨b, o, none⟩ 3 = some cs) (h : DataW.trod enc Try.prog W 0 (fun _ => true) true n 105 cs = some y) :
    ∃ d : Dst, DstAt W b o d ∧ OkD d := by
  obtain ⟨_, hlen, hcell⟩ := World.cells?_some hc
  obtain ⟨xs, k, _, _, _, hxl, hf⟩ := DataW.trod_struct Try.underlying105 h
  obtain ⟨y0, y1, y2, rfl⟩ := len3 hxl
  obtain ⟨v0, v1, v2, rfl⟩ := len3 hlen
  all_goals
    have g0 := hf 0 _ rfl
    have g1 := hf 1 _ rfl
    have g2 := hf 2 _ rfl
    simp [cells_string, cells_int] at g0 g1 g2
    obtain ⟨s0, e0, _, z0⟩ := DataW.trod_string Try.underlying9 g0
    obtain ⟨s1, e1, _, z1⟩ := DataW.trod_string Try.underlying9 g1
    obtain ⟨x, e2, _, w2⟩ := DataW.trod_int Try.underlying3 g2
    simp at e0 e1 e2
    subst e0 e1 e2
    have hadd : ∀ j, (⟨b, o, none⟩ : Addr).add j = ⟨b, o + j, none⟩ := fun j => by unfold Addr.add; split <;> simp_all
    have c0 := hcell 0 (by omega)
    have c1 := hcell 1 (by omega)
    have c2 := hcell 2 (by omega)
    rw [hadd] at c0 c1 c2
    exact ⟨⟨s0, s1, x⟩, ⟨by simpa using c0, by simpa using c1, by simpa using c2⟩, ⟨z0, z1⟩⟩
theorem list_at {α : Type} (f : Nat → α) (n i : Nat) (a : α) (h : ((List.range n).map f)[i]? = some a) : i < n ∧ a = f i := by
  have hi : i < n := by have := (List.getElem?_eq_some_iff.1 h).1; simpa using this
  rw [List.getElem?_map, List.getElem?_range hi] at h
  exact ⟨hi, (Option.some.inj h).symm⟩
set_option maxRecDepth 100000 in
/-- places by value, opened -/
theorem open_places {H : Type} {enc : TypeId × Value → H} {W : World} {b0 : Nat} {v : Value} {d : DataW H} {p : List MemPlace} (hv : Value.okWide Try.prog W .any b0 25 v) (h : DataW.Trod enc Try.prog W 0 (fun _ => true) true 25 v d p) :
    ∃ pv : PV, v = encP pv ∧ PlL W pv ∧ (∀ a ∈ pv.l, OkA a) ∧ (∀ d ∈ pv.ds, OkD d) ∧ pv.l.length < 9223372036854775808 ∧ pv.ds.length < 9223372036854775808 := by
  have em : maxLen = 9223372036854775807 := by decide
  obtain ⟨v0, v1, y0, y1, m, rfl, rfl, rfl, hy0, hy1⟩ := Joins.open_agg2 Try.underlying25 (by kernel_rfl) cells_places hv h
  have hA : ∃ (A : Option Addr) (c : Nat) (l : List Air), v0 = .slice A l.length c ∧ AirL W A l ∧ (∀ a ∈ l, OkA a) ∧ l.length < 9223372036854775808 := by
    rcases Deep.open_slice Try.underlying22 hy0 with ⟨hcs, _⟩ | ⟨a, len, cap, m', n, D, Pl, hcs, _, hl, hm, hmm, _, hx⟩
    · simp at hcs
      exact ⟨none, 0, [], hcs, .inl rfl, fun a ha => by simp at ha, by simp⟩
    · simp at hcs hmm
      subst hcs hmm
      rcases Nat.eq_zero_or_pos len with h0 | h0
      · exact ⟨some a, m', [], by rw [h0]; rfl, .inl rfl, fun a ha => by simp at ha, by simp⟩
      obtain ⟨b, off, spot⟩ := a
      obtain ⟨cs0, hc0, _⟩ := hx 0 (by omega)
      have hspot : spot = none := by
        rw [cells_air] at hc0
        obtain ⟨_, hl0, hcell⟩ := World.cells?_some hc0
        have h1 := hcell 0 (by omega)
        rw [List.getElem?_eq_getElem (by omega)] at h1
        simpa [Addr.add] using World.cell?_spot h1
      subst hspot
      have hadd : ∀ i, (⟨b, off, none⟩ : Addr).add i = ⟨b, off + i, none⟩ := fun i => by unfold Addr.add; split <;> simp_all
      have each : ∀ i, i < len → ∃ a : Air, AirAt W b (off + i * 5) a ∧ OkA a := fun i hi => by
        obtain ⟨cs', h1, h2⟩ := hx i (by omega)
        rw [cells_air, hadd] at h1
        exact open_air h1 h2
      obtain ⟨f, hf⟩ := Deep.choose_lt each
      have el : ((List.range len).map f).length = len := by simp
      refine ⟨some ⟨b, off, none⟩, m', (List.range len).map f, by rw [el], .inr ⟨b, off, rfl, World.block_lt_of_cell? _ _ (hf 0 h0).1.c0, fun i a hi => ?_⟩, fun a ha => ?_, by rw [el]; omega⟩
      · obtain ⟨h1, rfl⟩ := list_at f len i a hi
        exact (hf i h1).1
      · obtain ⟨i, hi, rfl⟩ := List.mem_map.1 ha
        exact (hf i (List.mem_range.1 hi)).2
  have hD : ∃ (A : Option Addr) (c : Nat) (l : List Dst), v1 = .slice A l.length c ∧ DstL W A l ∧ (∀ a ∈ l, OkD a) ∧ l.length < 9223372036854775808 := by
    rcases Deep.open_slice Try.underlying23 hy1 with ⟨hcs, _⟩ | ⟨a, len, cap, m', n, D, Pl, hcs, _, hl, hm, hmm, _, hx⟩
    · simp at hcs
      exact ⟨none, 0, [], hcs, .inl rfl, fun a ha => by simp at ha, by simp⟩
    · simp at hcs hmm
      subst hcs hmm
      rcases Nat.eq_zero_or_pos len with h0 | h0
      · exact ⟨some a, m', [], by rw [h0]; rfl, .inl rfl, fun a ha => by simp at ha, by simp⟩
      obtain ⟨b, off, spot⟩ := a
      obtain ⟨cs0, hc0, _⟩ := hx 0 (by omega)
      have hspot : spot = none := by
        rw [cells_dst] at hc0
        obtain ⟨_, hl0, hcell⟩ := World.cells?_some hc0
        have h1 := hcell 0 (by omega)
        rw [List.getElem?_eq_getElem (by omega)] at h1
        simpa [Addr.add] using World.cell?_spot h1
      subst hspot
      have hadd : ∀ i, (⟨b, off, none⟩ : Addr).add i = ⟨b, off + i, none⟩ := fun i => by unfold Addr.add; split <;> simp_all
      have each : ∀ i, i < len → ∃ a : Dst, DstAt W b (off + i * 3) a ∧ OkD a := fun i hi => by
        obtain ⟨cs', h1, h2⟩ := hx i (by omega)
        rw [cells_dst, hadd] at h1
        exact open_dst h1 h2
      obtain ⟨f, hf⟩ := Deep.choose_lt each
      have el : ((List.range len).map f).length = len := by simp
      refine ⟨some ⟨b, off, none⟩, m', (List.range len).map f, by rw [el], .inr ⟨b, off, rfl, World.block_lt_of_cell? _ _ (hf 0 h0).1.c0, fun i a hi => ?_⟩, fun a ha => ?_, by rw [el]; omega⟩
      · obtain ⟨h1, rfl⟩ := list_at f len i a hi
        exact (hf i h1).1
      · obtain ⟨i, hi, rfl⟩ := List.mem_map.1 ha
        exact (hf i (List.mem_range.1 hi)).2
  obtain ⟨A, ca, l, rfl, h1, h2, h3⟩ := hA
  obtain ⟨D, cd, ds, rfl, h4, h5, h6⟩ := hD
  exact ⟨⟨A, ca, l, D, cd, ds⟩, rfl, ⟨h1, h4⟩, h2, h5, h3, h6⟩


/-! ### A flight among the arguments -/
theorem cells_leg : Try.prog.cellsOf 52 = 5 := by kernel_rfl
theorem cells_legs : Try.prog.cellsOf 28 = 1 := by kernel_rfl
theorem cells_per : Try.prog.cellsOf 27 = 3 := by kernel_rfl
theorem cells_fli : Try.prog.cellsOf 30 = 6 := by kernel_rfl
structure OkFl (f : FV) : Prop where
  car : f.car.size ≤ maxLen
  num : -9223372036854775808 ≤ f.num ∧ f.num ≤ 9223372036854775807
  pf : -9223372036854775808 ≤ f.pf ∧ f.pf ≤ 9223372036854775807
  pt : -9223372036854775808 ≤ f.pt ∧ f.pt ≤ 9223372036854775807
  pd : -9223372036854775808 ≤ f.pd ∧ f.pd ≤ 9223372036854775807
  lg : ∀ x ∈ f.lg, OkG x
  len : f.lg.length < 9223372036854775808
  cap : f.lg.length ≤ f.c
instance : Inhabited Lg := ⟨⟨noB, noB, 0, 0, noB⟩⟩
set_option maxRecDepth 100000 in
theorem open_leg {H : Type} {enc : TypeId × Value → H} {W : World} {n b o : Nat} {cs : List Value} {y : DataW H × List MemPlace} (hc : W.cells? 0 ⟨b, o, none⟩ 5 = some cs) (h : DataW.trod enc Try.prog W 0 (fun _ => true) true n 52 cs = some y) :
    ∃ x : Lg, (∀ j u, (encLg x)[j]? = some u → W.cell? ⟨b, o + j, none⟩ = some u) ∧ OkG x := by
  obtain ⟨_, hlen, hcell⟩ := World.cells?_some hc
  obtain ⟨xs, k, _, _, _, hxl, hf⟩ := DataW.trod_struct Try.underlying52 h
  obtain ⟨y0, y1, y2, y3, y4, rfl⟩ := len5 hxl
  obtain ⟨v0, v1, v2, v3, v4, rfl⟩ := len5 hlen
  all_goals
    have g0 := hf 0 _ rfl
    have g1 := hf 1 _ rfl
    have g2 := hf 2 _ rfl
    have g3 := hf 3 _ rfl
    have g4 := hf 4 _ rfl
    simp [cells_string, cells_int] at g0 g1 g2 g3 g4
    obtain ⟨s0, e0, _, z0⟩ := DataW.trod_string Try.underlying9 g0
    obtain ⟨s1, e1, _, z1⟩ := DataW.trod_string Try.underlying9 g1
    obtain ⟨x2, e2, _, w2⟩ := DataW.trod_int Try.underlying3 g2
    obtain ⟨x3, e3, _, w3⟩ := DataW.trod_int Try.underlying3 g3
    obtain ⟨s4, e4, _, z4⟩ := DataW.trod_string Try.underlying9 g4
    simp at e0 e1 e2 e3 e4
    subst e0 e1 e2 e3 e4
    have hadd : ∀ j, (⟨b, o, none⟩ : Addr).add j = ⟨b, o + j, none⟩ := fun j => by unfold Addr.add; split <;> simp_all
    refine ⟨⟨s0, s1, x2, x3, s4⟩, fun j u hu => ?_, ⟨z0, z1, z4, int_bounds w2, int_bounds w3⟩⟩
    have hj : j < 5 := (List.getElem?_eq_some_iff.1 hu).1
    have hc2 := hcell j hj
    rw [hadd] at hc2
    rw [hc2]
    exact hu
set_option maxRecDepth 100000 in
theorem open_legs {H : Type} {enc : TypeId × Value → H} {W : World} {n : Nat} {v : Value} {y : DataW H × List MemPlace} (h : DataW.trod enc Try.prog W 0 (fun _ => true) true n 28 [v] = some y) :
    ∃ (A : Option Addr) (c : Nat) (l : List Lg), v = .slice A l.length c ∧ LegL W (.slice A l.length c) l ∧ (∀ x ∈ l, OkG x) ∧ l.length < 9223372036854775808 ∧ l.length ≤ c := by
  have em : maxLen = 9223372036854775807 := by decide
  rcases Deep.open_slice Try.underlying28 h with ⟨hcs, _⟩ | ⟨a, len, cap, m', n, D, Pl, hcs, _, hl, hm, hmm, _, hx⟩
  · simp at hcs
    exact ⟨none, 0, [], hcs, ⟨none, 0, rfl, .inl rfl⟩, fun a ha => by simp at ha, by simp, by simp⟩
  · simp at hcs hmm
    subst hcs hmm
    rcases Nat.eq_zero_or_pos len with h0 | h0
    · exact ⟨some a, m', [], by rw [h0]; rfl, ⟨some a, m', rfl, .inl rfl⟩, fun a ha => by simp at ha, by simp, by simp⟩
    obtain ⟨b, off, spot⟩ := a
    obtain ⟨cs0, hc0, _⟩ := hx 0 (by omega)
    have hspot : spot = none := by
      rw [cells_leg] at hc0
      obtain ⟨_, hl0, hcell⟩ := World.cells?_some hc0
      have h1 := hcell 0 (by omega)
      rw [List.getElem?_eq_getElem (by omega)] at h1
      simpa [Addr.add] using World.cell?_spot h1
    subst hspot
    have hadd : ∀ i, (⟨b, off, none⟩ : Addr).add i = ⟨b, off + i, none⟩ := fun i => by unfold Addr.add; split <;> simp_all
    have each : ∀ i, i < len → ∃ x : Lg, (∀ j u, (encLg x)[j]? = some u → W.cell? ⟨b, off + i * 5 + j, none⟩ = some u) ∧ OkG x := fun i hi => by
      obtain ⟨cs', h1, h2⟩ := hx i (by omega)
      rw [cells_leg, hadd] at h1
      exact open_leg h1 h2
    obtain ⟨f, hf⟩ := Deep.choose_lt each
    have el : ((List.range len).map f).length = len := by simp
    refine ⟨some ⟨b, off, none⟩, m', (List.range len).map f, by rw [el], ⟨some ⟨b, off, none⟩, m', rfl, .inr ⟨b, off, rfl, World.block_lt_of_cell? _ _ ((hf 0 h0).1 0 _ rfl), fun i x j u hi hu => ?_⟩⟩, fun a ha => ?_, by rw [el]; omega, by rw [el]; omega⟩
    · obtain ⟨h1, rfl⟩ := list_at f len i x hi
      exact (hf i h1).1 j u hu
    · obtain ⟨i, hi, rfl⟩ := List.mem_map.1 ha
      exact (hf i (List.mem_range.1 hi)).2
theorem array6 {α : Type} {cs : Array α} (h : cs.size = 6) : ∃ c0 c1 c2 c3 c4 c5, cs = #[c0, c1, c2, c3, c4, c5] := by
  obtain ⟨l⟩ := cs
  match l, h with
  | [c0, c1, c2, c3, c4, c5], _ => exact ⟨c0, c1, c2, c3, c4, c5, rfl⟩
set_option maxRecDepth 100000 in
/-- the cells of a flight, read -/
theorem read_flight {H : Type} {enc : TypeId × Value → H} {W : World} {n : Nat} {c0 c1 c2 c3 c4 c5 : Value} {y : DataW H × List MemPlace} (h : DataW.trod enc Try.prog W 0 (fun _ => true) true n 30 [c0, c1, c2, c3, c4, c5] = some y) :
    ∃ fv : FV, (#[c0, c1, c2, c3, c4, c5] : Array Value) = #[.string fv.car, .int .i64 fv.num, .int .i64 fv.pf, .int .i64 fv.pt, .int .i64 fv.pd, .slice fv.A fv.lg.length fv.c] ∧ LegL W (.slice fv.A fv.lg.length fv.c) fv.lg ∧ OkFl fv := by
  obtain ⟨xs, k, _, _, _, hxl, hf⟩ := DataW.trod_struct Try.underlying30 h
  obtain ⟨y0, y1, y2, y3, rfl⟩ := len4 hxl
  all_goals
    have g0 := hf 0 _ rfl
    have g1 := hf 1 _ rfl
    have g2 := hf 2 _ rfl
    have g3 := hf 3 _ rfl
    simp [cells_string, cells_int, cells_per, cells_legs] at g0 g1 g2 g3
    obtain ⟨s0, e0, _, z0⟩ := DataW.trod_string Try.underlying9 g0
    obtain ⟨x1, e1, _, w1⟩ := DataW.trod_int Try.underlying3 g1
    obtain ⟨zs, k2, _, _, _, hzl, hz⟩ := DataW.trod_struct Try.underlying27 g2
    obtain ⟨u0, u1, u2, rfl⟩ := len3 hzl
    all_goals
      have q0 := hz 0 _ rfl
      have q1 := hz 1 _ rfl
      have q2 := hz 2 _ rfl
      simp [cells_int] at q0 q1 q2
      obtain ⟨a0, r0, _, b0⟩ := DataW.trod_int Try.underlying3 q0
      obtain ⟨a1, r1, _, b1⟩ := DataW.trod_int Try.underlying3 q1
      obtain ⟨a2, r2, _, b2⟩ := DataW.trod_int Try.underlying3 q2
      obtain ⟨A, c, l, e3, hL, hr, hl, hcap⟩ := open_legs g3
      simp at e0 e1 r0 r1 r2
      subst e0 e1 e3 r0 r1 r2
      exact ⟨⟨s0, x1, a0, a1, a2, A, c, l⟩, rfl, hL, ⟨z0, int_bounds w1, int_bounds b0, int_bounds b1, int_bounds b2, hr, hl, hcap⟩⟩
set_option maxRecDepth 100000 in
/-- a flight by value, opened -/
theorem open_flight {H : Type} {enc : TypeId × Value → H} {W : World} {b0 : Nat} {v : Value} {d : DataW H} {p : List MemPlace} (hv : Value.okWide Try.prog W .any b0 30 v) (h : DataW.Trod enc Try.prog W 0 (fun _ => true) true 30 v d p) :
    ∃ fv : FV, v = encFl fv ∧ LegL W (.slice fv.A fv.lg.length fv.c) fv.lg ∧ OkFl fv := by
  obtain ⟨cs, rfl, hsz⟩ := okWide_struct Try.underlying30 hv
  obtain ⟨c0, c1, c2, c3, c4, c5, rfl⟩ := array6 (hsz.trans cells_fli)
  obtain ⟨fuel, hf⟩ := h
  obtain ⟨fv, e, h1, h2⟩ := read_flight hf
  exact ⟨fv, by rw [e], h1, h2⟩

end Go.Proofs.Ytmmpalnalogfnaa

/- Find, told with where the copy of the shifts lies. -/
namespace Go.Proofs.Ytmmpalnalogfnaa
open Go.RowKit Go.Shelf
set_option linter.unusedSimpArgs false
set_option linter.unusedVariables false

/-- what Find hands back: the airport z with its shifts in memory of the call's own (from B on) -/
def FindF (B : Nat) (z : Air) (b : Bool) (e : Ending) (w' : World) : Prop :=
  ∃ A' c', e = .returned (.tuple #[.agg #[.string z.code, .string z.city, .string z.land, .int .i64 z.off, .slice A' z.shs.length c'], .bool b]) ∧ ShL w' A' z.shs ∧ (A' = none ∨ ∃ g, A' = some ⟨g, 0, none⟩ ∧ B ≤ g)

set_option maxRecDepth 100000 in
set_option maxHeartbeats 4000000 in
theorem find2_any (p : PV) (s : ByteArray) (w : World) (hl : p.l.length ≤ 40) (hL : AirL w p.A p.l) (hs : ∀ a ∈ p.l, a.shs.length ≤ 300) :
    Calls Try.prog 10 #[encP p, .string s] w fun e w' => Below w.heap.size w w' ∧ FindF w.heap.size ((findC p.l s).getD airZ) (findC p.l s).isSome e w' := by
  obtain ⟨A, ca, l, D, cd, ds⟩ := p
  dsimp only at *
  have hb1 := bel_alloc w (.cells #[.slice A l.length ca, .slice D ds.length cd] placesT)
  have hb0 : Below w.heap.size w ((w.alloc (.cells #[.slice A l.length ca, .slice D ds.length cd] placesT)).alloc (.cells #[.string noB, .string noB, .string noB, .int .i64 0, .slice none 0 0] airT)) := hb1.alloc hb1.size _
  have hb2 := bel_alloc (w.alloc (.cells #[.slice A l.length ca, .slice D ds.length cd] placesT)) (.cells #[.string noB, .string noB, .string noB, .int .i64 0, .slice none 0 0] airT)
  have p0 := bel_cell hb2 ((cells_new w #[.slice A l.length ca, .slice D ds.length cd] placesT 0).trans rfl)
  have p1 := bel_cell hb2 ((cells_new w #[.slice A l.length ca, .slice D ds.length cd] placesT 1).trans rfl)
  have hN := heap_alloc_new (w.alloc (.cells #[.slice A l.length ca, .slice D ds.length cd] placesT)) (.cells #[.string noB, .string noB, .string noB, .int .i64 0, .slice none 0 0] airT)
  simp only [World.size_alloc] at hN
  have hL5 := hL.more hb0
  go_enter Try.func10, Try.ntmps10
  generalize hw5 : (w.alloc (.cells #[.slice A l.length ca, .slice D ds.length cd] placesT)).alloc (.cells #[.string noB, .string noB, .string noB, .int .i64 0, .slice none 0 0] airT) = w5 at *
  have f0 : ∀ W, SW w5 W → W.cell? ⟨w.heap.size, 0, none⟩ = some (.slice A l.length ca) := bel_get p0
  have f1 : ∀ W, SW w5 W → W.cell? ⟨w.heap.size, 1, none⟩ = some (.slice D ds.length cd) := bel_get p1
  have hS : SW w5 w5 := Below.refl _ _
  have CC := Lib.hid (SW.call (w5 := w5) (fun W h => byCode_any ⟨A, ca, l, D, cd, ds⟩ s W hl (hL5.more h)))
  have hNl : w.heap.size + 1 < w5.heap.size := (Array.getElem?_eq_some_iff.1 hN).1
  have n0 : ∀ W, SW w5 W → W.cell? ⟨w.heap.size + 1, 0, none⟩ = some (.string noB) := bel_get ((cell_of_row w5 _ 0 _ _ (0, 0) hN).trans rfl)
  have n1 : ∀ W, SW w5 W → W.cell? ⟨w.heap.size + 1, 1, none⟩ = some (.string noB) := bel_get ((cell_of_row w5 _ 1 _ _ (0, 0) hN).trans rfl)
  have n2 : ∀ W, SW w5 W → W.cell? ⟨w.heap.size + 1, 2, none⟩ = some (.string noB) := bel_get ((cell_of_row w5 _ 2 _ _ (0, 0) hN).trans rfl)
  have n3 : ∀ W, SW w5 W → W.cell? ⟨w.heap.size + 1, 3, none⟩ = some (.int .i64 0) := bel_get ((cell_of_row w5 _ 3 _ _ (0, 0) hN).trans rfl)
  have n4 : ∀ W, SW w5 W → W.cell? ⟨w.heap.size + 1, 4, none⟩ = some (.slice none 0 0) := bel_get ((cell_of_row w5 _ 4 _ _ (0, 0) hN).trans rfl)
  have fz : ∀ j W, SW w5 W → W.frozen? ⟨w.heap.size + 1, j, none⟩ = false := fun j W hW => frozen_more hW hNl (frozen_of_row w5 _ j _ _ hN)
  rcases idxA_find (fun a => eqS a.code s) l with ⟨h1, h2⟩ | ⟨k, a, h1, h2, h3, h4⟩
  · rw [h1] at CC
    have HR : Hid (findC l s = none) := Lib.hid h2
    clear h1 h2 hL hL5 p0 p1
    go_wp2_with (go_at_call 34; with_reducible refine (CC.out _ hS).mono ?_; rintro e w1 ⟨rfl, hS⟩; have x0 := f0 _ hS; have x1 := f1 _ hS; have y0 := n0 _ hS; have y1 := n1 _ hS; have y2 := n2 _ hS; have y3 := n3 _ hS; have y4 := n4 _ hS; have z0 := fz 0 _ hS; have z1 := fz 1 _ hS; have z2 := fz 2 _ hS; have z3 := fz 3 _ hS; have z4 := fz 4 _ hS)
    have hN1 := (hS.block _ hNl).trans hN
    have hx := S5.heap hN1 (.string noB) (.string noB) (.string noB) (.int .i64 0) (.slice none 0 0)
    have hbt := S5.but w1 (w.heap.size + 1) (.string noB) (.string noB) (.string noB) (.int .i64 0) (.slice none 0 0)
    have c0 := (cell_of_row _ _ 0 _ _ (0, 0) hx).trans rfl
    have c1 := (cell_of_row _ _ 1 _ _ (0, 0) hx).trans rfl
    have c2 := (cell_of_row _ _ 2 _ _ (0, 0) hx).trans rfl
    have c3 := (cell_of_row _ _ 3 _ _ (0, 0) hx).trans rfl
    have c4 := (cell_of_row _ _ 4 _ _ (0, 0) hx).trans rfl
    have hbw : Below w.heap.size w (S5 w1 (w.heap.size + 1) (.string noB) (.string noB) (.string noB) (.int .i64 0) (.slice none 0 0)) := (hb0.trans (Below.mono hS hb0.size)).trans (hbt.below (Nat.le_trans hb0.size hS.size) (fun k hk => by omega))
    refine bodyPost_ret (v := .tuple #[encA airZ, .bool false]) ?_ rfl ⟨hbw, by rw [HR.out]; exact ⟨none, 0, rfl, .inl rfl, .inl rfl⟩⟩
    change (results _ _).run Try.prog (S5 w1 (w.heap.size + 1) (.string noB) (.string noB) (.string noB) (.int .i64 0) (.slice none 0 0)) = .ok _ (S5 w1 (w.heap.size + 1) (.string noB) (.string noB) (.string noB) (.int .i64 0) (.slice none 0 0))
    generalize S5 w1 (w.heap.size + 1) (.string noB) (.string noB) (.string noB) (.int .i64 0) (.slice none 0 0) = W at c0 c1 c2 c3 c4 ⊢
    simp [results, Try.results10, go_sem, c0, c1, c2, c3, c4, airZ]
  · rw [h1] at CC
    have HR : Hid (findC l s = some a) := Lib.hid h3
    have i1 : (0 : Int) ≤ (k : Int) := by omega
    have i2 : (k : Int) < (l.length : Int) := by omega
    obtain ⟨b, o, a', rfl, hgl, hka, ha⟩ := hL5.at h4
    rw [h2] at hka
    obtain rfl := Option.some.inj hka
    have hlen := hs a (List.mem_of_getElem? h2)
    obtain ⟨a0, a1, a2, a3, a4, ash⟩ := ha
    have g0 := bel_get a0
    have g1 := bel_get a1
    have g2 := bel_get a2
    have g3 := bel_get a3
    have g4 := bel_get a4
    have HSH : Hid (∀ W, SW w5 W → ShL W a.A a.shs) := Lib.hid (fun W hW => ash.more hW)
    have KC := Lib.hid (fun W (h : ShL W a.A a.shs) => clone_any a.A a.c a.shs W hlen h)
    clear hL hL5 h1 h2 h3 a0 a1 a2 a3 a4 ash p0 p1
    go_wp2_with (first
      | (go_at_call 34; with_reducible refine (CC.out _ hS).mono ?_; rintro e w1 ⟨rfl, hS⟩; have x0 := f0 _ hS; have x1 := f1 _ hS; have y0 := g0 _ hS; have y1 := g1 _ hS; have y2 := g2 _ hS; have y3 := g3 _ hS; have y4 := g4 _ hS)
      | (go_at_call 35; refine (KC.out _ ((HSH.out _ hS).more (bel_alloc _ _))).mono ?_; rintro e w7 ⟨A', c', rfl, hsh7, hb7, hA7⟩; refine Hid.out ?_))
    have hbM := bel_alloc w1 (.cells #[.string a.code, .string a.city, .string a.land, .int .i64 a.off, .slice a.A a.shs.length a.c] airT)
    have hM := heap_alloc_new w1 (.cells #[.string a.code, .string a.city, .string a.land, .int .i64 a.off, .slice a.A a.shs.length a.c] airT)
    have hMl : w1.heap.size < (w1.alloc (.cells #[.string a.code, .string a.city, .string a.land, .int .i64 a.off, .slice a.A a.shs.length a.c] airT)).heap.size := by simp
    have hM7 := (hb7.block _ hMl).trans hM
    have hNM : w.heap.size + 1 ≠ w1.heap.size := by have := hS.size; omega
    have hN7 := ((hb7.block _ (Nat.lt_of_lt_of_le (Nat.lt_of_lt_of_le hNl hS.size) hbM.size)).trans (hbM.block _ (Nat.lt_of_lt_of_le hNl hS.size))).trans ((hS.block _ hNl).trans hN)
    have hb8 := But.setCell w7 w1.heap.size 4 (.slice A' a.shs.length c')
    have hM8 := heap_setCell_same w7 w1.heap.size 4 _ airT (.slice A' a.shs.length c') hM7
    have hN8 := (hb8.block (w.heap.size + 1) (Array.getElem?_eq_some_iff.1 hN7).1 hNM).trans hN7
    have hMl7 : w1.heap.size < w7.heap.size := (Array.getElem?_eq_some_iff.1 hM7).1
    have m4 := (cell_of_row w7 _ 4 _ _ (0, 0) hM7).trans rfl
    have mz := frozen_of_row w7 _ 4 _ _ hM7
    have u0 := (cell_of_row _ _ 0 _ _ (0, 0) hM8).trans (show _ = some _ from rfl)
    have u1 := (cell_of_row _ _ 1 _ _ (0, 0) hM8).trans (show _ = some _ from rfl)
    have u2 := (cell_of_row _ _ 2 _ _ (0, 0) hM8).trans (show _ = some _ from rfl)
    have u3 := (cell_of_row _ _ 3 _ _ (0, 0) hM8).trans (show _ = some _ from rfl)
    have u4 := (cell_of_row _ _ 4 _ _ (0, 0) hM8).trans (show _ = some _ from rfl)
    have v0 := (cell_of_row _ _ 0 _ _ (0, 0) hN8).trans (show _ = some _ from rfl)
    have t0 := frozen_of_row _ _ 0 _ _ hN8
    have v1 := (cell_of_row _ _ 1 _ _ (0, 0) hN8).trans (show _ = some _ from rfl)
    have t1 := frozen_of_row _ _ 1 _ _ hN8
    have v2 := (cell_of_row _ _ 2 _ _ (0, 0) hN8).trans (show _ = some _ from rfl)
    have t2 := frozen_of_row _ _ 2 _ _ hN8
    have v3 := (cell_of_row _ _ 3 _ _ (0, 0) hN8).trans (show _ = some _ from rfl)
    have t3 := frozen_of_row _ _ 3 _ _ hN8
    have v4 := (cell_of_row _ _ 4 _ _ (0, 0) hN8).trans (show _ = some _ from rfl)
    have t4 := frozen_of_row _ _ 4 _ _ hN8
    have hx := S5.heap hN8 (.string a.code) (.string a.city) (.string a.land) (.int .i64 a.off) (.slice A' a.shs.length c')
    have hbt := S5.but (w7.setCell ⟨w1.heap.size, 4, none⟩ (.slice A' a.shs.length c')) (w.heap.size + 1) (.string a.code) (.string a.city) (.string a.land) (.int .i64 a.off) (.slice A' a.shs.length c')
    have hbx : Below w.heap.size w w7 := (hb0.trans (Below.mono hS hb0.size)).trans ((hbM.trans (Below.mono hb7 hbM.size)).mono (Nat.le_trans hb0.size hS.size))
    have hall := (hb8.weak (Y := fun k => k = w1.heap.size ∨ k = w.heap.size + 1) (fun _ h => .inl h)).trans hbt (fun _ _ h => .inr h)
    have c0 := (cell_of_row _ _ 0 _ _ (0, 0) hx).trans (show _ = some _ from rfl)
    have c1 := (cell_of_row _ _ 1 _ _ (0, 0) hx).trans (show _ = some _ from rfl)
    have c2 := (cell_of_row _ _ 2 _ _ (0, 0) hx).trans (show _ = some _ from rfl)
    have c3 := (cell_of_row _ _ 3 _ _ (0, 0) hx).trans (show _ = some _ from rfl)
    have c4 := (cell_of_row _ _ 4 _ _ (0, 0) hx).trans (show _ = some _ from rfl)
    have hs1 := hS.size
    have hbw : Below w.heap.size w (S5 (w7.setCell ⟨w1.heap.size, 4, none⟩ (.slice A' a.shs.length c')) (w.heap.size + 1) (.string a.code) (.string a.city) (.string a.land) (.int .i64 a.off) (.slice A' a.shs.length c')) := hbx.trans (hall.below hbx.size (fun k hk => by have := hb0.size; omega))
    have hshx : ShL (S5 (w7.setCell ⟨w1.heap.size, 4, none⟩ (.slice A' a.shs.length c')) (w.heap.size + 1) (.string a.code) (.string a.city) (.string a.land) (.int .i64 a.off) (.slice A' a.shs.length c')) A' a.shs := hsh7.but hall (by
      rcases hA7 with h | ⟨g, h, hg⟩
      · exact .inl h
      · exact .inr ⟨g, h, by simp only [World.size_alloc] at hg; omega⟩)
    have hfr : A' = none ∨ ∃ g, A' = some ⟨g, 0, none⟩ ∧ w.heap.size ≤ g := by
      rcases hA7 with h | ⟨g, h, hg⟩
      · exact .inl h
      · refine .inr ⟨g, h, ?_⟩
        have := hb0.size
        simp only [World.size_alloc] at hg
        omega
    clear hsh7 hA7 hall hbx hb8
    refine Lib.hid ?_
    go_wp2
    refine bodyPost_ret (v := .tuple #[encA { a with A := A', c := c' }, .bool true]) ?_ rfl ⟨hbw, by rw [HR.out]; exact ⟨A', c', rfl, hshx, hfr⟩⟩
    change (results _ _).run Try.prog (S5 (w7.setCell ⟨w1.heap.size, 4, none⟩ (.slice A' a.shs.length c')) (w.heap.size + 1) (.string a.code) (.string a.city) (.string a.land) (.int .i64 a.off) (.slice A' a.shs.length c')) = .ok _ (S5 (w7.setCell ⟨w1.heap.size, 4, none⟩ (.slice A' a.shs.length c')) (w.heap.size + 1) (.string a.code) (.string a.city) (.string a.land) (.int .i64 a.off) (.slice A' a.shs.length c'))
    generalize S5 (w7.setCell ⟨w1.heap.size, 4, none⟩ (.slice A' a.shs.length c')) (w.heap.size + 1) (.string a.code) (.string a.city) (.string a.land) (.int .i64 a.off) (.slice A' a.shs.length c') = W at c0 c1 c2 c3 c4 ⊢
    simp [results, Try.results10, go_sem, c0, c1, c2, c3, c4]

end Go.Proofs.Ytmmpalnalogfnaa

/- Walks of sort.Search, of the closures that it calls, and of the functions of package zone. -/
namespace Go.Proofs.Ytmmpalnalogfnaa.Zon
open Go.RowKit
set_option linter.unusedSimpArgs false
set_option linter.unusedVariables false

theorem OkA {o : Int} {l : Shs} (h : OkZ o l) (k : Nat) (hk : k < l.length) : 0 ≤ shA l k ∧ shA l k < 52596000 := h.at' k hk

set_option maxHeartbeats 2000000 in
theorem before_any (o : Int) (A : Option Addr) (c : Nat) (l : Shs) (k : Nat) (w : World) (hl : l.length ≤ 256) (hk : k ≤ l.length) (hL : ShL w A l) :
    Calls Try.prog 64 #[encZ o A l.length c, .int .i64 k] w fun e w' => e = .returned (.int .i64 (shB o l k)) ∧ Below w.heap.size w w' := by
  by_cases h0 : k = 0
  · subst h0
    go_enter Try.func64, Try.ntmps64
    go_wp2
    go_ret
    exact ⟨rfl, bel_alloc _ _⟩
  · obtain ⟨m, rfl⟩ : ∃ m, k = m + 1 := ⟨k - 1, by omega⟩
    obtain ⟨g, off, rfl, hgl, hcc⟩ := hL.at (k := m) (by omega)
    obtain ⟨g0, g1⟩ := hcc m (by omega)
    have z1 : (((m + 1 : Nat) : Int) == 0) = false := by rw [beq_eq_false_iff_ne]; omega
    have z2 : ((m + 1 : Nat) : Int) - 1 = (m : Int) := by omega
    have i1 : (m : Int) < (l.length : Int) := by omega
    rw [shB_succ]
    generalize ((m + 1 : Nat) : Int) = y at *
    have hy : -9223372036854775808 ≤ y - 1 ∧ y - 1 ≤ 9223372036854775807 := by omega
    clear hcc h0
    go_enter Try.func64, Try.ntmps64
    go_wp2
    go_ret
    exact ⟨rfl, bel_alloc _ _⟩

set_option maxHeartbeats 4000000 in
set_option maxRecDepth 100000 in
theorem search_any (g : Nat) (cb : Array Value) (n : Nat) (p : Nat → Bool) (w : World) (eg : ∀ args w, (callFunc g args).run Try.prog w = .ok (.enter g args) w) (hsz : n < 4611686018427387904)
    (hf : ∀ (i : Nat) (W : World), i < n → Below w.heap.size w W → Calls Try.prog g (#[.int .i64 i] ++ cb) W fun e w' => e = .returned (.bool (p i)) ∧ Below W.heap.size W w')
    (hmono : ∀ a b, a ≤ b → b < n → p a = true → p b = true) :
    Calls Try.prog 62 #[.int .i64 n, .func (.func g) #[] cb] w fun e w' => e = .returned (.int .i64 (fstP p n 0 : Nat)) ∧ Below w.heap.size w w' := by
  have HF := Lib.hid hf
  have M := Lib.hid hmono
  have CN : Hid (∀ c, c ≤ n → (∀ t, t < c → p t = false) → (∀ t, c ≤ t → t < n → p t = true) → fstP p n 0 = c) := Lib.hid (fun c h1 h2 h3 => fstP_is p c n n 0 (Nat.zero_le _) (by omega) h1 h2 h3)
  clear hf hmono
  generalize fstP p n 0 = r at *
  go_enter Try.func62, Try.ntmps62
  go_wp2
  go_loopg [5, 6] n (fun kx s5 s6 wr => ∃ (lo hi : Nat), s5 = .int .i64 lo ∧ s6 = .int .i64 hi ∧ lo ≤ hi ∧ hi ≤ n ∧ hi - lo ≤ kx ∧ Below w.heap.size w wr ∧
    Hid ((∀ t, t < lo → p t = false) ∧ (∀ t, hi ≤ t → t < n → p t = true)))
  case atStart => exact ⟨0, n, rfl, rfl, Nat.zero_le _, Nat.le_refl _, by omega, Below.refl _ _, Lib.hid ⟨fun t ht => absurd ht (Nat.not_lt_zero _), fun t h1 h2 => by omega⟩⟩
  case round =>
    obtain ⟨lo, hi, rfl, rfl, hlh, hin, hg, hb, I⟩ := hrel
    by_cases hlt : lo < hi
    · have hc := HF.out ((lo + hi) / 2) wr (by omega) hb
      rw [show (((lo + hi) / 2 : Nat) : Int) = ((lo : Int) + (hi : Int)) / 2 by omega] at hc
      cases hp : p ((lo + hi) / 2) <;> rw [hp] at hc
      · have HP := Lib.hid hp
        clear hp
        go_wp2_with (refine hc.mono ?_; rintro e w' ⟨rfl, hb'⟩)
        go_roundg (hi - ((lo + hi) / 2 + 1))
        case measure => omega
        case rel =>
          refine ⟨(lo + hi) / 2 + 1, hi, by rw [show ((lo : Int) + (hi : Int)) / 2 + 1 = (((lo + hi) / 2 + 1 : Nat) : Int) by omega], rfl, by omega, hin, Nat.le_refl _, hb.trans (hb'.mono hb.size), Lib.hid ⟨fun t ht => ?_, I.out.2⟩⟩
          cases h : p t with
          | false => rfl
          | true => have := M.out t ((lo + hi) / 2) (by omega) (by omega) h; rw [HP.out] at this; cases this
      · have HP := Lib.hid hp
        clear hp
        go_wp2_with (refine hc.mono ?_; rintro e w' ⟨rfl, hb'⟩)
        go_roundg ((lo + hi) / 2 - lo)
        case measure => omega
        case rel =>
          exact ⟨lo, (lo + hi) / 2, rfl, by rw [show ((lo : Int) + (hi : Int)) / 2 = (((lo + hi) / 2 : Nat) : Int) by omega], by omega, by omega, Nat.le_refl _, hb.trans (hb'.mono hb.size), Lib.hid ⟨I.out.1, fun t ht htn => M.out ((lo + hi) / 2) t ht htn HP.out⟩⟩
    · obtain rfl : hi = lo := by omega
      have hr := Lib.hid (CN.out hi hin I.out.1 I.out.2)
      go_wp2
      go_ret
      exact ⟨by rw [hr.out]; rfl, hb⟩

end Go.Proofs.Ytmmpalnalogfnaa.Zon

/- Walks of the closures, of Offset, Local, UTC, last, Exists and Twice. -/
namespace Go.Proofs.Ytmmpalnalogfnaa.Zon
open Go.RowKit Go.Shelf
set_option linter.unusedSimpArgs false
set_option linter.unusedVariables false

set_option maxHeartbeats 2000000 in
theorem offc_any (o : Int) (A : Option Addr) (c : Nat) (l : Shs) (u : Int) (B : Nat) (i : Nat) (W : World) (hi : i < l.length) (hl : l.length ≤ 256) (z1 : W.cell? ⟨B, 1, none⟩ = some (.slice A l.length c)) (zu : W.cell? ⟨B + 1, 0, none⟩ = some (.int .i64 u)) (hL : ShL W A l) :
    Calls Try.prog 63 #[.int .i64 i, .pointer (some ⟨B, 0, none⟩), .pointer (some ⟨B + 1, 0, none⟩)] W fun e w' => e = .returned (.bool (decide (u < shA l i))) ∧ Below W.heap.size W w' := by
  obtain ⟨g, off, rfl, hgl, hcc⟩ := hL.at hi
  obtain ⟨g0, g1⟩ := hcc i hi
  have i1 : (i : Int) < (l.length : Int) := by omega
  have q1 := SW.cell z1
  have q2 := SW.cell zu
  have q3 := SW.cell g0
  clear hcc hL
  generalize shA l i = a at *
  go_enter Try.func63, Try.ntmps63
  go_wp2
  have hNe : Nonempty (Wd (SW W)) := ⟨⟨_, SW.drew _⟩⟩
  refine quietS (S := SW W) (by kernel_rfl) (by kernel_rfl) (SW.drew _) ?_
  repeat (first | go_big_quiet_skip | (go_big_quiet_want; go_big_quiet_op; first | go_big_quiet_on | go_big_quiet_call ((fail))))
  refine wpQuiet_nil ?_
  rintro W ⟨⟨_, hW⟩, rfl⟩
  go_wp2
  go_ret
  exact ⟨rfl, hW⟩
set_option maxHeartbeats 2000000 in
theorem utcc_any (o : Int) (A : Option Addr) (c : Nat) (l : Shs) (u : Int) (B : Nat) (i : Nat) (W : World) (ok : OkZ o l) (hi : i < l.length) (z0 : W.cell? ⟨B, 0, none⟩ = some (.int .i64 o)) (z1 : W.cell? ⟨B, 1, none⟩ = some (.slice A l.length c)) (zu : W.cell? ⟨B + 1, 0, none⟩ = some (.int .i64 u)) (hL : ShL W A l) :
    Calls Try.prog 65 #[.int .i64 i, .pointer (some ⟨B, 0, none⟩), .pointer (some ⟨B + 1, 0, none⟩)] W fun e w' => e = .returned (.bool (decide (u < shA l i + shB o l i))) ∧ Below W.heap.size W w' := by
  have KB := Lib.hid (SW.call (w5 := W) (fun W' hW => before_any o A c l i W' ok.len (by omega) (hL.more hW)))
  obtain ⟨g, off, rfl, hgl, hcc⟩ := hL.at hi
  obtain ⟨g0, g1⟩ := hcc i hi
  have i1 : (i : Int) < (l.length : Int) := by omega
  have hl := ok.len
  have b1 := ok.at' i hi
  have b2 := ok.before i (by omega)
  have q0 := SW.cell z0
  have q1 := SW.cell z1
  have q2 := SW.cell zu
  have q3 := SW.cell g0
  clear hcc hL ok
  generalize shA l i = a at *
  generalize shB o l i = b at *
  go_enter Try.func65, Try.ntmps65
  go_wp2
  have hNe : Nonempty (Wd (SW W)) := ⟨⟨_, SW.drew _⟩⟩
  refine quietS (S := SW W) (by kernel_rfl) (by kernel_rfl) (SW.drew _) ?_
  repeat (first | go_big_quiet_skip | (go_big_quiet_want; go_big_quiet_op; first | go_big_quiet_on | go_big_quiet_call (((go_at_call 64; (with_reducible exact quiet_S (KB.out _ (Wd.ok _))))))))
  refine wpQuiet_nil ?_
  rintro W ⟨⟨_, hW⟩, rfl⟩
  go_wp2
  go_ret
  exact ⟨rfl, hW⟩
set_option maxHeartbeats 2000000 in
theorem lastc_any (o : Int) (A : Option Addr) (c : Nat) (l : Shs) (u : Int) (B : Nat) (i : Nat) (W : World) (ok : OkZ o l) (hi : i < l.length) (z1 : W.cell? ⟨B, 1, none⟩ = some (.slice A l.length c)) (zu : W.cell? ⟨B + 1, 0, none⟩ = some (.int .i64 u)) (hL : ShL W A l) :
    Calls Try.prog 66 #[.int .i64 i, .pointer (some ⟨B, 0, none⟩), .pointer (some ⟨B + 1, 0, none⟩)] W fun e w' => e = .returned (.bool (decide (u < shA l i + shF l i))) ∧ Below W.heap.size W w' := by
  obtain ⟨g, off, rfl, hgl, hcc⟩ := hL.at hi
  obtain ⟨g0, g1⟩ := hcc i hi
  have i1 : (i : Int) < (l.length : Int) := by omega
  have hl := ok.len
  have b1 := ok.at' i hi
  have b2 := ok.shift i hi
  have q1 := SW.cell z1
  have q2 := SW.cell zu
  have q3 := SW.cell g0
  have q4 := SW.cell g1
  clear hcc hL ok
  generalize shA l i = a at *
  generalize shF l i = f at *
  go_enter Try.func66, Try.ntmps66
  go_wp2
  have hNe : Nonempty (Wd (SW W)) := ⟨⟨_, SW.drew _⟩⟩
  refine quietS (S := SW W) (by kernel_rfl) (by kernel_rfl) (SW.drew _) ?_
  repeat (first | go_big_quiet_skip | (go_big_quiet_want; go_big_quiet_op; first | go_big_quiet_on | go_big_quiet_call ((fail))))
  refine wpQuiet_nil ?_
  rintro W ⟨⟨_, hW⟩, rfl⟩
  go_wp2
  go_ret
  exact ⟨rfl, hW⟩

theorem eg_off : ∀ args w, (callFunc 63 args).run Try.prog w = .ok (.enter 63 args) w := enters_of Try.func63 (by kernel_rfl) rfl
theorem eg_utc : ∀ args w, (callFunc 65 args).run Try.prog w = .ok (.enter 65 args) w := enters_of Try.func65 (by kernel_rfl) rfl
theorem eg_last : ∀ args w, (callFunc 66 args).run Try.prog w = .ok (.enter 66 args) w := enters_of Try.func66 (by kernel_rfl) rfl
/-- the two boxes that a function with a closure makes: the zone's and the minute's -/
def Z2 (w : World) (o : Int) (A : Option Addr) (n c : Nat) (u : Int) : World := (w.alloc (.cells #[.int .i64 o, .slice A n c] zoneT)).alloc (.cells #[.int .i64 u] 3)
theorem Z2.bel (w : World) (o : Int) (A : Option Addr) (n c : Nat) (u : Int) : Below w.heap.size w (Z2 w o A n c u) := (bel_alloc _ _).alloc (by simp) _
theorem Z2.z0 (w : World) (o : Int) (A : Option Addr) (n c : Nat) (u : Int) : (Z2 w o A n c u).cell? ⟨w.heap.size, 0, none⟩ = some (.int .i64 o) :=
  (Below.cell (bel_alloc _ _) (by simp)).trans (cells_new w #[.int .i64 o, .slice A n c] zoneT 0)
theorem Z2.z1 (w : World) (o : Int) (A : Option Addr) (n c : Nat) (u : Int) : (Z2 w o A n c u).cell? ⟨w.heap.size, 1, none⟩ = some (.slice A n c) :=
  (Below.cell (bel_alloc _ _) (by simp)).trans (cells_new w #[.int .i64 o, .slice A n c] zoneT 1)
theorem Z2.zu (w : World) (o : Int) (A : Option Addr) (n c : Nat) (u : Int) : (Z2 w o A n c u).cell? ⟨w.heap.size + 1, 0, none⟩ = some (.int .i64 u) := by
  have h := cells_new (w.alloc (.cells #[.int .i64 o, .slice A n c] zoneT)) #[.int .i64 u] 3 0
  rw [World.size_alloc] at h
  exact h
theorem bel_cell {w w' : World} {a : Addr} {v : Value} (h : Below w.heap.size w w') (hc : w.cell? a = some v) : w'.cell? a = some v := (h.cell (World.block_lt_of_cell? _ _ hc)).trans hc

set_option maxRecDepth 100000 in
set_option maxHeartbeats 2000000 in
theorem offset_any (o : Int) (A : Option Addr) (c : Nat) (l : Shs) (u : Int) (w : World) (ok : OkZ o l) (hL : ShL w A l) :
    Calls Try.prog 36 #[encZ o A l.length c, .int .i64 u] w fun e w' => e = .returned (.int .i64 (offZ o l u)) ∧ Below w.heap.size w w' := by
  have hb0 := Z2.bel w o A l.length c u
  have z0 := Z2.z0 w o A l.length c u
  have z1 := Z2.z1 w o A l.length c u
  have zu := Z2.zu w o A l.length c u
  have CS := Lib.hid (search_any 63 #[.pointer (some ⟨w.heap.size, 0, none⟩), .pointer (some ⟨w.heap.size + 1, 0, none⟩)] l.length (fun i => decide (u < shA l i)) (Z2 w o A l.length c u) eg_off (by have := ok.len; omega)
    (fun i W hi hW => offc_any o A c l u w.heap.size i W hi ok.len (bel_cell hW z1) (bel_cell hW zu) ((hL.more hb0).more hW)) (off_mono ok u))
  have hn : fstP (fun i => decide (u < shA l i)) l.length 0 = offN l u := rfl
  rw [hn] at CS
  clear hn
  have hle := (offN_spec ok u).1
  have CB := Lib.hid (fun W (hW : Below (Z2 w o A l.length c u).heap.size (Z2 w o A l.length c u) W) => before_any o A c l (offN l u) W ok.len hle ((hL.more hb0).more hW))
  rw [show shB o l (offN l u) = offZ o l u from rfl] at CB
  have hl := ok.len
  generalize offN l u = k at *
  generalize offZ o l u = r at *
  unfold Z2 at *
  clear hL ok
  go_enter Try.func36, Try.ntmps36
  go_wp2_with (first
    | (go_at_call 62; refine CS.out.mono ?_; rintro e w1 ⟨rfl, hb1⟩; have y0 := bel_cell hb1 z0; have y1 := bel_cell hb1 z1)
    | (go_at_call 64; refine (CB.out _ hb1).mono ?_; rintro e w2 ⟨rfl, hb2⟩))
  go_ret
  have h1 := hb0.trans (hb1.mono hb0.size)
  exact ⟨rfl, h1.trans (hb2.mono h1.size)⟩

set_option maxRecDepth 100000 in
set_option maxHeartbeats 2000000 in
theorem local_any (o : Int) (A : Option Addr) (c : Nat) (l : Shs) (u : Int) (w : World) (ok : OkZ o l) (hL : ShL w A l) (hu : -1099511627776 ≤ u ∧ u ≤ 1099511627776) :
    Calls Try.prog 11 #[encZ o A l.length c, .int .i64 u] w fun e w' => e = .returned (.int .i64 (u + offZ o l u)) ∧ Below w.heap.size w w' := by
  have CO := Lib.hid (fun W (hW : Below w.heap.size w W) => offset_any o A c l u W ok (hL.more hW))
  have hr := ok.before _ (offN_spec ok u).1
  rw [show shB o l (offN l u) = offZ o l u from rfl] at hr
  have hb0 := bel_alloc w (.cells #[.int .i64 o, .slice A l.length c] zoneT)
  have hl := ok.len
  generalize offZ o l u = r at *
  clear hL ok
  go_enter Try.func11, Try.ntmps11
  go_wp2_with (go_at_call 36; refine (CO.out _ hb0).mono ?_; rintro e w1 ⟨rfl, hb1⟩)
  go_ret
  exact ⟨rfl, hb0.trans (hb1.mono hb0.size)⟩

set_option maxRecDepth 100000 in
set_option maxHeartbeats 2000000 in
theorem utc_any (o : Int) (A : Option Addr) (c : Nat) (l : Shs) (u : Int) (w : World) (ok : OkZ o l) (hL : ShL w A l) (hu : -1099511627776 ≤ u ∧ u ≤ 1099511627776) :
    Calls Try.prog 37 #[encZ o A l.length c, .int .i64 u] w fun e w' => e = .returned (.int .i64 (utcZ o l u)) ∧ Below w.heap.size w w' := by
  have hb0 := Z2.bel w o A l.length c u
  have z0 := Z2.z0 w o A l.length c u
  have z1 := Z2.z1 w o A l.length c u
  have zu := Z2.zu w o A l.length c u
  have CS := Lib.hid (search_any 65 #[.pointer (some ⟨w.heap.size, 0, none⟩), .pointer (some ⟨w.heap.size + 1, 0, none⟩)] l.length (fun i => decide (u < shA l i + shB o l i)) (Z2 w o A l.length c u) eg_utc (by have := ok.len; omega)
    (fun i W hi hW => utcc_any o A c l u w.heap.size i W ok hi (bel_cell hW z0) (bel_cell hW z1) (bel_cell hW zu) ((hL.more hb0).more hW)) (utc_mono ok u))
  rw [show fstP (fun i => decide (u < shA l i + shB o l i)) l.length 0 = utcN o l u from rfl] at CS
  have hle := (utcN_spec ok u).1
  have CB := Lib.hid (fun W (hW : Below (Z2 w o A l.length c u).heap.size (Z2 w o A l.length c u) W) => before_any o A c l (utcN o l u) W ok.len hle ((hL.more hb0).more hW))
  have hr := ok.before _ hle
  have HR : Hid (utcZ o l u = if utcN o l u = 0 then u - shB o l (utcN o l u) else max (u - shB o l (utcN o l u)) (shA l (utcN o l u - 1))) := Lib.hid rfl
  have hl := ok.len
  generalize hk : utcN o l u = k at *
  clear hk
  have hA : 0 < k → ∃ g off, A = some ⟨g, off, none⟩ ∧ (Z2 w o A l.length c u).cell? ⟨g, off + (k - 1) * 2, none⟩ = some (.int .i64 (shA l (k - 1))) ∧ 0 ≤ shA l (k - 1) ∧ shA l (k - 1) < 52596000 := fun h => by
    obtain ⟨g, off, rfl, hgl, hcc⟩ := (hL.more hb0).at (k := k - 1) (by omega)
    exact ⟨g, off, rfl, (hcc (k - 1) (by omega)).1, ok.at' (k - 1) (by omega)⟩
  generalize shB o l k = r at *
  clear hL ok
  unfold Z2 at *
  by_cases h0 : k = 0
  · rw [if_pos h0] at HR
    have hk0 : ¬ (0 : Int) < (k : Int) := by omega
    clear h0 hA
    go_enter Try.func37, Try.ntmps37
    go_wp2_with (go_at_call 62; refine CS.out.mono ?_; rintro e w1 ⟨rfl, hb1⟩; have y0 := SW.cell (bel_cell hb1 z0); have y1 := SW.cell (bel_cell hb1 z1); have yu := SW.cell (bel_cell hb1 zu); have KB := Lib.hid (SW.call (w5 := w1) (fun W hW => CB.out W (hb1.trans (hW.mono hb1.size)))))
    have hNe : Nonempty (Wd (SW w1)) := ⟨⟨_, SW.drew _⟩⟩
    refine quietS (S := SW w1) (by kernel_rfl) (by kernel_rfl) (SW.drew _) ?_
    repeat (first | go_big_quiet_skip | (go_big_quiet_want; go_big_quiet_op; first | go_big_quiet_on | go_big_quiet_call (((go_at_call 64; (with_reducible exact quiet_S (KB.out _ (Wd.ok _))))))))
    refine wpQuiet_nil ?_
    rintro W ⟨⟨_, hW⟩, rfl⟩
    go_wp2
    go_ret
    have h1 := hb0.trans (hb1.mono hb0.size)
    exact ⟨by rw [HR.out]; rfl, h1.trans (hW.mono h1.size)⟩
  · rw [if_neg h0] at HR
    obtain ⟨g, off, rfl, ga, ha⟩ := hA (by omega)
    have hk0 : (0 : Int) < (k : Int) := by omega
    have i4 : (0 : Int) ≤ (k : Int) - 1 := by omega
    have i5 : (k : Int) - 1 < (l.length : Int) := by omega
    have i6 : ((k : Int) - 1).toNat = k - 1 := by omega
    clear h0 hA
    generalize shA l (k - 1) = a at *
    go_enter Try.func37, Try.ntmps37
    go_wp2_with (go_at_call 62; refine CS.out.mono ?_; rintro e w1 ⟨rfl, hb1⟩; have y0 := SW.cell (bel_cell hb1 z0); have y1 := SW.cell (bel_cell hb1 z1); have yu := SW.cell (bel_cell hb1 zu); have ya := SW.cell (bel_cell hb1 ga); have KB := Lib.hid (SW.call (w5 := w1) (fun W hW => CB.out W (hb1.trans (hW.mono hb1.size)))))
    have hNe : Nonempty (Wd (SW w1)) := ⟨⟨_, SW.drew _⟩⟩
    refine quietS (S := SW w1) (by kernel_rfl) (by kernel_rfl) (SW.drew _) ?_
    repeat (first | go_big_quiet_skip | (go_big_quiet_want; go_big_quiet_op; first | go_big_quiet_on | go_big_quiet_call (((go_at_call 64; (with_reducible exact quiet_S (KB.out _ (Wd.ok _))))))))
    refine wpQuiet_nil ?_
    rintro W ⟨⟨_, hW⟩, rfl⟩
    have x1 := y1 ⟨_, hW⟩
    have x2 := ya ⟨_, hW⟩
    dsimp only at x1 x2
    go_wp2
    all_goals
      go_ret
      have h1 := hb0.trans (hb1.mono hb0.size)
      exact ⟨by rw [HR.out]; exact ret_int (by omega), h1.trans (hW.mono h1.size)⟩

set_option maxRecDepth 100000 in
set_option maxHeartbeats 2000000 in
theorem last_any (o : Int) (A : Option Addr) (c : Nat) (l : Shs) (u : Int) (w : World) (ok : OkZ o l) (hL : ShL w A l) (hu : -1099511627776 ≤ u ∧ u ≤ 1099511627776) :
    Calls Try.prog 38 #[encZ o A l.length c, .int .i64 u] w fun e w' => e = .returned (.int .i64 (lastZ o l u)) ∧ Below w.heap.size w w' := by
  have hb0 := Z2.bel w o A l.length c u
  have z0 := Z2.z0 w o A l.length c u
  have z1 := Z2.z1 w o A l.length c u
  have zu := Z2.zu w o A l.length c u
  have CS := Lib.hid (search_any 66 #[.pointer (some ⟨w.heap.size, 0, none⟩), .pointer (some ⟨w.heap.size + 1, 0, none⟩)] l.length (fun i => decide (u < shA l i + shF l i)) (Z2 w o A l.length c u) eg_last (by have := ok.len; omega)
    (fun i W hi hW => lastc_any o A c l u w.heap.size i W ok hi (bel_cell hW z1) (bel_cell hW zu) ((hL.more hb0).more hW)) (last_mono ok u))
  rw [show fstP (fun i => decide (u < shA l i + shF l i)) l.length 0 = lastN l u from rfl] at CS
  have hle := (lastN_spec ok u).1
  have CB := Lib.hid (fun W (hW : Below (Z2 w o A l.length c u).heap.size (Z2 w o A l.length c u) W) => before_any o A c l (lastN l u) W ok.len hle ((hL.more hb0).more hW))
  have hr := ok.before _ hle
  have HR : Hid (lastZ o l u = if lastN l u < l.length then min (u - shB o l (lastN l u)) (shA l (lastN l u) - 1) else u - shB o l (lastN l u)) := Lib.hid rfl
  have hl := ok.len
  generalize hk : lastN l u = k at *
  clear hk
  have hA : k < l.length → ∃ g off, A = some ⟨g, off, none⟩ ∧ (Z2 w o A l.length c u).cell? ⟨g, off + k * 2, none⟩ = some (.int .i64 (shA l k)) ∧ 0 ≤ shA l k ∧ shA l k < 52596000 := fun h => by
    obtain ⟨g, off, rfl, hgl, hcc⟩ := (hL.more hb0).at (k := k) h
    exact ⟨g, off, rfl, (hcc k h).1, ok.at' k h⟩
  generalize shB o l k = r at *
  clear hL ok
  unfold Z2 at *
  by_cases h0 : k < l.length
  · rw [if_pos h0] at HR
    obtain ⟨g, off, rfl, ga, ha⟩ := hA h0
    have i5 : (k : Int) < (l.length : Int) := by omega
    clear hA
    generalize shA l k = a at *
    go_enter Try.func38, Try.ntmps38
    go_wp2_with (go_at_call 62; refine CS.out.mono ?_; rintro e w1 ⟨rfl, hb1⟩; have y0 := SW.cell (bel_cell hb1 z0); have y1 := SW.cell (bel_cell hb1 z1); have yu := SW.cell (bel_cell hb1 zu); have ya := SW.cell (bel_cell hb1 ga); have KB := Lib.hid (SW.call (w5 := w1) (fun W hW => CB.out W (hb1.trans (hW.mono hb1.size)))))
    have hNe : Nonempty (Wd (SW w1)) := ⟨⟨_, SW.drew _⟩⟩
    refine quietS (S := SW w1) (by kernel_rfl) (by kernel_rfl) (SW.drew _) ?_
    repeat (first | go_big_quiet_skip | (go_big_quiet_want; go_big_quiet_op; first | go_big_quiet_on | go_big_quiet_call (((go_at_call 64; (with_reducible exact quiet_S (KB.out _ (Wd.ok _))))))))
    refine wpQuiet_nil ?_
    rintro W ⟨⟨_, hW⟩, rfl⟩
    have x1 := y1 ⟨_, hW⟩
    have x2 := ya ⟨_, hW⟩
    dsimp only at x1 x2
    go_wp2
    all_goals
      go_ret
      have h1 := hb0.trans (hb1.mono hb0.size)
      exact ⟨by rw [HR.out]; exact ret_int (by omega), h1.trans (hW.mono h1.size)⟩
  · rw [if_neg h0] at HR
    have hk0 : ¬ (k : Int) < (l.length : Int) := by omega
    clear h0 hA
    go_enter Try.func38, Try.ntmps38
    go_wp2_with (go_at_call 62; refine CS.out.mono ?_; rintro e w1 ⟨rfl, hb1⟩; have y0 := SW.cell (bel_cell hb1 z0); have y1 := SW.cell (bel_cell hb1 z1); have yu := SW.cell (bel_cell hb1 zu); have KB := Lib.hid (SW.call (w5 := w1) (fun W hW => CB.out W (hb1.trans (hW.mono hb1.size)))))
    have hNe : Nonempty (Wd (SW w1)) := ⟨⟨_, SW.drew _⟩⟩
    refine quietS (S := SW w1) (by kernel_rfl) (by kernel_rfl) (SW.drew _) ?_
    repeat (first | go_big_quiet_skip | (go_big_quiet_want; go_big_quiet_op; first | go_big_quiet_on | go_big_quiet_call (((go_at_call 64; (with_reducible exact quiet_S (KB.out _ (Wd.ok _))))))))
    refine wpQuiet_nil ?_
    rintro W ⟨⟨_, hW⟩, rfl⟩
    have x1 := y1 ⟨_, hW⟩
    dsimp only at x1
    go_wp2
    go_ret
    have h1 := hb0.trans (hb1.mono hb0.size)
    exact ⟨by rw [HR.out]; rfl, h1.trans (hW.mono h1.size)⟩

set_option maxRecDepth 100000 in
set_option maxHeartbeats 2000000 in
theorem exists_any (o : Int) (A : Option Addr) (c : Nat) (l : Shs) (u : Int) (w : World) (ok : OkZ o l) (hL : ShL w A l) (hu : -1099511627776 ≤ u ∧ u ≤ 1099511627776) :
    Calls Try.prog 12 #[encZ o A l.length c, .int .i64 u] w fun e w' => e = .returned (.bool (decide (utcZ o l u ≤ lastZ o l u))) ∧ Below w.heap.size w w' := by
  have hb0 := bel_alloc w (.cells #[.int .i64 o, .slice A l.length c] zoneT)
  have K1 := Lib.hid (SW.call (w5 := w.alloc (.cells #[.int .i64 o, .slice A l.length c] zoneT)) (fun W hW => utc_any o A c l u W ok ((hL.more hb0).more hW) hu))
  have K2 := Lib.hid (SW.call (w5 := w.alloc (.cells #[.int .i64 o, .slice A l.length c] zoneT)) (fun W hW => last_any o A c l u W ok ((hL.more hb0).more hW) hu))
  have z0 := SW.cell (cells_new w #[.int .i64 o, .slice A l.length c] zoneT 0)
  have z1 := SW.cell (cells_new w #[.int .i64 o, .slice A l.length c] zoneT 1)
  have hl := ok.len
  clear hL ok
  generalize utcZ o l u = x at *
  generalize lastZ o l u = y at *
  go_enter Try.func12, Try.ntmps12
  go_wp2
  have hNe : Nonempty (Wd (SW (w.alloc (.cells #[.int .i64 o, .slice A l.length c] zoneT)))) := ⟨⟨_, SW.drew _⟩⟩
  refine quietS (S := SW (w.alloc (.cells #[.int .i64 o, .slice A l.length c] zoneT))) (by kernel_rfl) (by kernel_rfl) (SW.drew _) ?_
  repeat (first | go_big_quiet_skip | (go_big_quiet_want; go_big_quiet_op; first | go_big_quiet_on | go_big_quiet_call ((first | (go_at_call 37; (with_reducible exact quiet_S (K1.out _ (Wd.ok _)))) | (go_at_call 38; (with_reducible exact quiet_S (K2.out _ (Wd.ok _))))))))
  refine wpQuiet_nil ?_
  rintro W ⟨⟨_, hW⟩, rfl⟩
  go_wp2
  go_ret
  exact ⟨rfl, hb0.trans (hW.mono hb0.size)⟩
end Go.Proofs.Ytmmpalnalogfnaa.Zon

/- Walks of isNext, departure and arrival. -/
namespace Go.Proofs.Ytmmpalnalogfnaa
open Go.RowKit Go.Shelf
set_option linter.unusedSimpArgs false
set_option linter.unusedVariables false

def badF (before : List Lg) (x : Lg) : Bool := match before.getLast? with
  | none => false
  | some y => !(x.f.toList == y.t.toList)
def nextB (before : List Lg) (x : Lg) : Bool := !badF before x && (!(x.t.toList == x.f.toList) && !(before.any fun b => b.f.toList == x.t.toList))
end Go.Proofs.Ytmmpalnalogfnaa

/- Walk of neighbours. -/
namespace Go.Proofs.Ytmmpalnalogfnaa
open Go.RowKit Go.Shelf
set_option linter.unusedSimpArgs false
set_option linter.unusedVariables false

end Go.Proofs.Ytmmpalnalogfnaa

/-
  DERIVED: THE SHELF's CONTRACTS AT THIS DUMP, IN PLAIN WORDS (tools/lay-plain.mjs out of 'TryShelf.lean', which tools/lay-shelf.mjs wrote): THE SAME DECLARATIONS UNDER THE SAME NAMES: 'import', 'namespace', 'open', 'def', 'theorem' AND NOTHING ELSE: no command of the shelf's: FOR A HAND-IN. Each laying: the table of numbers ('.._ren') and one theorem, a field a fact of the dump's own or the kernel's comparison; each contract: ONE APPLICATION.
-/
namespace Go.Proofs
open Go.Shelf
end Go.Proofs

/- Walk of checkAirports, whatever there is to report. -/
namespace Go.Proofs.Ytmmpalnalogfnaa
open Go.RowKit Go.Shelf
set_option linter.unusedSimpArgs false
set_option linter.unusedVariables false

theorem But.on {w w' w'' : World} {X : Nat → Prop} (h : But w w' X) (hb : Below w'.heap.size w' w'') : But w w'' X := h.trans (But.of_below (X := X) hb) (fun _ _ h => h)
/-- since w6 nothing has turned but v's own block -/
abbrev SX (w6 : World) (v : Value) (W : World) : Prop := But w6 W (fun k => v.ownBlock = some k)
theorem SX.cell {w6 W : World} {v : Value} {a : Addr} {x : Value} (hc : w6.cell? a = some x) (hne : v.ownBlock ≠ some a.block) (h : SX w6 v W) : W.cell? a = some x :=
  (World.cell?_of_block (h.block a.block (World.block_lt_of_cell? _ _ hc) hne)).trans hc
theorem SX.map {κ : Type} [DecidableEq κ] {P : Program} {k : TypeId} {en : κ → Value} {w6 W : World} {v : Value} {b n : Nat} {g : κ → Option Value} (hm : MapK P k en w6 b n g) (hne : v.ownBlock ≠ some b) (h : SX w6 v W) : MapK P k en W b n g := hm.same (h.block b hm.lt hne)
theorem ROwn.grown {α : Type} {enc : α → List Value} {e : TypeId} {sz B : Nat} {w w' : World} {v : Value} {l : List α} {row : Option Nat} (h : ROwn e sz enc B w v l) (hg : w.grownBy w' row) (hne : row ≠ v.ownBlock ∨ v.ownBlock = none) : ROwn e sz enc B w' v l :=
  ⟨h.own.kept hg (by
    rcases hne with h1 | h1
    · exact .inr (fun e => h1 e.symm)
    · exact .inl h1), Nat.le_trans h.base hg.size⟩
theorem decA_size (k : Nat) (h : k < 100) : (decA k).size ≤ 21 := by
  have := Lib.itoa_length_le (k : Int) (by omega) (by omega)
  show (Lib.itoa (k : Int)).toArray.size ≤ 21
  simpa using this
theorem ShL.but' {w w' : World} {X : Nat → Prop} {A : Option Addr} {l : Shs} (h : ShL w A l) (hb : But w w' X) (hA : l = [] ∨ A = none ∨ ∃ g o, A = some ⟨g, o, none⟩ ∧ ¬ X g) : ShL w' A l := by
  rcases h with h | ⟨b, o, rfl, hlt, hc⟩
  · exact .inl h
  · rcases hA with h | h | ⟨g, o', e, hx⟩
    · exact .inl h
    · cases h
    · cases e
      exact .inr ⟨b, o, rfl, Nat.lt_of_lt_of_le hlt hb.size, fun i hi => ⟨(World.cell?_of_block (a := ⟨b, o + i * 2, none⟩) (hb.block b hlt hx)).trans (hc i hi).1, (World.cell?_of_block (a := ⟨b, o + i * 2 + 1, none⟩) (hb.block b hlt hx)).trans (hc i hi).2⟩⟩
theorem ShL.below {w w' : World} {lo : Nat} {A : Option Addr} {l : Shs} (h : ShL w A l) (hb : Below w.heap.size w w') : ShL w' A l := h.more hb

end Go.Proofs.Ytmmpalnalogfnaa

/- Words for legs with their zones; walks of departure, arrival, findNonstops, isOrdered. -/
namespace Go.Proofs.Ytmmpalnalogfnaa
open Go.RowKit Go.Shelf
set_option linter.unusedSimpArgs false
set_option linter.unusedVariables false

/-- a leg with the zones of its airports -/
structure NS where
  x : Lg
  fo : Int
  fA : Option Addr
  fc : Nat
  fs : Shs
  ti : Int
  tA : Option Addr
  tc : Nat
  ts : Shs
abbrev nonT : TypeId := 74
def encNS (n : NS) : List Value := [.string n.x.f, .string n.x.t, .int .i64 n.x.dep, .int .i64 n.x.arr, .string n.x.eq, .int .i64 n.fo, .slice n.fA n.fs.length n.fc, .int .i64 n.ti, .slice n.tA n.ts.length n.tc]
abbrev encN (n : NS) : Value := .agg #[.string n.x.f, .string n.x.t, .int .i64 n.x.dep, .int .i64 n.x.arr, .string n.x.eq, .int .i64 n.fo, .slice n.fA n.fs.length n.fc, .int .i64 n.ti, .slice n.tA n.ts.length n.tc]
theorem rtN : RT Try.prog 71 nonT 9 encNS where
  ht := Try.underlying71
  info := ⟨.agg #[.string noB, .string noB, .int .i64 0, .int .i64 0, .string noB, .int .i64 0, .slice none 0 0, .int .i64 0, .slice none 0 0], 128, by kernel_rfl, rfl, by omega⟩
  len x := rfl
  one x u hu := by simp [encNS] at hu; rcases hu with rfl | rfl | rfl | rfl | rfl | rfl | rfl | rfl | rfl <;> rfl
  pos := by omega

set_option maxRecDepth 100000 in
set_option maxHeartbeats 2000000 in
theorem departure_any (n : NS) (day : Int) (w : World) (ok : OkZ n.fo n.fs) (hL : ShL w n.fA n.fs) (hd : -100000000 ≤ day ∧ day ≤ 100000000) (hm : -1000000 ≤ n.x.dep ∧ n.x.dep ≤ 1000000) :
    Calls Try.prog 30 #[encN n, .int .i64 day] w fun e w' => e = .returned (.int .i64 (utcZ n.fo n.fs (day * 1440 + n.x.dep))) ∧ Below w.heap.size w w' := by
  have hb0 := bel_alloc w (.cells (encNS n).toArray nonT)
  have HU := Lib.hid (Zon.utc_any n.fo n.fA n.fc n.fs (day * 1440 + n.x.dep) _ ok (hL.more hb0) (by omega))
  generalize utcZ n.fo n.fs (day * 1440 + n.x.dep) = r at *
  clear ok hL
  unfold encNS at *
  go_enter Try.func30, Try.ntmps30
  go_wp2_with (go_at_call 37; refine HU.out.mono ?_; rintro e w' ⟨rfl, hb'⟩)
  go_ret
  exact ⟨rfl, hb0.trans (Below.mono hb' hb0.size)⟩
set_option maxRecDepth 100000 in
set_option maxHeartbeats 2000000 in
theorem arrival_any (n : NS) (day : Int) (w : World) (ok : OkZ n.ti n.ts) (hL : ShL w n.tA n.ts) (hd : -100000000 ≤ day ∧ day ≤ 100000000) (hm : -1000000 ≤ n.x.arr ∧ n.x.arr ≤ 1000000) :
    Calls Try.prog 31 #[encN n, .int .i64 day] w fun e w' => e = .returned (.int .i64 (utcZ n.ti n.ts (day * 1440 + n.x.arr))) ∧ Below w.heap.size w w' := by
  have hb0 := bel_alloc w (.cells (encNS n).toArray nonT)
  have HU := Lib.hid (Zon.utc_any n.ti n.tA n.tc n.ts (day * 1440 + n.x.arr) _ ok (hL.more hb0) (by omega))
  generalize utcZ n.ti n.ts (day * 1440 + n.x.arr) = r at *
  clear ok hL
  unfold encNS at *
  go_enter Try.func31, Try.ntmps31
  go_wp2_with (go_at_call 37; refine HU.out.mono ?_; rintro e w' ⟨rfl, hb'⟩)
  go_ret
  exact ⟨rfl, hb0.trans (Below.mono hb' hb0.size)⟩

/-- the airport with a code, or the zero airport -/
def airOf (l : List Air) (s : ByteArray) : Air := (findC l s).getD airZ
/-- shifts that lie in memory of one's own, off the row v -/
def ShO (w : World) (v : Value) (A : Option Addr) (l : Shs) : Prop := ShL w A l ∧ (l = [] ∨ A = none ∨ ∃ g, A = some ⟨g, 0, none⟩ ∧ g < w.heap.size ∧ v.ownBlock ≠ some g)
/-- n is the leg x with its zones -/
structure NsOf (w : World) (v : Value) (l : List Air) (x : Lg) (n : NS) : Prop where
  ex : n.x = x
  fo : n.fo = (airOf l x.f).off
  fs : n.fs = (airOf l x.f).shs
  ti : n.ti = (airOf l x.t).off
  ts : n.ts = (airOf l x.t).shs
  shf : ShO w v n.fA n.fs
  sht : ShO w v n.tA n.ts
theorem ShO.more {w w' : World} {v : Value} {A : Option Addr} {l : Shs} (h : ShO w v A l) (hb : Below w.heap.size w w') : ShO w' v A l :=
  ⟨h.1.more hb, h.2.imp id fun h => h.imp id fun ⟨g, h1, h2, h3⟩ => ⟨g, h1, Nat.lt_of_lt_of_le h2 hb.size, h3⟩⟩
theorem NsOf.more {w w' : World} {v : Value} {l : List Air} {x : Lg} {n : NS} (h : NsOf w v l x n) (hb : Below w.heap.size w w') : NsOf w' v l x n := ⟨h.ex, h.fo, h.fs, h.ti, h.ts, h.shf.more hb, h.sht.more hb⟩
theorem ShO.chg {w w' : World} {v v' : Value} {A : Option Addr} {l : Shs} (h : ShO w v A l) (hc : Chg w w' v v') : ShO w' v' A l := by
  refine ⟨h.1.but' hc.but (h.2.imp id fun h => h.imp id fun ⟨g, h1, h2, h3⟩ => ⟨g, 0, h1, h3⟩), h.2.imp id fun h => h.imp id fun ⟨g, h1, h2, h3⟩ => ⟨g, h1, Nat.lt_of_lt_of_le h2 hc.but.size, fun e => ?_⟩⟩
  rcases hc.own g e with h4 | h4
  · exact h3 h4
  · omega
theorem NsOf.chg {w w' : World} {v v' : Value} {l : List Air} {x : Lg} {n : NS} (h : NsOf w v l x n) (hc : Chg w w' v v') : NsOf w' v' l x n := ⟨h.ex, h.fo, h.fs, h.ti, h.ts, h.shf.chg hc, h.sht.chg hc⟩

set_option maxRecDepth 100000 in
set_option maxHeartbeats 8000000 in
theorem nonstops_any (p : PV) (A : Option Addr) (c : Nat) (lg : List Lg) (w : World) (hl : p.l.length ≤ 40) (hL : AirL w p.A p.l) (hs : ∀ a ∈ p.l, a.shs.length ≤ 300) (hG : LegL w (.slice A lg.length c) lg) (hn : lg.length ≤ 100) :
    Calls Try.prog 29 #[encP p, .slice A lg.length c] w fun e w' => ∃ v' L, e = .returned v' ∧ ROwn nonT 9 encNS w.heap.size w' v' L ∧ L.length = lg.length ∧ (∀ (k : Nat) (x : Lg) (n : NS), lg[k]? = some x → L[k]? = some n → NsOf w' v' p.l x n) ∧ Below w.heap.size w w' := by
  have hb0 := bel_alloc w (.cells #[.slice p.A p.l.length p.ca, .slice p.D p.ds.length p.cd] placesT)
  have q0 := (cells_new w #[.slice p.A p.l.length p.ca, .slice p.D p.ds.length p.cd] placesT 0).trans (show _ = some (.slice p.A p.l.length p.ca) from rfl)
  have q1 := (cells_new w #[.slice p.A p.l.length p.ca, .slice p.D p.ds.length p.cd] placesT 1).trans (show _ = some (.slice p.D p.ds.length p.cd) from rfl)
  have hL5 := hL.more hb0
  have hG5 := hG.more hb0
  go_enter Try.func29, Try.ntmps29
  go_wp2
  generalize hw5 : w.alloc (.cells #[.slice p.A p.l.length p.ca, .slice p.D p.ds.length p.cd] placesT) = w5 at *
  clear hw5
  have y0 := bel_get q0
  have y1 := bel_get q1
  have KF : Hid (∀ s W, SW w5 W → Calls Try.prog 10 #[.agg #[.slice p.A p.l.length p.ca, .slice p.D p.ds.length p.cd], .string s] W fun e w' => Below W.heap.size W w' ∧ FindF W.heap.size (airOf p.l s) (findC p.l s).isSome e w') := Lib.hid (fun s W hW => find2_any p s W hl (hL5.more hW) hs)
  have HN : Hid (ROwn nonT 9 encNS w5.heap.size w5 (.slice none 0 0) []) := Lib.hid (ROwn.nil (Nat.le_refl _))
  clear hL hL5 hs
  go_loopg [5, 14] lg.length (fun kx v5 vi wr => ∃ (v : Value) (k : Nat) (L : List NS), v = v5 ∧ vi = .int .i64 k ∧ k + kx = lg.length ∧ Hid (ROwn nonT 9 encNS w5.heap.size wr v L ∧ L.length = k ∧ (∀ (k : Nat) (x : Lg) (n : NS), lg[k]? = some x → L[k]? = some n → NsOf wr v p.l x n) ∧ SW w5 wr))
  case atStart => exact ⟨_, 0, [], rfl, rfl, by omega, Lib.hid ⟨HN.out, rfl, fun k x n _ h => by simp at h, Below.refl _ _⟩⟩
  case round =>
    obtain ⟨v, k, L, rfl, rfl, hkx, HH⟩ := hrel
    clear HN
    have HKX := Lib.hid hkx
    have hSr : SW w5 wr := HH.out.2.2.2
    by_cases hlt : k < lg.length
    · clear hkx
      obtain ⟨b, o, x, rfl, hbl, hx, c0, c1, c2, c3, c4⟩ := LegL.get (hG5.more hSr) hlt
      have HX := Lib.hid hx
      have i2 : (k : Int) < (lg.length : Int) := by omega
      have hbx := bel_alloc wr (.cells #[.string x.f, .string x.t, .int .i64 x.dep, .int .i64 x.arr, .string x.eq] legT)
      have hSx : SW w5 (wr.alloc (.cells #[.string x.f, .string x.t, .int .i64 x.dep, .int .i64 x.arr, .string x.eq] legT)) := Below.alloc hSr hSr.size _
      have l0 := (cells_new wr #[.string x.f, .string x.t, .int .i64 x.dep, .int .i64 x.arr, .string x.eq] legT 0).trans (show _ = some (.string x.f) from rfl)
      have l1 := (cells_new wr #[.string x.f, .string x.t, .int .i64 x.dep, .int .i64 x.arr, .string x.eq] legT 1).trans (show _ = some (.string x.t) from rfl)
      have l2 := (cells_new wr #[.string x.f, .string x.t, .int .i64 x.dep, .int .i64 x.arr, .string x.eq] legT 2).trans (show _ = some (.int .i64 x.dep) from rfl)
      have l3 := (cells_new wr #[.string x.f, .string x.t, .int .i64 x.dep, .int .i64 x.arr, .string x.eq] legT 3).trans (show _ = some (.int .i64 x.arr) from rfl)
      have l4 := (cells_new wr #[.string x.f, .string x.t, .int .i64 x.dep, .int .i64 x.arr, .string x.eq] legT 4).trans (show _ = some (.string x.eq) from rfl)
      have z0 := y0 _ hSx
      have z1 := y1 _ hSx
      have HLn : Hid (L.length ≤ 100000000) := Lib.hid (by have := HH.out.2.1; omega)
      clear hx
      obtain ⟨N, hN⟩ : ∃ N, N = wr.heap.size := ⟨_, rfl⟩
      obtain ⟨a1, ha1⟩ : ∃ a1, a1 = airOf p.l x.f := ⟨_, rfl⟩
      obtain ⟨a2, ha2⟩ : ∃ a2, a2 = airOf p.l x.t := ⟨_, rfl⟩
      have K1 := KF.out x.f _ hSx
      have K2 := KF.out x.t
      rw [← ha1] at K1
      rw [← ha2] at K2
      have K2 := Lib.hid K2
      have HA1 := Lib.hid ha1
      have HA2 := Lib.hid ha2
      have hSz := hbx.size
      clear ha1 ha2
      go_upto_region 7 with (first
        | (go_at_call 10; refine (K2.out _ hS2).mono ?_; rintro e w3 ⟨hb3, A2, c2', rfl, hs2, hf2⟩)
        | (go_at_call 10; refine K1.mono ?_; rintro e w1 ⟨hb1, A1, c1', rfl, hs1, hf1⟩; have hS1 : SW w5 w1 := Below.trans hSx (Below.mono hb1 hSx.size); have hS2 : SW w5 (w1.alloc (.cells #[.string a1.code, .string a1.city, .string a1.land, .int .i64 a1.off, .slice A1 a1.shs.length c1'] airT)) := Below.alloc hS1 hS1.size _; have z0 := y0 _ hS2; have z1 := y1 _ hS2; have hb12 : Below wr.heap.size wr (w1.alloc (.cells #[.string a1.code, .string a1.city, .string a1.land, .int .i64 a1.off, .slice A1 a1.shs.length c1'] airT)) := (hbx.trans (Below.mono hb1 hbx.size)).alloc (Nat.le_trans hbx.size hb1.size) _; have r0 := bel_cell (bel_alloc w1 (.cells #[.string a1.code, .string a1.city, .string a1.land, .int .i64 a1.off, .slice A1 a1.shs.length c1'] airT)) (bel_cell hb1 l0); have r1 := bel_cell (bel_alloc w1 (.cells #[.string a1.code, .string a1.city, .string a1.land, .int .i64 a1.off, .slice A1 a1.shs.length c1'] airT)) (bel_cell hb1 l1)))
      have bx1 := bel_alloc w1 (.cells #[.string a1.code, .string a1.city, .string a1.land, .int .i64 a1.off, .slice A1 a1.shs.length c1'] airT)
      have bx3 := bel_alloc w3 (.cells #[.string a2.code, .string a2.city, .string a2.land, .int .i64 a2.off, .slice A2 a2.shs.length c2'] airT)
      have l0 := bel_cell bx3 (bel_cell hb3 (bel_cell bx1 (bel_cell hb1 l0)))
      have l1 := bel_cell bx3 (bel_cell hb3 (bel_cell bx1 (bel_cell hb1 l1)))
      have l2 := bel_cell bx3 (bel_cell hb3 (bel_cell bx1 (bel_cell hb1 l2)))
      have l3 := bel_cell bx3 (bel_cell hb3 (bel_cell bx1 (bel_cell hb1 l3)))
      have l4 := bel_cell bx3 (bel_cell hb3 (bel_cell bx1 (bel_cell hb1 l4)))
      have m3 := bel_cell bx3 (bel_cell hb3 ((cells_new w1 #[.string a1.code, .string a1.city, .string a1.land, .int .i64 a1.off, .slice A1 a1.shs.length c1'] airT 3).trans (show _ = some (.int .i64 a1.off) from rfl)))
      have m4 := bel_cell bx3 (bel_cell hb3 ((cells_new w1 #[.string a1.code, .string a1.city, .string a1.land, .int .i64 a1.off, .slice A1 a1.shs.length c1'] airT 4).trans (show _ = some (.slice A1 a1.shs.length c1') from rfl)))
      have n3 := (cells_new w3 #[.string a2.code, .string a2.city, .string a2.land, .int .i64 a2.off, .slice A2 a2.shs.length c2'] airT 3).trans (show _ = some (.int .i64 a2.off) from rfl)
      have n4 := (cells_new w3 #[.string a2.code, .string a2.city, .string a2.land, .int .i64 a2.off, .slice A2 a2.shs.length c2'] airT 4).trans (show _ = some (.slice A2 a2.shs.length c2') from rfl)
      have hb13 : Below wr.heap.size wr w3 := hb12.trans (Below.mono hb3 hb12.size)
      have hb14 : Below wr.heap.size wr (w3.alloc (.cells #[.string a2.code, .string a2.city, .string a2.land, .int .i64 a2.off, .slice A2 a2.shs.length c2'] airT)) := hb13.alloc hb13.size _
      have hs1' := ((hs1.more bx1).more hb3).more bx3
      have hs2' := hs2.more bx3
      have hSq : SW w5 (w3.alloc (.cells #[.string a2.code, .string a2.city, .string a2.land, .int .i64 a2.off, .slice A2 a2.shs.length c2'] airT)) := Below.trans hSr (hb14.mono hSr.size)
      have hO := HH.out.1.more hb14
      have HNs := Lib.hid (fun (k' : Nat) (x' : Lg) (n' : NS) h1 h2 => (HH.out.2.2.1 k' x' n' h1 h2).more hb14)
      generalize hw4 : w3.alloc (.cells #[.string a2.code, .string a2.city, .string a2.land, .int .i64 a2.off, .slice A2 a2.shs.length c2'] airT) = w4 at *
      have hfr : ∀ (A' : Option Addr) (l' : Shs), ShL w4 A' l' → (A' = none ∨ ∃ g, A' = some ⟨g, 0, none⟩ ∧ wr.heap.size ≤ g) → ShO w4 v A' l' := fun A' l' h1 h2 => ⟨h1, by
        rcases h1 with h | ⟨b', o', e1, e2, _⟩
        · exact .inl h
        · rcases h2 with h2 | ⟨g, h2, h4⟩
          · exact .inr (.inl h2)
          · refine .inr (.inr ⟨g, h2, ?_, fun e => ?_⟩)
            · rw [h2] at e1; cases e1; exact e2
            · have := (HH.out.1.low e).2; omega⟩
      have HS1 := Lib.hid (hfr A1 a1.shs hs1' (by
        rcases hf1 with h | ⟨g, h, hg⟩
        · exact .inl h
        · exact .inr ⟨g, h, by rw [World.size_alloc] at hg; omega⟩))
      have HS2 := Lib.hid (hfr A2 a2.shs hs2' (by
        rcases hf2 with h | ⟨g, h, hg⟩
        · exact .inl h
        · exact .inr ⟨g, h, by have := hb12.size; omega⟩))
      have HLk := Lib.hid HH.out.2.1
      clear hfr hs1' hs2' hs1 hs2 hf1 hf2 hb3 hb1 bx1 bx3 hb13 HH hw4 K1 K2 hS1 hS2 hb12
      go_wp2_with (at_builtin; refine wpList_rapp rtN rfl _ _ rfl hO rfl (bel_alloc _ _) _ (⟨x, a1.off, A1, c1', a1.shs, a2.off, A2, c2', a2.shs⟩ : NS) _ rfl (cs := #[.string x.f, .string x.t, .int .i64 x.dep, .int .i64 x.arr, .string x.eq, .int .i64 a1.off, .slice A1 a1.shs.length c1', .int .i64 a2.off, .slice A2 a2.shs.length c2']) rfl (heap_alloc_new _ _) HLn.out ?_; intro v' w' hO' hC')
      have HZ : Hid (ROwn nonT 9 encNS w5.heap.size w' v' (L ++ [(⟨x, a1.off, A1, c1', a1.shs, a2.off, A2, c2', a2.shs⟩ : NS)]) ∧ (L ++ [(⟨x, a1.off, A1, c1', a1.shs, a2.off, A2, c2', a2.shs⟩ : NS)]).length = k + 1 ∧ (∀ (k' : Nat) (x' : Lg) (n' : NS), lg[k']? = some x' → (L ++ [(⟨x, a1.off, A1, c1', a1.shs, a2.off, A2, c2', a2.shs⟩ : NS)])[k']? = some n' → NsOf w' v' p.l x' n') ∧ SW w5 w') := Lib.hid ⟨hO', by rw [List.length_append, HLk.out]; rfl, fun k' x' n' h1 h2 => by
        by_cases hk' : k' < L.length
        · rw [List.getElem?_append_left hk'] at h2
          exact (HNs.out k' x' n' h1 h2).chg hC'
        · have hke : k' = k := by
            have := (List.getElem?_eq_some_iff.1 h2).1
            rw [List.length_append] at this
            have := HLk.out
            simp at *
            omega
          subst hke
          rw [List.getElem?_append_right (by omega), HLk.out, Nat.sub_self] at h2
          rw [HX.out] at h1
          cases h1
          cases h2
          exact (⟨rfl, by rw [← HA1.out], by rw [← HA1.out], by rw [← HA2.out], by rw [← HA2.out], HS1.out, HS2.out⟩ : NsOf w4 v p.l x _).chg hC', Below.trans hSq ((hC'.below hO).mono (Nat.le_refl _))⟩
      clear hO' hC' hO
      go_roundg (lg.length - (k + 1))
      case measure => have := HKX.out; omega
      case rel => exact ⟨_, k + 1, _, rfl, by go_num, by omega, HZ⟩
    · have hk : k = lg.length := by omega
      have HZ : Hid (ROwn nonT 9 encNS w.heap.size wr v L ∧ L.length = lg.length ∧ (∀ (k : Nat) (x : Lg) (n : NS), lg[k]? = some x → L[k]? = some n → NsOf wr v p.l x n) ∧ Below w.heap.size w wr) := Lib.hid ⟨⟨HH.out.1.own.mono hb0.size, Nat.le_trans hb0.size hSr.size⟩, by rw [HH.out.2.1, hk], HH.out.2.2.1, hb0.trans (Below.mono hSr hb0.size)⟩
      clear HH hkx hk
      go_wp2
      go_ret
      exact ⟨v, L, rfl, HZ.out⟩

end Go.Proofs.Ytmmpalnalogfnaa

/- Walk of isOrdered. -/
namespace Go.Proofs.Ytmmpalnalogfnaa
open Go.RowKit Go.Shelf
set_option linter.unusedSimpArgs false
set_option linter.unusedVariables false

/-- departures and arrivals in their order -/
def ordT : Bool → Int → List (Int × Int) → Bool
  | _, _, [] => true
  | first, before, (d, a) :: r => if a ≤ d then false else if first = false ∧ d < before then false else ordT false a r
def depL (l : List Air) (x : Lg) (day : Int) : Int := utcZ (airOf l x.f).off (airOf l x.f).shs (day * 1440 + x.dep)
def arrL (l : List Air) (x : Lg) (day : Int) : Int := utcZ (airOf l x.t).off (airOf l x.t).shs (day * 1440 + x.arr)
def timL (l : List Air) (lg : List Lg) (day : Int) : List (Int × Int) := lg.map fun x => (depL l x day, arrL l x day)
theorem okZ_zero : OkZ 0 [] := ⟨by simp, by omega, fun k h => by simp at h, fun k h => by simp at h, fun k h => by simp at h⟩
theorem okZ_of {l : List Air} (h : ∀ a ∈ l, OkZ a.off a.shs) (s : ByteArray) : OkZ (airOf l s).off (airOf l s).shs := by
  unfold airOf
  cases hc : findC l s with
  | none => exact okZ_zero
  | some a => exact h a (List.mem_of_find?_eq_some hc)
theorem RowL.get9 {w : World} {A : Option Addr} {n c : Nat} {L : List NS} (h : RowL 9 encNS w (.slice A n c) L) {k : Nat} (hk : k < L.length) : ∃ b o y, A = some ⟨b, o, none⟩ ∧ b < w.heap.size ∧ L[k]? = some y ∧ ∀ j u, (encNS y)[j]? = some u → w.cell? ⟨b, o + k * 9 + j, none⟩ = some u := by
  obtain ⟨b, o, h1, h2, h3⟩ := h.at rfl hk
  exact ⟨b, o, L[k], h1, h2, List.getElem?_eq_getElem hk, h3⟩

end Go.Proofs.Ytmmpalnalogfnaa

/- Walks of the comparisons of legs and of flights: slices.Equal, SameLegs. -/
namespace Go.Proofs.Ytmmpalnalogfnaa
open Go.RowKit Go.Shelf
set_option linter.unusedSimpArgs false
set_option linter.unusedVariables false

end Go.Proofs.Ytmmpalnalogfnaa

/- Walks of Same, of the program and of the reference. -/
namespace Go.Proofs.Ytmmpalnalogfnaa
open Go.RowKit Go.Shelf
set_option linter.unusedSimpArgs false
set_option linter.unusedVariables false

end Go.Proofs.Ytmmpalnalogfnaa

/- Plain facts on periods: sets of days as ascending lists; nothing of the program. -/
namespace Go.Proofs.Ytmmpalnalogfnaa.Per
set_option linter.unusedSimpArgs false
set_option linter.unusedVariables false

abbrev Per := Int × Int × Int
def okQ (p : Per) : Bool := decide (0 ≤ p.1 ∧ p.1 ≤ p.2.1 ∧ p.2.1 < 36525 ∧ p.2.1 - p.1 < 800 ∧ 1 ≤ p.2.2 ∧ p.2.2 ≤ 127)
def errQ (p : Per) : Int := if p.1 < 0 ∨ p.2.1 < p.1 ∨ 36525 ≤ p.2.1 then 12 else if 800 ≤ p.2.1 - p.1 then 4 else if p.2.2 < 1 ∨ 127 < p.2.2 then 2 else 0
theorem okQ_yes {p : Per} (h : okQ p = true) : 0 ≤ p.1 ∧ p.1 ≤ p.2.1 ∧ p.2.1 < 36525 ∧ p.2.1 - p.1 < 800 ∧ 1 ≤ p.2.2 ∧ p.2.2 ≤ 127 := by simpa [okQ] using h
theorem okQ_mk {p : Per} (h : 0 ≤ p.1 ∧ p.1 ≤ p.2.1 ∧ p.2.1 < 36525 ∧ p.2.1 - p.1 < 800 ∧ 1 ≤ p.2.2 ∧ p.2.2 ≤ 127) : okQ p = true := by simpa [okQ] using h
theorem errQ_ok {p : Per} (h : okQ p = true) : errQ p = 0 := by
  have := okQ_yes h
  rw [errQ, if_neg (by omega), if_neg (by omega), if_neg (by omega)]
theorem errQ_no {p : Per} (h : okQ p = false) : errQ p ≠ 0 := by
  intro e
  have : okQ p = true := by
    unfold errQ at e
    split at e
    · omega
    · split at e
      · omega
      · split at e
        · omega
        · exact okQ_mk (by omega)
  rw [h] at this
  cases this
theorem errQ_two {p : Per} (h : okQ p = false) : (errQ p == 0) = false := beq_eq_false_iff_ne.2 (errQ_no h)

/-- the place of a day's weekday -/
def wkN (n : Int) : Nat := ((n + 5) % 7).toNat
theorem wkN_lt (n : Int) : wkN n < 7 := by unfold wkN; omega
theorem wkN_int (n : Int) : ((wkN n : Nat) : Int) = (n + 5) % 7 := by unfold wkN; omega
def wdB (d : Int) (n : Int) : Bool := d.toNat.testBit (wkN n)
def hasQ (p : Per) (n : Int) : Bool := okQ p && (decide (p.1 ≤ n) && (decide (n ≤ p.2.1) && wdB p.2.2 n))
theorem hasQ_iff (p : Per) (n : Int) : hasQ p n = true ↔ okQ p = true ∧ p.1 ≤ n ∧ n ≤ p.2.1 ∧ wdB p.2.2 n = true := by simp [hasQ]

/-- k days from f on -/
def fromR (f : Int) (k : Nat) : List Int := (List.range k).map fun (i : Nat) => f + (i : Int)
theorem fromR_succ (f : Int) (k : Nat) : fromR f (k + 1) = fromR f k ++ [f + (k : Int)] := by simp [fromR, List.range_succ]
theorem fromR_length (f : Int) (k : Nat) : (fromR f k).length = k := by simp [fromR]
theorem fromR_mem (f : Int) (k : Nat) (n : Int) : n ∈ fromR f k ↔ f ≤ n ∧ n < f + k := by
  simp only [fromR, List.mem_map, List.mem_range]
  constructor
  · rintro ⟨i, hi, rfl⟩; omega
  · rintro ⟨h1, h2⟩; exact ⟨(n - f).toNat, by omega, by omega⟩
/-- the days of a set: the first k days looked at; all -/
def daysTo (p : Per) (k : Nat) : List Int := (fromR p.1 k).filter fun n => wdB p.2.2 n
def lenQ (p : Per) : Nat := (p.2.1 - p.1 + 1).toNat
def daysQ (p : Per) : List Int := if okQ p then daysTo p (lenQ p) else []
theorem daysTo_hit (p : Per) (k : Nat) (h : wdB p.2.2 (p.1 + k) = true) : daysTo p (k + 1) = daysTo p k ++ [p.1 + (k : Int)] := by
  rw [daysTo, fromR_succ, List.filter_append]; simp [daysTo, h]
theorem daysTo_miss (p : Per) (k : Nat) (h : wdB p.2.2 (p.1 + k) = false) : daysTo p (k + 1) = daysTo p k := by
  rw [daysTo, fromR_succ, List.filter_append]; simp [daysTo, h]
theorem daysTo_len (p : Per) (k : Nat) : (daysTo p k).length ≤ k := by
  have := List.length_filter_le (fun n => wdB p.2.2 n) (fromR p.1 k)
  rw [fromR_length] at this
  exact this
theorem daysQ_yes {p : Per} (h : okQ p = true) : daysQ p = daysTo p (lenQ p) := by rw [daysQ, if_pos h]
theorem daysQ_no {p : Per} (h : okQ p = false) : daysQ p = [] := by rw [daysQ, if_neg (by simp [h])]
theorem daysQ_mem (p : Per) (n : Int) : n ∈ daysQ p ↔ hasQ p n = true := by
  rw [hasQ_iff]
  cases h : okQ p
  · rw [daysQ_no h]; simp
  · rw [daysQ_yes h, daysTo, List.mem_filter, fromR_mem, lenQ]
    have := okQ_yes h
    constructor
    · rintro ⟨⟨h1, h2⟩, h3⟩; exact ⟨rfl, h1, by omega, h3⟩
    · rintro ⟨_, h1, h2, h3⟩; exact ⟨⟨h1, by omega⟩, h3⟩
theorem daysQ_len (p : Per) : (daysQ p).length ≤ 800 := by
  cases h : okQ p
  · rw [daysQ_no h]; simp
  · rw [daysQ_yes h]
    have h1 := daysTo_len p (lenQ p)
    have h2 := okQ_yes h
    unfold lenQ at h1 ⊢
    omega
theorem daysQ_has (p : Per) (k : Nat) (h : okQ p = true) (hk : k < lenQ p) : hasQ p (p.1 + k) = wdB p.2.2 (p.1 + k) := by
  have h2 := okQ_yes h
  unfold lenQ at hk
  have e1 : p.1 ≤ p.1 + (k : Int) := by omega
  have e2 : p.1 + (k : Int) ≤ p.2.1 := by omega
  simp [hasQ, h, e1, e2]

end Go.Proofs.Ytmmpalnalogfnaa.Per

/- Walks of the small functions of package period, beside the reference's: Check, the weekday's bit, between. -/
namespace Go.Proofs.Ytmmpalnalogfnaa.Per
open Go.RowKit
set_option linter.unusedSimpArgs false
set_option linter.unusedVariables false

abbrev encQ (p : Per) : Value := .agg #[.int .i64 p.1, .int .i64 p.2.1, .int .i64 p.2.2]
theorem bel_alloc (w : World) (o : Obj) : Below w.heap.size w (w.alloc o) := (Below.refl _ w).alloc (Nat.le_refl _) o
theorem err_first {f t d : Int} (h : f < 0 ∨ t < f ∨ 36525 ≤ t) : errQ (f, t, d) = 12 := by rw [errQ, if_pos h]
theorem err_second {f t d : Int} (h : ¬ (f < 0 ∨ t < f ∨ 36525 ≤ t)) (h2 : 800 ≤ t - f) : errQ (f, t, d) = 4 := by rw [errQ, if_neg h, if_pos h2]
theorem err_third {f t d : Int} (h : ¬ (f < 0 ∨ t < f ∨ 36525 ≤ t)) (h2 : ¬ 800 ≤ t - f) (h3 : d < 1 ∨ 127 < d) : errQ (f, t, d) = 2 := by rw [errQ, if_neg h, if_neg h2, if_pos h3]
theorem err_none {f t d : Int} (h : ¬ (f < 0 ∨ t < f ∨ 36525 ≤ t)) (h2 : ¬ 800 ≤ t - f) (h3 : ¬ (d < 1 ∨ 127 < d)) : errQ (f, t, d) = 0 := by rw [errQ, if_neg h, if_neg h2, if_neg h3]

set_option maxHeartbeats 1000000 in
theorem check_any (f t d : Int) (w : World) : Calls Try.prog 50 #[encQ (f, t, d)] w fun e w' => e = .returned (.int .i64 (errQ (f, t, d))) ∧ Below w.heap.size w w' := by
  by_cases h1 : f < 0
  · have HR := Lib.hid (err_first (d := d) (.inl h1) (t := t))
    go_enter Try.func50, Try.ntmps50
    go_wp2
    go_ret
    exact ⟨by rw [HR.out]; rfl, bel_alloc _ _⟩
  by_cases h2 : t < f
  · have HR := Lib.hid (err_first (d := d) (.inr (.inl h2)))
    go_enter Try.func50, Try.ntmps50
    go_wp2
    go_ret
    exact ⟨by rw [HR.out]; rfl, bel_alloc _ _⟩
  by_cases h3 : 36525 ≤ t
  · have HR := Lib.hid (err_first (f := f) (d := d) (.inr (.inr h3)))
    go_enter Try.func50, Try.ntmps50
    go_wp2
    go_ret
    exact ⟨by rw [HR.out]; rfl, bel_alloc _ _⟩
  have ha : ¬ (f < 0 ∨ t < f ∨ 36525 ≤ t) := by omega
  by_cases h4 : 800 ≤ t - f
  · have HR := Lib.hid (err_second (d := d) ha h4)
    clear ha
    go_enter Try.func50, Try.ntmps50
    go_wp2
    go_ret
    exact ⟨by rw [HR.out]; rfl, bel_alloc _ _⟩
  by_cases h5 : d < 1
  · have HR := Lib.hid (err_third ha h4 (.inl h5))
    clear ha
    go_enter Try.func50, Try.ntmps50
    go_wp2
    go_ret
    exact ⟨by rw [HR.out]; rfl, bel_alloc _ _⟩
  by_cases h6 : 127 < d
  · have HR := Lib.hid (err_third ha h4 (.inr h6))
    clear ha
    go_enter Try.func50, Try.ntmps50
    go_wp2
    go_ret
    exact ⟨by rw [HR.out]; rfl, bel_alloc _ _⟩
  · have HR := Lib.hid (err_none ha h4 (d := d) (by omega))
    clear ha
    go_enter Try.func50, Try.ntmps50
    go_wp2
    go_ret
    exact ⟨by rw [HR.out]; rfl, bel_alloc _ _⟩

set_option maxHeartbeats 1000000 in
theorem rcheck_any (f t d : Int) (w : World) : Calls Try.prog 42 #[encQ (f, t, d)] w fun e w' => e = .returned (.int .i64 (errQ (f, t, d))) ∧ Below w.heap.size w w' := by
  by_cases h1 : f < 0
  · have HR := Lib.hid (err_first (d := d) (.inl h1) (t := t))
    go_enter Try.func42, Try.ntmps42
    go_wp2
    go_ret
    exact ⟨by rw [HR.out]; rfl, bel_alloc _ _⟩
  by_cases h2 : t < f
  · have HR := Lib.hid (err_first (d := d) (.inr (.inl h2)))
    go_enter Try.func42, Try.ntmps42
    go_wp2
    go_ret
    exact ⟨by rw [HR.out]; rfl, bel_alloc _ _⟩
  by_cases h3 : 36525 ≤ t
  · have HR := Lib.hid (err_first (f := f) (d := d) (.inr (.inr h3)))
    go_enter Try.func42, Try.ntmps42
    go_wp2
    go_ret
    exact ⟨by rw [HR.out]; rfl, bel_alloc _ _⟩
  have ha : ¬ (f < 0 ∨ t < f ∨ 36525 ≤ t) := by omega
  by_cases h4 : 800 ≤ t - f
  · have HR := Lib.hid (err_second (d := d) ha h4)
    clear ha
    go_enter Try.func42, Try.ntmps42
    go_wp2
    go_ret
    exact ⟨by rw [HR.out]; rfl, bel_alloc _ _⟩
  by_cases h5 : d < 1
  · have HR := Lib.hid (err_third ha h4 (.inl h5))
    clear ha
    go_enter Try.func42, Try.ntmps42
    go_wp2
    go_ret
    exact ⟨by rw [HR.out]; rfl, bel_alloc _ _⟩
  by_cases h6 : 127 < d
  · have HR := Lib.hid (err_third ha h4 (.inr h6))
    clear ha
    go_enter Try.func42, Try.ntmps42
    go_wp2
    go_ret
    exact ⟨by rw [HR.out]; rfl, bel_alloc _ _⟩
  · have HR := Lib.hid (err_none ha h4 (d := d) (by omega))
    clear ha
    go_enter Try.func42, Try.ntmps42
    go_wp2
    go_ret
    exact ⟨by rw [HR.out]; rfl, bel_alloc _ _⟩

end Go.Proofs.Ytmmpalnalogfnaa.Per

/- Walks of isValid, the weekday's bit, Has, between, beside the reference's. -/
namespace Go.Proofs.Ytmmpalnalogfnaa.Per
open Go.RowKit
set_option linter.unusedSimpArgs false
set_option linter.unusedVariables false

theorem bel_acc {f : Nat} {args : Array Value} {w w1 : World} {R : Ending → Prop} (h : Calls Try.prog f args w1 fun e w' => R e ∧ Below w1.heap.size w1 w') (hb : Below w.heap.size w w1) :
    Calls Try.prog f args w1 fun e w' => R e ∧ Below w.heap.size w w' := h.mono (by rintro e w' ⟨hr, h⟩; exact ⟨hr, hb.trans (h.mono hb.size)⟩)

set_option maxHeartbeats 1000000 in
theorem isValid_any (f t d : Int) (w : World) : Calls Try.prog 24 #[encQ (f, t, d)] w fun e w' => e = .returned (.bool (okQ (f, t, d))) ∧ Below w.heap.size w w' := by
  have hb := bel_alloc w (.cells #[.int .i64 f, .int .i64 t, .int .i64 d] 27)
  have CC := Lib.hid (fun w1 hb => bel_acc (w := w) (check_any f t d w1) hb)
  cases h : okQ (f, t, d)
  · have he := errQ_two h
    clear h
    generalize errQ (f, t, d) = z at *
    go_enter Try.func24, Try.ntmps24
    go_wp2_with (go_at_call 50; refine (CC.out _ hb).mono ?_; rintro e w' ⟨rfl, hb⟩)
    go_ret
    exact ⟨ret_bool rfl, hb⟩
  · have he := errQ_ok h
    clear h
    rw [he] at CC
    clear he
    go_enter Try.func24, Try.ntmps24
    go_wp2_with (go_at_call 50; refine (CC.out _ hb).mono ?_; rintro e w' ⟨rfl, hb⟩)
    go_ret
    exact ⟨ret_bool rfl, hb⟩

theorem wraps7 (n : Int) (h₀ : 0 ≤ n) (h₁ : n < 2 ^ 7) : IntKind.i64.wrap n = n := by rw [IntKind.wrap_i64]; omega
theorem one7 (x : Int) (h0 : 0 ≤ x) (h1 : x < 128) : bits .and .i64 x 1 = x % 2 := bits_mask .i64 7 (by decide) wraps7 1 (by decide) x h0 h1
theorem shr_bit (d : Int) (k : Nat) (h0 : 0 ≤ d) : d / 2 ^ k % 2 = if d.toNat.testBit k then 1 else 0 := by
  obtain ⟨n, rfl⟩ := Int.eq_ofNat_of_zero_le h0
  rw [Int.toNat_natCast, Nat.testBit_eq_decide_div_mod_eq]
  have e : ((n : Int) / 2 ^ k % 2) = ((n / 2 ^ k % 2 : Nat) : Int) := by simp
  rw [e]
  by_cases h : n / 2 ^ k % 2 = 1
  · simp [h]
  · have : n / 2 ^ k % 2 = 0 := by omega
    simp [this]
set_option maxHeartbeats 1000000 in
theorem hasWd_any (f t d : Int) (k : Nat) (w : World) (h0 : 0 ≤ d) (h1 : d ≤ 127) (hk : k < 7) : Calls Try.prog 25 #[encQ (f, t, d), .int .i64 k] w fun e w' => e = .returned (.bool (d.toNat.testBit k)) ∧ Below w.heap.size w w' := by
  have hm : min k 64 = k := by omega
  have HB : Hid ((bits BinOp.and IntKind.i64 (d / 2 ^ k) 1 == 1) = d.toNat.testBit k) := Lib.hid (by
    have q0 : 0 ≤ d / 2 ^ k := Int.ediv_nonneg h0 (Int.pow_nonneg (by omega))
    have q1 : d / 2 ^ k ≤ d := Int.ediv_le_self _ h0
    rw [one7 _ q0 (by omega), shr_bit d k h0]
    cases d.toNat.testBit k <;> rfl)
  go_enter Try.func25, Try.ntmps25
  go_wp2
  go_ret
  exact ⟨ret_bool HB.out, bel_alloc _ _⟩

theorem wk_val (n : Int) : weekP n = ((wkN n : Nat) : Int) := by rw [wkN_int]; rfl
theorem wk_any (n : Int) (w : World) (h0 : -9223372036854775808 ≤ n) (h1 : n ≤ 9223372036854775807) : Calls Try.prog 26 #[.int .i64 n] w fun e w' => e = .returned (.int .i64 (wkN n : Nat)) ∧ Below w.heap.size w w' := by
  rw [← wk_val]; exact weekday_any n w h0 h1
theorem rwk_any (n : Int) (w : World) (h0 : -9223372036854775808 ≤ n) (h1 : n ≤ 9223372036854775807) : Calls Try.prog 84 #[.int .i64 n] w fun e w' => e = .returned (.int .i64 (wkN n : Nat)) ∧ w = w' := by
  rw [← wk_val]; exact rweekday_any n w h0 h1

theorem pow_step (k : Nat) (h : k < 7) : ((2 ^ k : Nat) : Int) ≤ 64 ∧ 1 ≤ ((2 ^ k : Nat) : Int) := by
  have h1 := Nat.pow_le_pow_right (n := 2) (by omega) (show k ≤ 6 by omega)
  have h2 := Nat.two_pow_pos k
  omega
set_option maxHeartbeats 1000000 in
theorem bit_any (n : Int) (w : World) (h0 : -9223372036854775808 ≤ n) (h1 : n ≤ 9223372036854775807) : Calls Try.prog 72 #[.int .i64 n] w fun e w' => e = .returned (.int .i64 ((2 ^ wkN n : Nat) : Int)) ∧ w = w' := by
  have CW := Lib.hid (fun w => rwk_any n w h0 h1)
  have hl := wkN_lt n
  generalize wkN n = m at *
  go_enter Try.func72, Try.ntmps72
  go_wp2
  go_loop [3, 4] (fun x i => ∃ (k : Nat), k ≤ m ∧ i = .int .i64 k ∧ x = .int .i64 ((2 ^ k : Nat) : Int)) (fun _ i => m - (intOf i).toNat)
  case atStart => exact ⟨0, Nat.zero_le _, rfl, rfl⟩
  case round =>
    obtain ⟨k, hk, rfl, rfl⟩ := hrel
    obtain ⟨y, hy⟩ : ∃ y : Int, y = ((2 ^ k : Nat) : Int) := ⟨_, rfl⟩
    have hp := pow_step k (by omega)
    rw [← hy] at hp ⊢
    have HY := Lib.hid hy
    clear hy
    by_cases hlt : k < m
    · have i1 : (k : Int) < (m : Int) := by omega
      go_wp2_with (go_at_call 84; refine (CW.out _).mono ?_; rintro e w' ⟨rfl, rfl⟩)
      go_round
      case rel => exact ⟨k + 1, by omega, by go_num, by rw [HY.out, Nat.pow_succ]; congr 1; omega⟩
      case measure => simp [intOf]; omega
    · have e : k = m := by omega
      subst e
      go_wp2_with (go_at_call 84; refine (CW.out _).mono ?_; rintro e w' ⟨rfl, rfl⟩)
      go_ret
      exact ⟨ret_int HY.out, rfl⟩

/-- a period that lies in a box, in a world that has only grown since w -/
def Box3 (w : World) (B : Nat) (p : Per) (W : World) : Prop := W.cell? ⟨B, 0, none⟩ = some (.int .i64 p.1) ∧ W.cell? ⟨B, 1, none⟩ = some (.int .i64 p.2.1) ∧ W.cell? ⟨B, 2, none⟩ = some (.int .i64 p.2.2) ∧ Below w.heap.size w W
theorem Box3.new (w : World) (p : Per) (t : TypeId) : Box3 w w.heap.size p (w.alloc (.cells #[.int .i64 p.1, .int .i64 p.2.1, .int .i64 p.2.2] t)) := by
  have h := heap_alloc_new w (.cells #[.int .i64 p.1, .int .i64 p.2.1, .int .i64 p.2.2] t)
  refine ⟨?_, ?_, ?_, bel_alloc _ _⟩
  · exact cell_of_row _ _ 0 _ _ (0, 0) h
  · exact cell_of_row _ _ 1 _ _ (0, 0) h
  · exact cell_of_row _ _ 2 _ _ (0, 0) h
theorem Box3.more {w : World} {B : Nat} {p : Per} {W W' : World} (h : Box3 w B p W) (hb : Below W.heap.size W W') : Box3 w B p W' :=
  ⟨(hb.cell (p := ⟨B, 0, none⟩) (World.block_lt_of_cell? W _ h.1)).trans h.1, (hb.cell (p := ⟨B, 1, none⟩) (World.block_lt_of_cell? W _ h.2.1)).trans h.2.1, (hb.cell (p := ⟨B, 2, none⟩) (World.block_lt_of_cell? W _ h.2.2.1)).trans h.2.2.1, h.2.2.2.trans (hb.mono h.2.2.2.size)⟩
theorem Box3.call {f : Nat} {args : Array Value} {w : World} {B : Nat} {p : Per} {v : Value} (h : ∀ W, Calls Try.prog f args W fun e w' => e = .returned v ∧ Below W.heap.size W w') (W : World) (hb : Box3 w B p W) :
    Calls Try.prog f args W fun e w' => e = .returned v ∧ Box3 w B p w' := (h W).mono (by rintro e w' ⟨he, h⟩; exact ⟨he, hb.more h⟩)
/-! ### regions that draw their order and whose calls make memory: one walk in the class of the worlds of which S holds -/
structure Wd (S : World → Prop) where
  w : World
  ok : S w
theorem quietS {P : Program} {S : World → Prop} {id : Nat} {Q : Exit → Act → World → Prop} {a : Act} {w : World} {l : List Oper} (hm : P.follows .mixedOrders = true) (hB : Region.lexB .any l.toArray = true) (hC : S w.drew)
    (h : wpQuiet P l.toArray (fun w' => ∃ x : Wd S, w' = x.w) (fun a' => ∀ w', (∃ x : Wd S, w' = x.w) → Q .normal a' w') l a) : (Code.region id l.toArray true).wp P Q a w :=
  wp_region_quiet (C := fun w' => ∃ x : Wd S, w' = x.w) hm hB ⟨⟨_, hC⟩, rfl⟩ (by simpa using h)
theorem quiet_S {P : Program} {f : FuncId} {args : Array Value} {W : World} {S : World → Prop} {v : Value} (h : Calls P f args W fun e w' => e = .returned v ∧ S w') :
    Calls P f args W fun e w'' => e = .returned v ∧ ∃ x : Wd S, w'' = x.w := h.mono (by rintro e w' ⟨he, hs⟩; exact ⟨he, ⟨w', hs⟩, rfl⟩)

set_option maxHeartbeats 2000000 in
theorem has_any (f t d n : Int) (w : World) (h0 : -9223372036854775808 ≤ n) (h1 : n ≤ 9223372036854775807) : Calls Try.prog 6 #[encQ (f, t, d), .int .i64 n] w fun e w' => e = .returned (.bool (hasQ (f, t, d) n)) ∧ Below w.heap.size w w' := by
  have hB : Box3 w w.heap.size (f, t, d) (w.alloc (.cells #[.int .i64 f, .int .i64 t, .int .i64 d] 27)).drew := (Box3.new w (f, t, d) _).more (Below.refl _ _).drew
  have f0 : ∀ x : Wd (Box3 w w.heap.size (f, t, d)), x.w.cell? ⟨w.heap.size, 0, none⟩ = some (.int .i64 f) := fun x => x.ok.1
  have f1 : ∀ x : Wd (Box3 w w.heap.size (f, t, d)), x.w.cell? ⟨w.heap.size, 1, none⟩ = some (.int .i64 t) := fun x => x.ok.2.1
  have f2 : ∀ x : Wd (Box3 w w.heap.size (f, t, d)), x.w.cell? ⟨w.heap.size, 2, none⟩ = some (.int .i64 d) := fun x => x.ok.2.2.1
  cases h : okQ (f, t, d)
  · have HR : Hid (hasQ (f, t, d) n = false) := Lib.hid (by simp [hasQ, h])
    have CV := Lib.hid (Box3.call (w := w) (B := w.heap.size) (p := (f, t, d)) (fun W => isValid_any f t d W))
    rw [h] at CV
    clear h
    go_enter Try.func6, Try.ntmps6
    go_wp2
    have hNe : Nonempty (Wd (Box3 w w.heap.size (f, t, d))) := ⟨⟨_, hB⟩⟩
    refine quietS (S := Box3 w w.heap.size (f, t, d)) (by kernel_rfl) (by kernel_rfl) (hB) ?_
    repeat (first | go_big_quiet_skip | (go_big_quiet_want; go_big_quiet_op; first | go_big_quiet_on | go_big_quiet_call ((go_at_call 24; exact quiet_S (CV.out _ (Wd.ok _))))))
    refine wpQuiet_nil ?_
    rintro W ⟨⟨_, hW⟩, rfl⟩
    go_wp2
    go_ret
    exact ⟨ret_bool HR.out.symm, hW.2.2.2⟩
  · have hq := okQ_yes h
    have CV := Lib.hid (Box3.call (w := w) (B := w.heap.size) (p := (f, t, d)) (fun W => isValid_any f t d W))
    rw [h] at CV
    have CW := Lib.hid (Box3.call (w := w) (B := w.heap.size) (p := (f, t, d)) (fun W => wk_any n W h0 h1))
    have CH := Lib.hid (Box3.call (w := w) (B := w.heap.size) (p := (f, t, d)) (fun W => hasWd_any f t d (wkN n) W (by have := hq.2.2.2.2.1; simp at this; omega) (by have := hq.2.2.2.2.2; simp at this; omega) (wkN_lt n)))
    by_cases a1 : f ≤ n
    · by_cases a2 : n ≤ t
      · have HR : Hid (hasQ (f, t, d) n = d.toNat.testBit (wkN n)) := Lib.hid (by simp [hasQ, a1, a2, h, wdB])
        clear h hq
        generalize d.toNat.testBit (wkN n) = z at *
        generalize wkN n = k at *
        go_enter Try.func6, Try.ntmps6
        go_wp2
        have hNe : Nonempty (Wd (Box3 w w.heap.size (f, t, d))) := ⟨⟨_, hB⟩⟩
        refine quietS (S := Box3 w w.heap.size (f, t, d)) (by kernel_rfl) (by kernel_rfl) (hB) ?_
        repeat (first | go_big_quiet_skip | (go_big_quiet_want; go_big_quiet_op; first | go_big_quiet_on | go_big_quiet_call ((first | (go_at_call 24; exact quiet_S (CV.out _ (Wd.ok _))) | (go_at_call 26; exact quiet_S (CW.out _ (Wd.ok _))) | (go_at_call 25; exact quiet_S (CH.out _ (Wd.ok _)))))))
        refine wpQuiet_nil ?_
        rintro W ⟨⟨_, hW⟩, rfl⟩
        go_wp2
        go_ret
        exact ⟨ret_bool HR.out.symm, hW.2.2.2⟩
      · have HR : Hid (hasQ (f, t, d) n = false) := Lib.hid (by simp [hasQ, a2])
        have a3 : decide (n ≤ t) = false := decide_eq_false a2
        clear h hq
        go_enter Try.func6, Try.ntmps6
        go_wp2
        have hNe : Nonempty (Wd (Box3 w w.heap.size (f, t, d))) := ⟨⟨_, hB⟩⟩
        refine quietS (S := Box3 w w.heap.size (f, t, d)) (by kernel_rfl) (by kernel_rfl) (hB) ?_
        repeat (first | go_big_quiet_skip | (go_big_quiet_want; go_big_quiet_op; first | go_big_quiet_on | go_big_quiet_call ((go_at_call 24; exact quiet_S (CV.out _ (Wd.ok _))))))
        refine wpQuiet_nil ?_
        rintro W ⟨⟨_, hW⟩, rfl⟩
        go_wp2
        go_ret
        exact ⟨ret_bool HR.out.symm, hW.2.2.2⟩
    · have HR : Hid (hasQ (f, t, d) n = false) := Lib.hid (by simp [hasQ, a1])
      have a3 : decide (f ≤ n) = false := decide_eq_false a1
      clear h hq
      go_enter Try.func6, Try.ntmps6
      go_wp2
      have hNe : Nonempty (Wd (Box3 w w.heap.size (f, t, d))) := ⟨⟨_, hB⟩⟩
      refine quietS (S := Box3 w w.heap.size (f, t, d)) (by kernel_rfl) (by kernel_rfl) (hB) ?_
      repeat (first | go_big_quiet_skip | (go_big_quiet_want; go_big_quiet_op; first | go_big_quiet_on | go_big_quiet_call ((go_at_call 24; exact quiet_S (CV.out _ (Wd.ok _))))))
      refine wpQuiet_nil ?_
      rintro W ⟨⟨_, hW⟩, rfl⟩
      go_wp2
      go_ret
      exact ⟨ret_bool HR.out.symm, hW.2.2.2⟩

end Go.Proofs.Ytmmpalnalogfnaa.Per

/- Walks of the reference's Has and Days; of equal lists. -/
namespace Go.Proofs.Ytmmpalnalogfnaa.Per
open Go.RowKit
set_option linter.unusedSimpArgs false
set_option linter.unusedVariables false

theorem quo_bit (d : Int) (k : Nat) (h0 : 0 ≤ d) : ((d / ((2 ^ k : Nat) : Int)).tmod 2 == 1) = d.toNat.testBit k := by
  have e : ((2 ^ k : Nat) : Int) = (2 : Int) ^ k := by simp
  rw [e, tmod_pos _ _ (Int.ediv_nonneg h0 (Int.pow_nonneg (by omega))), shr_bit d k h0]
  cases d.toNat.testBit k <;> rfl
set_option maxHeartbeats 2000000 in
theorem rhas_any (f t d n : Int) (w : World) (h0 : -9223372036854775808 ≤ n) (h1 : n ≤ 9223372036854775807) : Calls Try.prog 46 #[encQ (f, t, d), .int .i64 n] w fun e w' => e = .returned (.bool (hasQ (f, t, d) n)) ∧ Below w.heap.size w w' := by
  have hB : Box3 w w.heap.size (f, t, d) (w.alloc (.cells #[.int .i64 f, .int .i64 t, .int .i64 d] 27)).drew := (Box3.new w (f, t, d) _).more (Below.refl _ _).drew
  have f0 : ∀ x : Wd (Box3 w w.heap.size (f, t, d)), x.w.cell? ⟨w.heap.size, 0, none⟩ = some (.int .i64 f) := fun x => x.ok.1
  have f1 : ∀ x : Wd (Box3 w w.heap.size (f, t, d)), x.w.cell? ⟨w.heap.size, 1, none⟩ = some (.int .i64 t) := fun x => x.ok.2.1
  have f2 : ∀ x : Wd (Box3 w w.heap.size (f, t, d)), x.w.cell? ⟨w.heap.size, 2, none⟩ = some (.int .i64 d) := fun x => x.ok.2.2.1
  have CV := Lib.hid (Box3.call (w := w) (B := w.heap.size) (p := (f, t, d)) (fun W => rcheck_any f t d W))
  cases h : okQ (f, t, d)
  · have HR : Hid (hasQ (f, t, d) n = false) := Lib.hid (by simp [hasQ, h])
    have he := errQ_two h
    generalize errQ (f, t, d) = z at *
    clear h
    go_enter Try.func46, Try.ntmps46
    go_wp2
    have hNe : Nonempty (Wd (Box3 w w.heap.size (f, t, d))) := ⟨⟨_, hB⟩⟩
    refine quietS (S := Box3 w w.heap.size (f, t, d)) (by kernel_rfl) (by kernel_rfl) (hB) ?_
    repeat (first | go_big_quiet_skip | (go_big_quiet_want; go_big_quiet_op; first | go_big_quiet_on | go_big_quiet_call ((go_at_call 42; exact quiet_S (CV.out _ (Wd.ok _))))))
    refine wpQuiet_nil ?_
    rintro W ⟨⟨_, hW⟩, rfl⟩
    go_wp2
    go_ret
    exact ⟨ret_bool HR.out.symm, hW.2.2.2⟩
  · have hq := okQ_yes h
    have he := errQ_ok h
    rw [he] at CV
    clear he
    by_cases a1 : f ≤ n
    · by_cases a2 : n ≤ t
      · have HR : Hid (hasQ (f, t, d) n = ((d / ((2 ^ wkN n : Nat) : Int)).tmod 2 == 1)) := Lib.hid (by rw [quo_bit d (wkN n) (by have := hq.2.2.2.2.1; simp at this; omega)]; simp [hasQ, a1, a2, h, wdB])
        have CB := Lib.hid (Box3.call (w := w) (B := w.heap.size) (p := (f, t, d)) (fun W => (bit_any n W h0 h1).mono (R' := fun e w' => e = .returned (.int .i64 ((2 ^ wkN n : Nat) : Int)) ∧ Below W.heap.size W w') (by rintro e w' ⟨rfl, rfl⟩; exact ⟨rfl, Below.refl _ _⟩)))
        have hp := pow_step (wkN n) (wkN_lt n)
        have hd1 : 1 ≤ d := hq.2.2.2.2.1
        have hd2 : d ≤ 127 := hq.2.2.2.2.2
        generalize ((2 ^ wkN n : Nat) : Int) = y at *
        have y0 : ¬ y = 0 := by omega
        have y1 : ¬ y = -1 := by omega
        clear h hq
        go_enter Try.func46, Try.ntmps46
        go_wp2
        have hNe : Nonempty (Wd (Box3 w w.heap.size (f, t, d))) := ⟨⟨_, hB⟩⟩
        refine quietS (S := Box3 w w.heap.size (f, t, d)) (by kernel_rfl) (by kernel_rfl) (hB) ?_
        repeat (first | go_big_quiet_skip | (go_big_quiet_want; go_big_quiet_op; first | go_big_quiet_on | go_big_quiet_call ((first | (go_at_call 42; exact quiet_S (CV.out _ (Wd.ok _))) | (go_at_call 72; exact quiet_S (CB.out _ (Wd.ok _)))))))
        refine wpQuiet_nil ?_
        rintro W ⟨⟨_, hW⟩, rfl⟩
        go_wp2
        go_ret
        exact ⟨ret_bool HR.out.symm, hW.2.2.2⟩
      · have HR : Hid (hasQ (f, t, d) n = false) := Lib.hid (by simp [hasQ, a2])
        have a3 : decide (n ≤ t) = false := decide_eq_false a2
        clear h hq
        go_enter Try.func46, Try.ntmps46
        go_wp2
        have hNe : Nonempty (Wd (Box3 w w.heap.size (f, t, d))) := ⟨⟨_, hB⟩⟩
        refine quietS (S := Box3 w w.heap.size (f, t, d)) (by kernel_rfl) (by kernel_rfl) (hB) ?_
        repeat (first | go_big_quiet_skip | (go_big_quiet_want; go_big_quiet_op; first | go_big_quiet_on | go_big_quiet_call ((go_at_call 42; exact quiet_S (CV.out _ (Wd.ok _))))))
        refine wpQuiet_nil ?_
        rintro W ⟨⟨_, hW⟩, rfl⟩
        go_wp2
        go_ret
        exact ⟨ret_bool HR.out.symm, hW.2.2.2⟩
    · have HR : Hid (hasQ (f, t, d) n = false) := Lib.hid (by simp [hasQ, a1])
      have a3 : decide (f ≤ n) = false := decide_eq_false a1
      clear h hq
      go_enter Try.func46, Try.ntmps46
      go_wp2
      have hNe : Nonempty (Wd (Box3 w w.heap.size (f, t, d))) := ⟨⟨_, hB⟩⟩
      refine quietS (S := Box3 w w.heap.size (f, t, d)) (by kernel_rfl) (by kernel_rfl) (hB) ?_
      repeat (first | go_big_quiet_skip | (go_big_quiet_want; go_big_quiet_op; first | go_big_quiet_on | go_big_quiet_call ((go_at_call 42; exact quiet_S (CV.out _ (Wd.ok _))))))
      refine wpQuiet_nil ?_
      rintro W ⟨⟨_, hW⟩, rfl⟩
      go_wp2
      go_ret
      exact ⟨ret_bool HR.out.symm, hW.2.2.2⟩

end Go.Proofs.Ytmmpalnalogfnaa.Per
