/- What the rows of a seat that lists no variable ask besides the walks: arguments opened (time zones, numbers). -/
import Derived.Test.YtbkpienklhmgbaaRows
import Derived.Test.YtbkpienklhmgbaaZonA
import Derived.WalkKit
import Derived.ProofKit
import Derived.OpenShut
import Derived.ShutString
import Derived.Carry
import Derived.ChangeMaps5
import Derived.Lib.SmallJoins
import Derived.Deep.SlicePairs
namespace Go.Proofs.Ytbkpienklhmgbaa
open Go.ChangeShapes Go.WideShapes Go.ChangeAt Go.RowKit
set_option linter.unusedSimpArgs false
set_option linter.unusedVariables false

theorem own : ownKnob Try.prog.godebug = none := by kernel_rfl
theorem laidOut : laidOutB Try.prog = true := by kernel_rfl
theorem int_bounds {a : Int} (h : (Lit.int .i64 a).wf = true) : -9223372036854775808 ≤ a ∧ a ≤ 9223372036854775807 := by
  have e1 : IntKind.i64.min = -9223372036854775808 := rfl
  have e2 : IntKind.i64.max = 9223372036854775807 := rfl
  simp only [Lit.wf, e1, e2, Bool.and_eq_true, decide_eq_true_eq] at h
  omega
theorem cells_zone : Try.prog.cellsOf 24 = 2 := by kernel_rfl
theorem cells_shift : Try.prog.cellsOf 34 = 2 := by kernel_rfl
theorem cells_int : Try.prog.cellsOf 3 = 1 := by kernel_rfl
theorem shs_at (f : Nat → Int × Int) (n i : Nat) (h : i < n) : ((List.range n).map f).getD i (0, 0) = f i := by
  rw [List.getD_eq_getElem?_getD, List.getElem?_map, List.getElem?_range h]; rfl
/-- a time zone by value, opened: its offset and its shifts -/
theorem open_zone {H : Type} {enc : TypeId × Value → H} {W : World} {b0 : Nat} {v : Value} {d : DataW H} {p : List MemPlace} (hv : Value.okWide Try.prog W .any b0 24 v) (h : DataW.Trod enc Try.prog W 0 (fun _ => true) true 24 v d p) :
    ∃ (o : Int) (A : Option Addr) (c : Nat) (l : Shs), v = encZ o A l.length c ∧ (-9223372036854775808 ≤ o ∧ o ≤ 9223372036854775807) ∧ ShL W A l ∧ (∀ k, k < l.length → -9223372036854775808 ≤ shA l k ∧ shA l k ≤ 9223372036854775807) ∧ l.length < 9223372036854775808 := by
  obtain ⟨v0, v1, y0, y1, m, rfl, rfl, rfl, hy0, hy1⟩ := Joins.open_agg2 Try.underlying24 (by kernel_rfl) cells_zone hv h
  obtain ⟨o, e0, rfl, w0⟩ := DataW.trod_int Try.underlying3 hy0
  simp at e0
  subst e0
  rcases Deep.open_slice_pairs Try.underlying22 Try.underlying34 cells_shift rfl rfl cells_int cells_int hy1 with ⟨hcs, rfl⟩ | ⟨a, len, cap, m', n, V0, V1, D0, D1, P0, P1, hcs, _, hl, hm, hmm, rfl, hx⟩
  · simp at hcs
    subst hcs
    exact ⟨o, none, 0, [], rfl, int_bounds w0, .inl rfl, fun k hk => by simp at hk, by simp⟩
  · simp at hcs
    subst hcs
    simp at hmm
    subst hmm
    have em : maxLen = 9223372036854775807 := by decide
    have each : ∀ i, i < m' → ∃ q : Int × Int, V0 i = .int .i64 q.1 ∧ V1 i = .int .i64 q.2 ∧ -9223372036854775808 ≤ q.1 ∧ q.1 ≤ 9223372036854775807 := fun i hi => by
      obtain ⟨_, _, g0, g1⟩ := hx i hi
      obtain ⟨x, e0, _, w0⟩ := DataW.trod_int Try.underlying3 g0
      obtain ⟨y, e1, _, w1⟩ := DataW.trod_int Try.underlying3 g1
      simp at e0 e1
      exact ⟨(x, y), e0, e1, int_bounds w0⟩
    obtain ⟨f, hf⟩ := Deep.choose_lt each
    have el : ((List.range len).map f).length = len := by simp
    refine ⟨o, some a, m', (List.range len).map f, by rw [el], int_bounds w0, ?_, ?_, by rw [el]; omega⟩
    · rcases Nat.eq_zero_or_pos len with h0 | h0
      · left; rw [h0]; rfl
      · right
        obtain ⟨b, off, spot⟩ := a
        have h1 := (hx 0 (by omega)).1
        have hspot : spot = none := by simpa [Addr.add] using World.cell?_spot h1
        subst hspot
        have hadd : ∀ i, (⟨b, off, none⟩ : Addr).add i = ⟨b, off + i, none⟩ := fun i => by unfold Addr.add; split <;> simp_all
        refine ⟨b, off, rfl, by simpa [Addr.add] using World.block_lt_of_cell? _ _ h1, fun i hi => ?_⟩
        rw [el] at hi
        obtain ⟨g0, g1, _, _⟩ := hx i (by omega)
        obtain ⟨e0, e1, _⟩ := hf i (by omega)
        rw [hadd, e0] at g0
        rw [hadd, e1] at g1
        unfold shA shF
        rw [shs_at f len i hi]
        exact ⟨g0, by rw [Nat.add_assoc]; exact g1⟩
    · intro k hk
      rw [el] at hk
      unfold shA
      rw [shs_at f len k hk]
      exact (hf k (by omega)).2.2

end Go.Proofs.Ytbkpienklhmgbaa
