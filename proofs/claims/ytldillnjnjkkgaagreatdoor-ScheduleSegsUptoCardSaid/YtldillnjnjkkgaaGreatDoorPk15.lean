/- Words and walks that the laws below ask: FrameU. -/
import Derived.Test.YtldillnjnjkkgaaGreatDoorPk7
/- What the bound of a narrowed row says of places among the arguments. -/
namespace Go.Proofs.YtldillnjnjkkgaaGreatDoor
open Go.ChangeShapes Go.WideShapes Go.ChangeAt Go.RowKit
set_option linter.unusedSimpArgs false
set_option linter.unusedVariables false

theorem bk_pos {H : Type} (d : DataW H) : 1 ≤ Rows.uptoBulk d := by
  cases d with
  | lit l => cases l <;> simp [Rows.uptoBulk]
  | _ => simp [Rows.uptoBulk]
theorem bk_len {H : Type} : ∀ l : List (DataW H), l.length ≤ Rows.uptoBulkAll l
  | [] => Nat.zero_le _
  | d :: r => by
    have h1 := bk_pos d
    have h2 := bk_len r
    simp only [Rows.uptoBulkAll, List.length_cons]
    omega
theorem bk_mem {H : Type} {d : DataW H} {n : Nat} : ∀ {l : List (DataW H)}, d ∈ l → Rows.uptoBulkAll l ≤ n → Rows.uptoBulk d ≤ n
  | e :: r, h, hn => by
    simp only [Rows.uptoBulkAll] at hn
    rcases List.mem_cons.1 h with rfl | h
    · omega
    · exact bk_mem h (by omega)
/-- a slice is no longer than what it holds is great -/
theorem slice_bulk {H : Type} {enc : TypeId × Value → H} {W : World} {t e : TypeId} {fuel n c : Nat} {A : Option Addr} {x : DataW H × List MemPlace} (ht : Tryz.prog.underlying t = some (.slice e)) (h : DataW.trod enc Tryz.prog W 0 (fun _ => true) true fuel t [.slice A n c] = some x) : n ≤ Rows.uptoBulk x.1 := by
  rcases Deep.open_slice ht h with ⟨hcs, _⟩ | ⟨a, len, cap, m', k, D, Pl, hcs, _, hl, hm, hmm, hx, _⟩
  · simp only [List.cons.injEq, Value.slice.injEq] at hcs
    omega
  · simp only [List.cons.injEq, Value.slice.injEq] at hcs
    have h1 := bk_len ((List.range len).map D)
    rw [List.length_map, List.length_range] at h1
    rw [hx]
    show n ≤ Rows.uptoBulk (.slice ((List.range len).map D) _)
    simp only [Rows.uptoBulk]
    omega
set_option maxRecDepth 100000 in
theorem places_bulk {H : Type} {enc : TypeId × Value → H} {W : World} {b0 : Nat} {pv : PV} {d : DataW H} {p : List MemPlace} (hv : Value.okWide Tryz.prog W .any b0 31 (encP pv)) (h : DataW.Trod enc Tryz.prog W 0 (fun _ => true) true 31 (encP pv) d p) :
    pv.l.length ≤ Rows.uptoBulk d ∧ pv.ds.length ≤ Rows.uptoBulk d := by
  obtain ⟨v0, v1, y0, y1, m, e, rfl, _, hy0, hy1⟩ := Joins.open_agg2 Tryz.underlying31 (by kernel_rfl) cells_places hv h
  unfold encP at e
  simp only [Value.agg.injEq, Array.mk.injEq, List.cons.injEq, and_true] at e
  obtain ⟨e0, e1⟩ := e
  subst e0 e1
  have h0 := slice_bulk Tryz.underlying28 hy0
  have h1 := slice_bulk Tryz.underlying29 hy1
  have b : Rows.uptoBulkAll [y0.1, y1.1] ≤ Rows.uptoBulk (.agg [y0.1, y1.1]) := by simp only [Rows.uptoBulk]; omega
  exact ⟨Nat.le_trans h0 (bk_mem (by simp) b), Nat.le_trans h1 (bk_mem (by simp) b)⟩

end Go.Proofs.YtldillnjnjkkgaaGreatDoor
