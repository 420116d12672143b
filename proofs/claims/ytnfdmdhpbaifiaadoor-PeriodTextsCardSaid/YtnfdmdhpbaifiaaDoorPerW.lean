/- Walk of the law's own examples. -/
import Derived.Test.YtnfdmdhpbaifiaaDoorPerO
import Derived.Test.YtnfdmdhpbaifiaaDoorPerT
namespace Go.Proofs.YtnfdmdhpbaifiaaDoor
open Go.RowKit
set_option linter.unusedSimpArgs false
set_option linter.unusedVariables false

theorem ex_norm : ofQ (daysQ (9497, 9503, 96)) = ((9499, 9500, 96), true) := by decide
theorem ex_with : withQ (9497, 9510, 127) (9500, 9503, 64) = [(9497, 9499, 56), (9501, 9503, 7), (9504, 9510, 127)] := by decide
theorem ex_text : perL (9497, 9503, 96) = [50, 48, 50, 54, 45, 48, 49, 45, 48, 49, 47, 50, 48, 50, 54, 45, 48, 49, 45, 48, 55, 47, 54, 55] := by decide

set_option maxRecDepth 100000 in
set_option maxHeartbeats 2000000 in
theorem awake_any (w : World) : Calls Tryd.prog 4 #[] w fun e w' => e = .returned (.bool true) ∧ Below w.heap.size w w' := by
  have C1 : Hid (∀ W, Calls Tryd.prog 10 #[.agg #[.int .i64 9497, .int .i64 9503, .int .i64 96]] W fun e W' => e = .returned (.tuple #[.agg #[.int .i64 9499, .int .i64 9500, .int .i64 96], .bool true]) ∧ Below W.heap.size W W') := Lib.hid (fun W => by
    have h := normal_any (9497, 9503, 96) W
    rw [ex_norm] at h
    exact h)
  have C2 : Hid (∀ W, Calls Tryd.prog 11 #[.agg #[.int .i64 9497, .int .i64 9510, .int .i64 127], .agg #[.int .i64 9500, .int .i64 9503, .int .i64 64]] W fun e W' => ∃ g o c, e = .returned (.slice (some ⟨g, o, none⟩) 3 c) ∧ g < W'.heap.size ∧ W'.cell? ⟨g, o + 3, none⟩ = some (.int .i64 9501) ∧ W'.cell? ⟨g, o + 3 + 1, none⟩ = some (.int .i64 9503) ∧ W'.cell? ⟨g, o + 3 + 2, none⟩ = some (.int .i64 7) ∧ Below W.heap.size W W') := Lib.hid (fun W => by
    have h := without_any (9497, 9510, 127) (9500, 9503, 64) W
    rw [ex_with] at h
    refine h.mono ?_
    rintro e w' ⟨v, rfl, ⟨A, c, rfl, hc⟩, hb⟩
    rcases hc with hc | ⟨g, o, rfl, hg, hcc⟩
    · cases hc
    · obtain ⟨h0, h1, h2⟩ := hcc 1 (by simp)
      exact ⟨g, o, c, rfl, hg, h0, h1, h2, hb⟩)
  have C3 : Hid (∀ W, Calls Tryd.prog 7 #[.agg #[.int .i64 9497, .int .i64 9503, .int .i64 96]] W fun e W' => e = .returned (.string ⟨#[50, 48, 50, 54, 45, 48, 49, 45, 48, 49, 47, 50, 48, 50, 54, 45, 48, 49, 45, 48, 55, 47, 54, 55]⟩) ∧ Below W.heap.size W W') := Lib.hid (fun W => by
    have h := pprint_any 9497 9503 96 W
    rw [ex_text] at h
    exact h)
  go_enter Tryd.func4, Tryd.ntmps4
  go_wp2_with (first
    | (go_at_call 10; refine (C1.out _).mono ?_; rintro e w1 ⟨rfl, hb1⟩; have hN : BoxAt (w1.alloc (.cells #[.int .i64 9499, .int .i64 9500, .int .i64 96] perT)) w1.heap.size (9499, 9500, 96) := heap_alloc_new w1 _)
    | (go_at_call 11; refine (C2.out _).mono ?_; rintro e w2 ⟨g, o, c, rfl, hg, h0, h1, h2, hb2⟩; have hN2 := (hN.more hb2).cell; have n0 := hN2.1; have n1 := hN2.2.1; have n2 := hN2.2.2)
    | (go_at_call 7; refine (C3.out _).mono ?_; rintro e w3 ⟨rfl, hb3⟩))
  go_ret
  have hs2 := ((hb1.alloc hb1.size (.cells #[.int .i64 9499, .int .i64 9500, .int .i64 96] perT))).trans (hb2.mono (Nat.le_trans hb1.size (by simp)))
  exact ⟨rfl, hs2.trans (hb3.mono hs2.size)⟩

end Go.Proofs.YtnfdmdhpbaifiaaDoor
