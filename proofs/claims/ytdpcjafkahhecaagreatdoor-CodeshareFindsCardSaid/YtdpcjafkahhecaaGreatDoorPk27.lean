/- Words and walks that the laws below ask: FrameG. -/
import Derived.Test.YtdpcjafkahhecaaGreatDoorPk3
import Derived.Test.YtdpcjafkahhecaaGreatDoorPk6
/- A segment among the arguments, opened. -/
namespace Go.Proofs.YtdpcjafkahhecaaGreatDoor
open Go.ChangeShapes Go.WideShapes Go.ChangeAt Go.RowKit
set_option linter.unusedSimpArgs false
set_option linter.unusedVariables false

theorem cells_seg : Tryz.prog.cellsOf 34 = 7 := by kernel_rfl
structure OkSg (s : Sg) : Prop where
  day : -9223372036854775808 ≤ s.day ∧ s.day ≤ 9223372036854775807
theorem len7 {α : Type} : ∀ {l : List α}, l.length = 7 → ∃ a b c d e f g, l = [a, b, c, d, e, f, g]
  | [a, b, c, d, e, f, g], _ => ⟨a, b, c, d, e, f, g, rfl⟩
theorem array7 {α : Type} {cs : Array α} (h : cs.size = 7) : ∃ c0 c1 c2 c3 c4 c5 c6, cs = #[c0, c1, c2, c3, c4, c5, c6] := by
  obtain ⟨l⟩ := cs
  match l, h with
  | [c0, c1, c2, c3, c4, c5, c6], _ => exact ⟨c0, c1, c2, c3, c4, c5, c6, rfl⟩
set_option maxRecDepth 100000 in
theorem read_seg {H : Type} {enc : TypeId × Value → H} {W : World} {n : Nat} {c0 c1 c2 c3 c4 c5 c6 : Value} {y : DataW H × List MemPlace} (h : DataW.trod enc Tryz.prog W 0 (fun _ => true) true n 34 [c0, c1, c2, c3, c4, c5, c6] = some y) :
    ∃ sv : Sg, (#[c0, c1, c2, c3, c4, c5, c6] : Array Value) = #[.string sv.car, .int .i64 sv.num, .int .i64 sv.day, .string sv.f, .string sv.t, .int .i64 sv.dep, .int .i64 sv.arr] ∧ OkSg sv := by
  obtain ⟨xs, k, _, _, _, hxl, hf⟩ := DataW.trod_struct Tryz.underlying34 h
  obtain ⟨y0, y1, y2, y3, y4, y5, y6, rfl⟩ := len7 hxl
  all_goals
    have g0 := hf 0 _ rfl
    have g1 := hf 1 _ rfl
    have g2 := hf 2 _ rfl
    have g3 := hf 3 _ rfl
    have g4 := hf 4 _ rfl
    have g5 := hf 5 _ rfl
    have g6 := hf 6 _ rfl
    simp [cells_string, cells_int] at g0 g1 g2 g3 g4 g5 g6
    obtain ⟨s0, e0, _, z0⟩ := DataW.trod_string Tryz.underlying9 g0
    obtain ⟨x1, e1, _, w1⟩ := DataW.trod_int Tryz.underlying3 g1
    obtain ⟨x2, e2, _, w2⟩ := DataW.trod_int Tryz.underlying3 g2
    obtain ⟨s3, e3, _, z3⟩ := DataW.trod_string Tryz.underlying9 g3
    obtain ⟨s4, e4, _, z4⟩ := DataW.trod_string Tryz.underlying9 g4
    obtain ⟨x5, e5, _, w5⟩ := DataW.trod_int Tryz.underlying3 g5
    obtain ⟨x6, e6, _, w6⟩ := DataW.trod_int Tryz.underlying3 g6
    simp at e0 e1 e2 e3 e4 e5 e6
    subst e0 e1 e2 e3 e4 e5 e6
    exact ⟨⟨s0, x1, x2, s3, s4, x5, x6⟩, rfl, ⟨int_bounds w2⟩⟩
set_option maxRecDepth 100000 in
/-- a segment by value, opened -/
theorem open_seg {H : Type} {enc : TypeId × Value → H} {W : World} {b0 : Nat} {v : Value} {d : DataW H} {p : List MemPlace} (hv : Value.okWide Tryz.prog W .any b0 34 v) (h : DataW.Trod enc Tryz.prog W 0 (fun _ => true) true 34 v d p) :
    ∃ sv : Sg, v = encS7 sv ∧ OkSg sv := by
  obtain ⟨cs, rfl, hsz⟩ := okWide_struct Tryz.underlying34 hv
  obtain ⟨c0, c1, c2, c3, c4, c5, c6, rfl⟩ := array7 (hsz.trans cells_seg)
  obtain ⟨fuel, hf⟩ := h
  obtain ⟨sv, e, h2⟩ := read_seg hf
  exact ⟨sv, by rw [e], h2⟩

end Go.Proofs.YtdpcjafkahhecaaGreatDoor
