/- What the rows of a seat that lists utf8's tables (package strings' search) ask besides the walks: the world's shape; a world for the witness; arguments opened. -/
import Derived.Test.YtnfdmdhpbaifiaaDoorCards
import Derived.Test.YtnfdmdhpbaifiaaDoorTie
import Derived.WalkKit
import Derived.ProofKit
import Derived.OpenShut
import Derived.ShutString
import Derived.Carry
import Derived.SizedLaws
import Derived.Stop.LaidErr
import Derived.Deep.DeepHandedRow
import Derived.Deep.DeepWitnessRowRef
import Derived.Deep.DeepLaidRun
import Derived.ChangeMaps5
import Derived.Lib.SmallJoins
import Derived.Shelf.Vars
import Derived.Test.YtnfdmdhpbaifiaaDoorRows
import Derived.Test.YtnfdmdhpbaifiaaDoorPerU
namespace Go.Proofs.YtnfdmdhpbaifiaaDoor
open Go.ChangeShapes Go.WideShapes Go.ChangeAt Go.RowKit
set_option linter.unusedSimpArgs false
set_option linter.unusedVariables false

theorem own : ownKnob Tryd.prog.godebug = none := by kernel_rfl
theorem laidOut : laidOutB Tryd.prog = true := by kernel_rfl
theorem cells_per : Tryd.prog.cellsOf 23 = 3 := by kernel_rfl

/-- the first variable is a number, in every world of the program's shape -/
theorem env_of {W : World} (h : W.ShapedOpen Tryd.prog) : Env0 W := by
  obtain ⟨m, hm⟩ := Go.Proofs.cell_of_shapedOpen_int (g := 0) (k := .i64) (zero := #[.int .i64 0]) (t := 3) h (of_decide_eq_true (by kernel_rfl)) (by kernel_rfl) rfl (by kernel_rfl) (by kernel_rfl) Tryd.underlying3
  exact ⟨World.block_lt_of_cell? _ _ hm, m, hm⟩

/-! ### A world for the witness -/
def putCells (cs : Array Value) : Obj → Obj
  | .cells _ t frozen => .cells cs t frozen
  | o => o
def flat8 : DataW Unit → List Value
  | .agg ps => ps.flatMap fun | .agg qs => qs.map (fun | .lit (.int _ z) => .int .u8 z | _ => .int .u8 0) | .lit (.int _ z) => [.int .u8 z] | _ => []
  | _ => []
noncomputable def laidWorld (os : Os) : World :=
  let w0 := World.holding Tryd.prog os ⟨#[], #[], []⟩
  let h1 := w0.heap.modify 2 (putCells (flat8 Rows.laid_unicode_utf8_acceptRanges).toArray)
  let h2 := h1.modify 1 (putCells (flat8 Rows.laid_unicode_utf8_first).toArray)
  { w0 with heap := h2 }
theorem laidWorld_met (os : Os) (args : Array Value) : laidMet Tryd.prog Rows.periodTextsRow.laid ((laidWorld os).forCall (fun _ _ => 0) ⟨#[], args, []⟩).memory :=
  laidMet_of_run3 8 (by kernel_rfl) (by kernel_rfl) (by kernel_rfl)

theorem bytes_string : Tryd.prog.bytesOf 9 = 16 := by kernel_rfl
theorem sized_str {H : Type} {P : Program} {ts : List TypeId} {ds : List (DataW H)} (h : (DataW.weightsEach P ts ds).all (· ≤ reachBytes) = true) {j : Nat} {t : TypeId} {s : ByteArray} (ht : ts[j]? = some t) (hd : ds[j]? = some (.lit (.string s.data.toList))) : s.size ≤ 140737488355328 := by
  have h1 := sized_string h ht hd
  have h2 := reachBytes_lt
  have e3 : (2 : Nat) ^ 47 = 140737488355328 := by decide
  have e1 : s.data.toList.length = s.size := Array.length_toList
  omega
theorem int_bounds {a : Int} (h : (Lit.int .i64 a).wf = true) : -9223372036854775808 ≤ a ∧ a ≤ 9223372036854775807 := by
  have e1 : IntKind.i64.min = -9223372036854775808 := rfl
  have e2 : IntKind.i64.max = 9223372036854775807 := rfl
  simp only [Lit.wf, e1, e2, Bool.and_eq_true, decide_eq_true_eq] at h
  omega

end Go.Proofs.YtnfdmdhpbaifiaaDoor
