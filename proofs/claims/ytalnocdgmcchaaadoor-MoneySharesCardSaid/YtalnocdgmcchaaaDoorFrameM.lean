/- What all the rows of this seat ask besides the walks: the variables that stand as they were laid; a world for the witness; arguments opened. -/
import Derived.Test.YtalnocdgmcchaaaDoorCards
import Derived.Test.YtalnocdgmcchaaaDoorTie
import Derived.WalkKit
import Derived.ProofKit
import Derived.OpenShut
import Derived.ShutString
import Derived.Carry
import Derived.SizedLaws
import Derived.SliceStrings
import Derived.Stop.LaidErr
import Derived.Deep.DeepHandedRow
import Derived.Deep.DeepWitnessRowRef
import Derived.Deep.DeepLaidRun
import Derived.Lib.LaidTab
import Derived.Test.YtalnocdgmcchaaaDoorRows
import Derived.ChangeSlices
import Derived.Test.YtalnocdgmcchaaaDoorNum
import Derived.Test.YtalnocdgmcchaaaDoorMoneyE
namespace Go.Proofs.YtalnocdgmcchaaaDoor
open Go.ChangeShapes Go.WideShapes Go.ChangeAt Go.RowKit
set_option linter.unusedSimpArgs false
set_option linter.unusedVariables false

theorem own : ownKnob Tryd.prog.godebug = none := by kernel_rfl
theorem laidOut : laidOutB Tryd.prog = true := by kernel_rfl
theorem gRangeType : (Tryd.prog.globals[3]?).map (·.type) = some 64 := by kernel_rfl
theorem gPowType : (Tryd.prog.globals[4]?).map (·.type) = some 99 := by kernel_rfl
theorem rowErr (u : TypeId) (h : Tryd.prog.typeName? 3 u = some "*errors.errorString") : u = 95 :=
  typeName_ptr_named (nm := "errors.errorString") (by kernel_rfl) (by kernel_rfl) (by decide) u h
theorem cellsPow : Tryd.prog.cellsOf 99 = 20 := by kernel_rfl
theorem cells_u64 : Tryd.prog.cellsOf 54 = 1 := by kernel_rfl
theorem cells_err : Tryd.prog.cellsOf 97 = 1 := by kernel_rfl
theorem cells_string : Tryd.prog.cellsOf 9 = 1 := by kernel_rfl

theorem env_of {W : World} (h : laidMetH Tryd.prog Rows.moneySumsRow.laid W) : Env W := by
  have h' : laidMet Tryd.prog Rows.moneySumsRow.laid W := h
  have h2 := h'.tail.tail
  have h3 := h2.tail
  obtain ⟨a, s, hv, _⟩ := laid_sentinel h3 gRange gRangeType Tryd.underlying64 rowErr Tryd.underlying95 Tryd.underlying97 rfl rfl Tryd.underlying9 cells_err cells_string
  exact ⟨⟨_, _, hv⟩, Lib.tabIs_of_head gPow gPowType Tryd.underlying99 Tryd.underlying54 cells_u64 cellsPow h2⟩

/-! ### A world for the witness -/
abbrev synS : ByteArray := { data := #[105, 110, 118, 97, 108, 105, 100, 32, 115, 121, 110, 116, 97, 120] }
abbrev rngS : ByteArray := { data := #[118, 97, 108, 117, 101, 32, 111, 117, 116, 32, 111, 102, 32, 114, 97, 110, 103, 101] }
noncomputable def low : Nat := (World.holding Tryd.prog default ⟨#[], #[], []⟩).heap.size
def putCells (cs : Array Value) : Obj → Obj
  | .cells _ t frozen => .cells cs t frozen
  | o => o
def litsOf (k : IntKind) : DataW Unit → List Value
  | .agg ps => ps.map fun | .lit (.int _ z) => .int k z | _ => .int k 0
  | _ => []
noncomputable def laidWorld (os : Os) : World :=
  let w0 := World.holding Tryd.prog os ⟨#[.cells #[.string synS] 97, .cells #[.string rngS] 97], #[], []⟩
  let h1 := w0.heap.modify 2 (putCells #[.iface 95 (.pointer (some ⟨low, 0, none⟩))])
  let h2 := h1.modify 3 (putCells #[.iface 95 (.pointer (some ⟨low + 1, 0, none⟩))])
  let h3 := h2.modify 4 (putCells (litsOf .u64 Rows.laid_internal_strconv_uint64pow10).toArray)
  let h4 := h3.modify 5 (putCells (litsOf .u8 Rows.laid_math_bits_deBruijn32tab).toArray)
  let h5 := h4.modify 6 (putCells (litsOf .u8 Rows.laid_math_bits_deBruijn64tab).toArray)
  { w0 with heap := h5 }
theorem laidWorld_met (os : Os) (args : Array Value) : laidMet Tryd.prog Rows.moneySumsRow.laid ((laidWorld os).forCall (fun _ _ => 0) ⟨#[], args, []⟩).memory :=
  laidMet_of_run3 8 (by kernel_rfl) (by kernel_rfl) (by kernel_rfl)

/-! ### A list of numbers among the arguments -/
theorem cells_int : Tryd.prog.cellsOf 3 = 1 := by kernel_rfl
theorem bytes_int : Tryd.prog.bytesOf 3 = 8 := by kernel_rfl
theorem open_intL {H : Type} {enc : TypeId × Value → H} {P : Program} {W : World} {t e : TypeId} (ht : P.underlying t = some (.slice e)) (he : P.underlying e = some (.int .i64)) (hc : P.cellsOf e = 1) (hb : P.bytesOf e = 8)
    {A : Option Addr} {n c : Nat} {d : DataW H} {p : List MemPlace} (h : DataW.Trod enc P W 0 (fun _ => true) true t (.slice A n c) d p)
    {ts : List TypeId} {ds : List (DataW H)} (hsz : (DataW.weightsEach P ts ds).all (· ≤ reachBytes) = true) {j : Nat} (hj : ts[j]? = some t) (hd : ds[j]? = some d) :
    ∃ l : List Int, n = l.length ∧ IntL W (.slice A l.length c) l ∧ l.length ≤ 140737488355328 := by
  have hr := reachBytes_lt
  have e3 : (2 : Nat) ^ 47 = 140737488355328 := by decide
  obtain ⟨fuel, hf⟩ := h
  rcases open_ints ht he hc hf with ⟨hcs, _⟩ | ⟨a, len, cap, zs, hcs, _, hl, hm, hz, hx, hcell, hwf⟩
  · simp [Value.cells] at hcs
    obtain ⟨rfl, rfl, rfl⟩ := hcs
    exact ⟨[], rfl, ⟨none, 0, rfl, .inl rfl⟩, by simp⟩
  · simp [Value.cells] at hcs
    obtain ⟨rfl, rfl, rfl⟩ := hcs
    simp at hz
    have hlen : (zs.take n).length = n := by rw [List.length_take]; omega
    injection hx with hx _
    subst hx
    have w1 := sized_slice hsz hj hd ht
    rw [hb] at w1
    have el : (lits (H := H) .i64 (zs.take n)).length = n := by rw [lits, List.length_map, hlen]
    refine ⟨zs.take n, hlen.symm, ?_, by omega⟩
    · rw [hlen]
      refine ⟨some a, c, by rw [hlen], ?_⟩
      rcases Nat.eq_zero_or_pos n with h0 | h0
      · left
        rw [h0]; rfl
      · right
        obtain ⟨b, off, spot⟩ := a
        have h1 := hcell 0 (by omega)
        have hspot : spot = none := by simpa [Addr.add] using World.cell?_spot h1
        subst hspot
        refine ⟨b, off, rfl, World.block_lt_of_cell? _ _ h1, fun i hi => ?_⟩
        have h2 := hcell i (by omega)
        rw [List.getElem_take]
        have : zs.getD i 0 = zs[i]'(by omega) := by rw [List.getD_eq_getElem?_getD, List.getElem?_eq_getElem (by omega)]; rfl
        rw [this] at h2
        have hadd : (⟨b, off, none⟩ : Addr).add i = ⟨b, off + i, none⟩ := by unfold Addr.add; split <;> simp_all
        rw [hadd] at h2
        exact h2
theorem int32_bounds {a : Int} (h : (Lit.int .i32 a).wf = true) : -2147483648 ≤ a ∧ a ≤ 2147483647 := by
  have e1 : IntKind.i32.min = -2147483648 := rfl
  have e2 : IntKind.i32.max = 2147483647 := rfl
  simp only [Lit.wf, e1, e2, Bool.and_eq_true, decide_eq_true_eq] at h
  omega
theorem bytes_string : Tryd.prog.bytesOf 9 = 16 := by kernel_rfl
theorem sized_str {H : Type} {P : Program} {ts : List TypeId} {ds : List (DataW H)} (h : (DataW.weightsEach P ts ds).all (· ≤ reachBytes) = true) {j : Nat} {t : TypeId} {s : ByteArray} (ht : ts[j]? = some t) (hd : ds[j]? = some (.lit (.string s.data.toList))) : s.size ≤ 140737488355328 := by
  have h1 := sized_string h ht hd
  have h2 := reachBytes_lt
  have e3 : (2 : Nat) ^ 47 = 140737488355328 := by decide
  have e1 : s.data.toList.length = s.size := Array.length_toList
  omega
theorem int_bounds {a : Int} (h : (Lit.int .i64 a).wf = true) : -9223372036854775808 ≤ a ∧ a ≤ 9223372036854775807 := by
  have e1 : IntKind.i64.min = -9223372036854775808 := rfl
  have e2 : IntKind.i64.max = 9223372036854775807 := rfl
  simp only [Lit.wf, e1, e2, Bool.and_eq_true, decide_eq_true_eq] at h
  omega
