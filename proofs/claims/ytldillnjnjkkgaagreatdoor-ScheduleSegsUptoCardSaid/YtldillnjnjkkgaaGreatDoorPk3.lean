/- Words and walks that the laws below ask: Shelf, DecE, FrameF, PerP, PerA, PerB, PerC, FliF, FliG. -/
import Derived.Shelf.Strings.Builder1
import Derived.Shelf.Small.Strs
import Derived.Shelf.Strconv.Itoa3
import Derived.Ground.GgwProg
import Derived.Shelf.GgClosure.StringsIndexFuncTop
import Derived.Test.YtldillnjnjkkgaaGreatDoorProg
import Derived.Test.YtldillnjnjkkgaaGreatDoorRows
import Derived.WalkKit
import Derived.WalkSpells
import Derived.WalkLawsBesides
import Derived.Lib.Hide
import Derived.Lib.OthersKept
import Derived.WalkSmall
import Derived.Lib.LaidTab
import Derived.Lib.AppendIntMem
import Derived.Test.YtldillnjnjkkgaaGreatDoorCards
import Derived.Test.YtldillnjnjkkgaaGreatDoorTie
import Derived.ProofKit
import Derived.OpenShut
import Derived.ShutString
import Derived.Carry
import Derived.SizedLaws
import Derived.SliceStrings
import Derived.Stop.LaidErr
import Derived.Deep.DeepHandedRow
import Derived.Deep.DeepWitnessRowRef
import Derived.Deep.DeepLaidRun
import Derived.Lib.SmallJoins
import Derived.Deep.SlicePairs
import Derived.ChangeSlices
import Derived.OwnWalk
import Derived.IntWalk
import Derived.Deep.QuietTactic
import Derived.BigQuiet
import Derived.Deep.RegionHeld3
import Derived.Test.YtldillnjnjkkgaaGreatDoorPk1
import Derived.Test.YtldillnjnjkkgaaGreatDoorPk2
/-
  DERIVED: THE SHELF's CONTRACTS AT THIS DUMP, IN PLAIN WORDS (tools/lay-plain.mjs out of 'TryzShelf.lean', which tools/lay-shelf.mjs wrote): THE SAME DECLARATIONS UNDER THE SAME NAMES: 'import', 'namespace', 'open', 'def', 'theorem' AND NOTHING ELSE: no command of the shelf's: FOR A HAND-IN. Each laying: the table of numbers ('.._ren') and one theorem, a field a fact of the dump's own or the kernel's comparison; each contract: ONE APPLICATION.
-/
namespace Go.Proofs
open Go.Shelf
def Tryz.lays169_ren : Go.Shelf.Ren := ⟨fun | 169 => 135 | n => n, fun | 70 => 168 | 9 => 9 | 0 => 0 | 72 => 171 | 37 => 169 | 127 => 229 | 3 => 3 | 5 => 5 | n => n, fun | n => n⟩
theorem Tryz.lays169 : Go.Proofs.Lays.n169 Tryz.prog Tryz.lays169_ren := {
  mixed := by kernel_rfl
  f169 := Tryz.func135.trans (congrArg some (by kernel_rfl))
  t0 := Tryz.underlying0
  a0 := Tryz.isAgg0
  z0 := Tryz.sizeOf0
  v0 := Tryz.zeroValue0
  t3 := Tryz.underlying3
  a3 := Tryz.isAgg3
  z3 := Tryz.sizeOf3
  v3 := Tryz.zeroValue3
  t9 := Tryz.underlying9
  a9 := Tryz.isAgg9
  z9 := Tryz.sizeOf9
  v9 := Tryz.zeroValue9
  t37 := Tryz.underlying169
  a37 := Tryz.isAgg169
  z37 := Tryz.sizeOf169
  v37 := Tryz.zeroValue169
  t70 := Tryz.underlying168
  a70 := Tryz.isAgg168
  z70 := Tryz.sizeOf168
  v70 := Tryz.zeroValue168
  t72 := Tryz.underlying171
  a72 := Tryz.isAgg171
  z72 := Tryz.sizeOf171
  v72 := Tryz.zeroValue171
  t127 := Tryz.underlying229
  a127 := Tryz.isAgg229
  z127 := Tryz.sizeOf229
  v127 := Tryz.zeroValue229 }
theorem Tryz.Builder_Extra_169 : Builder.Extra Tryz.prog Tryz.lays169_ren := {
  sizeBuilder := by kernel_rfl
  liesBuilder := by kernel_rfl
  t5 := Tryz.underlying5
  a5 := Tryz.isAgg5
  z5 := Tryz.sizeOf5
  v5 := Tryz.zeroValue5
  infoByte := by kernel_rfl
  cellsByte := by kernel_rfl
  sizeByte := by kernel_rfl
  neB5 := by decide }
open Go.RowKit in
/-- (*strings.Builder).String: "String returns the accumulated string.": WHATEVER THE BUILDER HOLDS. (LAID: no walk: one application.) -/
theorem Tryz.Builder_String_any (B b : Nat) (l : List UInt8) (w : World) (h : Lib.IsBuilder 171 5 B b (Lib.byteCells l) w) (hBw : B ≤ w.heap.size) :
    Calls Tryz.prog 135 #[.pointer (some ⟨b, 0, none⟩)] w fun e w' => e = .returned (.string ⟨l.toArray⟩) ∧ Below B w w' := Any.Builder_String_any Tryz.lays169 Tryz.Builder_Extra_169 B b l w h hBw
def Tryz.laysM171_ren : Go.Shelf.Ren := ⟨fun | 171 => 75 | 243 => 158 | 246 => 216 | 283 => 255 | 284 => 256 | 285 => 257 | 286 => 258 | 129 => 274 | 317 => 273 | 318 => 275 | 319 => 276 | 320 => 277 | 337 => 287 | 338 => 288 | n => n, fun | 3 => 3 | 9 => 9 | 2 => 2 | 4 => 4 | 171 => 273 | 0 => 0 | 53 => 180 | 37 => 169 | 5 => 5 | 173 => 276 | 212 => 291 | 51 => 292 | 20 => 20 | 213 => 293 | 46 => 228 | 232 => 306 | 233 => 307 | n => n, fun | 17 => 2 | 18 => 6 | 19 => 7 | n => n⟩
theorem Tryz.laysM171 : Go.Proofs.LaysM.n171 Tryz.prog Tryz.laysM171_ren := {
  mixed := by kernel_rfl
  f129 := Tryz.func274.trans (congrArg some (by kernel_rfl))
  f171 := Tryz.func75.trans (congrArg some (by kernel_rfl))
  f243 := Tryz.func158.trans (congrArg some (by kernel_rfl))
  f246 := Tryz.func216.trans (congrArg some (by kernel_rfl))
  f283 := Tryz.func255.trans (congrArg some (by kernel_rfl))
  f284 := Tryz.func256.trans (congrArg some (by kernel_rfl))
  f285 := Tryz.func257.trans (congrArg some (by kernel_rfl))
  f286 := Tryz.func258.trans (congrArg some (by kernel_rfl))
  f317 := Tryz.func273.trans (congrArg some (by kernel_rfl))
  f318 := Tryz.func275.trans (congrArg some (by kernel_rfl))
  f319 := Tryz.func276.trans (congrArg some (by kernel_rfl))
  f320 := Tryz.func277.trans (congrArg some (by kernel_rfl))
  f337 := Tryz.func287.trans (congrArg some (by kernel_rfl))
  f338 := Tryz.func288.trans (congrArg some (by kernel_rfl))
  t0 := Tryz.underlying0
  a0 := Tryz.isAgg0
  z0 := Tryz.sizeOf0
  v0 := Tryz.zeroValue0
  t2 := Tryz.underlying2
  a2 := Tryz.isAgg2
  z2 := Tryz.sizeOf2
  v2 := Tryz.zeroValue2
  t3 := Tryz.underlying3
  a3 := Tryz.isAgg3
  z3 := Tryz.sizeOf3
  v3 := Tryz.zeroValue3
  t4 := Tryz.underlying4
  a4 := Tryz.isAgg4
  z4 := Tryz.sizeOf4
  v4 := Tryz.zeroValue4
  t5 := Tryz.underlying5
  a5 := Tryz.isAgg5
  z5 := Tryz.sizeOf5
  v5 := Tryz.zeroValue5
  t9 := Tryz.underlying9
  a9 := Tryz.isAgg9
  z9 := Tryz.sizeOf9
  v9 := Tryz.zeroValue9
  t20 := Tryz.underlying20
  a20 := Tryz.isAgg20
  z20 := Tryz.sizeOf20
  v20 := Tryz.zeroValue20
  t37 := Tryz.underlying169
  a37 := Tryz.isAgg169
  z37 := Tryz.sizeOf169
  v37 := Tryz.zeroValue169
  t46 := Tryz.underlying228
  a46 := Tryz.isAgg228
  z46 := Tryz.sizeOf228
  v46 := Tryz.zeroValue228
  t51 := Tryz.underlying292
  a51 := Tryz.isAgg292
  z51 := Tryz.sizeOf292
  v51 := Tryz.zeroValue292
  t53 := Tryz.underlying180
  a53 := Tryz.isAgg180
  z53 := Tryz.sizeOf180
  v53 := Tryz.zeroValue180
  t171 := Tryz.underlying273
  a171 := Tryz.isAgg273
  z171 := Tryz.sizeOf273
  v171 := Tryz.zeroValue273
  t173 := Tryz.underlying276
  a173 := Tryz.isAgg276
  z173 := Tryz.sizeOf276
  v173 := Tryz.zeroValue276
  t212 := Tryz.underlying291
  a212 := Tryz.isAgg291
  z212 := Tryz.sizeOf291
  v212 := Tryz.zeroValue291
  t213 := Tryz.underlying293
  a213 := Tryz.isAgg293
  z213 := Tryz.sizeOf293
  t232 := Tryz.underlying306
  a232 := Tryz.isAgg306
  z232 := Tryz.sizeOf306
  v232 := Tryz.zeroValue306
  t233 := Tryz.underlying307
  a233 := Tryz.isAgg307
  z233 := Tryz.sizeOf307
  v233 := Tryz.zeroValue307
  g17 := by kernel_rfl
  g18 := by kernel_rfl
  g19 := by kernel_rfl
  i0 := by kernel_rfl
  i2 := by kernel_rfl
  i3 := by kernel_rfl
  i4 := by kernel_rfl
  i5 := by kernel_rfl
  i9 := by kernel_rfl
  i20 := by kernel_rfl
  i37 := by kernel_rfl
  i46 := by kernel_rfl
  i51 := by kernel_rfl
  i53 := by kernel_rfl
  i171 := by kernel_rfl
  i173 := by kernel_rfl
  i212 := by kernel_rfl
  i232 := by kernel_rfl
  i233 := by kernel_rfl
  m17 := by kernel_rfl
  m18 := by kernel_rfl
  m19 := by kernel_rfl }
open Go.RowKit Go.Sort Go.Lib in
/-- strconv.Itoa: "Itoa is equivalent to FormatInt(int64(i), 10).": i's DECIMAL NUMERAL ('Lib.itoa': a '-' where i is negative, then the digits), FOR EVERY int. The world behind the call: the world before it, new blocks behind the heap (the library's 'var a [24]byte'), draws. (LAID: no walk: one application.) -/
theorem Tryz.strconv_Itoa (n : Int) (h0 : -9223372036854775808 ≤ n) (h1 : n ≤ 9223372036854775807) (w : World) (htab : Lib.TabIs Tryz.prog w "internal/strconv.uint64pow10" .u64 Lib.pow10Tab) :
    Calls Tryz.prog 75 #[.int .i64 n] w fun e w' => e = .returned (.string ⟨(Lib.itoa n).toArray⟩) ∧ ∃ k os, w' = grow (w.drewN k) os := Any.strconv_Itoa Tryz.laysM171 n h0 h1 w htab
def Tryz.lays171_ren : Go.Shelf.Ren := ⟨fun | 171 => 75 | 243 => 158 | 246 => 216 | 283 => 255 | 284 => 256 | 285 => 257 | 286 => 258 | 129 => 274 | 317 => 273 | 318 => 275 | 319 => 276 | 320 => 277 | 337 => 287 | 338 => 288 | n => n, fun | 3 => 3 | 9 => 9 | 2 => 2 | 4 => 4 | 171 => 273 | 0 => 0 | 53 => 180 | 37 => 169 | 5 => 5 | 173 => 276 | 212 => 291 | 51 => 292 | 20 => 20 | 213 => 293 | 46 => 228 | 232 => 306 | 233 => 307 | n => n, fun | 17 => 2 | 18 => 6 | 19 => 7 | n => n⟩
theorem Tryz.lays171 : Go.Proofs.Lays.n171 Tryz.prog Tryz.lays171_ren := {
  mixed := by kernel_rfl
  f129 := Tryz.func274.trans (congrArg some (by kernel_rfl))
  f171 := Tryz.func75.trans (congrArg some (by kernel_rfl))
  f243 := Tryz.func158.trans (congrArg some (by kernel_rfl))
  f246 := Tryz.func216.trans (congrArg some (by kernel_rfl))
  f283 := Tryz.func255.trans (congrArg some (by kernel_rfl))
  f284 := Tryz.func256.trans (congrArg some (by kernel_rfl))
  f285 := Tryz.func257.trans (congrArg some (by kernel_rfl))
  f286 := Tryz.func258.trans (congrArg some (by kernel_rfl))
  f317 := Tryz.func273.trans (congrArg some (by kernel_rfl))
  f318 := Tryz.func275.trans (congrArg some (by kernel_rfl))
  f319 := Tryz.func276.trans (congrArg some (by kernel_rfl))
  f320 := Tryz.func277.trans (congrArg some (by kernel_rfl))
  f337 := Tryz.func287.trans (congrArg some (by kernel_rfl))
  f338 := Tryz.func288.trans (congrArg some (by kernel_rfl))
  t0 := Tryz.underlying0
  a0 := Tryz.isAgg0
  z0 := Tryz.sizeOf0
  v0 := Tryz.zeroValue0
  t2 := Tryz.underlying2
  a2 := Tryz.isAgg2
  z2 := Tryz.sizeOf2
  v2 := Tryz.zeroValue2
  t3 := Tryz.underlying3
  a3 := Tryz.isAgg3
  z3 := Tryz.sizeOf3
  v3 := Tryz.zeroValue3
  t4 := Tryz.underlying4
  a4 := Tryz.isAgg4
  z4 := Tryz.sizeOf4
  v4 := Tryz.zeroValue4
  t5 := Tryz.underlying5
  a5 := Tryz.isAgg5
  z5 := Tryz.sizeOf5
  v5 := Tryz.zeroValue5
  t9 := Tryz.underlying9
  a9 := Tryz.isAgg9
  z9 := Tryz.sizeOf9
  v9 := Tryz.zeroValue9
  t20 := Tryz.underlying20
  a20 := Tryz.isAgg20
  z20 := Tryz.sizeOf20
  v20 := Tryz.zeroValue20
  t37 := Tryz.underlying169
  a37 := Tryz.isAgg169
  z37 := Tryz.sizeOf169
  v37 := Tryz.zeroValue169
  t46 := Tryz.underlying228
  a46 := Tryz.isAgg228
  z46 := Tryz.sizeOf228
  v46 := Tryz.zeroValue228
  t51 := Tryz.underlying292
  a51 := Tryz.isAgg292
  z51 := Tryz.sizeOf292
  v51 := Tryz.zeroValue292
  t53 := Tryz.underlying180
  a53 := Tryz.isAgg180
  z53 := Tryz.sizeOf180
  v53 := Tryz.zeroValue180
  t171 := Tryz.underlying273
  a171 := Tryz.isAgg273
  z171 := Tryz.sizeOf273
  v171 := Tryz.zeroValue273
  t173 := Tryz.underlying276
  a173 := Tryz.isAgg276
  z173 := Tryz.sizeOf276
  v173 := Tryz.zeroValue276
  t212 := Tryz.underlying291
  a212 := Tryz.isAgg291
  z212 := Tryz.sizeOf291
  v212 := Tryz.zeroValue291
  t213 := Tryz.underlying293
  a213 := Tryz.isAgg293
  z213 := Tryz.sizeOf293
  t232 := Tryz.underlying306
  a232 := Tryz.isAgg306
  z232 := Tryz.sizeOf306
  v232 := Tryz.zeroValue306
  t233 := Tryz.underlying307
  a233 := Tryz.isAgg307
  z233 := Tryz.sizeOf307
  v233 := Tryz.zeroValue307
  g17 := by kernel_rfl
  g18 := by kernel_rfl
  g19 := by kernel_rfl }
open Go.RowKit Go.Sort Go.Lib in
/-- THE ROAD WITHOUT THE TABLE: 0 <= i < 100: NO PREMISE ON THE WORLD, AND THE WORLD IS AS IT WAS: a row that keeps its argument in that range need list no table ('laid = []'). (LAID: no walk: one application.) -/
theorem Tryz.strconv_Itoa_small (i : Nat) (hi : i < 100) (w : World) :
    Calls Tryz.prog 75 #[.int .i64 i] w fun e w' => e = .returned (.string ⟨(Lib.decDigits i).toArray⟩) ∧ w' = w := Any.strconv_Itoa_small Tryz.lays171 i hi w
def Tryz.laysGw17_ren : Go.Shelf.Ren := ⟨fun | 17 => 193 | 15 => 241 | 20 => 263 | n => n, fun | 9 => 9 | 23 => 227 | 4 => 4 | 3 => 3 | 0 => 0 | 21 => 21 | n => n, fun | n => n⟩
theorem Tryz.laysGw17 : Go.Proofs.LaysGw.n17 Tryz.prog Tryz.laysGw17_ren := {
  mixed := by kernel_rfl
  f15 := Tryz.func241.trans (congrArg some (by kernel_rfl))
  f17 := Tryz.func193.trans (congrArg some (by kernel_rfl))
  f20 := Tryz.func263.trans (congrArg some (by kernel_rfl))
  t0 := Tryz.underlying0
  a0 := Tryz.isAgg0
  z0 := Tryz.sizeOf0
  v0 := Tryz.zeroValue0
  i0 := by kernel_rfl
  t3 := Tryz.underlying3
  a3 := Tryz.isAgg3
  z3 := Tryz.sizeOf3
  v3 := Tryz.zeroValue3
  i3 := by kernel_rfl
  t4 := Tryz.underlying4
  a4 := Tryz.isAgg4
  z4 := Tryz.sizeOf4
  v4 := Tryz.zeroValue4
  i4 := by kernel_rfl
  t9 := Tryz.underlying9
  a9 := Tryz.isAgg9
  z9 := Tryz.sizeOf9
  v9 := Tryz.zeroValue9
  i9 := by kernel_rfl
  t21 := Tryz.underlying21
  a21 := Tryz.isAgg21
  z21 := Tryz.sizeOf21
  v21 := Tryz.zeroValue21
  i21 := by kernel_rfl
  t23 := Tryz.underlying227
  a23 := Tryz.isAgg227
  z23 := Tryz.sizeOf227
  v23 := Tryz.zeroValue227
  i23 := by kernel_rfl }
open Go.RowKit Go.Lib in
theorem Tryz.strings_ContainsFunc (g : Nat) (lb : Array Value) (eg : ∀ args w, (callFunc g args).run Tryz.prog w = .ok (.enter g args) w) (p : Nat → Bool) (s : ByteArray) (w : World) (hp : PredAt Tryz.prog g lb encR p w) :
    Calls Tryz.prog 193 #[.string s, .func (.func g) #[] lb] w fun e w' => e = .returned (.bool (decide (0 ≤ Lib.idxFunc p true s))) ∧ Below w.heap.size w w' := Any.strings_ContainsFunc Tryz.laysGw17 g lb eg p s w hp
end Go.Proofs

/- Walk of text.Decimal for any number: it asks the table of powers of ten. -/
namespace Go.Proofs.YtldillnjnjkkgaaGreatDoor
open Go.RowKit
set_option linter.unusedSimpArgs false
set_option linter.unusedVariables false

theorem gPow10 : Tryz.prog.globalNamed "internal/strconv.uint64pow10" = some 2 := by kernel_rfl
/-- the table of powers of ten stands as it was laid -/
structure EnvP (w : World) : Prop where
  pow : Lib.TabIs Tryz.prog w "internal/strconv.uint64pow10" .u64 Lib.pow10Tab
theorem varP_lt {w : World} {n : String} {g : Nat} {cs : Array Value} (hg : Tryz.prog.globalNamed n = some g) (h : w.var? Tryz.prog n = some cs) : g < w.heap.size := by
  unfold World.var? at h
  simp only [hg, Option.bind_some] at h
  rcases Nat.lt_or_ge g w.heap.size with h' | h'
  · exact h'
  · rw [Array.getElem?_eq_none h'] at h; cases h
theorem EnvP.more {w w' : World} (h : EnvP w) (hb : Below w.heap.size w w') : EnvP w' := ⟨var?_below hb gPow10 (varP_lt gPow10 h.pow) h.pow⟩
set_option maxHeartbeats 1000000 in
theorem dec_any (n : Int) (w : World) (h0 : -9223372036854775808 ≤ n) (h1 : n ≤ 9223372036854775807) (hE : EnvP w) :
    Calls Tryz.prog 56 #[.int .i64 n] w fun e w' => e = .returned (.string ⟨(Lib.itoa n).toArray⟩) ∧ Below w.heap.size w w' := by
  have HC := Lib.hid (Tryz.strconv_Itoa n h0 h1 w hE.pow)
  clear h0 h1
  go_enter Tryz.func56, Tryz.ntmps56
  go_wp2_with (go_at_call 75; refine HC.out.mono ?_; rintro e w' ⟨rfl, k, os, rfl⟩)
  go_ret
  exact ⟨rfl, Lib.below_grow _ _ (Nat.le_refl _) _ _⟩
end Go.Proofs.YtldillnjnjkkgaaGreatDoor

/- What the rows of flights ask besides the walks: a world for the witness; the listed table; arguments opened (places, flights). -/
namespace Go.Proofs.YtldillnjnjkkgaaGreatDoor
open Go.ChangeShapes Go.WideShapes Go.ChangeAt Go.RowKit
set_option linter.unusedSimpArgs false
set_option linter.unusedVariables false

theorem own : ownKnob Tryz.prog.godebug = none := by kernel_rfl
theorem laidOut : laidOutB Tryz.prog = true := by kernel_rfl
theorem gPowType : (Tryz.prog.globals[2]?).map (·.type) = some 291 := by kernel_rfl
theorem cellsPow : Tryz.prog.cellsOf 291 = 20 := by kernel_rfl
theorem cells_u64 : Tryz.prog.cellsOf 180 = 1 := by kernel_rfl
/-- the listed table of powers of ten -/
theorem env_of {W : World} (h : laidMetH Tryz.prog Rows.scheduleChecksRow.laid W) : EnvP W := by
  have h' : laidMet Tryz.prog Rows.scheduleChecksRow.laid W := h
  have h2 := h'.tail.tail
  exact ⟨Lib.tabIs_of_head gPow10 gPowType Tryz.underlying291 Tryz.underlying180 cells_u64 cellsPow h2⟩

/-! ### A world for the witness -/
noncomputable def low : Nat := (World.holding Tryz.prog default ⟨#[], #[], []⟩).heap.size
def putCells (cs : Array Value) : Obj → Obj
  | .cells _ t frozen => .cells cs t frozen
  | o => o
def litsOf (k : IntKind) : DataW Unit → List Value
  | .agg ps => ps.map fun | .lit (.int _ z) => .int k z | _ => .int k 0
  | _ => []
noncomputable def laidWorld (os : Os) : World :=
  let w0 := World.holding Tryz.prog os ⟨#[], #[], []⟩
  let h3 := w0.heap.modify 2 (putCells (litsOf .u64 Rows.laid_internal_strconv_uint64pow10).toArray)
  let h4 := h3.modify 6 (putCells (litsOf .u8 Rows.laid_math_bits_deBruijn32tab).toArray)
  let h5 := h4.modify 7 (putCells (litsOf .u8 Rows.laid_math_bits_deBruijn64tab).toArray)
  { w0 with heap := h5 }
theorem laidWorld_met (os : Os) (args : Array Value) : laidMet Tryz.prog Rows.scheduleChecksRow.laid ((laidWorld os).forCall (fun _ _ => 0) ⟨#[], args, []⟩).memory :=
  laidMet_of_run3 8 (by kernel_rfl) (by kernel_rfl) (by kernel_rfl)

/-! ### Places among the arguments -/
theorem int_bounds {a : Int} (h : (Lit.int .i64 a).wf = true) : -9223372036854775808 ≤ a ∧ a ≤ 9223372036854775807 := by
  have e1 : IntKind.i64.min = -9223372036854775808 := rfl
  have e2 : IntKind.i64.max = 9223372036854775807 := rfl
  simp only [Lit.wf, e1, e2, Bool.and_eq_true, decide_eq_true_eq] at h
  omega
theorem cells_string : Tryz.prog.cellsOf 9 = 1 := by kernel_rfl
theorem cells_int : Tryz.prog.cellsOf 3 = 1 := by kernel_rfl
theorem cells_shift : Tryz.prog.cellsOf 253 = 2 := by kernel_rfl
theorem cells_zone : Tryz.prog.cellsOf 91 = 2 := by kernel_rfl
theorem cells_shs : Tryz.prog.cellsOf 89 = 1 := by kernel_rfl
theorem cells_air : Tryz.prog.cellsOf 93 = 5 := by kernel_rfl
theorem cells_dst : Tryz.prog.cellsOf 241 = 3 := by kernel_rfl
theorem cells_places : Tryz.prog.cellsOf 31 = 2 := by kernel_rfl
theorem shs_at (f : Nat → Int × Int) (n i : Nat) (h : i < n) : ((List.range n).map f).getD i (0, 0) = f i := by
  rw [List.getD_eq_getElem?_getD, List.getElem?_map, List.getElem?_range h]; rfl
theorem open_shs {H : Type} {enc : TypeId × Value → H} {W : World} {n : Nat} {v : Value} {y : DataW H × List MemPlace} (h : DataW.trod enc Tryz.prog W 0 (fun _ => true) true n 89 [v] = some y) :
    ∃ (A : Option Addr) (c : Nat) (l : Shs), v = .slice A l.length c ∧ ShL W A l ∧ (∀ k, k < l.length → -9223372036854775808 ≤ shA l k ∧ shA l k ≤ 9223372036854775807) ∧ l.length < 9223372036854775808 := by
  rcases Deep.open_slice_pairs Tryz.underlying89 Tryz.underlying253 cells_shift rfl rfl cells_int cells_int h with ⟨hcs, rfl⟩ | ⟨a, len, cap, m', n, V0, V1, D0, D1, P0, P1, hcs, _, hl, hm, hmm, rfl, hx⟩
  · simp at hcs
    subst hcs
    exact ⟨none, 0, [], rfl, .inl rfl, fun k hk => by simp at hk, by simp⟩
  · simp at hcs
    subst hcs
    simp at hmm
    subst hmm
    have em : maxLen = 9223372036854775807 := by decide
    have each : ∀ i, i < m' → ∃ q : Int × Int, V0 i = .int .i64 q.1 ∧ V1 i = .int .i64 q.2 ∧ -9223372036854775808 ≤ q.1 ∧ q.1 ≤ 9223372036854775807 := fun i hi => by
      obtain ⟨_, _, g0, g1⟩ := hx i hi
      obtain ⟨x, e0, _, w0⟩ := DataW.trod_int Tryz.underlying3 g0
      obtain ⟨y, e1, _, w1⟩ := DataW.trod_int Tryz.underlying3 g1
      simp at e0 e1
      exact ⟨(x, y), e0, e1, int_bounds w0⟩
    obtain ⟨f, hf⟩ := Deep.choose_lt each
    have el : ((List.range len).map f).length = len := by simp
    refine ⟨some a, m', (List.range len).map f, by rw [el], ?_, ?_, by rw [el]; omega⟩
    · rcases Nat.eq_zero_or_pos len with h0 | h0
      · left; rw [h0]; rfl
      · right
        obtain ⟨b, off, spot⟩ := a
        have h1 := (hx 0 (by omega)).1
        have hspot : spot = none := by simpa [Addr.add] using World.cell?_spot h1
        subst hspot
        have hadd : ∀ i, (⟨b, off, none⟩ : Addr).add i = ⟨b, off + i, none⟩ := fun i => by unfold Addr.add; split <;> simp_all
        refine ⟨b, off, rfl, by simpa [Addr.add] using World.block_lt_of_cell? _ _ h1, fun i hi => ?_⟩
        rw [el] at hi
        obtain ⟨g0, g1, _, _⟩ := hx i (by omega)
        obtain ⟨e0, e1, _⟩ := hf i (by omega)
        rw [hadd, e0] at g0
        rw [hadd, e1] at g1
        unfold shA shF
        rw [shs_at f len i hi]
        exact ⟨g0, by rw [Nat.add_assoc]; exact g1⟩
    · intro k hk
      rw [el] at hk
      unfold shA
      rw [shs_at f len k hk]
      exact (hf k (by omega)).2.2
instance : Inhabited Air := ⟨airZ⟩
instance : Inhabited Dst := ⟨⟨noB, noB, 0⟩⟩
theorem len2 {α : Type} : ∀ {l : List α}, l.length = 2 → ∃ a b, l = [a, b]
  | [a, b], _ => ⟨a, b, rfl⟩
theorem len3 {α : Type} : ∀ {l : List α}, l.length = 3 → ∃ a b c, l = [a, b, c]
  | [a, b, c], _ => ⟨a, b, c, rfl⟩
theorem len4 {α : Type} : ∀ {l : List α}, l.length = 4 → ∃ a b c d, l = [a, b, c, d]
  | [a, b, c, d], _ => ⟨a, b, c, d, rfl⟩
theorem len5 {α : Type} : ∀ {l : List α}, l.length = 5 → ∃ a b c d e, l = [a, b, c, d, e]
  | [a, b, c, d, e], _ => ⟨a, b, c, d, e, rfl⟩
set_option maxRecDepth 100000 in
theorem open_air {H : Type} {enc : TypeId × Value → H} {W : World} {n b o : Nat} {cs : List Value} {y : DataW H × List MemPlace} (hc : W.cells? 0 ⟨b, o, none⟩ 5 = some cs) (h : DataW.trod enc Tryz.prog W 0 (fun _ => true) true n 93 cs = some y) :
    ∃ a : Air, AirAt W b o a ∧ OkA a := by
  obtain ⟨_, hlen, hcell⟩ := World.cells?_some hc
  obtain ⟨xs, k, _, _, _, hxl, hf⟩ := DataW.trod_struct Tryz.underlying93 h
  obtain ⟨y0, y1, y2, y3, rfl⟩ := len4 hxl
  obtain ⟨v0, v1, v2, v3, v4, rfl⟩ := len5 hlen
  all_goals
    have g0 := hf 0 _ rfl
    have g1 := hf 1 _ rfl
    have g2 := hf 2 _ rfl
    have g3 := hf 3 _ rfl
    simp [cells_string, cells_zone] at g0 g1 g2 g3
    obtain ⟨s0, e0, _, z0⟩ := DataW.trod_string Tryz.underlying9 g0
    obtain ⟨s1, e1, _, z1⟩ := DataW.trod_string Tryz.underlying9 g1
    obtain ⟨s2, e2, _, z2⟩ := DataW.trod_string Tryz.underlying9 g2
    obtain ⟨zs, k2, _, _, _, hzl, hz⟩ := DataW.trod_struct Tryz.underlying91 g3
    obtain ⟨u0, u1, rfl⟩ := len2 hzl
    all_goals
      have q0 := hz 0 _ rfl
      have q1 := hz 1 _ rfl
      simp [cells_int, cells_shs] at q0 q1
      obtain ⟨x, e3, _, w3⟩ := DataW.trod_int Tryz.underlying3 q0
      obtain ⟨A, c, l, e4, hL, hr, hl⟩ := open_shs q1
      simp at e0 e1 e2 e3
      subst e0 e1 e2 e3 e4
      have hadd : ∀ j, (⟨b, o, none⟩ : Addr).add j = ⟨b, o + j, none⟩ := fun j => by unfold Addr.add; split <;> simp_all
      have c0 := hcell 0 (by omega)
      have c1 := hcell 1 (by omega)
      have c2 := hcell 2 (by omega)
      have c3 := hcell 3 (by omega)
      have c4 := hcell 4 (by omega)
      rw [hadd] at c0 c1 c2 c3 c4
      exact ⟨⟨s0, s1, s2, x, A, c, l⟩, ⟨by simpa using c0, by simpa using c1, by simpa using c2, by simpa using c3, by simpa using c4, hL⟩, ⟨z0, z1, z2, hl, hr⟩⟩
set_option maxRecDepth 100000 in
theorem open_dst {H : Type} {enc : TypeId × Value → H} {W : World} {n b o : Nat} {cs : List Value} {y : DataW H × List MemPlace} (hc : W.cells? 0 ⟨b, o, none⟩ 3 = some cs) (h : DataW.trod enc Tryz.prog W 0 (fun _ => true) true n 241 cs = some y) :
    ∃ d : Dst, DstAt W b o d ∧ OkD d := by
  obtain ⟨_, hlen, hcell⟩ := World.cells?_some hc
  obtain ⟨xs, k, _, _, _, hxl, hf⟩ := DataW.trod_struct Tryz.underlying241 h
  obtain ⟨y0, y1, y2, rfl⟩ := len3 hxl
  obtain ⟨v0, v1, v2, rfl⟩ := len3 hlen
  all_goals
    have g0 := hf 0 _ rfl
    have g1 := hf 1 _ rfl
    have g2 := hf 2 _ rfl
    simp [cells_string, cells_int] at g0 g1 g2
    obtain ⟨s0, e0, _, z0⟩ := DataW.trod_string Tryz.underlying9 g0
    obtain ⟨s1, e1, _, z1⟩ := DataW.trod_string Tryz.underlying9 g1
    obtain ⟨x, e2, _, w2⟩ := DataW.trod_int Tryz.underlying3 g2
    simp at e0 e1 e2
    subst e0 e1 e2
    have hadd : ∀ j, (⟨b, o, none⟩ : Addr).add j = ⟨b, o + j, none⟩ := fun j => by unfold Addr.add; split <;> simp_all
    have c0 := hcell 0 (by omega)
    have c1 := hcell 1 (by omega)
    have c2 := hcell 2 (by omega)
    rw [hadd] at c0 c1 c2
    exact ⟨⟨s0, s1, x⟩, ⟨by simpa using c0, by simpa using c1, by simpa using c2⟩, ⟨z0, z1⟩⟩
theorem list_at {α : Type} (f : Nat → α) (n i : Nat) (a : α) (h : ((List.range n).map f)[i]? = some a) : i < n ∧ a = f i := by
  have hi : i < n := by have := (List.getElem?_eq_some_iff.1 h).1; simpa using this
  rw [List.getElem?_map, List.getElem?_range hi] at h
  exact ⟨hi, (Option.some.inj h).symm⟩
set_option maxRecDepth 100000 in
/-- places by value, opened -/
theorem open_places {H : Type} {enc : TypeId × Value → H} {W : World} {b0 : Nat} {v : Value} {d : DataW H} {p : List MemPlace} (hv : Value.okWide Tryz.prog W .any b0 31 v) (h : DataW.Trod enc Tryz.prog W 0 (fun _ => true) true 31 v d p) :
    ∃ pv : PV, v = encP pv ∧ PlL W pv ∧ (∀ a ∈ pv.l, OkA a) ∧ (∀ d ∈ pv.ds, OkD d) ∧ pv.l.length < 9223372036854775808 ∧ pv.ds.length < 9223372036854775808 := by
  have em : maxLen = 9223372036854775807 := by decide
  obtain ⟨v0, v1, y0, y1, m, rfl, rfl, rfl, hy0, hy1⟩ := Joins.open_agg2 Tryz.underlying31 (by kernel_rfl) cells_places hv h
  have hA : ∃ (A : Option Addr) (c : Nat) (l : List Air), v0 = .slice A l.length c ∧ AirL W A l ∧ (∀ a ∈ l, OkA a) ∧ l.length < 9223372036854775808 := by
    rcases Deep.open_slice Tryz.underlying28 hy0 with ⟨hcs, _⟩ | ⟨a, len, cap, m', n, D, Pl, hcs, _, hl, hm, hmm, _, hx⟩
    · simp at hcs
      exact ⟨none, 0, [], hcs, .inl rfl, fun a ha => by simp at ha, by simp⟩
    · simp at hcs hmm
      subst hcs hmm
      rcases Nat.eq_zero_or_pos len with h0 | h0
      · exact ⟨some a, m', [], by rw [h0]; rfl, .inl rfl, fun a ha => by simp at ha, by simp⟩
      obtain ⟨b, off, spot⟩ := a
      obtain ⟨cs0, hc0, _⟩ := hx 0 (by omega)
      have hspot : spot = none := by
        rw [cells_air] at hc0
        obtain ⟨_, hl0, hcell⟩ := World.cells?_some hc0
        have h1 := hcell 0 (by omega)
        rw [List.getElem?_eq_getElem (by omega)] at h1
        simpa [Addr.add] using World.cell?_spot h1
      subst hspot
      have hadd : ∀ i, (⟨b, off, none⟩ : Addr).add i = ⟨b, off + i, none⟩ := fun i => by unfold Addr.add; split <;> simp_all
      have each : ∀ i, i < len → ∃ a : Air, AirAt W b (off + i * 5) a ∧ OkA a := fun i hi => by
        obtain ⟨cs', h1, h2⟩ := hx i (by omega)
        rw [cells_air, hadd] at h1
        exact open_air h1 h2
      obtain ⟨f, hf⟩ := Deep.choose_lt each
      have el : ((List.range len).map f).length = len := by simp
      refine ⟨some ⟨b, off, none⟩, m', (List.range len).map f, by rw [el], .inr ⟨b, off, rfl, World.block_lt_of_cell? _ _ (hf 0 h0).1.c0, fun i a hi => ?_⟩, fun a ha => ?_, by rw [el]; omega⟩
      · obtain ⟨h1, rfl⟩ := list_at f len i a hi
        exact (hf i h1).1
      · obtain ⟨i, hi, rfl⟩ := List.mem_map.1 ha
        exact (hf i (List.mem_range.1 hi)).2
  have hD : ∃ (A : Option Addr) (c : Nat) (l : List Dst), v1 = .slice A l.length c ∧ DstL W A l ∧ (∀ a ∈ l, OkD a) ∧ l.length < 9223372036854775808 := by
    rcases Deep.open_slice Tryz.underlying29 hy1 with ⟨hcs, _⟩ | ⟨a, len, cap, m', n, D, Pl, hcs, _, hl, hm, hmm, _, hx⟩
    · simp at hcs
      exact ⟨none, 0, [], hcs, .inl rfl, fun a ha => by simp at ha, by simp⟩
    · simp at hcs hmm
      subst hcs hmm
      rcases Nat.eq_zero_or_pos len with h0 | h0
      · exact ⟨some a, m', [], by rw [h0]; rfl, .inl rfl, fun a ha => by simp at ha, by simp⟩
      obtain ⟨b, off, spot⟩ := a
      obtain ⟨cs0, hc0, _⟩ := hx 0 (by omega)
      have hspot : spot = none := by
        rw [cells_dst] at hc0
        obtain ⟨_, hl0, hcell⟩ := World.cells?_some hc0
        have h1 := hcell 0 (by omega)
        rw [List.getElem?_eq_getElem (by omega)] at h1
        simpa [Addr.add] using World.cell?_spot h1
      subst hspot
      have hadd : ∀ i, (⟨b, off, none⟩ : Addr).add i = ⟨b, off + i, none⟩ := fun i => by unfold Addr.add; split <;> simp_all
      have each : ∀ i, i < len → ∃ a : Dst, DstAt W b (off + i * 3) a ∧ OkD a := fun i hi => by
        obtain ⟨cs', h1, h2⟩ := hx i (by omega)
        rw [cells_dst, hadd] at h1
        exact open_dst h1 h2
      obtain ⟨f, hf⟩ := Deep.choose_lt each
      have el : ((List.range len).map f).length = len := by simp
      refine ⟨some ⟨b, off, none⟩, m', (List.range len).map f, by rw [el], .inr ⟨b, off, rfl, World.block_lt_of_cell? _ _ (hf 0 h0).1.c0, fun i a hi => ?_⟩, fun a ha => ?_, by rw [el]; omega⟩
      · obtain ⟨h1, rfl⟩ := list_at f len i a hi
        exact (hf i h1).1
      · obtain ⟨i, hi, rfl⟩ := List.mem_map.1 ha
        exact (hf i (List.mem_range.1 hi)).2
  obtain ⟨A, ca, l, rfl, h1, h2, h3⟩ := hA
  obtain ⟨D, cd, ds, rfl, h4, h5, h6⟩ := hD
  exact ⟨⟨A, ca, l, D, cd, ds⟩, rfl, ⟨h1, h4⟩, h2, h5, h3, h6⟩


/-! ### A flight among the arguments -/
theorem cells_leg : Tryz.prog.cellsOf 88 = 5 := by kernel_rfl
theorem cells_legs : Tryz.prog.cellsOf 24 = 1 := by kernel_rfl
theorem cells_per : Tryz.prog.cellsOf 23 = 3 := by kernel_rfl
theorem cells_fli : Tryz.prog.cellsOf 26 = 6 := by kernel_rfl
structure OkFl (f : FV) : Prop where
  car : f.car.size ≤ maxLen
  num : -9223372036854775808 ≤ f.num ∧ f.num ≤ 9223372036854775807
  pf : -9223372036854775808 ≤ f.pf ∧ f.pf ≤ 9223372036854775807
  pt : -9223372036854775808 ≤ f.pt ∧ f.pt ≤ 9223372036854775807
  pd : -9223372036854775808 ≤ f.pd ∧ f.pd ≤ 9223372036854775807
  lg : ∀ x ∈ f.lg, OkG x
  len : f.lg.length < 9223372036854775808
  cap : f.lg.length ≤ f.c
instance : Inhabited Lg := ⟨⟨noB, noB, 0, 0, noB⟩⟩
set_option maxRecDepth 100000 in
theorem open_leg {H : Type} {enc : TypeId × Value → H} {W : World} {n b o : Nat} {cs : List Value} {y : DataW H × List MemPlace} (hc : W.cells? 0 ⟨b, o, none⟩ 5 = some cs) (h : DataW.trod enc Tryz.prog W 0 (fun _ => true) true n 88 cs = some y) :
    ∃ x : Lg, (∀ j u, (encLg x)[j]? = some u → W.cell? ⟨b, o + j, none⟩ = some u) ∧ OkG x := by
  obtain ⟨_, hlen, hcell⟩ := World.cells?_some hc
  obtain ⟨xs, k, _, _, _, hxl, hf⟩ := DataW.trod_struct Tryz.underlying88 h
  obtain ⟨y0, y1, y2, y3, y4, rfl⟩ := len5 hxl
  obtain ⟨v0, v1, v2, v3, v4, rfl⟩ := len5 hlen
  all_goals
    have g0 := hf 0 _ rfl
    have g1 := hf 1 _ rfl
    have g2 := hf 2 _ rfl
    have g3 := hf 3 _ rfl
    have g4 := hf 4 _ rfl
    simp [cells_string, cells_int] at g0 g1 g2 g3 g4
    obtain ⟨s0, e0, _, z0⟩ := DataW.trod_string Tryz.underlying9 g0
    obtain ⟨s1, e1, _, z1⟩ := DataW.trod_string Tryz.underlying9 g1
    obtain ⟨x2, e2, _, w2⟩ := DataW.trod_int Tryz.underlying3 g2
    obtain ⟨x3, e3, _, w3⟩ := DataW.trod_int Tryz.underlying3 g3
    obtain ⟨s4, e4, _, z4⟩ := DataW.trod_string Tryz.underlying9 g4
    simp at e0 e1 e2 e3 e4
    subst e0 e1 e2 e3 e4
    have hadd : ∀ j, (⟨b, o, none⟩ : Addr).add j = ⟨b, o + j, none⟩ := fun j => by unfold Addr.add; split <;> simp_all
    refine ⟨⟨s0, s1, x2, x3, s4⟩, fun j u hu => ?_, ⟨z0, z1, z4, int_bounds w2, int_bounds w3⟩⟩
    have hj : j < 5 := (List.getElem?_eq_some_iff.1 hu).1
    have hc2 := hcell j hj
    rw [hadd] at hc2
    rw [hc2]
    exact hu
set_option maxRecDepth 100000 in
theorem open_legs {H : Type} {enc : TypeId × Value → H} {W : World} {n : Nat} {v : Value} {y : DataW H × List MemPlace} (h : DataW.trod enc Tryz.prog W 0 (fun _ => true) true n 24 [v] = some y) :
    ∃ (A : Option Addr) (c : Nat) (l : List Lg), v = .slice A l.length c ∧ LegL W (.slice A l.length c) l ∧ (∀ x ∈ l, OkG x) ∧ l.length < 9223372036854775808 ∧ l.length ≤ c := by
  have em : maxLen = 9223372036854775807 := by decide
  rcases Deep.open_slice Tryz.underlying24 h with ⟨hcs, _⟩ | ⟨a, len, cap, m', n, D, Pl, hcs, _, hl, hm, hmm, _, hx⟩
  · simp at hcs
    exact ⟨none, 0, [], hcs, ⟨none, 0, rfl, .inl rfl⟩, fun a ha => by simp at ha, by simp, by simp⟩
  · simp at hcs hmm
    subst hcs hmm
    rcases Nat.eq_zero_or_pos len with h0 | h0
    · exact ⟨some a, m', [], by rw [h0]; rfl, ⟨some a, m', rfl, .inl rfl⟩, fun a ha => by simp at ha, by simp, by simp⟩
    obtain ⟨b, off, spot⟩ := a
    obtain ⟨cs0, hc0, _⟩ := hx 0 (by omega)
    have hspot : spot = none := by
      rw [cells_leg] at hc0
      obtain ⟨_, hl0, hcell⟩ := World.cells?_some hc0
      have h1 := hcell 0 (by omega)
      rw [List.getElem?_eq_getElem (by omega)] at h1
      simpa [Addr.add] using World.cell?_spot h1
    subst hspot
    have hadd : ∀ i, (⟨b, off, none⟩ : Addr).add i = ⟨b, off + i, none⟩ := fun i => by unfold Addr.add; split <;> simp_all
    have each : ∀ i, i < len → ∃ x : Lg, (∀ j u, (encLg x)[j]? = some u → W.cell? ⟨b, off + i * 5 + j, none⟩ = some u) ∧ OkG x := fun i hi => by
      obtain ⟨cs', h1, h2⟩ := hx i (by omega)
      rw [cells_leg, hadd] at h1
      exact open_leg h1 h2
    obtain ⟨f, hf⟩ := Deep.choose_lt each
    have el : ((List.range len).map f).length = len := by simp
    refine ⟨some ⟨b, off, none⟩, m', (List.range len).map f, by rw [el], ⟨some ⟨b, off, none⟩, m', rfl, .inr ⟨b, off, rfl, World.block_lt_of_cell? _ _ ((hf 0 h0).1 0 _ rfl), fun i x j u hi hu => ?_⟩⟩, fun a ha => ?_, by rw [el]; omega, by rw [el]; omega⟩
    · obtain ⟨h1, rfl⟩ := list_at f len i x hi
      exact (hf i h1).1 j u hu
    · obtain ⟨i, hi, rfl⟩ := List.mem_map.1 ha
      exact (hf i (List.mem_range.1 hi)).2
set_option maxRecDepth 100000 in
/-- the cells of a flight, read -/
theorem read_flight {H : Type} {enc : TypeId × Value → H} {W : World} {n : Nat} {c0 c1 c2 c3 c4 c5 : Value} {y : DataW H × List MemPlace} (h : DataW.trod enc Tryz.prog W 0 (fun _ => true) true n 26 [c0, c1, c2, c3, c4, c5] = some y) :
    ∃ fv : FV, (#[c0, c1, c2, c3, c4, c5] : Array Value) = #[.string fv.car, .int .i64 fv.num, .int .i64 fv.pf, .int .i64 fv.pt, .int .i64 fv.pd, .slice fv.A fv.lg.length fv.c] ∧ LegL W (.slice fv.A fv.lg.length fv.c) fv.lg ∧ OkFl fv := by
  obtain ⟨xs, k, _, _, _, hxl, hf⟩ := DataW.trod_struct Tryz.underlying26 h
  obtain ⟨y0, y1, y2, y3, rfl⟩ := len4 hxl
  all_goals
    have g0 := hf 0 _ rfl
    have g1 := hf 1 _ rfl
    have g2 := hf 2 _ rfl
    have g3 := hf 3 _ rfl
    simp [cells_string, cells_int, cells_per, cells_legs] at g0 g1 g2 g3
    obtain ⟨s0, e0, _, z0⟩ := DataW.trod_string Tryz.underlying9 g0
    obtain ⟨x1, e1, _, w1⟩ := DataW.trod_int Tryz.underlying3 g1
    obtain ⟨zs, k2, _, _, _, hzl, hz⟩ := DataW.trod_struct Tryz.underlying23 g2
    obtain ⟨u0, u1, u2, rfl⟩ := len3 hzl
    all_goals
      have q0 := hz 0 _ rfl
      have q1 := hz 1 _ rfl
      have q2 := hz 2 _ rfl
      simp [cells_int] at q0 q1 q2
      obtain ⟨a0, r0, _, b0⟩ := DataW.trod_int Tryz.underlying3 q0
      obtain ⟨a1, r1, _, b1⟩ := DataW.trod_int Tryz.underlying3 q1
      obtain ⟨a2, r2, _, b2⟩ := DataW.trod_int Tryz.underlying3 q2
      obtain ⟨A, c, l, e3, hL, hr, hl, hcap⟩ := open_legs g3
      simp at e0 e1 r0 r1 r2
      subst e0 e1 e3 r0 r1 r2
      exact ⟨⟨s0, x1, a0, a1, a2, A, c, l⟩, rfl, hL, ⟨z0, int_bounds w1, int_bounds b0, int_bounds b1, int_bounds b2, hr, hl, hcap⟩⟩
end Go.Proofs.YtldillnjnjkkgaaGreatDoor

/- Plain facts on periods: sets of days as ascending lists; nothing of the program. -/
namespace Go.Proofs.YtldillnjnjkkgaaGreatDoor.Per
set_option linter.unusedSimpArgs false
set_option linter.unusedVariables false

abbrev Per := Int × Int × Int
def okQ (p : Per) : Bool := decide (0 ≤ p.1 ∧ p.1 ≤ p.2.1 ∧ p.2.1 < 36525 ∧ p.2.1 - p.1 < 800 ∧ 1 ≤ p.2.2 ∧ p.2.2 ≤ 127)
def errQ (p : Per) : Int := if p.1 < 0 ∨ p.2.1 < p.1 ∨ 36525 ≤ p.2.1 then 12 else if 800 ≤ p.2.1 - p.1 then 4 else if p.2.2 < 1 ∨ 127 < p.2.2 then 2 else 0
theorem okQ_yes {p : Per} (h : okQ p = true) : 0 ≤ p.1 ∧ p.1 ≤ p.2.1 ∧ p.2.1 < 36525 ∧ p.2.1 - p.1 < 800 ∧ 1 ≤ p.2.2 ∧ p.2.2 ≤ 127 := by simpa [okQ] using h
theorem okQ_mk {p : Per} (h : 0 ≤ p.1 ∧ p.1 ≤ p.2.1 ∧ p.2.1 < 36525 ∧ p.2.1 - p.1 < 800 ∧ 1 ≤ p.2.2 ∧ p.2.2 ≤ 127) : okQ p = true := by simpa [okQ] using h
theorem errQ_ok {p : Per} (h : okQ p = true) : errQ p = 0 := by
  have := okQ_yes h
  rw [errQ, if_neg (by omega), if_neg (by omega), if_neg (by omega)]
theorem errQ_no {p : Per} (h : okQ p = false) : errQ p ≠ 0 := by
  intro e
  have : okQ p = true := by
    unfold errQ at e
    split at e
    · omega
    · split at e
      · omega
      · split at e
        · omega
        · exact okQ_mk (by omega)
  rw [h] at this
  cases this
theorem errQ_two {p : Per} (h : okQ p = false) : (errQ p == 0) = false := beq_eq_false_iff_ne.2 (errQ_no h)

/-- the place of a day's weekday -/
def wkN (n : Int) : Nat := ((n + 5) % 7).toNat
theorem wkN_lt (n : Int) : wkN n < 7 := by unfold wkN; omega
theorem wkN_int (n : Int) : ((wkN n : Nat) : Int) = (n + 5) % 7 := by unfold wkN; omega
def wdB (d : Int) (n : Int) : Bool := d.toNat.testBit (wkN n)
def hasQ (p : Per) (n : Int) : Bool := okQ p && (decide (p.1 ≤ n) && (decide (n ≤ p.2.1) && wdB p.2.2 n))
theorem hasQ_iff (p : Per) (n : Int) : hasQ p n = true ↔ okQ p = true ∧ p.1 ≤ n ∧ n ≤ p.2.1 ∧ wdB p.2.2 n = true := by simp [hasQ]

/-! ### lists that ascend -/
def Asc (l : List Int) : Prop := l.Pairwise (· < ·)
theorem asc_ext : ∀ {l m : List Int}, Asc l → Asc m → (∀ n, n ∈ l ↔ n ∈ m) → l = m
  | [], [], _, _, _ => rfl
  | [], y :: m, _, _, h => by have := (h y).2 (by simp); simp at this
  | x :: l, [], _, _, h => by have := (h x).1 (by simp); simp at this
  | x :: l, y :: m, hl, hm, h => by
    have hl' := List.pairwise_cons.1 hl
    have hm' := List.pairwise_cons.1 hm
    have e : x = y := by
      have h1 := (h x).1 (by simp)
      have h2 := (h y).2 (by simp)
      rcases List.mem_cons.1 h1 with e | h1
      · exact e
      · rcases List.mem_cons.1 h2 with e | h2
        · exact e.symm
        · have := hl'.1 y h2; have := hm'.1 x h1; omega
    subst e
    congr 1
    refine asc_ext hl'.2 hm'.2 fun n => ⟨fun hn => ?_, fun hn => ?_⟩
    · rcases List.mem_cons.1 ((h n).1 (List.mem_cons_of_mem _ hn)) with e | h2
      · subst e; have := hl'.1 n hn; omega
      · exact h2
    · rcases List.mem_cons.1 ((h n).2 (List.mem_cons_of_mem _ hn)) with e | h2
      · subst e; have := hm'.1 n hn; omega
      · exact h2
theorem asc_filter {l : List Int} (h : Asc l) (q : Int → Bool) : Asc (l.filter q) := List.Pairwise.filter q h

/-- k days from f on -/
def fromR (f : Int) (k : Nat) : List Int := (List.range k).map fun (i : Nat) => f + (i : Int)
theorem fromR_succ (f : Int) (k : Nat) : fromR f (k + 1) = fromR f k ++ [f + (k : Int)] := by simp [fromR, List.range_succ]
theorem fromR_length (f : Int) (k : Nat) : (fromR f k).length = k := by simp [fromR]
theorem fromR_mem (f : Int) (k : Nat) (n : Int) : n ∈ fromR f k ↔ f ≤ n ∧ n < f + k := by
  simp only [fromR, List.mem_map, List.mem_range]
  constructor
  · rintro ⟨i, hi, rfl⟩; omega
  · rintro ⟨h1, h2⟩; exact ⟨(n - f).toNat, by omega, by omega⟩
theorem fromR_asc (f : Int) (k : Nat) : Asc (fromR f k) := by
  unfold Asc fromR
  rw [List.pairwise_map]
  exact List.pairwise_lt_range.imp (by intro a b h; omega)

/-- the days of a set: the first k days looked at; all -/
def daysTo (p : Per) (k : Nat) : List Int := (fromR p.1 k).filter fun n => wdB p.2.2 n
def lenQ (p : Per) : Nat := (p.2.1 - p.1 + 1).toNat
def daysQ (p : Per) : List Int := if okQ p then daysTo p (lenQ p) else []
theorem daysTo_hit (p : Per) (k : Nat) (h : wdB p.2.2 (p.1 + k) = true) : daysTo p (k + 1) = daysTo p k ++ [p.1 + (k : Int)] := by
  rw [daysTo, fromR_succ, List.filter_append]; simp [daysTo, h]
theorem daysTo_miss (p : Per) (k : Nat) (h : wdB p.2.2 (p.1 + k) = false) : daysTo p (k + 1) = daysTo p k := by
  rw [daysTo, fromR_succ, List.filter_append]; simp [daysTo, h]
theorem daysTo_len (p : Per) (k : Nat) : (daysTo p k).length ≤ k := by
  have := List.length_filter_le (fun n => wdB p.2.2 n) (fromR p.1 k)
  rw [fromR_length] at this
  exact this
theorem daysQ_yes {p : Per} (h : okQ p = true) : daysQ p = daysTo p (lenQ p) := by rw [daysQ, if_pos h]
theorem daysQ_no {p : Per} (h : okQ p = false) : daysQ p = [] := by rw [daysQ, if_neg (by simp [h])]
theorem daysQ_mem (p : Per) (n : Int) : n ∈ daysQ p ↔ hasQ p n = true := by
  rw [hasQ_iff]
  cases h : okQ p
  · rw [daysQ_no h]; simp
  · rw [daysQ_yes h, daysTo, List.mem_filter, fromR_mem, lenQ]
    have := okQ_yes h
    constructor
    · rintro ⟨⟨h1, h2⟩, h3⟩; exact ⟨rfl, h1, by omega, h3⟩
    · rintro ⟨_, h1, h2, h3⟩; exact ⟨⟨h1, by omega⟩, h3⟩
theorem daysQ_asc (p : Per) : Asc (daysQ p) := by
  cases h : okQ p
  · rw [daysQ_no h]; exact List.Pairwise.nil
  · rw [daysQ_yes h]; exact asc_filter (fromR_asc _ _) _
theorem daysQ_len (p : Per) : (daysQ p).length ≤ 800 := by
  cases h : okQ p
  · rw [daysQ_no h]; simp
  · rw [daysQ_yes h]
    have h1 := daysTo_len p (lenQ p)
    have h2 := okQ_yes h
    unfold lenQ at h1 ⊢
    omega
theorem daysQ_range (p : Per) (n : Int) (h : n ∈ daysQ p) : 0 ≤ n ∧ n < 36525 := by
  rw [daysQ_mem, hasQ_iff] at h
  have := okQ_yes h.1
  omega
theorem daysQ_has (p : Per) (k : Nat) (h : okQ p = true) (hk : k < lenQ p) : hasQ p (p.1 + k) = wdB p.2.2 (p.1 + k) := by
  have h2 := okQ_yes h
  unfold lenQ at hk
  have e1 : p.1 ≤ p.1 + (k : Int) := by omega
  have e2 : p.1 + (k : Int) ≤ p.2.1 := by omega
  simp [hasQ, h, e1, e2]

/-! ### the canonical period of a list -/
def maskN (l : List Int) : Nat := l.foldl (fun m n => m ||| 2 ^ wkN n) 0
theorem maskN_snoc (l : List Int) (x : Int) : maskN (l ++ [x]) = maskN l ||| 2 ^ wkN x := by simp [maskN]
theorem mask_lt : ∀ (l : List Int) (m : Nat), m < 128 → l.foldl (fun m n => m ||| 2 ^ wkN n) m < 128
  | [], m, h => h
  | x :: r, m, h => mask_lt r _ (Nat.or_lt_two_pow (n := 7) h (Nat.pow_lt_pow_right (by omega) (wkN_lt x)))
theorem maskN_lt (l : List Int) : maskN l < 128 := mask_lt l 0 (by omega)
/-- the period that has been gathered -/
def accQ (l : List Int) : Per := (l.headD 0, l.getLastD 0, (maskN l : Int))
def ofQ (l : List Int) : Per × Bool := (accQ l, decide (l ≠ []))
/-- the same, told as the reference does -/
theorem or_add : ∀ m, m < 128 → ∀ k, k < 7 → (m ||| 2 ^ k) = if m / 2 ^ k % 2 = 0 then m + 2 ^ k else m := by decide

/-! ### the intersection, the difference -/
def btw (p : Per) (f t : Int) : Per := (if f < p.1 then p.1 else f, if p.2.1 < t then p.2.1 else t, p.2.2)
def meetQ (a b : Per) : Per := ((btw a b.1 b.2.1).1, (btw a b.1 b.2.1).2.1, ((a.2.2.toNat &&& b.2.2.toNat : Nat) : Int))
theorem testBit_pos {m k : Nat} (h : m.testBit k = true) : 0 < m := by
  rcases Nat.eq_zero_or_pos m with h0 | h0
  · rw [h0] at h; simp at h
  · exact h0
theorem meet_mem (a b : Per) (ha : okQ a = true) (hb : okQ b = true) (n : Int) : hasQ (meetQ a b) n = true ↔ hasQ a n = true ∧ hasQ b n = true := by
  have a1 := okQ_yes ha
  have b1 := okQ_yes hb
  simp only [hasQ_iff]
  have e1 : (meetQ a b).1 = if b.1 < a.1 then a.1 else b.1 := rfl
  have e2 : (meetQ a b).2.1 = if a.2.1 < b.2.1 then a.2.1 else b.2.1 := rfl
  have e3 : wdB (meetQ a b).2.2 n = (wdB a.2.2 n && wdB b.2.2 n) := by
    show (a.2.2.toNat &&& b.2.2.toNat).testBit (wkN n) = _
    rw [Nat.testBit_and]; rfl
  rw [e1, e2, e3, Bool.and_eq_true]
  constructor
  · rintro ⟨h0, h1, h2, h3⟩
    refine ⟨⟨ha, ?_, ?_, h3.1⟩, hb, ?_, ?_, h3.2⟩ <;> (split at h1 <;> split at h2 <;> omega)
  · rintro ⟨⟨_, h1, h2, h3⟩, _, h4, h5, h6⟩
    refine ⟨okQ_mk ?_, ?_, ?_, h3, h6⟩
    · rw [e1, e2]
      have hm : 0 < (a.2.2.toNat &&& b.2.2.toNat) := testBit_pos (k := wkN n) (by rw [Nat.testBit_and]; exact Bool.and_eq_true _ _ ▸ ⟨h3, h6⟩)
      have hm2 : (a.2.2.toNat &&& b.2.2.toNat) ≤ a.2.2.toNat := Nat.and_le_left
      have e4 : (meetQ a b).2.2 = ((a.2.2.toNat &&& b.2.2.toNat : Nat) : Int) := rfl
      rw [e4]
      refine ⟨?_, ?_, ?_, ?_, ?_, ?_⟩ <;> (first | omega | (split <;> (first | omega | (split <;> omega))))
    · split <;> omega
    · split <;> omega
theorem meet_days (a b : Per) (ha : okQ a = true) (hb : okQ b = true) : (daysQ a).filter (fun n => hasQ b n) = daysQ (meetQ a b) :=
  asc_ext (asc_filter (daysQ_asc a) _) (daysQ_asc _) fun n => by
    rw [List.mem_filter, daysQ_mem, daysQ_mem, meet_mem a b ha hb]
def mtQ (a b : Per) : List Int := if okQ a && okQ b then daysQ (meetQ a b) else []
theorem mtQ_filter (a b : Per) : (daysQ a).filter (fun n => hasQ b n) = mtQ a b := by
  unfold mtQ
  cases ha : okQ a
  · simp [daysQ_no ha]
  · cases hb : okQ b
    · simp [hasQ, hb]
    · simp [meet_days a b ha hb]
theorem mtQ_mem (a b : Per) (n : Int) : n ∈ mtQ a b ↔ hasQ a n = true ∧ hasQ b n = true := by
  rw [← mtQ_filter, List.mem_filter, daysQ_mem]
end Go.Proofs.YtldillnjnjkkgaaGreatDoor.Per

/- Walks of the small functions of package period, beside the reference's: Check, the weekday's bit, between. -/
namespace Go.Proofs.YtldillnjnjkkgaaGreatDoor.Per
open Go.RowKit
set_option linter.unusedSimpArgs false
set_option linter.unusedVariables false

abbrev encQ (p : Per) : Value := .agg #[.int .i64 p.1, .int .i64 p.2.1, .int .i64 p.2.2]
theorem bel_alloc (w : World) (o : Obj) : Below w.heap.size w (w.alloc o) := (Below.refl _ w).alloc (Nat.le_refl _) o
theorem err_first {f t d : Int} (h : f < 0 ∨ t < f ∨ 36525 ≤ t) : errQ (f, t, d) = 12 := by rw [errQ, if_pos h]
theorem err_second {f t d : Int} (h : ¬ (f < 0 ∨ t < f ∨ 36525 ≤ t)) (h2 : 800 ≤ t - f) : errQ (f, t, d) = 4 := by rw [errQ, if_neg h, if_pos h2]
theorem err_third {f t d : Int} (h : ¬ (f < 0 ∨ t < f ∨ 36525 ≤ t)) (h2 : ¬ 800 ≤ t - f) (h3 : d < 1 ∨ 127 < d) : errQ (f, t, d) = 2 := by rw [errQ, if_neg h, if_neg h2, if_pos h3]
theorem err_none {f t d : Int} (h : ¬ (f < 0 ∨ t < f ∨ 36525 ≤ t)) (h2 : ¬ 800 ≤ t - f) (h3 : ¬ (d < 1 ∨ 127 < d)) : errQ (f, t, d) = 0 := by rw [errQ, if_neg h, if_neg h2, if_neg h3]

set_option maxHeartbeats 1000000 in
theorem check_any (f t d : Int) (w : World) : Calls Tryz.prog 110 #[encQ (f, t, d)] w fun e w' => e = .returned (.int .i64 (errQ (f, t, d))) ∧ Below w.heap.size w w' := by
  by_cases h1 : f < 0
  · have HR := Lib.hid (err_first (d := d) (.inl h1) (t := t))
    go_enter Tryz.func110, Tryz.ntmps110
    go_wp2
    go_ret
    exact ⟨by rw [HR.out]; rfl, bel_alloc _ _⟩
  by_cases h2 : t < f
  · have HR := Lib.hid (err_first (d := d) (.inr (.inl h2)))
    go_enter Tryz.func110, Tryz.ntmps110
    go_wp2
    go_ret
    exact ⟨by rw [HR.out]; rfl, bel_alloc _ _⟩
  by_cases h3 : 36525 ≤ t
  · have HR := Lib.hid (err_first (f := f) (d := d) (.inr (.inr h3)))
    go_enter Tryz.func110, Tryz.ntmps110
    go_wp2
    go_ret
    exact ⟨by rw [HR.out]; rfl, bel_alloc _ _⟩
  have ha : ¬ (f < 0 ∨ t < f ∨ 36525 ≤ t) := by omega
  by_cases h4 : 800 ≤ t - f
  · have HR := Lib.hid (err_second (d := d) ha h4)
    clear ha
    go_enter Tryz.func110, Tryz.ntmps110
    go_wp2
    go_ret
    exact ⟨by rw [HR.out]; rfl, bel_alloc _ _⟩
  by_cases h5 : d < 1
  · have HR := Lib.hid (err_third ha h4 (.inl h5))
    clear ha
    go_enter Tryz.func110, Tryz.ntmps110
    go_wp2
    go_ret
    exact ⟨by rw [HR.out]; rfl, bel_alloc _ _⟩
  by_cases h6 : 127 < d
  · have HR := Lib.hid (err_third ha h4 (.inr h6))
    clear ha
    go_enter Tryz.func110, Tryz.ntmps110
    go_wp2
    go_ret
    exact ⟨by rw [HR.out]; rfl, bel_alloc _ _⟩
  · have HR := Lib.hid (err_none ha h4 (d := d) (by omega))
    clear ha
    go_enter Tryz.func110, Tryz.ntmps110
    go_wp2
    go_ret
    exact ⟨by rw [HR.out]; rfl, bel_alloc _ _⟩

set_option maxHeartbeats 1000000 in
theorem rcheck_any (f t d : Int) (w : World) : Calls Tryz.prog 137 #[encQ (f, t, d)] w fun e w' => e = .returned (.int .i64 (errQ (f, t, d))) ∧ Below w.heap.size w w' := by
  by_cases h1 : f < 0
  · have HR := Lib.hid (err_first (d := d) (.inl h1) (t := t))
    go_enter Tryz.func137, Tryz.ntmps137
    go_wp2
    go_ret
    exact ⟨by rw [HR.out]; rfl, bel_alloc _ _⟩
  by_cases h2 : t < f
  · have HR := Lib.hid (err_first (d := d) (.inr (.inl h2)))
    go_enter Tryz.func137, Tryz.ntmps137
    go_wp2
    go_ret
    exact ⟨by rw [HR.out]; rfl, bel_alloc _ _⟩
  by_cases h3 : 36525 ≤ t
  · have HR := Lib.hid (err_first (f := f) (d := d) (.inr (.inr h3)))
    go_enter Tryz.func137, Tryz.ntmps137
    go_wp2
    go_ret
    exact ⟨by rw [HR.out]; rfl, bel_alloc _ _⟩
  have ha : ¬ (f < 0 ∨ t < f ∨ 36525 ≤ t) := by omega
  by_cases h4 : 800 ≤ t - f
  · have HR := Lib.hid (err_second (d := d) ha h4)
    clear ha
    go_enter Tryz.func137, Tryz.ntmps137
    go_wp2
    go_ret
    exact ⟨by rw [HR.out]; rfl, bel_alloc _ _⟩
  by_cases h5 : d < 1
  · have HR := Lib.hid (err_third ha h4 (.inl h5))
    clear ha
    go_enter Tryz.func137, Tryz.ntmps137
    go_wp2
    go_ret
    exact ⟨by rw [HR.out]; rfl, bel_alloc _ _⟩
  by_cases h6 : 127 < d
  · have HR := Lib.hid (err_third ha h4 (.inr h6))
    clear ha
    go_enter Tryz.func137, Tryz.ntmps137
    go_wp2
    go_ret
    exact ⟨by rw [HR.out]; rfl, bel_alloc _ _⟩
  · have HR := Lib.hid (err_none ha h4 (d := d) (by omega))
    clear ha
    go_enter Tryz.func137, Tryz.ntmps137
    go_wp2
    go_ret
    exact ⟨by rw [HR.out]; rfl, bel_alloc _ _⟩

end Go.Proofs.YtldillnjnjkkgaaGreatDoor.Per

/- Walks of isValid, the weekday's bit, Has, between, beside the reference's. -/
namespace Go.Proofs.YtldillnjnjkkgaaGreatDoor.Per
open Go.RowKit
set_option linter.unusedSimpArgs false
set_option linter.unusedVariables false

theorem bel_acc {f : Nat} {args : Array Value} {w w1 : World} {R : Ending → Prop} (h : Calls Tryz.prog f args w1 fun e w' => R e ∧ Below w1.heap.size w1 w') (hb : Below w.heap.size w w1) :
    Calls Tryz.prog f args w1 fun e w' => R e ∧ Below w.heap.size w w' := h.mono (by rintro e w' ⟨hr, h⟩; exact ⟨hr, hb.trans (h.mono hb.size)⟩)

set_option maxHeartbeats 1000000 in
theorem isValid_any (f t d : Int) (w : World) : Calls Tryz.prog 128 #[encQ (f, t, d)] w fun e w' => e = .returned (.bool (okQ (f, t, d))) ∧ Below w.heap.size w w' := by
  have hb := bel_alloc w (.cells #[.int .i64 f, .int .i64 t, .int .i64 d] 23)
  have CC := Lib.hid (fun w1 hb => bel_acc (w := w) (check_any f t d w1) hb)
  cases h : okQ (f, t, d)
  · have he := errQ_two h
    clear h
    generalize errQ (f, t, d) = z at *
    go_enter Tryz.func128, Tryz.ntmps128
    go_wp2_with (go_at_call 110; refine (CC.out _ hb).mono ?_; rintro e w' ⟨rfl, hb⟩)
    go_ret
    exact ⟨ret_bool rfl, hb⟩
  · have he := errQ_ok h
    clear h
    rw [he] at CC
    clear he
    go_enter Tryz.func128, Tryz.ntmps128
    go_wp2_with (go_at_call 110; refine (CC.out _ hb).mono ?_; rintro e w' ⟨rfl, hb⟩)
    go_ret
    exact ⟨ret_bool rfl, hb⟩

theorem wraps7 (n : Int) (h₀ : 0 ≤ n) (h₁ : n < 2 ^ 7) : IntKind.i64.wrap n = n := by rw [IntKind.wrap_i64]; omega
theorem one7 (x : Int) (h0 : 0 ≤ x) (h1 : x < 128) : bits .and .i64 x 1 = x % 2 := bits_mask .i64 7 (by decide) wraps7 1 (by decide) x h0 h1
theorem shr_bit (d : Int) (k : Nat) (h0 : 0 ≤ d) : d / 2 ^ k % 2 = if d.toNat.testBit k then 1 else 0 := by
  obtain ⟨n, rfl⟩ := Int.eq_ofNat_of_zero_le h0
  rw [Int.toNat_natCast, Nat.testBit_eq_decide_div_mod_eq]
  have e : ((n : Int) / 2 ^ k % 2) = ((n / 2 ^ k % 2 : Nat) : Int) := by simp
  rw [e]
  by_cases h : n / 2 ^ k % 2 = 1
  · simp [h]
  · have : n / 2 ^ k % 2 = 0 := by omega
    simp [this]
set_option maxHeartbeats 1000000 in
theorem hasWd_any (f t d : Int) (k : Nat) (w : World) (h0 : 0 ≤ d) (h1 : d ≤ 127) (hk : k < 7) : Calls Tryz.prog 165 #[encQ (f, t, d), .int .i64 k] w fun e w' => e = .returned (.bool (d.toNat.testBit k)) ∧ Below w.heap.size w w' := by
  have hm : min k 64 = k := by omega
  have HB : Hid ((bits BinOp.and IntKind.i64 (d / 2 ^ k) 1 == 1) = d.toNat.testBit k) := Lib.hid (by
    have q0 : 0 ≤ d / 2 ^ k := Int.ediv_nonneg h0 (Int.pow_nonneg (by omega))
    have q1 : d / 2 ^ k ≤ d := Int.ediv_le_self _ h0
    rw [one7 _ q0 (by omega), shr_bit d k h0]
    cases d.toNat.testBit k <;> rfl)
  go_enter Tryz.func165, Tryz.ntmps165
  go_wp2
  go_ret
  exact ⟨ret_bool HB.out, bel_alloc _ _⟩

theorem wk_val (n : Int) : weekP n = ((wkN n : Nat) : Int) := by rw [wkN_int]; rfl
theorem wk_any (n : Int) (w : World) (h0 : -9223372036854775808 ≤ n) (h1 : n ≤ 9223372036854775807) : Calls Tryz.prog 166 #[.int .i64 n] w fun e w' => e = .returned (.int .i64 (wkN n : Nat)) ∧ Below w.heap.size w w' := by
  rw [← wk_val]; exact weekday_any n w h0 h1
theorem rwk_any (n : Int) (w : World) (h0 : -9223372036854775808 ≤ n) (h1 : n ≤ 9223372036854775807) : Calls Tryz.prog 220 #[.int .i64 n] w fun e w' => e = .returned (.int .i64 (wkN n : Nat)) ∧ w = w' := by
  rw [← wk_val]; exact rweekday_any n w h0 h1

theorem pow_step (k : Nat) (h : k < 7) : ((2 ^ k : Nat) : Int) ≤ 64 ∧ 1 ≤ ((2 ^ k : Nat) : Int) := by
  have h1 := Nat.pow_le_pow_right (n := 2) (by omega) (show k ≤ 6 by omega)
  have h2 := Nat.two_pow_pos k
  omega
set_option maxHeartbeats 1000000 in
theorem bit_any (n : Int) (w : World) (h0 : -9223372036854775808 ≤ n) (h1 : n ≤ 9223372036854775807) : Calls Tryz.prog 167 #[.int .i64 n] w fun e w' => e = .returned (.int .i64 ((2 ^ wkN n : Nat) : Int)) ∧ w = w' := by
  have CW := Lib.hid (fun w => rwk_any n w h0 h1)
  have hl := wkN_lt n
  generalize wkN n = m at *
  go_enter Tryz.func167, Tryz.ntmps167
  go_wp2
  go_loop [3, 4] (fun x i => ∃ (k : Nat), k ≤ m ∧ i = .int .i64 k ∧ x = .int .i64 ((2 ^ k : Nat) : Int)) (fun _ i => m - (intOf i).toNat)
  case atStart => exact ⟨0, Nat.zero_le _, rfl, rfl⟩
  case round =>
    obtain ⟨k, hk, rfl, rfl⟩ := hrel
    obtain ⟨y, hy⟩ : ∃ y : Int, y = ((2 ^ k : Nat) : Int) := ⟨_, rfl⟩
    have hp := pow_step k (by omega)
    rw [← hy] at hp ⊢
    have HY := Lib.hid hy
    clear hy
    by_cases hlt : k < m
    · have i1 : (k : Int) < (m : Int) := by omega
      go_wp2_with (go_at_call 220; refine (CW.out _).mono ?_; rintro e w' ⟨rfl, rfl⟩)
      go_round
      case rel => exact ⟨k + 1, by omega, by go_num, by rw [HY.out, Nat.pow_succ]; congr 1; omega⟩
      case measure => simp [intOf]; omega
    · have e : k = m := by omega
      subst e
      go_wp2_with (go_at_call 220; refine (CW.out _).mono ?_; rintro e w' ⟨rfl, rfl⟩)
      go_ret
      exact ⟨ret_int HY.out, rfl⟩

/-- a period that lies in a box, in a world that has only grown since w -/
def Box3 (w : World) (B : Nat) (p : Per) (W : World) : Prop := W.cell? ⟨B, 0, none⟩ = some (.int .i64 p.1) ∧ W.cell? ⟨B, 1, none⟩ = some (.int .i64 p.2.1) ∧ W.cell? ⟨B, 2, none⟩ = some (.int .i64 p.2.2) ∧ Below w.heap.size w W
theorem Box3.new (w : World) (p : Per) (t : TypeId) : Box3 w w.heap.size p (w.alloc (.cells #[.int .i64 p.1, .int .i64 p.2.1, .int .i64 p.2.2] t)) := by
  have h := heap_alloc_new w (.cells #[.int .i64 p.1, .int .i64 p.2.1, .int .i64 p.2.2] t)
  refine ⟨?_, ?_, ?_, bel_alloc _ _⟩
  · exact cell_of_row _ _ 0 _ _ (0, 0) h
  · exact cell_of_row _ _ 1 _ _ (0, 0) h
  · exact cell_of_row _ _ 2 _ _ (0, 0) h
theorem Box3.more {w : World} {B : Nat} {p : Per} {W W' : World} (h : Box3 w B p W) (hb : Below W.heap.size W W') : Box3 w B p W' :=
  ⟨(hb.cell (p := ⟨B, 0, none⟩) (World.block_lt_of_cell? W _ h.1)).trans h.1, (hb.cell (p := ⟨B, 1, none⟩) (World.block_lt_of_cell? W _ h.2.1)).trans h.2.1, (hb.cell (p := ⟨B, 2, none⟩) (World.block_lt_of_cell? W _ h.2.2.1)).trans h.2.2.1, h.2.2.2.trans (hb.mono h.2.2.2.size)⟩
theorem Box3.call {f : Nat} {args : Array Value} {w : World} {B : Nat} {p : Per} {v : Value} (h : ∀ W, Calls Tryz.prog f args W fun e w' => e = .returned v ∧ Below W.heap.size W w') (W : World) (hb : Box3 w B p W) :
    Calls Tryz.prog f args W fun e w' => e = .returned v ∧ Box3 w B p w' := (h W).mono (by rintro e w' ⟨he, h⟩; exact ⟨he, hb.more h⟩)
theorem bel_self (W : World) (n : Nat) : Below W.heap.size W (W.drewN n) := below_drewN (Below.refl _ _) n

/-! ### regions that draw their order and whose calls make memory: one walk in the class of the worlds of which S holds -/
structure Wd (S : World → Prop) where
  w : World
  ok : S w
theorem quietS {P : Program} {S : World → Prop} {id : Nat} {Q : Exit → Act → World → Prop} {a : Act} {w : World} {l : List Oper} (hm : P.follows .mixedOrders = true) (hB : Region.lexB .any l.toArray = true) (hC : S w.drew)
    (h : wpQuiet P l.toArray (fun w' => ∃ x : Wd S, w' = x.w) (fun a' => ∀ w', (∃ x : Wd S, w' = x.w) → Q .normal a' w') l a) : (Code.region id l.toArray true).wp P Q a w :=
  wp_region_quiet (C := fun w' => ∃ x : Wd S, w' = x.w) hm hB ⟨⟨_, hC⟩, rfl⟩ (by simpa using h)
theorem quiet_S {P : Program} {f : FuncId} {args : Array Value} {W : World} {S : World → Prop} {v : Value} (h : Calls P f args W fun e w' => e = .returned v ∧ S w') :
    Calls P f args W fun e w'' => e = .returned v ∧ ∃ x : Wd S, w'' = x.w := h.mono (by rintro e w' ⟨he, hs⟩; exact ⟨he, ⟨w', hs⟩, rfl⟩)

set_option maxHeartbeats 2000000 in
theorem has_any (f t d n : Int) (w : World) (h0 : -9223372036854775808 ≤ n) (h1 : n ≤ 9223372036854775807) : Calls Tryz.prog 85 #[encQ (f, t, d), .int .i64 n] w fun e w' => e = .returned (.bool (hasQ (f, t, d) n)) ∧ Below w.heap.size w w' := by
  have hB : Box3 w w.heap.size (f, t, d) (w.alloc (.cells #[.int .i64 f, .int .i64 t, .int .i64 d] 23)).drew := (Box3.new w (f, t, d) _).more (Below.refl _ _).drew
  have f0 : ∀ x : Wd (Box3 w w.heap.size (f, t, d)), x.w.cell? ⟨w.heap.size, 0, none⟩ = some (.int .i64 f) := fun x => x.ok.1
  have f1 : ∀ x : Wd (Box3 w w.heap.size (f, t, d)), x.w.cell? ⟨w.heap.size, 1, none⟩ = some (.int .i64 t) := fun x => x.ok.2.1
  have f2 : ∀ x : Wd (Box3 w w.heap.size (f, t, d)), x.w.cell? ⟨w.heap.size, 2, none⟩ = some (.int .i64 d) := fun x => x.ok.2.2.1
  cases h : okQ (f, t, d)
  · have HR : Hid (hasQ (f, t, d) n = false) := Lib.hid (by simp [hasQ, h])
    have CV := Lib.hid (Box3.call (w := w) (B := w.heap.size) (p := (f, t, d)) (fun W => isValid_any f t d W))
    rw [h] at CV
    clear h
    go_enter Tryz.func85, Tryz.ntmps85
    go_wp2
    have hNe : Nonempty (Wd (Box3 w w.heap.size (f, t, d))) := ⟨⟨_, hB⟩⟩
    refine quietS (S := Box3 w w.heap.size (f, t, d)) (by kernel_rfl) (by kernel_rfl) (hB) ?_
    repeat (first | go_big_quiet_skip | (go_big_quiet_want; go_big_quiet_op; first | go_big_quiet_on | go_big_quiet_call ((go_at_call 128; exact quiet_S (CV.out _ (Wd.ok _))))))
    refine wpQuiet_nil ?_
    rintro W ⟨⟨_, hW⟩, rfl⟩
    go_wp2
    go_ret
    exact ⟨ret_bool HR.out.symm, hW.2.2.2⟩
  · have hq := okQ_yes h
    have CV := Lib.hid (Box3.call (w := w) (B := w.heap.size) (p := (f, t, d)) (fun W => isValid_any f t d W))
    rw [h] at CV
    have CW := Lib.hid (Box3.call (w := w) (B := w.heap.size) (p := (f, t, d)) (fun W => wk_any n W h0 h1))
    have CH := Lib.hid (Box3.call (w := w) (B := w.heap.size) (p := (f, t, d)) (fun W => hasWd_any f t d (wkN n) W (by have := hq.2.2.2.2.1; simp at this; omega) (by have := hq.2.2.2.2.2; simp at this; omega) (wkN_lt n)))
    by_cases a1 : f ≤ n
    · by_cases a2 : n ≤ t
      · have HR : Hid (hasQ (f, t, d) n = d.toNat.testBit (wkN n)) := Lib.hid (by simp [hasQ, a1, a2, h, wdB])
        clear h hq
        generalize d.toNat.testBit (wkN n) = z at *
        generalize wkN n = k at *
        go_enter Tryz.func85, Tryz.ntmps85
        go_wp2
        have hNe : Nonempty (Wd (Box3 w w.heap.size (f, t, d))) := ⟨⟨_, hB⟩⟩
        refine quietS (S := Box3 w w.heap.size (f, t, d)) (by kernel_rfl) (by kernel_rfl) (hB) ?_
        repeat (first | go_big_quiet_skip | (go_big_quiet_want; go_big_quiet_op; first | go_big_quiet_on | go_big_quiet_call ((first | (go_at_call 128; exact quiet_S (CV.out _ (Wd.ok _))) | (go_at_call 166; exact quiet_S (CW.out _ (Wd.ok _))) | (go_at_call 165; exact quiet_S (CH.out _ (Wd.ok _)))))))
        refine wpQuiet_nil ?_
        rintro W ⟨⟨_, hW⟩, rfl⟩
        go_wp2
        go_ret
        exact ⟨ret_bool HR.out.symm, hW.2.2.2⟩
      · have HR : Hid (hasQ (f, t, d) n = false) := Lib.hid (by simp [hasQ, a2])
        have a3 : decide (n ≤ t) = false := decide_eq_false a2
        clear h hq
        go_enter Tryz.func85, Tryz.ntmps85
        go_wp2
        have hNe : Nonempty (Wd (Box3 w w.heap.size (f, t, d))) := ⟨⟨_, hB⟩⟩
        refine quietS (S := Box3 w w.heap.size (f, t, d)) (by kernel_rfl) (by kernel_rfl) (hB) ?_
        repeat (first | go_big_quiet_skip | (go_big_quiet_want; go_big_quiet_op; first | go_big_quiet_on | go_big_quiet_call ((go_at_call 128; exact quiet_S (CV.out _ (Wd.ok _))))))
        refine wpQuiet_nil ?_
        rintro W ⟨⟨_, hW⟩, rfl⟩
        go_wp2
        go_ret
        exact ⟨ret_bool HR.out.symm, hW.2.2.2⟩
    · have HR : Hid (hasQ (f, t, d) n = false) := Lib.hid (by simp [hasQ, a1])
      have a3 : decide (f ≤ n) = false := decide_eq_false a1
      clear h hq
      go_enter Tryz.func85, Tryz.ntmps85
      go_wp2
      have hNe : Nonempty (Wd (Box3 w w.heap.size (f, t, d))) := ⟨⟨_, hB⟩⟩
      refine quietS (S := Box3 w w.heap.size (f, t, d)) (by kernel_rfl) (by kernel_rfl) (hB) ?_
      repeat (first | go_big_quiet_skip | (go_big_quiet_want; go_big_quiet_op; first | go_big_quiet_on | go_big_quiet_call ((go_at_call 128; exact quiet_S (CV.out _ (Wd.ok _))))))
      refine wpQuiet_nil ?_
      rintro W ⟨⟨_, hW⟩, rfl⟩
      go_wp2
      go_ret
      exact ⟨ret_bool HR.out.symm, hW.2.2.2⟩

end Go.Proofs.YtldillnjnjkkgaaGreatDoor.Per

/- Walks of the reference's Has and Days; of equal lists. -/
namespace Go.Proofs.YtldillnjnjkkgaaGreatDoor.Per
open Go.RowKit
set_option linter.unusedSimpArgs false
set_option linter.unusedVariables false

theorem quo_bit (d : Int) (k : Nat) (h0 : 0 ≤ d) : ((d / ((2 ^ k : Nat) : Int)).tmod 2 == 1) = d.toNat.testBit k := by
  have e : ((2 ^ k : Nat) : Int) = (2 : Int) ^ k := by simp
  rw [e, tmod_pos _ _ (Int.ediv_nonneg h0 (Int.pow_nonneg (by omega))), shr_bit d k h0]
  cases d.toNat.testBit k <;> rfl
set_option maxHeartbeats 2000000 in
theorem rhas_any (f t d n : Int) (w : World) (h0 : -9223372036854775808 ≤ n) (h1 : n ≤ 9223372036854775807) : Calls Tryz.prog 87 #[encQ (f, t, d), .int .i64 n] w fun e w' => e = .returned (.bool (hasQ (f, t, d) n)) ∧ Below w.heap.size w w' := by
  have hB : Box3 w w.heap.size (f, t, d) (w.alloc (.cells #[.int .i64 f, .int .i64 t, .int .i64 d] 23)).drew := (Box3.new w (f, t, d) _).more (Below.refl _ _).drew
  have f0 : ∀ x : Wd (Box3 w w.heap.size (f, t, d)), x.w.cell? ⟨w.heap.size, 0, none⟩ = some (.int .i64 f) := fun x => x.ok.1
  have f1 : ∀ x : Wd (Box3 w w.heap.size (f, t, d)), x.w.cell? ⟨w.heap.size, 1, none⟩ = some (.int .i64 t) := fun x => x.ok.2.1
  have f2 : ∀ x : Wd (Box3 w w.heap.size (f, t, d)), x.w.cell? ⟨w.heap.size, 2, none⟩ = some (.int .i64 d) := fun x => x.ok.2.2.1
  have CV := Lib.hid (Box3.call (w := w) (B := w.heap.size) (p := (f, t, d)) (fun W => rcheck_any f t d W))
  cases h : okQ (f, t, d)
  · have HR : Hid (hasQ (f, t, d) n = false) := Lib.hid (by simp [hasQ, h])
    have he := errQ_two h
    generalize errQ (f, t, d) = z at *
    clear h
    go_enter Tryz.func87, Tryz.ntmps87
    go_wp2
    have hNe : Nonempty (Wd (Box3 w w.heap.size (f, t, d))) := ⟨⟨_, hB⟩⟩
    refine quietS (S := Box3 w w.heap.size (f, t, d)) (by kernel_rfl) (by kernel_rfl) (hB) ?_
    repeat (first | go_big_quiet_skip | (go_big_quiet_want; go_big_quiet_op; first | go_big_quiet_on | go_big_quiet_call ((go_at_call 137; exact quiet_S (CV.out _ (Wd.ok _))))))
    refine wpQuiet_nil ?_
    rintro W ⟨⟨_, hW⟩, rfl⟩
    go_wp2
    go_ret
    exact ⟨ret_bool HR.out.symm, hW.2.2.2⟩
  · have hq := okQ_yes h
    have he := errQ_ok h
    rw [he] at CV
    clear he
    by_cases a1 : f ≤ n
    · by_cases a2 : n ≤ t
      · have HR : Hid (hasQ (f, t, d) n = ((d / ((2 ^ wkN n : Nat) : Int)).tmod 2 == 1)) := Lib.hid (by rw [quo_bit d (wkN n) (by have := hq.2.2.2.2.1; simp at this; omega)]; simp [hasQ, a1, a2, h, wdB])
        have CB := Lib.hid (Box3.call (w := w) (B := w.heap.size) (p := (f, t, d)) (fun W => (bit_any n W h0 h1).mono (R' := fun e w' => e = .returned (.int .i64 ((2 ^ wkN n : Nat) : Int)) ∧ Below W.heap.size W w') (by rintro e w' ⟨rfl, rfl⟩; exact ⟨rfl, Below.refl _ _⟩)))
        have hp := pow_step (wkN n) (wkN_lt n)
        have hd1 : 1 ≤ d := hq.2.2.2.2.1
        have hd2 : d ≤ 127 := hq.2.2.2.2.2
        generalize ((2 ^ wkN n : Nat) : Int) = y at *
        have y0 : ¬ y = 0 := by omega
        have y1 : ¬ y = -1 := by omega
        clear h hq
        go_enter Tryz.func87, Tryz.ntmps87
        go_wp2
        have hNe : Nonempty (Wd (Box3 w w.heap.size (f, t, d))) := ⟨⟨_, hB⟩⟩
        refine quietS (S := Box3 w w.heap.size (f, t, d)) (by kernel_rfl) (by kernel_rfl) (hB) ?_
        repeat (first | go_big_quiet_skip | (go_big_quiet_want; go_big_quiet_op; first | go_big_quiet_on | go_big_quiet_call ((first | (go_at_call 137; exact quiet_S (CV.out _ (Wd.ok _))) | (go_at_call 167; exact quiet_S (CB.out _ (Wd.ok _)))))))
        refine wpQuiet_nil ?_
        rintro W ⟨⟨_, hW⟩, rfl⟩
        go_wp2
        go_ret
        exact ⟨ret_bool HR.out.symm, hW.2.2.2⟩
      · have HR : Hid (hasQ (f, t, d) n = false) := Lib.hid (by simp [hasQ, a2])
        have a3 : decide (n ≤ t) = false := decide_eq_false a2
        clear h hq
        go_enter Tryz.func87, Tryz.ntmps87
        go_wp2
        have hNe : Nonempty (Wd (Box3 w w.heap.size (f, t, d))) := ⟨⟨_, hB⟩⟩
        refine quietS (S := Box3 w w.heap.size (f, t, d)) (by kernel_rfl) (by kernel_rfl) (hB) ?_
        repeat (first | go_big_quiet_skip | (go_big_quiet_want; go_big_quiet_op; first | go_big_quiet_on | go_big_quiet_call ((go_at_call 137; exact quiet_S (CV.out _ (Wd.ok _))))))
        refine wpQuiet_nil ?_
        rintro W ⟨⟨_, hW⟩, rfl⟩
        go_wp2
        go_ret
        exact ⟨ret_bool HR.out.symm, hW.2.2.2⟩
    · have HR : Hid (hasQ (f, t, d) n = false) := Lib.hid (by simp [hasQ, a1])
      have a3 : decide (f ≤ n) = false := decide_eq_false a1
      clear h hq
      go_enter Tryz.func87, Tryz.ntmps87
      go_wp2
      have hNe : Nonempty (Wd (Box3 w w.heap.size (f, t, d))) := ⟨⟨_, hB⟩⟩
      refine quietS (S := Box3 w w.heap.size (f, t, d)) (by kernel_rfl) (by kernel_rfl) (hB) ?_
      repeat (first | go_big_quiet_skip | (go_big_quiet_want; go_big_quiet_op; first | go_big_quiet_on | go_big_quiet_call ((go_at_call 137; exact quiet_S (CV.out _ (Wd.ok _))))))
      refine wpQuiet_nil ?_
      rintro W ⟨⟨_, hW⟩, rfl⟩
      go_wp2
      go_ret
      exact ⟨ret_bool HR.out.symm, hW.2.2.2⟩

end Go.Proofs.YtldillnjnjkkgaaGreatDoor.Per

/- Walks of the comparisons of legs and of flights: slices.Equal, SameLegs. -/
namespace Go.Proofs.YtldillnjnjkkgaaGreatDoor
open Go.RowKit Go.Shelf
set_option linter.unusedSimpArgs false
set_option linter.unusedVariables false

def eqLg (x y : Lg) : Bool := (x.f.toList == y.f.toList) && ((x.t.toList == y.t.toList) && (decide (x.dep = y.dep) && (decide (x.arr = y.arr) && (x.eq.toList == y.eq.toList))))
def sameL : List Lg → List Lg → Bool
  | [], [] => true
  | x :: l, y :: m => eqLg x y && sameL l m
  | _, _ => false
theorem sameL_len : ∀ (l m : List Lg), l.length ≠ m.length → sameL l m = false
  | [], [], h => absurd rfl h
  | [], _ :: _, _ => rfl
  | _ :: _, [], _ => rfl
  | x :: l, y :: m, h => by simp only [sameL]; rw [sameL_len l m (by simpa using h), Bool.and_false]
theorem eqLg_refl (x : Lg) : eqLg x x = true := by simp [eqLg]
theorem sameL_refl : ∀ l : List Lg, sameL l l = true
  | [] => rfl
  | x :: l => by simp only [sameL]; rw [eqLg_refl, sameL_refl l]; rfl
theorem sameL_drop (l m : List Lg) {k : Nat} {x y : Lg} (hx : l[k]? = some x) (hy : m[k]? = some y) : sameL (l.drop k) (m.drop k) = (eqLg x y && sameL (l.drop (k + 1)) (m.drop (k + 1))) := by
  obtain ⟨hk, e⟩ := List.getElem?_eq_some_iff.1 hx
  obtain ⟨hk', e'⟩ := List.getElem?_eq_some_iff.1 hy
  rw [List.drop_eq_getElem_cons hk, List.drop_eq_getElem_cons hk', e, e']
  rfl

set_option maxRecDepth 100000 in
set_option maxHeartbeats 4000000 in
theorem sameLegs_any (u v : Value) (l m : List Lg) (w : World) (hu : LegL w u l) (hv : LegL w v m) (hl : l.length ≤ 1000) (hm : m.length ≤ 1000) :
    Calls Tryz.prog 73 #[u, v] w fun e w' => e = .returned (.bool (sameL l m)) ∧ Below w.heap.size w w' := by
  obtain ⟨A, c, rfl, hA⟩ := hu
  obtain ⟨A', c', rfl, hA'⟩ := hv
  have hL : LegL w (.slice A l.length c) l := ⟨A, c, rfl, hA⟩
  have hL' : LegL w (.slice A' m.length c') m := ⟨A', c', rfl, hA'⟩
  clear hA hA'
  by_cases hlen : l.length = m.length
  · have HM : Hid (l.length = m.length) := Lib.hid hlen
    have hq : ((l.length : Int) != (m.length : Int)) = false := by rw [hlen]; simp
    clear hlen
    go_enter Tryz.func73, Tryz.ntmps73
    go_wp2
    go_loopw [5] (fun vi wr => ∃ k : Nat, k ≤ l.length ∧ vi = .int .i64 k ∧ Hid (sameL l m = sameL (l.drop k) (m.drop k)) ∧ SW w wr) (fun vi _ => l.length - (intOf vi).toNat)
    case atStart => exact ⟨0, Nat.zero_le _, rfl, Lib.hid rfl, Below.refl _ _⟩
    case round =>
      obtain ⟨k, hk, rfl, HK, hS⟩ := hrel
      by_cases hlt : k < l.length
      · obtain ⟨b, o, x, rfl, _, hx, c0, c1, c2, c3, c4⟩ := LegL.get (hL.more hS) hlt
        obtain ⟨b', o', y, rfl, _, hy, d0, d1, d2, d3, d4⟩ := LegL.get (hL'.more hS) (show k < m.length by have := HM.out; omega)
        have i2 : (k : Int) < (l.length : Int) := by omega
        have i3 : (k : Int) < (m.length : Int) := by have := HM.out; omega
        have HK2 := Lib.hid (HK.out.trans (sameL_drop l m hx hy))
        have f0 := SW.cell c0
        have f1 := SW.cell c1
        have f2 := SW.cell c2
        have f3 := SW.cell c3
        have f4 := SW.cell c4
        have g0 := SW.cell d0
        have g1 := SW.cell d1
        have g2 := SW.cell d2
        have g3 := SW.cell d3
        have g4 := SW.cell d4
        clear hx hy c0 c1 c2 c3 c4 d0 d1 d2 d3 d4 HK
        cases h1 : x.f.toList == y.f.toList
        · skip
          have HR : Hid (sameL l m = false) := Lib.hid (by rw [HK2.out]; unfold eqLg; simp [h1])
          clear HK2
          go_wp2
          have hNe : Nonempty (Wd (SW wr)) := ⟨⟨_, SW.drew _⟩⟩
          refine quietS (S := SW wr) (by kernel_rfl) (by kernel_rfl) (SW.drew _) ?_
          repeat (first | go_big_quiet_skip | (go_big_quiet_want; go_big_quiet_op; first | go_big_quiet_on | go_big_quiet_call ((fail))))
          refine wpQuiet_nil ?_
          rintro W ⟨⟨_, hW⟩, rfl⟩
          go_wp2
          go_ret
          exact ⟨ret_bool HR.out.symm, Below.trans hS (Below.mono hW hS.size)⟩
        · skip
          cases h2 : x.t.toList == y.t.toList
          · skip
            have HR : Hid (sameL l m = false) := Lib.hid (by rw [HK2.out]; unfold eqLg; simp [h1, h2])
            clear HK2
            go_wp2
            have hNe : Nonempty (Wd (SW wr)) := ⟨⟨_, SW.drew _⟩⟩
            refine quietS (S := SW wr) (by kernel_rfl) (by kernel_rfl) (SW.drew _) ?_
            repeat (first | go_big_quiet_skip | (go_big_quiet_want; go_big_quiet_op; first | go_big_quiet_on | go_big_quiet_call ((fail))))
            refine wpQuiet_nil ?_
            rintro W ⟨⟨_, hW⟩, rfl⟩
            go_wp2
            go_ret
            exact ⟨ret_bool HR.out.symm, Below.trans hS (Below.mono hW hS.size)⟩
          · skip
            by_cases h3 : x.dep = y.dep
            · have h3b : (x.dep == y.dep) = true := beq_iff_eq.2 h3
              by_cases h4 : x.arr = y.arr
              · have h4b : (x.arr == y.arr) = true := beq_iff_eq.2 h4
                cases h5 : x.eq.toList == y.eq.toList
                · skip
                  have HR : Hid (sameL l m = false) := Lib.hid (by rw [HK2.out]; unfold eqLg; simp [h1, h2, h3, h4, h5])
                  clear HK2
                  go_wp2
                  have hNe : Nonempty (Wd (SW wr)) := ⟨⟨_, SW.drew _⟩⟩
                  refine quietS (S := SW wr) (by kernel_rfl) (by kernel_rfl) (SW.drew _) ?_
                  repeat (first | go_big_quiet_skip | (go_big_quiet_want; go_big_quiet_op; first | go_big_quiet_on | go_big_quiet_call ((fail))))
                  refine wpQuiet_nil ?_
                  rintro W ⟨⟨_, hW⟩, rfl⟩
                  go_wp2
                  go_ret
                  exact ⟨ret_bool HR.out.symm, Below.trans hS (Below.mono hW hS.size)⟩
                · skip
                  have HR : Hid (sameL l m = sameL (l.drop (k + 1)) (m.drop (k + 1))) := Lib.hid (by rw [HK2.out, show eqLg x y = true by unfold eqLg; simp [h1, h2, h3, h4, h5], Bool.true_and])
                  clear HK2
                  go_wp2
                  have hNe : Nonempty (Wd (SW wr)) := ⟨⟨_, SW.drew _⟩⟩
                  refine quietS (S := SW wr) (by kernel_rfl) (by kernel_rfl) (SW.drew _) ?_
                  repeat (first | go_big_quiet_skip | (go_big_quiet_want; go_big_quiet_op; first | go_big_quiet_on | go_big_quiet_call ((fail))))
                  refine wpQuiet_nil ?_
                  rintro W ⟨⟨_, hW⟩, rfl⟩
                  go_wp2
                  go_roundw
                  case rel => exact ⟨k + 1, by omega, by go_num, HR, Below.trans hS (Below.mono hW hS.size)⟩
                  case measure => simp [intOf]; omega
              · have h4b : (x.arr == y.arr) = false := beq_eq_false_iff_ne.2 h4
                have HR : Hid (sameL l m = false) := Lib.hid (by rw [HK2.out]; unfold eqLg; simp [h1, h2, h3, h4])
                clear HK2
                go_wp2
                have hNe : Nonempty (Wd (SW wr)) := ⟨⟨_, SW.drew _⟩⟩
                refine quietS (S := SW wr) (by kernel_rfl) (by kernel_rfl) (SW.drew _) ?_
                repeat (first | go_big_quiet_skip | (go_big_quiet_want; go_big_quiet_op; first | go_big_quiet_on | go_big_quiet_call ((fail))))
                refine wpQuiet_nil ?_
                rintro W ⟨⟨_, hW⟩, rfl⟩
                go_wp2
                go_ret
                exact ⟨ret_bool HR.out.symm, Below.trans hS (Below.mono hW hS.size)⟩
            · have h3b : (x.dep == y.dep) = false := beq_eq_false_iff_ne.2 h3
              have HR : Hid (sameL l m = false) := Lib.hid (by rw [HK2.out]; unfold eqLg; simp [h1, h2, h3])
              clear HK2
              go_wp2
              have hNe : Nonempty (Wd (SW wr)) := ⟨⟨_, SW.drew _⟩⟩
              refine quietS (S := SW wr) (by kernel_rfl) (by kernel_rfl) (SW.drew _) ?_
              repeat (first | go_big_quiet_skip | (go_big_quiet_want; go_big_quiet_op; first | go_big_quiet_on | go_big_quiet_call ((fail))))
              refine wpQuiet_nil ?_
              rintro W ⟨⟨_, hW⟩, rfl⟩
              go_wp2
              go_ret
              exact ⟨ret_bool HR.out.symm, Below.trans hS (Below.mono hW hS.size)⟩
      · have HR : Hid (sameL l m = true) := Lib.hid (by
          rw [HK.out, List.drop_of_length_le (by omega), List.drop_of_length_le (by have := HM.out; omega)]
          rfl)
        go_wp2
        go_ret
        exact ⟨ret_bool HR.out.symm, hS⟩
  · have HR : Hid (sameL l m = false) := Lib.hid (sameL_len l m hlen)
    have hq : ((l.length : Int) != (m.length : Int)) = true := by simp; omega
    clear hlen
    go_enter Tryz.func73, Tryz.ntmps73
    go_wp2
    go_ret
    exact ⟨ret_bool HR.out.symm, Below.refl _ _⟩

set_option maxRecDepth 100000 in
set_option maxHeartbeats 4000000 in
theorem equalL_any (u v : Value) (l m : List Lg) (w : World) (hu : LegL w u l) (hv : LegL w v m) (hl : l.length ≤ 1000) (hm : m.length ≤ 1000) :
    Calls Tryz.prog 99 #[u, v] w fun e w' => e = .returned (.bool (sameL l m)) ∧ Below w.heap.size w w' := by
  obtain ⟨A, c, rfl, hA⟩ := hu
  obtain ⟨A', c', rfl, hA'⟩ := hv
  have hL : LegL w (.slice A l.length c) l := ⟨A, c, rfl, hA⟩
  have hL' : LegL w (.slice A' m.length c') m := ⟨A', c', rfl, hA'⟩
  clear hA hA'
  by_cases hlen : l.length = m.length
  · have HM : Hid (l.length = m.length) := Lib.hid hlen
    have hq : ((l.length : Int) != (m.length : Int)) = false := by rw [hlen]; simp
    clear hlen
    go_enter Tryz.func99, Tryz.ntmps99
    go_wp2
    go_loopw [13] (fun vi wr => ∃ k : Nat, k ≤ l.length ∧ vi = .int .i64 k ∧ Hid (sameL l m = sameL (l.drop k) (m.drop k)) ∧ SW w wr) (fun vi _ => l.length - (intOf vi).toNat)
    case atStart => exact ⟨0, Nat.zero_le _, rfl, Lib.hid rfl, Below.refl _ _⟩
    case round =>
      obtain ⟨k, hk, rfl, HK, hS⟩ := hrel
      by_cases hlt : k < l.length
      · obtain ⟨b, o, x, rfl, _, hx, c0, c1, c2, c3, c4⟩ := LegL.get (hL.more hS) hlt
        obtain ⟨b', o', y, rfl, _, hy, d0, d1, d2, d3, d4⟩ := LegL.get (hL'.more hS) (show k < m.length by have := HM.out; omega)
        have i2 : (k : Int) < (l.length : Int) := by omega
        have i3 : (k : Int) < (m.length : Int) := by have := HM.out; omega
        have HK2 := Lib.hid (HK.out.trans (sameL_drop l m hx hy))
        have f0 := SW.cell c0
        have f1 := SW.cell c1
        have f2 := SW.cell c2
        have f3 := SW.cell c3
        have f4 := SW.cell c4
        have g0 := SW.cell d0
        have g1 := SW.cell d1
        have g2 := SW.cell d2
        have g3 := SW.cell d3
        have g4 := SW.cell d4
        clear hx hy c0 c1 c2 c3 c4 d0 d1 d2 d3 d4 HK
        cases h1 : x.f.toList == y.f.toList
        · skip
          have HR : Hid (sameL l m = false) := Lib.hid (by rw [HK2.out]; unfold eqLg; simp [h1])
          clear HK2
          go_wp2
          have hNe : Nonempty (Wd (SW wr)) := ⟨⟨_, SW.drew _⟩⟩
          refine quietS (S := SW wr) (by kernel_rfl) (by kernel_rfl) (SW.drew _) ?_
          repeat (first | go_big_quiet_skip | (go_big_quiet_want; go_big_quiet_op; first | go_big_quiet_on | go_big_quiet_call ((fail))))
          refine wpQuiet_nil ?_
          rintro W ⟨⟨_, hW⟩, rfl⟩
          go_wp2
          go_ret
          exact ⟨ret_bool HR.out.symm, Below.trans hS (Below.mono hW hS.size)⟩
        · skip
          cases h2 : x.t.toList == y.t.toList
          · skip
            have HR : Hid (sameL l m = false) := Lib.hid (by rw [HK2.out]; unfold eqLg; simp [h1, h2])
            clear HK2
            go_wp2
            have hNe : Nonempty (Wd (SW wr)) := ⟨⟨_, SW.drew _⟩⟩
            refine quietS (S := SW wr) (by kernel_rfl) (by kernel_rfl) (SW.drew _) ?_
            repeat (first | go_big_quiet_skip | (go_big_quiet_want; go_big_quiet_op; first | go_big_quiet_on | go_big_quiet_call ((fail))))
            refine wpQuiet_nil ?_
            rintro W ⟨⟨_, hW⟩, rfl⟩
            go_wp2
            go_ret
            exact ⟨ret_bool HR.out.symm, Below.trans hS (Below.mono hW hS.size)⟩
          · skip
            by_cases h3 : x.dep = y.dep
            · have h3b : (x.dep == y.dep) = true := beq_iff_eq.2 h3
              by_cases h4 : x.arr = y.arr
              · have h4b : (x.arr == y.arr) = true := beq_iff_eq.2 h4
                cases h5 : x.eq.toList == y.eq.toList
                · skip
                  have HR : Hid (sameL l m = false) := Lib.hid (by rw [HK2.out]; unfold eqLg; simp [h1, h2, h3, h4, h5])
                  clear HK2
                  go_wp2
                  have hNe : Nonempty (Wd (SW wr)) := ⟨⟨_, SW.drew _⟩⟩
                  refine quietS (S := SW wr) (by kernel_rfl) (by kernel_rfl) (SW.drew _) ?_
                  repeat (first | go_big_quiet_skip | (go_big_quiet_want; go_big_quiet_op; first | go_big_quiet_on | go_big_quiet_call ((fail))))
                  refine wpQuiet_nil ?_
                  rintro W ⟨⟨_, hW⟩, rfl⟩
                  go_wp2
                  go_ret
                  exact ⟨ret_bool HR.out.symm, Below.trans hS (Below.mono hW hS.size)⟩
                · skip
                  have HR : Hid (sameL l m = sameL (l.drop (k + 1)) (m.drop (k + 1))) := Lib.hid (by rw [HK2.out, show eqLg x y = true by unfold eqLg; simp [h1, h2, h3, h4, h5], Bool.true_and])
                  clear HK2
                  go_wp2
                  have hNe : Nonempty (Wd (SW wr)) := ⟨⟨_, SW.drew _⟩⟩
                  refine quietS (S := SW wr) (by kernel_rfl) (by kernel_rfl) (SW.drew _) ?_
                  repeat (first | go_big_quiet_skip | (go_big_quiet_want; go_big_quiet_op; first | go_big_quiet_on | go_big_quiet_call ((fail))))
                  refine wpQuiet_nil ?_
                  rintro W ⟨⟨_, hW⟩, rfl⟩
                  go_wp2
                  go_roundw
                  case rel => exact ⟨k + 1, by omega, by go_num, HR, Below.trans hS (Below.mono hW hS.size)⟩
                  case measure => simp [intOf]; omega
              · have h4b : (x.arr == y.arr) = false := beq_eq_false_iff_ne.2 h4
                have HR : Hid (sameL l m = false) := Lib.hid (by rw [HK2.out]; unfold eqLg; simp [h1, h2, h3, h4])
                clear HK2
                go_wp2
                have hNe : Nonempty (Wd (SW wr)) := ⟨⟨_, SW.drew _⟩⟩
                refine quietS (S := SW wr) (by kernel_rfl) (by kernel_rfl) (SW.drew _) ?_
                repeat (first | go_big_quiet_skip | (go_big_quiet_want; go_big_quiet_op; first | go_big_quiet_on | go_big_quiet_call ((fail))))
                refine wpQuiet_nil ?_
                rintro W ⟨⟨_, hW⟩, rfl⟩
                go_wp2
                go_ret
                exact ⟨ret_bool HR.out.symm, Below.trans hS (Below.mono hW hS.size)⟩
            · have h3b : (x.dep == y.dep) = false := beq_eq_false_iff_ne.2 h3
              have HR : Hid (sameL l m = false) := Lib.hid (by rw [HK2.out]; unfold eqLg; simp [h1, h2, h3])
              clear HK2
              go_wp2
              have hNe : Nonempty (Wd (SW wr)) := ⟨⟨_, SW.drew _⟩⟩
              refine quietS (S := SW wr) (by kernel_rfl) (by kernel_rfl) (SW.drew _) ?_
              repeat (first | go_big_quiet_skip | (go_big_quiet_want; go_big_quiet_op; first | go_big_quiet_on | go_big_quiet_call ((fail))))
              refine wpQuiet_nil ?_
              rintro W ⟨⟨_, hW⟩, rfl⟩
              go_wp2
              go_ret
              exact ⟨ret_bool HR.out.symm, Below.trans hS (Below.mono hW hS.size)⟩
      · have HR : Hid (sameL l m = true) := Lib.hid (by
          rw [HK.out, List.drop_of_length_le (by omega), List.drop_of_length_le (by have := HM.out; omega)]
          rfl)
        go_wp2
        go_ret
        exact ⟨ret_bool HR.out.symm, hS⟩
  · have HR : Hid (sameL l m = false) := Lib.hid (sameL_len l m hlen)
    have hq : ((l.length : Int) != (m.length : Int)) = true := by simp; omega
    clear hlen
    go_enter Tryz.func99, Tryz.ntmps99
    go_wp2
    go_ret
    exact ⟨ret_bool HR.out.symm, Below.refl _ _⟩

end Go.Proofs.YtldillnjnjkkgaaGreatDoor

/- Walks of Same, of the program and of the reference. -/
namespace Go.Proofs.YtldillnjnjkkgaaGreatDoor
open Go.RowKit Go.Shelf
set_option linter.unusedSimpArgs false
set_option linter.unusedVariables false

def sameB (a b : FV) : Bool := (a.car.toList == b.car.toList) && ((a.num == b.num) && ((a.pf == b.pf) && ((a.pt == b.pt) && ((a.pd == b.pd) && sameL a.lg b.lg))))
set_option maxRecDepth 100000 in
set_option maxHeartbeats 4000000 in
theorem rsame_any7 (a b : FV) (w : World) (ha : LegL w (.slice a.A a.lg.length a.c) a.lg) (hb : LegL w (.slice b.A b.lg.length b.c) b.lg) (hl : a.lg.length ≤ 1000) (hm : b.lg.length ≤ 1000) :
    Calls Tryz.prog 20 #[encFl a, encFl b] w fun e w' => e = .returned (.bool (sameB a b)) ∧ Below w.heap.size w w' := by
  have hb0 : Below w.heap.size w ((w.alloc (.cells #[.string a.car, .int .i64 a.num, .int .i64 a.pf, .int .i64 a.pt, .int .i64 a.pd, .slice a.A a.lg.length a.c] fliT)).alloc (.cells #[.string b.car, .int .i64 b.num, .int .i64 b.pf, .int .i64 b.pt, .int .i64 b.pd, .slice b.A b.lg.length b.c] fliT)) :=
    ((Below.refl _ w).alloc (Nat.le_refl _) _).alloc (by simp) _
  have HC := Lib.hid (sameLegs_any _ _ a.lg b.lg _ (ha.more hb0) (hb.more hb0) hl hm)
  clear ha hb
  go_enter Tryz.func20, Tryz.ntmps20
  cases h1 : a.car.toList == b.car.toList
  · skip
    have HR : Hid (sameB a b = false) := Lib.hid (by unfold sameB; simp only [h1, Bool.false_and, Bool.true_and])
    clear HC
    go_wp2
    go_ret
    exact ⟨ret_bool HR.out.symm, hb0⟩
  · skip
    cases h2 : (a.num == b.num)
    · skip
      have HR : Hid (sameB a b = false) := Lib.hid (by unfold sameB; simp only [h1, h2, Bool.false_and, Bool.true_and])
      clear HC
      go_wp2
      go_ret
      exact ⟨ret_bool HR.out.symm, hb0⟩
    · skip
      cases h3 : (a.pf == b.pf)
      · skip
        have HR : Hid (sameB a b = false) := Lib.hid (by unfold sameB; simp only [h1, h2, h3, Bool.false_and, Bool.true_and])
        clear HC
        go_wp2
        go_ret
        exact ⟨ret_bool HR.out.symm, hb0⟩
      · skip
        cases h4 : (a.pt == b.pt)
        · skip
          have HR : Hid (sameB a b = false) := Lib.hid (by unfold sameB; simp only [h1, h2, h3, h4, Bool.false_and, Bool.true_and])
          clear HC
          go_wp2
          go_ret
          exact ⟨ret_bool HR.out.symm, hb0⟩
        · skip
          cases h5 : (a.pd == b.pd)
          · skip
            have HR : Hid (sameB a b = false) := Lib.hid (by unfold sameB; simp only [h1, h2, h3, h4, h5, Bool.false_and, Bool.true_and])
            clear HC
            go_wp2
            go_ret
            exact ⟨ret_bool HR.out.symm, hb0⟩
          · skip
            have HR : Hid (sameB a b = sameL a.lg b.lg) := Lib.hid (by unfold sameB; simp only [h1, h2, h3, h4, h5, Bool.false_and, Bool.true_and])
            go_wp2_with (first | (go_at_call 73; refine HC.out.mono ?_; rintro e w' ⟨rfl, hb'⟩))
            go_ret
            exact ⟨ret_bool HR.out.symm, hb0.trans (Below.mono hb' hb0.size)⟩

end Go.Proofs.YtldillnjnjkkgaaGreatDoor
