/- Words and walks that the laws below ask: Stk9, FrameY, StkA1, StkA2, StkA3, StkN2. -/
import Derived.Test.YtjmahmeionakaaaGreatDoorCards
import Derived.Test.YtjmahmeionakaaaGreatDoorTie
import Derived.WalkKit
import Derived.ProofKit
import Derived.OpenShut
import Derived.ShutString
import Derived.Carry
import Derived.SizedLaws
import Derived.SliceStrings
import Derived.Stop.LaidErr
import Derived.Deep.DeepHandedRow
import Derived.Deep.DeepWitnessRowRef
import Derived.Deep.DeepLaidRun
import Derived.Lib.LaidTab
import Derived.Lib.SmallJoins
import Derived.Deep.SlicePairs
import Derived.Test.YtjmahmeionakaaaGreatDoorRows
import Derived.ChangeSlices
import Derived.Test.YtjmahmeionakaaaGreatDoorPk18
/- An inventory as its callers see it: what every call answers, and what it leaves alone. -/
namespace Go.Proofs.YtjmahmeionakaaaGreatDoor
open Go.RowKit Go.Shelf Go.Maps Go.MapKept
set_option linter.unusedSimpArgs false
set_option linter.unusedVariables false

/-! ### what the errors say -/
theorem sel_zero' {g : Stk} {is : List Lid} {c : ByteArray} {m : Int} (h : selP g is c m = 0) : 1 ≤ m ∧ is ≠ [] ∧ is.Nodup ∧ ∀ i ∈ is, ∃ q, g i = some q ∧ q.cl = false ∧ q.has c = true ∧ m ≤ q.left c := by
  unfold selP at h
  split at h
  · rename_i h0; exact absurd h h0
  rename_i h0
  have h0 : chkE g is m = 0 := by omega
  split at h
  · cases h
  rename_i h1
  split at h
  · cases h
  rename_i h2
  split at h
  · cases h
  rename_i h3
  obtain ⟨k1, k2, k3, k4⟩ := chk_zero h0
  refine ⟨k1, k2, k3, fun i hi => ?_⟩
  obtain ⟨q, hq⟩ := k4 i hi
  have t1 := any_no (by simpa using h1 : is.any (onL g fun q => q.cl) = false) i hi
  have t2 := any_no (by simpa using h2 : is.any (onL g fun q => !q.has c) = false) i hi
  have t3 := any_no (by simpa using h3 : is.any (onL g fun q => decide (q.left c < m)) = false) i hi
  unfold onL at t1 t2 t3
  rw [hq] at t1 t2 t3
  exact ⟨q, hq, t1, by simpa using t2, by simpa using t3⟩
theorem can_zero' {g : Stk} {is : List Lid} {c : ByteArray} {m : Int} (h : canP g is c m = 0) : 1 ≤ m ∧ is ≠ [] ∧ is.Nodup ∧ ∀ i ∈ is, ∃ q, g i = some q ∧ q.has c = true ∧ m ≤ q.sold c := by
  unfold canP at h
  split at h
  · rename_i h0; exact absurd h h0
  rename_i h0
  have h0 : chkE g is m = 0 := by omega
  split at h
  · cases h
  rename_i h2
  split at h
  · cases h
  rename_i h3
  obtain ⟨k1, k2, k3, k4⟩ := chk_zero h0
  refine ⟨k1, k2, k3, fun i hi => ?_⟩
  obtain ⟨q, hq⟩ := k4 i hi
  have t2 := any_no (by simpa using h2 : is.any (onL g fun q => !q.has c) = false) i hi
  have t3 := any_no (by simpa using h3 : is.any (onL g fun q => decide (q.sold c < m)) = false) i hi
  unfold onL at t2 t3
  rw [hq] at t2 t3
  exact ⟨q, hq, by simpa using t2, by simpa using t3⟩
theorem OkG.sel {K : Int} {cs : List Cf} {g : Stk} (h : OkG K cs g) (is : List Lid) (c : ByteArray) (m : Int) : OkG (K + max m 0) cs (selG g is c m) := by
  unfold selG
  have h' := h.mono (show K ≤ K + max m 0 by have := Int.le_max_right m 0; omega)
  split
  · rename_i h0
    obtain ⟨k1, _, k3, k4⟩ := sel_zero' h0
    refine OkG.addsG is g h' k3 (fun i hi => ?_)
    obtain ⟨q, hq, _, hc, _⟩ := k4 i hi
    exact ⟨q, hq, (h.leg i q hq).1, hc, by have := (h.leg i q hq).1.sold0 hc; omega⟩
  · exact h'
theorem OkG.can {K : Int} {cs : List Cf} {g : Stk} (h : OkG K cs g) (is : List Lid) (c : ByteArray) (m : Int) : OkG K cs (canG g is c m) := by
  unfold canG
  split
  · rename_i h0
    obtain ⟨k1, _, k3, k4⟩ := can_zero' h0
    have e : K + max (-m) 0 = K := by rw [Int.max_def]; split <;> omega
    have := OkG.addsG (c := c) (m := -m) is g (h.mono (show K ≤ K + max (-m) 0 by rw [e]; exact Int.le_refl _)) k3 (fun i hi => by
      obtain ⟨q, hq, hc, hs⟩ := k4 i hi
      exact ⟨q, hq, (h.leg i q hq).1, hc, by omega⟩)
    rw [e] at this
    exact this
  · exact h
theorem OkG.clo {K : Int} {cs : List Cf} {g : Stk} (h : OkG K cs g) (i : Lid) : OkG K cs (cloG g i) := by
  unfold cloG
  cases hq : g i with
  | none => exact h
  | some q =>
    have h1 := (h.leg i q hq).1
    exact h.upd ⟨h1.right, h1.small, h1.ok, h1.pos, h1.cls, h1.len, h1.each, h1.low, h1.tot⟩ (h.leg i q hq).2

/-! ### an inventory among other things -/
/-- an inventory whose blocks lie from N on, and not where F says -/
structure Ses (N : Nat) (R F : Nat → Prop) (B n : Nat) (cs : List Cf) (K : Int) (W : World) (g : Stk) (o : Own') : Prop where
  stk : StkAt W R o B n cs g
  ok : OkG K cs g
  low : ∀ k, o k ≠ .none → N ≤ k
  far : ∀ b, F b → b < W.heap.size ∧ o b = .none
  hN : N ≤ W.heap.size
def SesE (N : Nat) (R F : Nat → Prop) (B n : Nat) (cs : List Cf) (K : Int) (W : World) (g : Stk) : Prop := ∃ o, Ses N R F B n cs K W g o
/-- what a call changes: of what was there, only blocks from N on that are not F's -/
def Lv (N : Nat) (F : Nat → Prop) (w w' : World) : Prop := But w w' (fun k => N ≤ k ∧ ¬ F k)
theorem Lv.below {N : Nat} {F : Nat → Prop} {w w' : World} (h : Lv N F w w') (hN : N ≤ w.heap.size) : Below N w w' := But.below h hN (fun k hk hx => by omega)
theorem Lv.trans {N : Nat} {F : Nat → Prop} {w w1 w2 : World} (h : Lv N F w w1) (k : Lv N F w1 w2) : Lv N F w w2 := But.trans h k (fun _ _ h => h)
theorem Lv.of {N : Nat} {F : Nat → Prop} {w w' : World} (h : Below w.heap.size w w') : Lv N F w w' := But.of_below h
theorem Lv.refl (N : Nat) (F : Nat → Prop) (w : World) : Lv N F w w := But.refl _ _
theorem Lv.cell {N : Nat} {F : Nat → Prop} {w w' : World} (h : Lv N F w w') {a : Addr} {x : Value} (hc : w.cell? a = some x) (hF : F a.block ∨ a.block < N) : w'.cell? a = some x := but_cell h hc (fun hx => by
  rcases hF with hF | hF
  · exact hx.2 hF
  · omega)
theorem Lv.row {N : Nat} {F : Nat → Prop} {α : Type} {sz : Nat} {enc : α → List Value} {w w' : World} {A : Option Addr} {l : List α} (h : Lv N F w w') (hr : RowIn (fun k => F k ∨ k < N) sz enc w A l) : RowIn (fun k => F k ∨ k < N) sz enc w' A l := hr.but h (fun k hk hF => by
  rcases hF with hF | hF
  · exact hk.2 hF
  · omega)
theorem Ses.mut {N : Nat} {R F : Nat → Prop} {B n : Nat} {cs : List Cf} {K : Int} {W : World} {g : Stk} {o : Own'} (h : Ses N R F B n cs K W g o) {k : Nat} (hm : MutB o k) : N ≤ k ∧ ¬ F k := by
  have h1 := (mut_not hm).1
  exact ⟨h.low k h1, fun hF => h1 (h.far k hF).2⟩
theorem Ses.lv {N : Nat} {R F : Nat → Prop} {B n : Nat} {cs : List Cf} {K : Int} {W w' : World} {g : Stk} {o : Own'} (h : Ses N R F B n cs K W g o) (hb : But W w' (MutB o)) : Lv N F W w' := ⟨hb.os, hb.tape, hb.output, hb.size, fun k hk hn => hb.block k hk (fun hm => hn (h.mut hm))⟩
theorem Ses.next {N : Nat} {R F : Nat → Prop} {B n n' : Nat} {cs : List Cf} {K K' : Int} {W w' : World} {g g' : Stk} {o o' : Own'} (h : Ses N R F B n cs K W g o) (hs : StkAt w' R o' B n' cs g') (hk : OkG K' cs g') (he : Ext W o o') (hb : But W w' (MutB o)) : Ses N R F B n' cs K' w' g' o' :=
  ⟨hs, hk, fun k hk => by
    by_cases hkW : k < W.heap.size
    · rcases he k hkW with e | e
      · exact h.low k (by rw [← e]; exact hk)
      · exact absurd e hk
    · have := h.hN; omega, fun b hb' => ⟨Nat.lt_of_lt_of_le (h.far b hb').1 hb.size, by
    rcases he b (h.far b hb').1 with e | e
    · rw [e]; exact (h.far b hb').2
    · exact e⟩, Nat.le_trans h.hN hb.size⟩
/-- nothing but growth; and blocks that are new may be kept from it -/
theorem SesE.more {N : Nat} {R F : Nat → Prop} {B n : Nat} {cs : List Cf} {K : Int} {W W' : World} {g : Stk} (h : SesE N R F B n cs K W g) (hb : Below W.heap.size W W') : SesE N R (fun k => F k ∨ (W.heap.size ≤ k ∧ k < W'.heap.size)) B n cs K W' g := by
  obtain ⟨o, h⟩ := h
  refine ⟨o, h.stk.more hb, h.ok, h.low, fun b hF => ?_, Nat.le_trans h.hN hb.size⟩
  rcases hF with hF | ⟨h1, h2⟩
  · exact ⟨Nat.lt_of_lt_of_le (h.far b hF).1 hb.size, (h.far b hF).2⟩
  · refine ⟨h2, ?_⟩
    cases e : o b with
    | none => rfl
    | _ => exact absurd ((h.stk.ro b (by rw [e]; exact fun h => nomatch h)).2) (by omega)
theorem SesE.less {N : Nat} {R F F' : Nat → Prop} {B n : Nat} {cs : List Cf} {K : Int} {W : World} {g : Stk} (h : SesE N R F B n cs K W g) (hF : ∀ k, F' k → F k) : SesE N R F' B n cs K W g := by
  obtain ⟨o, h⟩ := h
  exact ⟨o, h.stk, h.ok, h.low, fun b hb => h.far b (hF b hb), h.hN⟩
theorem SesE.grow {N : Nat} {R F : Nat → Prop} {B n : Nat} {cs : List Cf} {K : Int} {W W' : World} {g : Stk} (h : SesE N R F B n cs K W g) (hb : Below W.heap.size W W') : SesE N R F B n cs K W' g := (h.more hb).less (fun _ h => .inl h)
theorem SesE.mono {N : Nat} {R F : Nat → Prop} {B n : Nat} {cs : List Cf} {K K' : Int} {W : World} {g : Stk} (h : SesE N R F B n cs K W g) (hK : K ≤ K') : SesE N R F B n cs K' W g := by
  obtain ⟨o, h⟩ := h
  exact ⟨o, { h with ok := h.ok.mono hK }⟩
section
variable {N : Nat} {R F : Nat → Prop} {B n : Nat} {cs : List Cf} {K : Int} {W : World} {g : Stk}
theorem ses_open (h : SesE N R F B n cs K W g) (hK : 0 ≤ K) {i : Lid} (hi : OkD i) {s : ByteArray} (hs : s.size ≤ maxLen) (hn : n ≤ 1000) : Calls Tryz.prog 35 #[.pointer (some ⟨B, 0, none⟩), aggD i, .string s] W fun e w' => e = .returned (.int .i64 (opnE cs g i s)) ∧ SesE N R F B (n + 1) cs K w' (opnG cs g i s) ∧ Lv N F W w' := by
  obtain ⟨o, h⟩ := h
  refine (lopen_any R o B n cs g K i s W h.stk h.ok hK hi hs hn).mono ?_
  rintro e w' ⟨rfl, ⟨o', h1, h2⟩, h3, h4⟩
  exact ⟨rfl, ⟨o', h.next h1 h4 h2 h3⟩, h.lv h3⟩
theorem ses_close (h : SesE N R F B n cs K W g) {i : Lid} (hi : OkD i) : Calls Tryz.prog 36 #[.pointer (some ⟨B, 0, none⟩), aggD i] W fun e w' => e = .returned (.int .i64 (cloE g i)) ∧ SesE N R F B n cs K w' (cloG g i) ∧ Lv N F W w' := by
  obtain ⟨o, h⟩ := h
  refine (lclose_any R o B n cs g i W h.stk hi).mono ?_
  rintro e w' ⟨rfl, h1, h3⟩
  exact ⟨rfl, ⟨o, h.next h1 (h.ok.clo i) (Ext.refl _ _) h3⟩, h.lv h3⟩
theorem ses_resize (h : SesE N R F B n cs K W g) (hK : K ≤ 1000000000000) {i : Lid} (hi : OkD i) {s : ByteArray} (hs : s.size ≤ maxLen) : Calls Tryz.prog 29 #[.pointer (some ⟨B, 0, none⟩), aggD i, .string s] W fun e w' => e = .returned (.int .i64 (rszE cs g i s)) ∧ SesE N R F B n cs K w' (rszG cs g i s) ∧ Lv N F W w' := by
  obtain ⟨o, h⟩ := h
  refine (lresize_any R o B n cs g K i s W h.stk h.ok hK hi hs).mono ?_
  rintro e w' ⟨rfl, ⟨o', h1, h2⟩, h3, h4⟩
  exact ⟨rfl, ⟨o', h.next h1 h4 h2 h3⟩, h.lv h3⟩
theorem ses_sell (h : SesE N R F B n cs K W g) (hK : 0 ≤ K ∧ K ≤ 1000000000000) {m : Int} (hm : -1000000 ≤ m ∧ m ≤ 1000000) {is : List Lid} (hl : is.length ≤ 1000) (hok : ∀ i ∈ is, OkD i) {A : Option Addr} {cc : Nat} (hr : RowIn (fun k => F k ∨ k < N) 4 encD W A is) (c : ByteArray) : Calls Tryz.prog 23 #[.pointer (some ⟨B, 0, none⟩), .slice A is.length cc, .string c, .int .i64 m] W fun e w' => e = .returned (.int .i64 (selP g is c m)) ∧ SesE N R F B n cs (K + max m 0) w' (selG g is c m) ∧ Lv N F W w' := by
  obtain ⟨o, h⟩ := h
  refine (lsell_any R o B n cs g K A cc is c m W h.stk h.ok hK hm hl hok (fun W' hW => ((h.lv hW).row hr).rowL cc)).mono ?_
  rintro e w' ⟨rfl, h1, h3⟩
  exact ⟨rfl, ⟨o, h.next h1 (h.ok.sel is c m) (Ext.refl _ _) h3⟩, h.lv h3⟩
theorem ses_cancel (h : SesE N R F B n cs K W g) (hK : 0 ≤ K ∧ K ≤ 1000000000000) {m : Int} (hm : -1000000 ≤ m ∧ m ≤ 1000000) {is : List Lid} (hl : is.length ≤ 1000) (hok : ∀ i ∈ is, OkD i) {A : Option Addr} {cc : Nat} (hr : RowIn (fun k => F k ∨ k < N) 4 encD W A is) (c : ByteArray) : Calls Tryz.prog 37 #[.pointer (some ⟨B, 0, none⟩), .slice A is.length cc, .string c, .int .i64 m] W fun e w' => e = .returned (.int .i64 (canP g is c m)) ∧ SesE N R F B n cs K w' (canG g is c m) ∧ Lv N F W w' := by
  obtain ⟨o, h⟩ := h
  refine (lcanc_any R o B n cs g K A cc is c m W h.stk h.ok hK hm hl hok (fun W' hW => ((h.lv hW).row hr).rowL cc)).mono ?_
  rintro e w' ⟨rfl, h1, h3⟩
  exact ⟨rfl, ⟨o, h.next h1 (h.ok.can is c m) (Ext.refl _ _) h3⟩, h.lv h3⟩
theorem ses_left (h : SesE N R F B n cs K W g) {i : Lid} (hi : OkD i) (c : ByteArray) : Calls Tryz.prog 21 #[.pointer (some ⟨B, 0, none⟩), aggD i, .string c] W fun e w' => e = .returned (.int .i64 (leftG g i c)) ∧ Below W.heap.size W w' := by
  obtain ⟨o, h⟩ := h
  exact lleft_any R o B n cs g K i c W h.stk h.ok hi
theorem ses_free (h : SesE N R F B n cs K W g) (hK : K ≤ 1000000000000) {i : Lid} (hi : OkD i) (c : ByteArray) : Calls Tryz.prog 38 #[.pointer (some ⟨B, 0, none⟩), aggD i, .string c] W fun e w' => e = .returned (.int .i64 (freeG g i c)) ∧ Below W.heap.size W w' := by
  obtain ⟨o, h⟩ := h
  exact free_any R o B n cs g K i c W h.stk h.ok hK hi
theorem ses_excess (h : SesE N R F B n cs K W g) {i : Lid} (hi : OkD i) : Calls Tryz.prog 17 #[.pointer (some ⟨B, 0, none⟩), aggD i] W fun e w' => e = .returned (.int .i64 (excG g i)) ∧ Below W.heap.size W w' := by
  obtain ⟨o, h⟩ := h
  exact lexcess_any R o B n cs g K i W h.stk h.ok hi
theorem ses_equip (h : SesE N R F B n cs K W g) {i : Lid} (hi : OkD i) : Calls Tryz.prog 28 #[.pointer (some ⟨B, 0, none⟩), aggD i] W fun e w' => e = .returned (eqpG g i) ∧ Below W.heap.size W w' := by
  obtain ⟨o, h⟩ := h
  exact equip_any R o B n cs g K i W h.stk h.ok hi
theorem ses_counts (h : SesE N R F B n cs K W g) {i : Lid} (hi : OkD i) : Calls Tryz.prog 26 #[.pointer (some ⟨B, 0, none⟩), aggD i] W fun e w' => ∃ v, e = .returned v ∧ CntL w' v (cntG g i) ∧ Below W.heap.size W w' := by
  obtain ⟨o, h⟩ := h
  exact counts_any R o B n cs g K i W h.stk h.ok hi
theorem ses_legs (h : SesE N R F B n cs K W g) (hn : n ≤ 1000) : Calls Tryz.prog 39 #[.pointer (some ⟨B, 0, none⟩)] W fun e w' => ∃ v zs, e = .returned v ∧ LidL w' v zs ∧ zs.length ≤ 1000 ∧ LegsR g zs ∧ Below W.heap.size W w' := by
  obtain ⟨o, h⟩ := h
  exact legs_any R o B n cs g W h.stk hn
end
theorem ses_new {N : Nat} {R : Nat → Prop} {o : Own'} {B : Nat} {cs : List Cf} {W : World} (h : StkAt W R o B 0 cs (fun _ => none)) (hlow : ∀ k, o k ≠ .none → N ≤ k) (hN : N ≤ W.heap.size) : SesE N R (fun _ => False) B 0 cs 0 W (fun _ => none) :=
  ⟨o, h, ⟨fun i q hq => by cases hq⟩, hlow, fun b hb => hb.elim, hN⟩
end Go.Proofs.YtjmahmeionakaaaGreatDoor

/- What all the rows of this seat ask besides the walks: a world for the witness; arguments opened (configurations with their room, identifiers of legs, texts). -/
namespace Go.Proofs.YtjmahmeionakaaaGreatDoor
open Go.ChangeShapes Go.WideShapes Go.ChangeAt Go.RowKit
set_option linter.unusedSimpArgs false
set_option linter.unusedVariables false

theorem own : ownKnob Tryz.prog.godebug = none := by kernel_rfl
theorem laidOut : laidOutB Tryz.prog = true := by kernel_rfl
/-- the listed variables are not asked for -/
def Env (_ : World) : Prop := True
theorem env_of {W : World} (h : laidMetH Tryz.prog Rows.stockExactRow.laid W) : Env W := trivial

/-! ### A world for the witness -/
noncomputable def low : Nat := (World.holding Tryz.prog default ⟨#[], #[], []⟩).heap.size
def putCells (cs : Array Value) : Obj → Obj
  | .cells _ t frozen => .cells cs t frozen
  | o => o
def litsOf (k : IntKind) : DataW Unit → List Value
  | .agg ps => ps.map fun | .lit (.int _ z) => .int k z | _ => .int k 0
  | _ => []
noncomputable def laidWorld (os : Os) : World :=
  let w0 := World.holding Tryz.prog os ⟨#[], #[], []⟩
  let h3 := w0.heap.modify 0 (putCells (litsOf .u64 Rows.laid_internal_strconv_uint64pow10).toArray)
  let h4 := h3.modify 1 (putCells (litsOf .u8 Rows.laid_math_bits_deBruijn32tab).toArray)
  let h5 := h4.modify 2 (putCells (litsOf .u8 Rows.laid_math_bits_deBruijn64tab).toArray)
  { w0 with heap := h5 }
theorem laidWorld_met (os : Os) (args : Array Value) : laidMet Tryz.prog Rows.stockExactRow.laid ((laidWorld os).forCall (fun _ _ => 0) ⟨#[], args, []⟩).memory :=
  laidMet_of_run3 8 (by kernel_rfl) (by kernel_rfl) (by kernel_rfl)

/-! ### Places among the arguments -/
theorem int_bounds {a : Int} (h : (Lit.int .i64 a).wf = true) : -9223372036854775808 ≤ a ∧ a ≤ 9223372036854775807 := by
  have e1 : IntKind.i64.min = -9223372036854775808 := rfl
  have e2 : IntKind.i64.max = 9223372036854775807 := rfl
  simp only [Lit.wf, e1, e2, Bool.and_eq_true, decide_eq_true_eq] at h
  omega
theorem cells_string : Tryz.prog.cellsOf 9 = 1 := by kernel_rfl
theorem cells_int : Tryz.prog.cellsOf 3 = 1 := by kernel_rfl
theorem len2 {α : Type} : ∀ {l : List α}, l.length = 2 → ∃ a b, l = [a, b]
  | [a, b], _ => ⟨a, b, rfl⟩
theorem len4 {α : Type} : ∀ {l : List α}, l.length = 4 → ∃ a b c d, l = [a, b, c, d]
  | [a, b, c, d], _ => ⟨a, b, c, d, rfl⟩
theorem list_at {α : Type} (f : Nat → α) (n i : Nat) (a : α) (h : ((List.range n).map f)[i]? = some a) : i < n ∧ a = f i := by
  have hi : i < n := by have := (List.getElem?_eq_some_iff.1 h).1; simpa using this
  rw [List.getElem?_map, List.getElem?_range hi] at h
  exact ⟨hi, (Option.some.inj h).symm⟩
set_option maxRecDepth 100000 in
theorem read_rowC {α : Type} [Inhabited α] {sz : Nat} {enc' : α → List Value} {Ok : α → Prop} {H : Type} {enc : TypeId × Value → H} {W : World} {n : Nat} {v : Value} {y : DataW H × List MemPlace} {ts te : TypeId} (hu : Tryz.prog.underlying ts = some (.slice te)) (hce : Tryz.prog.cellsOf te = sz) (h1 : 0 < sz) (he : ∀ x, (enc' x).length = sz)
    (hread : ∀ m cs yy, cs.length = sz → DataW.trod enc Tryz.prog W 0 (fun _ => true) true m te cs = some yy → ∃ x : α, cs = enc' x ∧ Ok x) (h : DataW.trod enc Tryz.prog W 0 (fun _ => true) true n ts [v] = some y) :
    ∃ (A : Option Addr) (c : Nat) (l : List α), v = .slice A l.length c ∧ RowL sz enc' W (.slice A l.length c) l ∧ (∀ f ∈ l, Ok f) ∧ l.length < 9223372036854775808 ∧ l.length ≤ c := by
  have em : maxLen = 9223372036854775807 := by decide
  rcases Deep.open_slice hu h with ⟨hcs, _⟩ | ⟨a, len, cap, m', n, D, Pl, hcs, _, hl, hm, hmm, _, hx⟩
  · simp at hcs
    exact ⟨none, 0, [], hcs, ⟨none, 0, rfl, .inl rfl⟩, fun a ha => by simp at ha, by simp, Nat.le_refl 0⟩
  · simp at hcs hmm
    subst hcs hmm
    rcases Nat.eq_zero_or_pos len with h0 | h0
    · exact ⟨some a, m', [], by rw [h0]; rfl, ⟨some a, m', rfl, .inl rfl⟩, fun a ha => by simp at ha, by simp, Nat.zero_le _⟩
    obtain ⟨b, off, spot⟩ := a
    obtain ⟨cs0, hc0, _⟩ := hx 0 (by omega)
    have hspot : spot = none := by
      rw [hce] at hc0
      obtain ⟨_, hl0, hcell⟩ := World.cells?_some hc0
      have h1 := hcell 0 (by omega)
      rw [List.getElem?_eq_getElem (by omega)] at h1
      simpa [Addr.add] using World.cell?_spot h1
    subst hspot
    have hadd : ∀ i, (⟨b, off, none⟩ : Addr).add i = ⟨b, off + i, none⟩ := fun i => by unfold Addr.add; split <;> simp_all
    have each : ∀ i, i < len → ∃ x : α, (∀ j u, (enc' x)[j]? = some u → W.cell? ⟨b, off + i * sz + j, none⟩ = some u) ∧ Ok x := fun i hi => by
      obtain ⟨cs', h1, h2⟩ := hx i (by omega)
      rw [hce, hadd] at h1
      obtain ⟨_, hlen, hcell⟩ := World.cells?_some h1
      obtain ⟨x, e, hok⟩ := hread _ _ _ hlen h2
      rw [e] at hcell
      refine ⟨x, fun j u hu => ?_, hok⟩
      have hj : j < sz := by have := (List.getElem?_eq_some_iff.1 hu).1; rw [he] at this; exact this
      have hadd2 : ∀ i, (⟨b, off + i * sz, none⟩ : Addr).add j = ⟨b, off + i * sz + j, none⟩ := fun i => by unfold Addr.add; split <;> simp_all
      have hc2 := hcell j hj
      rw [hadd2] at hc2
      rw [hc2]
      exact hu
    obtain ⟨f, hf⟩ := Deep.choose_lt each
    have el : ((List.range len).map f).length = len := by simp
    have hlt : b < W.heap.size := by
      have h3 := (hf 0 h0).1 0 ((enc' (f 0))[0]'(by rw [he]; exact h1)) (List.getElem?_eq_getElem _)
      exact World.block_lt_of_cell? _ _ h3
    refine ⟨some ⟨b, off, none⟩, m', (List.range len).map f, by rw [el], ⟨some ⟨b, off, none⟩, m', rfl, .inr ⟨b, off, rfl, hlt, fun i x j u hi hu => ?_⟩⟩, fun a ha => ?_, by rw [el]; omega, by rw [el]; omega⟩
    · obtain ⟨h1, rfl⟩ := list_at f len i x hi
      exact (hf i h1).1 j u hu
    · obtain ⟨i, hi, rfl⟩ := List.mem_map.1 ha
      exact (hf i (List.mem_range.1 hi)).2

theorem read_rowK {α : Type} [Inhabited α] {sz : Nat} {enc' : α → List Value} {Ok : α → Prop} {H : Type} {enc : TypeId × Value → H} {W : World} {n : Nat} {v : Value} {y : DataW H × List MemPlace} {ts te : TypeId} (hu : Tryz.prog.underlying ts = some (.slice te)) (hce : Tryz.prog.cellsOf te = sz) (h1 : 0 < sz) (he : ∀ x, (enc' x).length = sz)
    (hread : ∀ m cs yy, cs.length = sz → DataW.trod enc Tryz.prog W 0 (fun _ => true) true m te cs = some yy → ∃ x : α, cs = enc' x ∧ Ok x) (h : DataW.trod enc Tryz.prog W 0 (fun _ => true) true n ts [v] = some y) :
    ∃ (A : Option Addr) (c : Nat) (l : List α), v = .slice A l.length c ∧ RowL sz enc' W (.slice A l.length c) l ∧ (∀ f ∈ l, Ok f) ∧ l.length < 9223372036854775808 := by
  obtain ⟨A, c, l, h2, h3, h4, h5, _⟩ := read_rowC hu hce h1 he hread h
  exact ⟨A, c, l, h2, h3, h4, h5⟩

/-! ### configurations -/
theorem cells_cl : Tryz.prog.cellsOf 111 = 2 := by kernel_rfl
theorem cells_cb : Tryz.prog.cellsOf 96 = 4 := by kernel_rfl
theorem cells_cf : Tryz.prog.cellsOf 81 = 2 := by kernel_rfl
theorem cells_cls : Tryz.prog.cellsOf 94 = 1 := by kernel_rfl
theorem cells_cbs : Tryz.prog.cellsOf 79 = 1 := by kernel_rfl
instance : Inhabited Cl := ⟨⟨noB, 0⟩⟩
instance : Inhabited Cb := ⟨⟨noB, 0, 0, none, 0, []⟩⟩
instance : Inhabited Cf := ⟨cfZ⟩
set_option maxRecDepth 100000 in
theorem read_cl {H : Type} {enc : TypeId × Value → H} {W : World} {n : Nat} {c0 c1 : Value} {y : DataW H × List MemPlace} (h : DataW.trod enc Tryz.prog W 0 (fun _ => true) true n 111 [c0, c1] = some y) :
    ∃ x : Cl, [c0, c1] = encCl x ∧ OkCl x := by
  obtain ⟨xs, k, _, _, _, hxl, hf⟩ := DataW.trod_struct Tryz.underlying111 h
  obtain ⟨y0, y1, rfl⟩ := len2 hxl
  all_goals
    have g0 := hf 0 _ rfl
    have g1 := hf 1 _ rfl
    simp [cells_string, cells_int] at g0 g1
    obtain ⟨s0, e0, _, z0⟩ := DataW.trod_string Tryz.underlying9 g0
    obtain ⟨x1, e1, _, w1⟩ := DataW.trod_int Tryz.underlying3 g1
    simp at e0 e1
    subst e0 e1
    have hb := int_bounds w1
    exact ⟨⟨s0, x1⟩, rfl, ⟨z0, hb.1, hb.2⟩⟩
theorem open_cls {H : Type} {enc : TypeId × Value → H} {W : World} {n : Nat} {v : Value} {y : DataW H × List MemPlace} (h : DataW.trod enc Tryz.prog W 0 (fun _ => true) true n 94 [v] = some y) :
    ∃ (A : Option Addr) (c : Nat) (l : List Cl), v = .slice A l.length c ∧ ClL W (.slice A l.length c) l ∧ (∀ x ∈ l, OkCl x) ∧ l.length < 9223372036854775808 :=
  read_rowK (enc' := encCl) (Ok := OkCl) Tryz.underlying94 cells_cl (by omega) (fun _ => rfl) (fun m cs yy hl h => by
    obtain ⟨c0, c1, rfl⟩ := len2 hl
    exact read_cl h) h
/-- what is known of a cabin that was read -/
def OkRd (W : World) (b : Cb) : Prop := b.name.size ≤ maxLen ∧ CbAt W b ∧ ∀ x ∈ b.l, OkCl x
set_option maxRecDepth 100000 in
theorem read_cb {H : Type} {enc : TypeId × Value → H} {W : World} {n : Nat} {c0 c1 c2 c3 : Value} {y : DataW H × List MemPlace} (h : DataW.trod enc Tryz.prog W 0 (fun _ => true) true n 96 [c0, c1, c2, c3] = some y) :
    ∃ x : Cb, [c0, c1, c2, c3] = encCb x ∧ OkRd W x := by
  obtain ⟨xs, k, _, _, _, hxl, hf⟩ := DataW.trod_struct Tryz.underlying96 h
  obtain ⟨y0, y1, y2, y3, rfl⟩ := len4 hxl
  all_goals
    have g0 := hf 0 _ rfl
    have g1 := hf 1 _ rfl
    have g2 := hf 2 _ rfl
    have g3 := hf 3 _ rfl
    simp [cells_string, cells_int, cells_cls] at g0 g1 g2 g3
    obtain ⟨s0, e0, _, z0⟩ := DataW.trod_string Tryz.underlying9 g0
    obtain ⟨x1, e1, _, w1⟩ := DataW.trod_int Tryz.underlying3 g1
    obtain ⟨x2, e2, _, w2⟩ := DataW.trod_int Tryz.underlying3 g2
    obtain ⟨A, c, l, e3, hL, hok, hlen⟩ := open_cls g3
    simp at e0 e1 e2
    subst e0 e1 e2 e3
    exact ⟨⟨s0, x1, x2, A, c, l⟩, rfl, ⟨z0, hL, hok⟩⟩
theorem open_cabins {H : Type} {enc : TypeId × Value → H} {W : World} {n : Nat} {v : Value} {y : DataW H × List MemPlace} (h : DataW.trod enc Tryz.prog W 0 (fun _ => true) true n 79 [v] = some y) :
    ∃ (A : Option Addr) (c : Nat) (l : List Cb), v = .slice A l.length c ∧ RowL 4 encCb W (.slice A l.length c) l ∧ (∀ x ∈ l, OkRd W x) ∧ l.length < 9223372036854775808 :=
  read_rowK (enc' := encCb) (Ok := OkRd W) Tryz.underlying79 cells_cb (by omega) (fun _ => rfl) (fun m cs yy hl h => by
    obtain ⟨c0, c1, c2, c3, rfl⟩ := len4 hl
    exact read_cb h) h
def OkRf (W : World) (f : Cf) : Prop := CfAt W f ∧ SzCf f
set_option maxRecDepth 100000 in
theorem read_cf {H : Type} {enc : TypeId × Value → H} {W : World} {n : Nat} {c0 c1 : Value} {y : DataW H × List MemPlace} (h : DataW.trod enc Tryz.prog W 0 (fun _ => true) true n 81 [c0, c1] = some y) :
    ∃ x : Cf, [c0, c1] = encCf x ∧ OkRf W x := by
  obtain ⟨xs, k, _, _, _, hxl, hf⟩ := DataW.trod_struct Tryz.underlying81 h
  obtain ⟨y0, y1, rfl⟩ := len2 hxl
  all_goals
    have g0 := hf 0 _ rfl
    have g1 := hf 1 _ rfl
    simp [cells_string, cells_cbs] at g0 g1
    obtain ⟨s0, e0, _, z0⟩ := DataW.trod_string Tryz.underlying9 g0
    obtain ⟨A, c, l, e1, hL, hok, hlen⟩ := open_cabins g1
    simp at e0
    subst e0 e1
    exact ⟨⟨s0, A, c, l⟩, rfl, ⟨hL, fun b hb => (hok b hb).2.1⟩, ⟨z0, fun b hb => (hok b hb).1, fun b hb => (hok b hb).2.2⟩⟩
set_option maxRecDepth 100000 in
/-- a list of configurations by value, opened -/
theorem open_configs {H : Type} {enc : TypeId × Value → H} {W : World} {b0 : Nat} {v : Value} {d : DataW H} {p : List MemPlace} (hv : Value.okWide Tryz.prog W .any b0 22 v) (h : DataW.Trod enc Tryz.prog W 0 (fun _ => true) true 22 v d p) :
    ∃ (A : Option Addr) (c : Nat) (l : List Cf), v = .slice A l.length c ∧ CfL W (.slice A l.length c) l ∧ (∀ x ∈ l, SzCf x) ∧ l.length < 9223372036854775808 ∧ l.length ≤ c := by
  obtain ⟨a, len, cap, rfl⟩ := okWide_slice Tryz.underlying22 hv
  obtain ⟨fuel, hf⟩ := h
  obtain ⟨A, c, l, e, h1, h2, h3⟩ := read_rowC (enc' := encCf) (Ok := OkRf W) Tryz.underlying22 cells_cf (by omega) (fun _ => rfl) (fun m cs yy hl h => by
    obtain ⟨c0, c1, rfl⟩ := len2 hl
    exact read_cf h) hf
  exact ⟨A, c, l, e, ⟨h1, fun f hf => (h2 f hf).1⟩, fun f hf => (h2 f hf).2, h3⟩
end Go.Proofs.YtjmahmeionakaaaGreatDoor

/- The chapter's examples. -/
namespace Go.Proofs.YtjmahmeionakaaaGreatDoor
open Go.RowKit Go.Shelf Go.Maps Go.MapKept
set_option linter.unusedSimpArgs false
set_option linter.unusedVariables false

abbrev smpC (A1 A2 A3 A4 : Option Addr) (c1 c2 c3 c4 : Nat) : List Cf := [smpA A1 A2 c1 c2, smpB A3 A4 c3 c4]
theorem smp_shape {cs : List Cf} {n : Nat} (h : SamL cs (smpL n)) : ∃ A1 A2 A3 A4 c1 c2 c3 c4, cs = smpC A1 A2 A3 A4 c1 c2 c3 c4 := by
  have one : ∀ {f : Cf} {A : Option Addr} {c : Nat} {b : Cb} {e : ByteArray}, SamC f ⟨e, A, c, [b]⟩ → ∃ A' c' B d, f = ⟨e, A', c', [{ b with A := B, c := d }]⟩ := by
    intro f A c b e hf
    obtain ⟨fe, fA, fc, fl⟩ := f
    obtain ⟨h1, h2⟩ := hf
    dsimp only at h1 h2
    subst h1
    cases fl with
    | nil => cases h2
    | cons x r =>
      simp only [List.map_cons, List.map_nil, List.cons.injEq, List.map_eq_nil_iff] at h2
      obtain ⟨h3, rfl⟩ := h2
      obtain ⟨B, d, rfl⟩ := pcb_eq h3
      exact ⟨fA, fc, B, d, rfl⟩
  match cs, h with
  | [], h => exact absurd h.len (by simp)
  | [f], h => exact absurd h.len (by simp)
  | f :: f' :: f'' :: r, h => exact absurd h.len (by simp)
  | [f, f'], h =>
    obtain ⟨A1, c1, A2, c2, rfl⟩ := one (h.each 0 f _ rfl rfl)
    obtain ⟨A3, c3, A4, c4, rfl⟩ := one (h.each 1 f' _ rfl rfl)
    exact ⟨A1, A2, A3, A4, c1, c2, c3, c4, rfl⟩
theorem smp_con (n : Nat) : conF (smpL n) 2 = [] := by kernel_rfl
abbrev S0 : Stk := fun _ => none
section
variable (A1 A2 A3 A4 : Option Addr) (c1 c2 c3 c4 : Nat)
abbrev G1 : Stk := opnG (smpC A1 A2 A3 A4 c1 c2 c3 c4) S0 id0 ⟨#[51, 50, 48]⟩
abbrev G2 : Stk := opnG (smpC A1 A2 A3 A4 c1 c2 c3 c4) (G1 A1 A2 A3 A4 c1 c2 c3 c4) id0 ⟨#[51, 50, 48]⟩
abbrev G3 : Stk := selG (G2 A1 A2 A3 A4 c1 c2 c3 c4) [id0] ⟨#[77]⟩ 8
abbrev G4 : Stk := selG (G3 A1 A2 A3 A4 c1 c2 c3 c4) [id0] ⟨#[77]⟩ 1
abbrev G5 : Stk := selG (G4 A1 A2 A3 A4 c1 c2 c3 c4) [id0, id1] ⟨#[89]⟩ 1
abbrev G6 : Stk := rszG (smpC A1 A2 A3 A4 c1 c2 c3 c4) (G5 A1 A2 A3 A4 c1 c2 c3 c4) id0 ⟨#[51, 49, 57]⟩
abbrev G7 : Stk := cloG (G6 A1 A2 A3 A4 c1 c2 c3 c4) id0
abbrev G8 : Stk := cloG (G7 A1 A2 A3 A4 c1 c2 c3 c4) id0
theorem aw1 : opnE (smpC A1 A2 A3 A4 c1 c2 c3 c4) S0 id0 ⟨#[51, 50, 48]⟩ = 0 := by kernel_rfl
theorem aw2 : opnE (smpC A1 A2 A3 A4 c1 c2 c3 c4) (G1 A1 A2 A3 A4 c1 c2 c3 c4) id0 ⟨#[51, 50, 48]⟩ = 6 := by kernel_rfl
theorem aw3 : selP (G2 A1 A2 A3 A4 c1 c2 c3 c4) [id0] ⟨#[77]⟩ 8 = 0 := by kernel_rfl
theorem aw4 : selP (G3 A1 A2 A3 A4 c1 c2 c3 c4) [id0] ⟨#[77]⟩ 1 = 17 := by kernel_rfl
theorem aw5 : freeG (G4 A1 A2 A3 A4 c1 c2 c3 c4) id0 ⟨#[89]⟩ = 3 := by kernel_rfl
theorem aw6 : selP (G4 A1 A2 A3 A4 c1 c2 c3 c4) [id0, id1] ⟨#[89]⟩ 1 = 7 := by kernel_rfl
theorem aw7 : leftG (G5 A1 A2 A3 A4 c1 c2 c3 c4) id0 ⟨#[89]⟩ = 3 := by kernel_rfl
theorem aw8 : rszE (smpC A1 A2 A3 A4 c1 c2 c3 c4) (G5 A1 A2 A3 A4 c1 c2 c3 c4) id0 ⟨#[51, 49, 57]⟩ = 0 := by
  have h : (G5 A1 A2 A3 A4 c1 c2 c3 c4 id0).isSome = true ∧ (findQ (smpC A1 A2 A3 A4 c1 c2 c3 c4) ⟨#[51, 49, 57]⟩).isSome = true := ⟨by kernel_rfl, by kernel_rfl⟩
  unfold rszE
  rw [if_pos h]
theorem aw9 : excG (G6 A1 A2 A3 A4 c1 c2 c3 c4) id0 = 2 := by kernel_rfl
theorem aw10 : cntG (G6 A1 A2 A3 A4 c1 c2 c3 c4) id0 = [(⟨#[89]⟩, 0), (⟨#[77]⟩, 8)] := by kernel_rfl
theorem aw11 : cloE (G6 A1 A2 A3 A4 c1 c2 c3 c4) id0 = 0 := by kernel_rfl
theorem aw12 : cloE (G7 A1 A2 A3 A4 c1 c2 c3 c4) id0 = 10 := by kernel_rfl
end
end Go.Proofs.YtjmahmeionakaaaGreatDoor

/- The chapter's examples. -/
namespace Go.Proofs.YtjmahmeionakaaaGreatDoor
open Go.RowKit Go.Shelf Go.Maps Go.MapKept
set_option linter.unusedSimpArgs false
set_option linter.unusedVariables false

/-! ### no call but Open adds a leg -/
theorem upd_dom {g : Stk} {i : Lid} {q q' : Lg} (h : g i = some q) (j : Lid) : (updS g i q' j).isSome = (g j).isSome := by
  unfold updS
  by_cases e : j = i
  · subst e; rw [if_pos rfl, h]; rfl
  · rw [if_neg e]
theorem add1_dom (g : Stk) (c : ByteArray) (n : Int) (i j : Lid) : (addG1 g c n i j).isSome = (g j).isSome := by
  unfold addG1
  cases h : g i with
  | none => rfl
  | some q => exact upd_dom h j
theorem adds_dom : ∀ (is : List Lid) (g : Stk) (c : ByteArray) (n : Int) (j : Lid), (addG g is c n j).isSome = (g j).isSome
  | [], g, c, n, j => rfl
  | i :: is, g, c, n, j => by
    have := adds_dom is (addG1 g c n i) c n j
    rw [add1_dom] at this
    exact this
theorem sel_dom (g : Stk) (is : List Lid) (c : ByteArray) (n : Int) (j : Lid) : (selG g is c n j).isSome = (g j).isSome := by
  unfold selG
  split
  · exact adds_dom is g c n j
  · rfl
theorem rsz_dom (cs : List Cf) (g : Stk) (i : Lid) (s : ByteArray) (j : Lid) : (rszG cs g i s j).isSome = (g j).isSome := by
  unfold rszG
  cases h : g i with
  | none => rfl
  | some q => cases hf : findQ cs s with
    | none => rfl
    | some f => exact upd_dom h j
theorem clo_dom (g : Stk) (i j : Lid) : (cloG g i j).isSome = (g j).isSome := by
  unfold cloG
  cases h : g i with
  | none => rfl
  | some q => exact upd_dom h j
theorem opn_same {cs : List Cf} {g : Stk} {i : Lid} {s : ByteArray} (h : (g i).isSome = true) : opnG cs g i s = g := by
  unfold opnG
  rw [if_pos h]
theorem opn_dom {cs : List Cf} {g : Stk} {i : Lid} {s : ByteArray} (h : (findQ cs s).isSome = true) (j : Lid) : (opnG cs g i s j).isSome = ((g j).isSome || decide (j = i)) := by
  unfold opnG
  by_cases h0 : (g i).isSome = true
  · rw [if_pos h0]
    by_cases e : j = i
    · subst e; rw [h0]; simp
    · simp [e]
  · rw [if_neg h0]
    cases hf : findQ cs s with
    | none => rw [hf] at h; cases h
    | some f =>
      unfold updS
      by_cases e : j = i
      · simp [e]
      · simp [e]
theorem okd0 : OkD id0 := ⟨by decide, by decide, by decide, by decide, by decide, by decide⟩
theorem okd1 : OkD id1 := ⟨by decide, by decide, by decide, by decide, by decide, by decide⟩
/-- a row of legs in a block of its own -/
abbrev RwD (k : Nat) (w : World) (l : List Lid) : Prop := RowIn (fun b => b = k) 4 encD w (some ⟨k, 0, none⟩) l
theorem RowIn.imp {R R' : Nat → Prop} {α : Type} {sz : Nat} {enc : α → List Value} {w : World} {A : Option Addr} {l : List α} (h : RowIn R sz enc w A l) (hR : ∀ k, R k → R' k) : RowIn R' sz enc w A l := by
  rcases h with h | ⟨b, o, e, h0, h1⟩
  · exact .inl h
  · exact .inr ⟨b, o, e, hR b h0, h1⟩
theorem RowIn.more {R : Nat → Prop} {α : Type} {sz : Nat} {enc : α → List Value} {w w' : World} {A : Option Addr} {l : List α} (h : RowIn R sz enc w A l) (hb : Below w.heap.size w w') : RowIn R sz enc w' A l := by
  rcases h with h | ⟨b, o, e, h0, h1, h2⟩
  · exact .inl h
  · exact .inr ⟨b, o, e, h0, Nat.lt_of_lt_of_le h1 hb.size, fun i x j u hi hu => (bel_cell hb (h2 i x j u hi hu))⟩
theorem RowIn.one {α : Type} {sz : Nat} {enc : α → List Value} (w : World) (l : List α) (e : TypeId) (hlen : ∀ x, (enc x).length = sz) {cs : Array Value} (hcs : cs = (cellsR enc l).toArray) : RowIn (fun b => b = w.heap.size) sz enc (w.alloc (.cells cs e)) (some ⟨w.heap.size, 0, none⟩) l := by
  subst hcs
  refine .inr ⟨w.heap.size, 0, rfl, rfl, by simp, fun i x j u hi hu => ?_⟩
  rw [cells_new, List.getElem?_toArray, Nat.zero_add]
  exact cellsR_at hlen l i j x u hi hu
theorem rwa_one (w : World) : RwD w.heap.size (w.alloc (.cells #[.string ⟨#[66, 65]⟩, .int .i64 2, .int .i64 9, .string ⟨#[76, 72, 82]⟩] lidT)) [id0] := RowIn.one (sz := 4) (enc := encD) w [id0] lidT (fun _ => rfl) rfl
theorem rwb_one (w : World) : RwD w.heap.size (w.alloc (.cells #[.string ⟨#[66, 65]⟩, .int .i64 2, .int .i64 9, .string ⟨#[76, 72, 82]⟩, .string ⟨#[66, 65]⟩, .int .i64 2, .int .i64 9, .string ⟨#[67, 68, 71]⟩] lidT)) [id0, id1] := RowIn.one (sz := 4) (enc := encD) w [id0, id1] lidT (fun _ => rfl) rfl

/-! ### New at the sample -/
theorem smp_small (n : Nat) : SmallP (smpL n) := by
  refine ⟨by show 2 ≤ 8; decide, fun f hf => ?_⟩
  simp only [smpL, List.mem_cons, List.not_mem_nil, or_false] at hf
  rcases hf with rfl | rfl
  · refine ⟨by show 1 ≤ 8; decide, fun b hb => ?_⟩
    simp only [List.mem_cons, List.not_mem_nil, or_false] at hb
    subst hb; show 2 ≤ 30; decide
  · refine ⟨by show 1 ≤ 8; decide, fun b hb => ?_⟩
    simp only [List.mem_cons, List.not_mem_nil, or_false] at hb
    subst hb; show 2 ≤ 30; decide
theorem smp_ok (n : Nat) : ∀ f ∈ smpL n, OkCf f := by
  intro f hf
  simp only [smpL, List.mem_cons, List.not_mem_nil, or_false] at hf
  have hm : 3 ≤ maxLen := by unfold maxLen; omega
  have h1 : ∀ {x : Cl}, x.code.size ≤ 3 → -9223372036854775808 ≤ x.prot → x.prot ≤ 9223372036854775807 → OkCl x := fun {x} a b c => ⟨Nat.le_trans a hm, b, c⟩
  rcases hf with rfl | rfl
  · refine ⟨hm, by show 1 ≤ 8; decide, fun b hb => ?_⟩
    simp only [List.mem_cons, List.not_mem_nil, or_false] at hb
    subst hb
    refine ⟨Nat.le_trans (show 1 ≤ 3 by decide) hm, by show 2 ≤ 30; decide, fun x hx => ?_⟩
    simp only [List.mem_cons, List.not_mem_nil, or_false] at hx
    rcases hx with rfl | rfl <;> exact h1 (by decide) (by decide) (by decide)
  · refine ⟨hm, by show 1 ≤ 8; decide, fun b hb => ?_⟩
    simp only [List.mem_cons, List.not_mem_nil, or_false] at hb
    subst hb
    refine ⟨Nat.le_trans (show 1 ≤ 3 by decide) hm, by show 2 ≤ 30; decide, fun x hx => ?_⟩
    simp only [List.mem_cons, List.not_mem_nil, or_false] at hx
    rcases hx with rfl | rfl <;> exact h1 (by decide) (by decide) (by decide)
theorem new_smp {A : Option Addr} {n : Nat} {w : World} (h : CfL w (.slice A 2 2) (smpL n)) :
    Calls Tryz.prog 12 #[.slice A 2 2] w fun e w' => ∃ B A1 A2 A3 A4 c1 c2 c3 c4, ∃ R, e = .returned (.tuple #[.pointer (some ⟨B, 0, none⟩), .slice none 0 0]) ∧ SesE w.heap.size R (fun _ => False) B 0 (smpC A1 A2 A3 A4 c1 c2 c3 c4) 100 w' S0 ∧ Below w.heap.size w w' := by
  refine (new_any A 2 (smpL n) w h (smp_small n) (smp_ok n) (by show 2 ≤ 2; decide)).mono ?_
  rintro e w' ⟨⟨_, h2⟩, hb⟩
  obtain ⟨B, cs, R, o, rfl, hS, hsam, hlow⟩ := h2 (smp_con n)
  obtain ⟨A1, A2, A3, A4, c1, c2, c3, c4, rfl⟩ := smp_shape hsam
  exact ⟨B, A1, A2, A3, A4, c1, c2, c3, c4, R, rfl, (ses_new hS hlow hb.size).mono (by decide), hb⟩
end Go.Proofs.YtjmahmeionakaaaGreatDoor

/- The chapter's examples. -/
namespace Go.Proofs.YtjmahmeionakaaaGreatDoor
open Go.RowKit Go.Shelf Go.Maps Go.MapKept
set_option linter.unusedSimpArgs false
set_option linter.unusedVariables false

set_option maxRecDepth 100000 in
set_option maxHeartbeats 8000000 in
theorem awake15_any (w : World) : Calls Tryz.prog 11 #[] w fun e w' => e = .returned (.bool true) ∧ Below w.heap.size w w' := by
  have KM := Lib.hid smp_any
  have KN : Hid (∀ A n w, CfL w (.slice A 2 2) (smpL n) → Calls Tryz.prog 12 #[.slice A 2 2] w fun e w' => ∃ B A1 A2 A3 A4 c1 c2 c3 c4, ∃ R, e = .returned (.tuple #[.pointer (some ⟨B, 0, none⟩), .slice none 0 0]) ∧ SesE w.heap.size R (fun _ => False) B 0 (smpC A1 A2 A3 A4 c1 c2 c3 c4) 100 w' S0 ∧ Below w.heap.size w w') := Lib.hid (fun A n w h => new_smp h)
  have KI0 := Lib.hid id0_any
  have KI1 := Lib.hid id1_any
  go_enter Tryz.func11, Tryz.ntmps11
  go_upto_region 2 with (first
    | (go_at_call 40; refine (KM.out _).mono ?_; rintro e w1 ⟨rfl, hv1, hb1⟩)
    | (go_at_call 12; refine (KN.out _ _ _ hv1).mono ?_; rintro e w4 ⟨B, A1, A2, A3, A4, c1, c2, c3, c4, R, rfl, hS, hb4⟩))
  go_upto_region 4 with fail
  have hB := Below.refl w4.heap.size w4
  have hlow := Nat.le_trans hb1.size hb4.size
  go_upto_region 5 with (first
    | (go_at_call 18; with_reducible refine (KI0.out w4).mono ?_; rintro e w5 ⟨rfl, hb5⟩)
    | (go_at_call 18; with_reducible refine (KI0.out _).mono ?_; rintro e w6 ⟨rfl, hb6⟩; have hra := rwa_one w5)
    | (go_at_call 18; with_reducible refine (KI1.out _).mono ?_; rintro e w7 ⟨rfl, hb7⟩))
  have hal1 := bel_alloc w5 (.cells #[.string ⟨#[66, 65]⟩, .int .i64 2, .int .i64 9, .string ⟨#[76, 72, 82]⟩] lidT)
  have hal2 := bel_alloc w7 (.cells #[.string ⟨#[66, 65]⟩, .int .i64 2, .int .i64 9, .string ⟨#[76, 72, 82]⟩, .string ⟨#[66, 65]⟩, .int .i64 2, .int .i64 9, .string ⟨#[67, 68, 71]⟩] lidT)
  have hrb := rwb_one w7
  have hz1 : w5.heap.size + 1 = (w5.alloc (.cells #[.string ⟨#[66, 65]⟩, .int .i64 2, .int .i64 9, .string ⟨#[76, 72, 82]⟩] lidT)).heap.size := by simp only [World.size_alloc]
  have hz2 : w7.heap.size + 1 = (w7.alloc (.cells #[.string ⟨#[66, 65]⟩, .int .i64 2, .int .i64 9, .string ⟨#[76, 72, 82]⟩, .string ⟨#[66, 65]⟩, .int .i64 2, .int .i64 9, .string ⟨#[67, 68, 71]⟩] lidT)).heap.size := by simp only [World.size_alloc]
  generalize w5.alloc (.cells #[.string ⟨#[66, 65]⟩, .int .i64 2, .int .i64 9, .string ⟨#[76, 72, 82]⟩] lidT) = w5a at *
  generalize w7.alloc (.cells #[.string ⟨#[66, 65]⟩, .int .i64 2, .int .i64 9, .string ⟨#[76, 72, 82]⟩, .string ⟨#[66, 65]⟩, .int .i64 2, .int .i64 9, .string ⟨#[67, 68, 71]⟩] lidT) = w8 at *
  have hra8 := ((hra.more hb6).more hb7).more hal2
  have hc0 := hb5.trans (hal1.mono hb5.size)
  have hc1 := hc0.trans (hb6.mono hc0.size)
  have hc2 := hc1.trans (hb7.mono hc1.size)
  have hc3 := hc2.trans (hal2.mono hc2.size)
  have l1 := hb5.size
  have l2 := hb6.size
  have l3 := hb7.size
  have l4 := hal2.size
  have l5 := hc2.size
  obtain ⟨F, hF⟩ : ∃ F : Nat → Prop, F = (fun k => False ∨ (w4.heap.size ≤ k ∧ k < w8.heap.size)) := ⟨_, rfl⟩
  have HRA : Hid (RowIn (fun k => F k ∨ k < w1.heap.size) 4 encD w8 (some ⟨w5.heap.size, 0, none⟩) [id0]) := Lib.hid (hra8.imp (fun k hk => .inl (by rw [hF]; exact .inr ⟨by omega, by omega⟩)))
  have HRB : Hid (RowIn (fun k => F k ∨ k < w1.heap.size) 4 encD w8 (some ⟨w7.heap.size, 0, none⟩) [id0, id1]) := Lib.hid (hrb.imp (fun k hk => .inl (by rw [hF]; exact .inr ⟨by omega, by omega⟩)))
  have hS8 : SesE w1.heap.size R F B 0 (smpC A1 A2 A3 A4 c1 c2 c3 c4) 100 w8 S0 := by rw [hF]; exact hS.more hc3
  have hw8 := hb1.trans ((hb4.trans (hc3.mono hb4.size)).mono hb1.size)
  have hN8 : w1.heap.size ≤ w8.heap.size := Nat.le_trans hb4.size hc3.size
  clear hra8 hra hrb hal1 hal2 hc0 hc1 hc2 hc3 hS hB hlow
  clear hF
  have HW8 := Lib.hid hw8
  have HN8 := Lib.hid hN8
  have hl1 := hb1.size
  have HL1 := Lib.hid hl1
  clear hb5 hb6 hb7 hb4 hb1 hv1 l1 l2 l3 l4 l5 hz1 hz2 hw8 hN8 hl1
  generalize w1.heap.size = N at *
  have hS : SesE N R F B 0 (smpC A1 A2 A3 A4 c1 c2 c3 c4) 100 w8 S0 := hS8
  clear hS8
  have hLL := Lv.refl N F w8
  have KO1 : Hid (∀ W, SesE N R F B 0 (smpC A1 A2 A3 A4 c1 c2 c3 c4) 100 W S0 → Calls Tryz.prog 35 #[.pointer (some ⟨B, 0, none⟩), aggD id0, .string ⟨#[51, 50, 48]⟩] W fun e w' => e = .returned (.int .i64 0) ∧ SesE N R F B 1 (smpC A1 A2 A3 A4 c1 c2 c3 c4) 100 w' (G1 A1 A2 A3 A4 c1 c2 c3 c4) ∧ Lv N F W w') := Lib.hid (fun W h => by
    refine (ses_open h (by decide) okd0 (by unfold maxLen; decide) (by decide)).mono ?_
    rintro e w' ⟨rfl, h1, h2⟩
    exact ⟨by rw [aw1], h1, h2⟩)
  have KO2 : Hid (∀ W, SesE N R F B 1 (smpC A1 A2 A3 A4 c1 c2 c3 c4) 100 W (G1 A1 A2 A3 A4 c1 c2 c3 c4) → Calls Tryz.prog 35 #[.pointer (some ⟨B, 0, none⟩), aggD id0, .string ⟨#[51, 50, 48]⟩] W fun e w' => e = .returned (.int .i64 6) ∧ SesE N R F B 2 (smpC A1 A2 A3 A4 c1 c2 c3 c4) 100 w' (G2 A1 A2 A3 A4 c1 c2 c3 c4) ∧ Lv N F W w') := Lib.hid (fun W h => by
    refine (ses_open h (by decide) okd0 (by unfold maxLen; decide) (by decide)).mono ?_
    rintro e w' ⟨rfl, h1, h2⟩
    exact ⟨by rw [aw2], h1, h2⟩)
  have KS1 : Hid (∀ W A cc, SesE N R F B 2 (smpC A1 A2 A3 A4 c1 c2 c3 c4) 100 W (G2 A1 A2 A3 A4 c1 c2 c3 c4) → RowIn (fun k => F k ∨ k < N) 4 encD W A [id0] → Calls Tryz.prog 23 #[.pointer (some ⟨B, 0, none⟩), .slice A 1 cc, .string ⟨#[77]⟩, .int .i64 8] W fun e w' => e = .returned (.int .i64 0) ∧ SesE N R F B 2 (smpC A1 A2 A3 A4 c1 c2 c3 c4) 110 w' (G3 A1 A2 A3 A4 c1 c2 c3 c4) ∧ Lv N F W w') := Lib.hid (fun W A cc h hr => by
    refine (ses_sell h (by decide) (m := 8) (by decide) (is := [id0]) (by show 1 ≤ 1000; decide) (by simp only [List.mem_cons, List.not_mem_nil, or_false]; rintro i rfl; exact okd0) hr ⟨#[77]⟩).mono ?_
    rintro e w' ⟨rfl, h1, h2⟩
    exact ⟨by rw [aw3], h1.mono (by decide), h2⟩)
  have KS2 : Hid (∀ W A cc, SesE N R F B 2 (smpC A1 A2 A3 A4 c1 c2 c3 c4) 110 W (G3 A1 A2 A3 A4 c1 c2 c3 c4) → RowIn (fun k => F k ∨ k < N) 4 encD W A [id0] → Calls Tryz.prog 23 #[.pointer (some ⟨B, 0, none⟩), .slice A 1 cc, .string ⟨#[77]⟩, .int .i64 1] W fun e w' => e = .returned (.int .i64 17) ∧ SesE N R F B 2 (smpC A1 A2 A3 A4 c1 c2 c3 c4) 120 w' (G4 A1 A2 A3 A4 c1 c2 c3 c4) ∧ Lv N F W w') := Lib.hid (fun W A cc h hr => by
    refine (ses_sell h (by decide) (m := 1) (by decide) (is := [id0]) (by show 1 ≤ 1000; decide) (by simp only [List.mem_cons, List.not_mem_nil, or_false]; rintro i rfl; exact okd0) hr ⟨#[77]⟩).mono ?_
    rintro e w' ⟨rfl, h1, h2⟩
    exact ⟨by rw [aw4], h1.mono (by decide), h2⟩)
  have KF : Hid (∀ W, SesE N R F B 2 (smpC A1 A2 A3 A4 c1 c2 c3 c4) 120 W (G4 A1 A2 A3 A4 c1 c2 c3 c4) → Calls Tryz.prog 38 #[.pointer (some ⟨B, 0, none⟩), aggD id0, .string ⟨#[89]⟩] W fun e w' => e = .returned (.int .i64 3) ∧ Below W.heap.size W w') := Lib.hid (fun W h => by
    refine (ses_free h (by decide) okd0 ⟨#[89]⟩).mono ?_
    rintro e w' ⟨rfl, h1⟩
    exact ⟨by rw [aw5], h1⟩)
  have KS3 : Hid (∀ W A cc, SesE N R F B 2 (smpC A1 A2 A3 A4 c1 c2 c3 c4) 120 W (G4 A1 A2 A3 A4 c1 c2 c3 c4) → RowIn (fun k => F k ∨ k < N) 4 encD W A [id0, id1] → Calls Tryz.prog 23 #[.pointer (some ⟨B, 0, none⟩), .slice A 2 cc, .string ⟨#[89]⟩, .int .i64 1] W fun e w' => e = .returned (.int .i64 7) ∧ SesE N R F B 2 (smpC A1 A2 A3 A4 c1 c2 c3 c4) 130 w' (G5 A1 A2 A3 A4 c1 c2 c3 c4) ∧ Lv N F W w') := Lib.hid (fun W A cc h hr => by
    refine (ses_sell h (by decide) (m := 1) (by decide) (is := [id0, id1]) (by show 2 ≤ 1000; decide) (by simp only [List.mem_cons, List.not_mem_nil, or_false]; rintro i (rfl | rfl); exact okd0; exact okd1) hr ⟨#[89]⟩).mono ?_
    rintro e w' ⟨rfl, h1, h2⟩
    exact ⟨by rw [aw6], h1.mono (by decide), h2⟩)
  have KL : Hid (∀ W, SesE N R F B 2 (smpC A1 A2 A3 A4 c1 c2 c3 c4) 130 W (G5 A1 A2 A3 A4 c1 c2 c3 c4) → Calls Tryz.prog 21 #[.pointer (some ⟨B, 0, none⟩), aggD id0, .string ⟨#[89]⟩] W fun e w' => e = .returned (.int .i64 3) ∧ Below W.heap.size W w') := Lib.hid (fun W h => by
    refine (ses_left h okd0 ⟨#[89]⟩).mono ?_
    rintro e w' ⟨rfl, h1⟩
    exact ⟨by rw [aw7], h1⟩)
  have KR : Hid (∀ W, SesE N R F B 2 (smpC A1 A2 A3 A4 c1 c2 c3 c4) 130 W (G5 A1 A2 A3 A4 c1 c2 c3 c4) → Calls Tryz.prog 29 #[.pointer (some ⟨B, 0, none⟩), aggD id0, .string ⟨#[51, 49, 57]⟩] W fun e w' => e = .returned (.int .i64 0) ∧ SesE N R F B 2 (smpC A1 A2 A3 A4 c1 c2 c3 c4) 130 w' (G6 A1 A2 A3 A4 c1 c2 c3 c4) ∧ Lv N F W w') := Lib.hid (fun W h => by
    refine (ses_resize h (by decide) okd0 (by unfold maxLen; decide)).mono ?_
    rintro e w' ⟨rfl, h1, h2⟩
    exact ⟨by rw [aw8], h1, h2⟩)
  have KE : Hid (∀ W, SesE N R F B 2 (smpC A1 A2 A3 A4 c1 c2 c3 c4) 130 W (G6 A1 A2 A3 A4 c1 c2 c3 c4) → Calls Tryz.prog 17 #[.pointer (some ⟨B, 0, none⟩), aggD id0] W fun e w' => e = .returned (.int .i64 2) ∧ Below W.heap.size W w') := Lib.hid (fun W h => by
    refine (ses_excess h okd0).mono ?_
    rintro e w' ⟨rfl, h1⟩
    exact ⟨by rw [aw9], h1⟩)
  have KC : Hid (∀ W, SesE N R F B 2 (smpC A1 A2 A3 A4 c1 c2 c3 c4) 130 W (G6 A1 A2 A3 A4 c1 c2 c3 c4) → Calls Tryz.prog 26 #[.pointer (some ⟨B, 0, none⟩), aggD id0] W fun e w' => ∃ v, e = .returned v ∧ CntL w' v [(⟨#[89]⟩, 0), (⟨#[77]⟩, 8)] ∧ Below W.heap.size W w') := Lib.hid (fun W h => by
    have := ses_counts h okd0
    rw [aw10] at this
    exact this)
  have KX1 : Hid (∀ W, SesE N R F B 2 (smpC A1 A2 A3 A4 c1 c2 c3 c4) 130 W (G6 A1 A2 A3 A4 c1 c2 c3 c4) → Calls Tryz.prog 36 #[.pointer (some ⟨B, 0, none⟩), aggD id0] W fun e w' => e = .returned (.int .i64 0) ∧ SesE N R F B 2 (smpC A1 A2 A3 A4 c1 c2 c3 c4) 130 w' (G7 A1 A2 A3 A4 c1 c2 c3 c4) ∧ Lv N F W w') := Lib.hid (fun W h => by
    refine (ses_close h okd0).mono ?_
    rintro e w' ⟨rfl, h1, h2⟩
    exact ⟨by rw [aw11], h1, h2⟩)
  have KX2 : Hid (∀ W, SesE N R F B 2 (smpC A1 A2 A3 A4 c1 c2 c3 c4) 130 W (G7 A1 A2 A3 A4 c1 c2 c3 c4) → Calls Tryz.prog 36 #[.pointer (some ⟨B, 0, none⟩), aggD id0] W fun e w' => e = .returned (.int .i64 10) ∧ SesE N R F B 2 (smpC A1 A2 A3 A4 c1 c2 c3 c4) 130 w' (G8 A1 A2 A3 A4 c1 c2 c3 c4) ∧ Lv N F W w') := Lib.hid (fun W h => by
    refine (ses_close h okd0).mono ?_
    rintro e w' ⟨rfl, h1, h2⟩
    exact ⟨by rw [aw12], h1, h2⟩)
  have KG : Hid (∀ W, SesE N R F B 2 (smpC A1 A2 A3 A4 c1 c2 c3 c4) 130 W (G8 A1 A2 A3 A4 c1 c2 c3 c4) → Calls Tryz.prog 39 #[.pointer (some ⟨B, 0, none⟩)] W fun e w' => ∃ A c, e = .returned (.slice A 1 c) ∧ Below W.heap.size W w') := Lib.hid (fun W h => by
    refine (ses_legs h (by decide)).mono ?_
    rintro e w' ⟨v, zs, rfl, hv, _, hz, hb⟩
    have e1 : zs = [id0] := hz.eq ⟨List.pairwise_singleton _ _, fun c => by
      rw [List.mem_singleton]
      show _ ↔ (G8 A1 A2 A3 A4 c1 c2 c3 c4 c).isSome = true
      unfold G8 G7 G6 G5 G4 G3 G2
      rw [clo_dom, clo_dom, rsz_dom, sel_dom, sel_dom, sel_dom, opn_same (by kernel_rfl)]
      unfold G1
      rw [opn_dom (by kernel_rfl)]
      simp [S0]⟩
    subst e1
    obtain ⟨A, c, rfl, _⟩ := hv
    exact ⟨A, c, rfl, hb⟩)
  generalize G8 A1 A2 A3 A4 c1 c2 c3 c4 = g8 at *
  generalize G7 A1 A2 A3 A4 c1 c2 c3 c4 = g7 at *
  generalize G6 A1 A2 A3 A4 c1 c2 c3 c4 = g6 at *
  generalize G5 A1 A2 A3 A4 c1 c2 c3 c4 = g5 at *
  generalize G4 A1 A2 A3 A4 c1 c2 c3 c4 = g4 at *
  generalize G3 A1 A2 A3 A4 c1 c2 c3 c4 = g3 at *
  generalize G2 A1 A2 A3 A4 c1 c2 c3 c4 = g2 at *
  generalize G1 A1 A2 A3 A4 c1 c2 c3 c4 = g1 at *
  go_upto_region 6 with (first
    | (go_at_call 18; with_reducible refine (KI0.out _).mono ?_; rintro e w9 ⟨rfl, hl⟩; have hLL := Lv.trans hLL (Lv.of hl); have hS := SesE.grow hS hl; clear hl)
    | (go_at_call 35; with_reducible refine (KO1.out _ hS).mono ?_; rintro e w9 ⟨rfl, hS', hl⟩; have hLL := Lv.trans hLL hl; have hS := hS'; clear hS' hl)
    | (go_at_call 35; with_reducible refine (KO2.out _ hS).mono ?_; rintro e w9 ⟨rfl, hS', hl⟩; have hLL := Lv.trans hLL hl; have hS := hS'; clear hS' hl)
    | (go_at_call 23; with_reducible refine (KS1.out _ _ _ hS (Lv.row hLL HRA.out)).mono ?_; rintro e w9 ⟨rfl, hS', hl⟩; have hLL := Lv.trans hLL hl; have hS := hS'; clear hS' hl)
    | (go_at_call 23; with_reducible refine (KS2.out _ _ _ hS (Lv.row hLL HRA.out)).mono ?_; rintro e w9 ⟨rfl, hS', hl⟩; have hLL := Lv.trans hLL hl; have hS := hS'; clear hS' hl)
    | (go_at_call 38; with_reducible refine (KF.out _ hS).mono ?_; rintro e w9 ⟨rfl, hl⟩; have hLL := Lv.trans hLL (Lv.of hl); have hS := SesE.grow hS hl; clear hl))
  go_upto_region 7 with (first
    | (go_at_call 18; with_reducible refine (KI0.out _).mono ?_; rintro e w9 ⟨rfl, hl⟩; have hLL := Lv.trans hLL (Lv.of hl); have hS := SesE.grow hS hl; clear hl)
    | (go_at_call 23; with_reducible refine (KS3.out _ _ _ hS (Lv.row hLL HRB.out)).mono ?_; rintro e w9 ⟨rfl, hS', hl⟩; have hLL := Lv.trans hLL hl; have hS := hS'; clear hS' hl)
    | (go_at_call 21; with_reducible refine (KL.out _ hS).mono ?_; rintro e w9 ⟨rfl, hl⟩; have hLL := Lv.trans hLL (Lv.of hl); have hS := SesE.grow hS hl; clear hl)
    | (go_at_call 29; with_reducible refine (KR.out _ hS).mono ?_; rintro e w9 ⟨rfl, hS', hl⟩; have hLL := Lv.trans hLL hl; have hS := hS'; clear hS' hl)
    | (go_at_call 17; with_reducible refine (KE.out _ hS).mono ?_; rintro e w9 ⟨rfl, hl⟩; have hLL := Lv.trans hLL (Lv.of hl); have hS := SesE.grow hS hl; clear hl))
  go_upto_region 8 with (first
    | (go_at_call 18; with_reducible refine (KI0.out _).mono ?_; rintro e w9 ⟨rfl, hl⟩; have hLL := Lv.trans hLL (Lv.of hl); have hS := SesE.grow hS hl; clear hl)
    | (go_at_call 26; with_reducible refine (KC.out _ hS).mono ?_; rintro e w9 ⟨v, rfl, hv, hl⟩; have hLL := Lv.trans hLL (Lv.of hl); have hS := SesE.grow hS hl; clear hl))
  obtain ⟨A, c, rfl, hv⟩ := hv
  rcases hv with hv | ⟨b, o, rfl, hlt, hv⟩
  · cases hv
  have y0 := hv 1 _ 0 _ rfl rfl
  have y1 := hv 1 _ 1 _ rfl rfl
  clear hv
  go_wp2_with (first
    | (go_at_call 18; with_reducible refine (KI0.out _).mono ?_; rintro e w9 ⟨rfl, hl⟩; have hLL := Lv.trans hLL (Lv.of hl); have hS := SesE.grow hS hl; clear hl)
    | (go_at_call 36; with_reducible refine (KX1.out _ hS).mono ?_; rintro e w9 ⟨rfl, hS', hl⟩; have hLL := Lv.trans hLL hl; have hS := hS'; clear hS' hl)
    | (go_at_call 36; with_reducible refine (KX2.out _ hS).mono ?_; rintro e w9 ⟨rfl, hS', hl⟩; have hLL := Lv.trans hLL hl; have hS := hS'; clear hS' hl)
    | (go_at_call 39; with_reducible refine (KG.out _ hS).mono ?_; rintro e w9 ⟨A9, c9, rfl, hl⟩; have hLL := Lv.trans hLL (Lv.of hl); clear hl))
  go_ret
  exact ⟨rfl, HW8.out.trans ((hLL.below HN8.out).mono HL1.out)⟩
end Go.Proofs.YtjmahmeionakaaaGreatDoor

/- The law's identifiers and classes, at any number. -/
namespace Go.Proofs.YtjmahmeionakaaaGreatDoor
open Go.RowKit Go.Shelf Go.Maps Go.MapKept
set_option linter.unusedSimpArgs false
set_option linter.unusedVariables false

theorem u8_mod {k : Int} (hk : 0 ≤ k ∧ k ≤ 255) (m : Nat) (hm : 0 < m ∧ m ≤ 255) : ∃ j : Nat, j < m ∧ k.tmod (m : Int) = (j : Int) ∧ k % (m : Int) = (j : Int) := by
  have h1 := Int.emod_nonneg k (show (m : Int) ≠ 0 by omega)
  have h2 := Int.emod_lt_of_pos k (show (0 : Int) < (m : Int) by omega)
  exact ⟨(k % (m : Int)).toNat, by omega, by rw [Int.tmod_eq_emod_of_nonneg hk.1]; omega, by omega⟩
/-- one of six legs -/
def idK (k : Int) : Lid := (idL[(k % 6).toNat]?).getD id0
theorem idL_ok : ∀ i ∈ idL, OkD i := by
  intro i hi
  simp only [idL, List.mem_cons, List.not_mem_nil, or_false] at hi
  rcases hi with rfl | rfl | rfl | rfl | rfl | rfl <;> exact ⟨by decide, by decide, by decide, by decide, by decide, by decide⟩
theorem idK_ok (k : Int) : OkD (idK k) := by
  unfold idK
  cases h : idL[(k % 6).toNat]? with
  | none => exact okd0
  | some i => exact idL_ok i (List.mem_of_getElem? h)
set_option maxRecDepth 100000 in
set_option maxHeartbeats 4000000 in
theorem id_any (k : Int) (hk : 0 ≤ k ∧ k ≤ 255) (w : World) : Calls Tryz.prog 18 #[.int .u8 k] w fun e w' => e = .returned (aggD (idK k)) ∧ Below w.heap.size w w' := by
  obtain ⟨j, hj, hm, he⟩ := u8_mod hk 6 ⟨by omega, by omega⟩
  have hm : k.tmod 6 = (j : Int) := hm
  have he : k % 6 = (j : Int) := he
  obtain ⟨x, hx⟩ : ∃ x, idL[j]? = some x := ⟨_, List.getElem?_eq_getElem (by simp only [idL, List.length_cons, List.length_nil]; omega)⟩
  have e1 : idK k = x := by
    unfold idK
    rw [he, Int.toNat_natCast, hx]
    rfl
  rw [e1]
  have hb0 := bel_alloc w (.cells #[.string noB, .int .i64 0, .int .i64 0, .string noB] lidT)
  have hb1 := bel_alloc (w.alloc (.cells #[.string noB, .int .i64 0, .int .i64 0, .string noB] lidT)) (.cells #[.string ⟨#[66, 65]⟩, .int .i64 2, .int .i64 9, .string ⟨#[76, 72, 82]⟩, .string ⟨#[66, 65]⟩, .int .i64 2, .int .i64 9, .string ⟨#[67, 68, 71]⟩, .string ⟨#[65, 70]⟩, .int .i64 7, .int .i64 9, .string ⟨#[67, 68, 71]⟩, .string ⟨#[66, 65]⟩, .int .i64 2, .int .i64 8, .string ⟨#[76, 72, 82]⟩, .string ⟨#[66, 65]⟩, .int .i64 11, .int .i64 8, .string ⟨#[76, 72, 82]⟩, .string ⟨#[66, 65]⟩, .int .i64 1, .int .i64 9, .string ⟨#[74, 70, 75]⟩] lidT)
  have hr := RowL.new (enc := encD) (sz := 4) (w.alloc (.cells #[.string noB, .int .i64 0, .int .i64 0, .string noB] lidT)) idL lidT (fun _ => rfl) (cs := #[.string ⟨#[66, 65]⟩, .int .i64 2, .int .i64 9, .string ⟨#[76, 72, 82]⟩, .string ⟨#[66, 65]⟩, .int .i64 2, .int .i64 9, .string ⟨#[67, 68, 71]⟩, .string ⟨#[65, 70]⟩, .int .i64 7, .int .i64 9, .string ⟨#[67, 68, 71]⟩, .string ⟨#[66, 65]⟩, .int .i64 2, .int .i64 8, .string ⟨#[76, 72, 82]⟩, .string ⟨#[66, 65]⟩, .int .i64 11, .int .i64 8, .string ⟨#[76, 72, 82]⟩, .string ⟨#[66, 65]⟩, .int .i64 1, .int .i64 9, .string ⟨#[74, 70, 75]⟩]) rfl 6
  rw [World.size_alloc] at hr
  obtain ⟨b0, o0, eA, _, hcc⟩ := row_get hr hx
  simp only [Option.some.injEq, Addr.mk.injEq] at eA
  obtain ⟨rfl, rfl, _⟩ := eA
  have c0 := hcc 0 _ rfl
  have c1 := hcc 1 _ rfl
  have c2 := hcc 2 _ rfl
  have c3 := hcc 3 _ rfl
  simp only [Nat.add_zero, Nat.zero_add] at c0 c1 c2 c3
  have hz := heap_alloc_new w (.cells #[.string noB, .int .i64 0, .int .i64 0, .string noB] lidT)
  have hz1 := (hb1.block _ (lt_of_cell2 hz)).trans hz
  have HB := Lib.hid (hb0.trans (hb1.mono hb0.size))
  have HZ := Lib.hid hz1
  have y0 := cell_of_row _ _ 0 _ _ (0, 0) hz1
  have y1 := cell_of_row _ _ 1 _ _ (0, 0) hz1
  have y2 := cell_of_row _ _ 2 _ _ (0, 0) hz1
  have y3 := cell_of_row _ _ 3 _ _ (0, 0) hz1
  have f0 := frozen_of_row _ _ 0 _ _ hz1
  have f1 := frozen_of_row _ _ 1 _ _ hz1
  have f2 := frozen_of_row _ _ 2 _ _ hz1
  have f3 := frozen_of_row _ _ 3 _ _ hz1
  have kw1 : IntKind.u8.wrap (j : Int) = (j : Int) := by unfold IntKind.wrap; simp [IntKind.bits, IntKind.signed]; omega
  have i1 : (0 : Int) ≤ (j : Int) := by omega
  have i2 : (j : Int) < 6 := by omega
  clear hb0 hb1 hz hz1 hr hcc he hx e1 hk
  go_enter Tryz.func18, Tryz.ntmps18
  go_upto_region 2 with fail
  generalize (w.alloc (.cells #[.string noB, .int .i64 0, .int .i64 0, .string noB] lidT)).alloc (.cells #[.string ⟨#[66, 65]⟩, .int .i64 2, .int .i64 9, .string ⟨#[76, 72, 82]⟩, .string ⟨#[66, 65]⟩, .int .i64 2, .int .i64 9, .string ⟨#[67, 68, 71]⟩, .string ⟨#[65, 70]⟩, .int .i64 7, .int .i64 9, .string ⟨#[67, 68, 71]⟩, .string ⟨#[66, 65]⟩, .int .i64 2, .int .i64 8, .string ⟨#[76, 72, 82]⟩, .string ⟨#[66, 65]⟩, .int .i64 11, .int .i64 8, .string ⟨#[76, 72, 82]⟩, .string ⟨#[66, 65]⟩, .int .i64 1, .int .i64 9, .string ⟨#[74, 70, 75]⟩] lidT) = w5 at *
  go_wp2
  have hh := S4.heap HZ.out (.string x.car) (.int .i64 x.num) (.int .i64 x.day) (.string x.frm)
  have hbut := S4.but w5 w.heap.size (.string x.car) (.int .i64 x.num) (.int .i64 x.day) (.string x.frm)
  generalize (((w5.setCell ⟨w.heap.size, 0, none⟩ (.string x.car)).setCell ⟨w.heap.size, 1, none⟩ (.int .i64 x.num)).setCell ⟨w.heap.size, 2, none⟩ (.int .i64 x.day)).setCell ⟨w.heap.size, 3, none⟩ (.string x.frm) = w6 at *
  have d0 := cell_of_row _ _ 0 _ _ (0, 0) hh
  have d1 := cell_of_row _ _ 1 _ _ (0, 0) hh
  have d2 := cell_of_row _ _ 2 _ _ (0, 0) hh
  have d3 := cell_of_row _ _ 3 _ _ (0, 0) hh
  refine bodyPost_ret (v := aggD x) ?_ rfl ⟨rfl, HB.out.trans (hbut.below HB.out.size (fun k hk e => by omega))⟩
  simp [results, Tryz.results18, go_sem, d0, d1, d2, d3]
/-- a class -/
def clsL : List ByteArray := [⟨#[89]⟩, ⟨#[77]⟩, ⟨#[81]⟩, ⟨#[70]⟩, ⟨#[89]⟩, ⟨#[77]⟩, ⟨#[88]⟩]
def clsK (k : Int) : ByteArray := (clsL[(k % 7).toNat]?).getD noB
set_option maxRecDepth 100000 in
set_option maxHeartbeats 4000000 in
theorem class15_any (k : Int) (hk : 0 ≤ k ∧ k ≤ 255) (w : World) : Calls Tryz.prog 22 #[.int .u8 k] w fun e w' => e = .returned (.string (clsK k)) ∧ Below w.heap.size w w' := by
  obtain ⟨j, hj, hm, he⟩ := u8_mod hk 7 ⟨by omega, by omega⟩
  have hm : k.tmod 7 = (j : Int) := hm
  have he : k % 7 = (j : Int) := he
  obtain ⟨x, hx⟩ : ∃ x, clsL[j]? = some x := ⟨_, List.getElem?_eq_getElem (by simp only [clsL, List.length_cons, List.length_nil]; omega)⟩
  have e1 : clsK k = x := by
    unfold clsK
    rw [he, Int.toNat_natCast, hx]
    rfl
  rw [e1]
  have hb0 := bel_alloc w (.cells #[.string ⟨#[89]⟩, .string ⟨#[77]⟩, .string ⟨#[81]⟩, .string ⟨#[70]⟩, .string ⟨#[89]⟩, .string ⟨#[77]⟩, .string ⟨#[88]⟩] 9)
  have hr := RowL.new (enc := fun s => [Value.string s]) (sz := 1) w clsL 9 (fun _ => rfl) (cs := #[.string ⟨#[89]⟩, .string ⟨#[77]⟩, .string ⟨#[81]⟩, .string ⟨#[70]⟩, .string ⟨#[89]⟩, .string ⟨#[77]⟩, .string ⟨#[88]⟩]) rfl 7
  obtain ⟨b0, o0, eA, _, hcc⟩ := row_get hr hx
  simp only [Option.some.injEq, Addr.mk.injEq] at eA
  obtain ⟨rfl, rfl, _⟩ := eA
  have c0 := hcc 0 _ rfl
  simp only [Nat.add_zero, Nat.zero_add, Nat.mul_one] at c0
  have HB := Lib.hid hb0
  have kw1 : IntKind.u8.wrap (j : Int) = (j : Int) := by unfold IntKind.wrap; simp [IntKind.bits, IntKind.signed]; omega
  have i1 : (0 : Int) ≤ (j : Int) := by omega
  have i2 : (j : Int) < 7 := by omega
  clear hb0 hr hcc he hx e1 hk
  go_enter Tryz.func22, Tryz.ntmps22
  go_upto_region 2 with fail
  generalize w.alloc (.cells #[.string ⟨#[89]⟩, .string ⟨#[77]⟩, .string ⟨#[81]⟩, .string ⟨#[70]⟩, .string ⟨#[89]⟩, .string ⟨#[77]⟩, .string ⟨#[88]⟩] 9) = w5 at *
  go_wp2
  go_ret
  exact ⟨rfl, HB.out⟩
end Go.Proofs.YtjmahmeionakaaaGreatDoor
