/- ConH, FrameK, FramesCC in one text. -/
import Derived.Test.YtimemdakmppcnaaDoorConE
import Derived.Test.YtimemdakmppcnaaDoorCards
import Derived.Test.YtimemdakmppcnaaDoorTie
import Derived.WalkKit
import Derived.ProofKit
import Derived.OpenShut
import Derived.ShutString
import Derived.Carry
import Derived.SizedLaws
import Derived.SliceStrings
import Derived.Stop.LaidErr
import Derived.Deep.DeepHandedRow
import Derived.Deep.DeepWitnessRowRef
import Derived.Deep.DeepLaidRun
import Derived.Lib.LaidTab
import Derived.Lib.SmallJoins
import Derived.Deep.SlicePairs
import Derived.Test.YtimemdakmppcnaaDoorRows
import Derived.ChangeSlices
import Derived.Test.YtimemdakmppcnaaDoorPlaB
import Derived.Test.YtimemdakmppcnaaDoorConA
/- Walk of the law ConnectMany. -/
namespace Go.Proofs.YtimemdakmppcnaaDoor.Con
open Go.RowKit Go.Shelf
set_option linter.unusedSimpArgs false
set_option linter.unusedVariables false

abbrev mA : ByteArray := ⟨#[65, 65, 65]⟩
abbrev mB : ByteArray := ⟨#[66, 66, 66]⟩
abbrev mC : ByteArray := ⟨#[67, 67, 67]⟩
def man3 (i : Nat) : List Sg := [⟨⟨#[66, 65]⟩, (i : Int) + 1, 0, mA, mB, (i : Int), 100⟩, ⟨⟨#[65, 70]⟩, (i : Int) + 1, 0, mB, mC, 200, 300⟩, ⟨⟨#[85, 50]⟩, (i : Int) + 1, 0, mA, mC, (i : Int), 300 + (i : Int)⟩]
def manyS (k : Nat) : List Sg := (List.range k).flatMap man3
theorem many_succ (k : Nat) : manyS (k + 1) = manyS k ++ man3 k := by
  unfold manyS
  rw [List.range_succ, List.flatMap_append, List.flatMap_cons, List.flatMap_nil, List.append_nil]
theorem many_len : ∀ k, (manyS k).length = 3 * k
  | 0 => rfl
  | k + 1 => by rw [many_succ, List.length_append, many_len k]; show 3 * k + 3 = _; omega
theorem many_mem {k : Nat} {s : Sg} (h : s ∈ manyS k) : ∃ i, i < k ∧ s ∈ man3 i := by
  unfold manyS at h
  obtain ⟨i, hi, h⟩ := List.mem_flatMap.1 h
  exact ⟨i, List.mem_range.1 hi, h⟩
theorem many_ok {k : Nat} (hk : k < 40) : (∀ s ∈ manyS k, s.f.size ≤ maxLen ∧ s.t.size ≤ maxLen) ∧ ∀ s ∈ manyS k, tmB s := by
  refine ⟨fun s hs => ?_, fun s hs => ?_⟩
  · obtain ⟨i, hi, h⟩ := many_mem hs
    simp only [man3, List.mem_cons, List.not_mem_nil, or_false] at h
    rcases h with rfl | rfl | rfl <;> exact ⟨show 3 ≤ maxLen by decide, show 3 ≤ maxLen by decide⟩
  · obtain ⟨i, hi, h⟩ := many_mem hs
    simp only [man3, List.mem_cons, List.not_mem_nil, or_false] at h
    rcases h with rfl | rfl | rfl
    · show -1099511627776 ≤ (i : Int) ∧ (i : Int) ≤ 1099511627776 ∧ -1099511627776 ≤ (100 : Int) ∧ (100 : Int) ≤ 1099511627776
      omega
    · show -1099511627776 ≤ (200 : Int) ∧ (200 : Int) ≤ 1099511627776 ∧ -1099511627776 ≤ (300 : Int) ∧ (300 : Int) ≤ 1099511627776
      omega
    · show -1099511627776 ≤ (i : Int) ∧ (i : Int) ≤ 1099511627776 ∧ -1099511627776 ≤ (300 + (i : Int)) ∧ (300 + (i : Int)) ≤ 1099511627776
      omega
theorem many_cnt : ∀ k : Fin 40, (pathsP [] (manyS k) mA mC 1).length = k.1 ∧ (pathsP [] (manyS k) mA mC 2).length = k.1 + k.1 * k.1 ∧ (pathsP [] (manyS k) mA mC 3).length = k.1 + k.1 * k.1 := by decide +kernel
theorem rtSg : RT Tryd.prog 26 sgT 7 encSg where
  ht := Tryd.underlying26
  info := ⟨.agg #[.string noB, .int .i64 0, .int .i64 0, .string noB, .string noB, .int .i64 0, .int .i64 0], 80, by kernel_rfl, rfl, by omega⟩
  len x := rfl
  one x u hu := by simp [encSg] at hu; rcases hu with rfl | rfl | rfl | rfl | rfl | rfl | rfl <;> rfl
  pos := by omega
/-- how long the answer of Paths is, and its error -/
theorem paths_len {l : List Cn} {S : List Sg} {fr dn : ByteArray} {most : Int} {w' : World} {v : Value} {er : Int} (h : PathsR l S fr dn most w' v er) :
    ∃ A n c, v = .slice A n c ∧ (n = 0 ∧ er = 2 ∧ (most < 1 ∨ 3 < most) ∨ (¬ (most < 1 ∨ 3 < most) ∧ 1024 < (pathsP l S fr dn most).length ∧ n = 0 ∧ er = 4) ∨ (¬ (most < 1 ∨ 3 < most) ∧ ¬ 1024 < (pathsP l S fr dn most).length ∧ n = (pathsP l S fr dn most).length ∧ er = 0)) := by
  unfold PathsR at h
  by_cases h1 : most < 1 ∨ 3 < most
  · rw [if_pos h1] at h
    obtain ⟨rfl, rfl⟩ := h
    exact ⟨none, 0, 0, rfl, .inl ⟨rfl, rfl, h1⟩⟩
  rw [if_neg h1] at h
  by_cases h2 : 1024 < (pathsP l S fr dn most).length
  · rw [if_pos h2] at h
    obtain ⟨rfl, rfl⟩ := h
    exact ⟨none, 0, 0, rfl, .inr (.inl ⟨h1, h2, rfl, rfl⟩)⟩
  rw [if_neg h2] at h
  obtain ⟨rfl, ps, ps', hl, hs⟩ := h
  obtain ⟨A, c, rfl, _⟩ := hs.row
  refine ⟨A, ps'.length, c, rfl, .inr (.inr ⟨h1, h2, ?_, rfl⟩)⟩
  rw [hs.perm.length_eq, ← hl]
  exact (List.length_map ..).symm

theorem man3_len (i : Nat) : (man3 i).length = 3 := rfl
theorem many_cells (i : Nat) : #[.string ⟨#[66, 65]⟩, .int .i64 ((i : Int) + 1), .int .i64 0, .string ⟨#[65, 65, 65]⟩, .string ⟨#[66, 66, 66]⟩, .int .i64 (i : Int), .int .i64 100, .string ⟨#[65, 70]⟩, .int .i64 ((i : Int) + 1), .int .i64 0, .string ⟨#[66, 66, 66]⟩, .string ⟨#[67, 67, 67]⟩, .int .i64 200, .int .i64 300, .string ⟨#[85, 50]⟩, .int .i64 ((i : Int) + 1), .int .i64 0, .string ⟨#[65, 65, 65]⟩, .string ⟨#[67, 67, 67]⟩, .int .i64 (i : Int), .int .i64 (300 + (i : Int))] = (cellsR encSg (man3 i)).toArray := rfl
theorem many_row (i : Nat) (wr : World) : ∀ (a : Nat) (x : Sg) (j : Nat) (u : Value), (man3 i)[a]? = some x → (encSg x)[j]? = some u → (wr.alloc (.cells #[.string ⟨#[66, 65]⟩, .int .i64 ((i : Int) + 1), .int .i64 0, .string ⟨#[65, 65, 65]⟩, .string ⟨#[66, 66, 66]⟩, .int .i64 (i : Int), .int .i64 100, .string ⟨#[65, 70]⟩, .int .i64 ((i : Int) + 1), .int .i64 0, .string ⟨#[66, 66, 66]⟩, .string ⟨#[67, 67, 67]⟩, .int .i64 200, .int .i64 300, .string ⟨#[85, 50]⟩, .int .i64 ((i : Int) + 1), .int .i64 0, .string ⟨#[65, 65, 65]⟩, .string ⟨#[67, 67, 67]⟩, .int .i64 (i : Int), .int .i64 (300 + (i : Int))] sgT)).cell? ⟨wr.heap.size, 0 + a * 7 + j, none⟩ = some u := by
  intro a x j u ha hu
  rw [many_cells, cells_new, List.getElem?_toArray, Nat.zero_add]
  exact cellsR_at (enc := encSg) (sz := 7) (fun _ => rfl) (man3 i) a j x u ha hu

set_option maxRecDepth 100000 in
set_option maxHeartbeats 16000000 in
theorem connectMany_walk (z most : Int) (w : World) (hz : 0 ≤ z ∧ z ≤ 255) :
    Calls Tryd.prog 6 #[.int .u8 z, .int .i64 most] w fun e w' => e = .returned (.bool true) ∧ Below w.heap.size w w' := by
  have ht : z.tmod 40 = z % 40 := Int.tmod_eq_emod_of_nonneg hz.1
  obtain ⟨k, hk2, hk40⟩ : ∃ k : Nat, z % 40 = (k : Int) ∧ k < 40 := ⟨(z % 40).toNat, by omega, by omega⟩
  have hk : z.tmod 40 = (k : Int) := by omega
  have HI : Hid (ROwn sgT 7 encSg w.heap.size w (.slice none 0 0) (manyS 0)) := Lib.hid (ROwn.nil (Nat.le_refl _))
  have kw1 : IntKind.u8.wrap (k : Int) = (k : Int) := by unfold IntKind.wrap; simp [IntKind.bits, IntKind.signed]; omega
  have kw2 : IntKind.i64.wrap (k : Int) = (k : Int) := IntWalk.i64_in _ (by omega)
  go_enter Tryd.func6, Tryd.ntmps6
  go_upto_region 3 with fail
  go_wp2
  go_loopg [5, 7] k (fun kx v5 vi wr => ∃ (v : Value) (i : Nat), v = v5 ∧ vi = .int .i64 i ∧ i + kx = k ∧ Hid (ROwn sgT 7 encSg w.heap.size wr v (manyS i) ∧ SW w wr))
  case atStart => exact ⟨_, 0, rfl, rfl, by omega, Lib.hid ⟨HI.out, Below.refl _ _⟩⟩
  case round =>
    obtain ⟨v, i, rfl, rfl, hik, HH⟩ := hrel
    clear HI
    have HIK := Lib.hid hik
    by_cases hlt : i < k
    · have i2 : (i : Int) < (k : Int) := by omega
      have hb := bel_alloc wr (.cells #[.string ⟨#[66, 65]⟩, .int .i64 ((i : Int) + 1), .int .i64 0, .string ⟨#[65, 65, 65]⟩, .string ⟨#[66, 66, 66]⟩, .int .i64 (i : Int), .int .i64 100, .string ⟨#[65, 70]⟩, .int .i64 ((i : Int) + 1), .int .i64 0, .string ⟨#[66, 66, 66]⟩, .string ⟨#[67, 67, 67]⟩, .int .i64 200, .int .i64 300, .string ⟨#[85, 50]⟩, .int .i64 ((i : Int) + 1), .int .i64 0, .string ⟨#[65, 65, 65]⟩, .string ⟨#[67, 67, 67]⟩, .int .i64 (i : Int), .int .i64 (300 + (i : Int))] sgT)
      have hO := HH.out.1.more hb
      have HS := Lib.hid (Below.trans HH.out.2 (Below.mono hb HH.out.2.size))
      have HC := Lib.hid (many_row i wr)
      have w1 : IntKind.i64.wrap ((i : Int) + 1) = (i : Int) + 1 := IntWalk.i64_in _ (by omega)
      have w2 : IntKind.i64.wrap (300 + (i : Int)) = 300 + (i : Int) := IntWalk.i64_in _ (by omega)
      have HN : Hid ((manyS i).length + (man3 i).length ≤ 100000000) := Lib.hid (by rw [many_len, man3_len]; omega)
      have HKX : Hid (i + 1 + (k - (i + 1)) = k) := Lib.hid (by omega)
      clear hik HH hb
      go_wp2_with (at_builtin; refine wpList_rapps rtSg rfl _ _ rfl hO rfl wr.heap.size 0 (man3 i) 3 3 rfl rfl (by omega) HC.out HN.out ?_; intro v1 w1 hO1 hC1)
      have HX : Hid (ROwn sgT 7 encSg w.heap.size w1 v1 (manyS (i + 1)) ∧ SW w w1) := Lib.hid ⟨by rw [many_succ]; exact hO1, Below.trans HS.out (hC1.below hO)⟩
      clear hO hO1 hC1
      go_roundg (k - (i + 1))
      case measure => have := HIK.out; omega
      case rel => exact ⟨_, i + 1, rfl, by go_num, HKX.out, HX⟩
    · have hke : i = k := by omega
      subst hke
      have i2 : ¬ (i : Int) < (i : Int) := by omega
      have hR := HH.out.1.rowL rtSg.len
      obtain ⟨A, c, rfl, _⟩ := id hR
      have hok := many_ok hk40
      have KP := Lib.hid (paths_any none 0 [] A c (manyS i) mA mC most wr ⟨none, 0, rfl, .inl rfl⟩ hR (by rw [many_len]; omega) (by decide) hok.1 hok.2)
      have HCN := Lib.hid (many_cnt ⟨i, hk40⟩)
      have HS := Lib.hid HH.out.2
      have KK := Lib.hid (fun W => knows_any W)
      have hii : i * i ≤ 39 * 39 := Nat.mul_le_mul (by omega) (by omega)
      have m1 : (i : Int) * (i : Int) = ((i * i : Nat) : Int) := (Int.natCast_mul i i).symm
      have HMI := Lib.hid hii
      clear HH hR hok hii hik hlt HIK
      go_upto_region 8 with (go_at_call 20; refine KP.out.mono ?_; rintro e w5 ⟨v5, er, rfl, hP, hb5⟩)
      obtain ⟨A', n, c', rfl, hd⟩ := paths_len hP
      have hS5 : SW w w5 := Below.trans HS.out (Below.mono hb5 HS.out.size)
      clear hP hb5 KP HS
      rcases hd with ⟨rfl, rfl, hm⟩ | ⟨hm, hcnt, rfl, rfl⟩ | ⟨hm, hcnt, rfl, rfl⟩
      · by_cases h1 : most < 1
        · go_wp2_with (go_at_call 9; refine (KK.out _).mono ?_; rintro e w6 ⟨rfl, hb6⟩)
          go_ret
          exact ⟨rfl, Below.trans hS5 (Below.mono hb6 hS5.size)⟩
        · have h3 : 3 < most := by omega
          go_wp2_with (go_at_call 9; refine (KK.out _).mono ?_; rintro e w6 ⟨rfl, hb6⟩)
          go_ret
          exact ⟨rfl, Below.trans hS5 (Below.mono hb6 hS5.size)⟩
      · have h1 : ¬ most < 1 := by omega
        have h3 : ¬ 3 < most := by omega
        have hw : 1 < most ∧ 1024 < i + i * i := by
          have h4 : most = 1 ∨ most = 2 ∨ most = 3 := by omega
          rcases h4 with rfl | rfl | rfl
          · rw [HCN.out.1] at hcnt; exact absurd hcnt (by omega)
          · rw [HCN.out.2.1] at hcnt; exact ⟨by omega, hcnt⟩
          · rw [HCN.out.2.2] at hcnt; exact ⟨by omega, hcnt⟩
        obtain ⟨h5, h6⟩ := hw
        have hii := HMI.out
        generalize i * i = q at *
        have w1 : IntKind.i64.wrap (q : Int) = (q : Int) := IntWalk.i64_in _ (by omega)
        have w2 : IntKind.i64.wrap ((i : Int) + (q : Int)) = (i : Int) + (q : Int) := IntWalk.i64_in _ (by omega)
        have h7 : (1024 : Int) < (i : Int) + (q : Int) := by omega
        clear hcnt HCN hm HMI
        go_wp2_with (go_at_call 9; refine (KK.out _).mono ?_; rintro e w6 ⟨rfl, hb6⟩)
        go_ret
        exact ⟨rfl, Below.trans hS5 (Below.mono hb6 hS5.size)⟩
      · have h1 : ¬ most < 1 := by omega
        have h3 : ¬ 3 < most := by omega
        have hii := HMI.out
        by_cases h5 : 1 < most
        · have hw : (pathsP [] (manyS i) mA mC most).length = i + i * i := by
            have h4 : most = 2 ∨ most = 3 := by omega
            rcases h4 with rfl | rfl
            · exact HCN.out.2.1
            · exact HCN.out.2.2
          rw [hw] at hcnt ⊢
          generalize i * i = q at *
          have w1 : IntKind.i64.wrap (q : Int) = (q : Int) := IntWalk.i64_in _ (by omega)
          have w2 : IntKind.i64.wrap ((i : Int) + (q : Int)) = (i : Int) + (q : Int) := IntWalk.i64_in _ (by omega)
          have h7 : ¬ (1024 : Int) < (i : Int) + (q : Int) := by omega
          have h8 : (((i + q : Nat) : Int) == (i : Int) + (q : Int)) = true := by rw [beq_iff_eq]; omega
          clear hcnt HCN hm HMI hw
          go_wp2_with (go_at_call 9; refine (KK.out _).mono ?_; rintro e w6 ⟨rfl, hb6⟩)
          go_ret
          exact ⟨rfl, Below.trans hS5 (Below.mono hb6 hS5.size)⟩
        · have hw : (pathsP [] (manyS i) mA mC most).length = i := by
            have h4 : most = 1 := by omega
            subst h4
            exact HCN.out.1
          rw [hw] at hcnt ⊢
          have h7 : ¬ (1024 : Int) < (i : Int) := by omega
          have h8 : ((i : Int) == (i : Int)) = true := by simp
          clear hcnt HCN hm HMI hw
          go_wp2_with (go_at_call 9; refine (KK.out _).mono ?_; rintro e w6 ⟨rfl, hb6⟩)
          go_ret
          exact ⟨rfl, Below.trans hS5 (Below.mono hb6 hS5.size)⟩
end Go.Proofs.YtimemdakmppcnaaDoor.Con

/- What all the rows of this seat ask besides the walks: a world for the witness; arguments opened (places, texts, lists of texts). -/
namespace Go.Proofs.YtimemdakmppcnaaDoor
open Go.ChangeShapes Go.WideShapes Go.ChangeAt Go.RowKit
set_option linter.unusedSimpArgs false
set_option linter.unusedVariables false

theorem own : ownKnob Tryd.prog.godebug = none := by kernel_rfl
theorem laidOut : laidOutB Tryd.prog = true := by kernel_rfl
/-- the listed variables are not asked for -/
def Env (_ : World) : Prop := True
theorem env_of {W : World} (h : laidMetH Tryd.prog Rows.connectTimesRow.laid W) : Env W := trivial

/-! ### A world for the witness -/
noncomputable def low : Nat := (World.holding Tryd.prog default ⟨#[], #[], []⟩).heap.size
def putCells (cs : Array Value) : Obj → Obj
  | .cells _ t frozen => .cells cs t frozen
  | o => o
def litsOf (k : IntKind) : DataW Unit → List Value
  | .agg ps => ps.map fun | .lit (.int _ z) => .int k z | _ => .int k 0
  | _ => []
noncomputable def laidWorld (os : Os) : World :=
  let w0 := World.holding Tryd.prog os ⟨#[], #[], []⟩
  let h3 := w0.heap.modify 0 (putCells (litsOf .u64 Rows.laid_internal_strconv_uint64pow10).toArray)
  let h4 := h3.modify 1 (putCells (litsOf .u8 Rows.laid_math_bits_deBruijn32tab).toArray)
  let h5 := h4.modify 2 (putCells (litsOf .u8 Rows.laid_math_bits_deBruijn64tab).toArray)
  { w0 with heap := h5 }
theorem laidWorld_met (os : Os) (args : Array Value) : laidMet Tryd.prog Rows.connectTimesRow.laid ((laidWorld os).forCall (fun _ _ => 0) ⟨#[], args, []⟩).memory :=
  laidMet_of_run3 8 (by kernel_rfl) (by kernel_rfl) (by kernel_rfl)

/-! ### Places among the arguments -/
theorem int_bounds {a : Int} (h : (Lit.int .i64 a).wf = true) : -9223372036854775808 ≤ a ∧ a ≤ 9223372036854775807 := by
  have e1 : IntKind.i64.min = -9223372036854775808 := rfl
  have e2 : IntKind.i64.max = 9223372036854775807 := rfl
  simp only [Lit.wf, e1, e2, Bool.and_eq_true, decide_eq_true_eq] at h
  omega
theorem bytes_string : Tryd.prog.bytesOf 9 = 16 := by kernel_rfl
theorem cells_string : Tryd.prog.cellsOf 9 = 1 := by kernel_rfl
theorem cells_int : Tryd.prog.cellsOf 3 = 1 := by kernel_rfl
theorem cells_shift : Tryd.prog.cellsOf 109 = 2 := by kernel_rfl
theorem cells_zone : Tryd.prog.cellsOf 51 = 2 := by kernel_rfl
theorem cells_shs : Tryd.prog.cellsOf 49 = 1 := by kernel_rfl
theorem cells_air : Tryd.prog.cellsOf 53 = 5 := by kernel_rfl
theorem cells_dst : Tryd.prog.cellsOf 95 = 3 := by kernel_rfl
theorem cells_places : Tryd.prog.cellsOf 36 = 2 := by kernel_rfl
theorem sized_str {H : Type} {P : Program} {ts : List TypeId} {ds : List (DataW H)} (h : (DataW.weightsEach P ts ds).all (· ≤ reachBytes) = true) {j : Nat} {t : TypeId} {s : ByteArray} (ht : ts[j]? = some t) (hd : ds[j]? = some (.lit (.string s.data.toList))) : s.size ≤ 140737488355328 := by
  have h1 := sized_string h ht hd
  have h2 := reachBytes_lt
  have e3 : (2 : Nat) ^ 47 = 140737488355328 := by decide
  have e1 : s.data.toList.length = s.size := Array.length_toList
  omega
theorem shs_at (f : Nat → Int × Int) (n i : Nat) (h : i < n) : ((List.range n).map f).getD i (0, 0) = f i := by
  rw [List.getD_eq_getElem?_getD, List.getElem?_map, List.getElem?_range h]; rfl
theorem open_shs {H : Type} {enc : TypeId × Value → H} {W : World} {n : Nat} {v : Value} {y : DataW H × List MemPlace} (h : DataW.trod enc Tryd.prog W 0 (fun _ => true) true n 49 [v] = some y) :
    ∃ (A : Option Addr) (c : Nat) (l : Shs), v = .slice A l.length c ∧ ShL W A l ∧ (∀ k, k < l.length → -9223372036854775808 ≤ shA l k ∧ shA l k ≤ 9223372036854775807) ∧ l.length < 9223372036854775808 := by
  rcases Deep.open_slice_pairs Tryd.underlying49 Tryd.underlying109 cells_shift rfl rfl cells_int cells_int h with ⟨hcs, rfl⟩ | ⟨a, len, cap, m', n, V0, V1, D0, D1, P0, P1, hcs, _, hl, hm, hmm, rfl, hx⟩
  · simp at hcs
    subst hcs
    exact ⟨none, 0, [], rfl, .inl rfl, fun k hk => by simp at hk, by simp⟩
  · simp at hcs
    subst hcs
    simp at hmm
    subst hmm
    have em : maxLen = 9223372036854775807 := by decide
    have each : ∀ i, i < m' → ∃ q : Int × Int, V0 i = .int .i64 q.1 ∧ V1 i = .int .i64 q.2 ∧ -9223372036854775808 ≤ q.1 ∧ q.1 ≤ 9223372036854775807 := fun i hi => by
      obtain ⟨_, _, g0, g1⟩ := hx i hi
      obtain ⟨x, e0, _, w0⟩ := DataW.trod_int Tryd.underlying3 g0
      obtain ⟨y, e1, _, w1⟩ := DataW.trod_int Tryd.underlying3 g1
      simp at e0 e1
      exact ⟨(x, y), e0, e1, int_bounds w0⟩
    obtain ⟨f, hf⟩ := Deep.choose_lt each
    have el : ((List.range len).map f).length = len := by simp
    refine ⟨some a, m', (List.range len).map f, by rw [el], ?_, ?_, by rw [el]; omega⟩
    · rcases Nat.eq_zero_or_pos len with h0 | h0
      · left; rw [h0]; rfl
      · right
        obtain ⟨b, off, spot⟩ := a
        have h1 := (hx 0 (by omega)).1
        have hspot : spot = none := by simpa [Addr.add] using World.cell?_spot h1
        subst hspot
        have hadd : ∀ i, (⟨b, off, none⟩ : Addr).add i = ⟨b, off + i, none⟩ := fun i => by unfold Addr.add; split <;> simp_all
        refine ⟨b, off, rfl, by simpa [Addr.add] using World.block_lt_of_cell? _ _ h1, fun i hi => ?_⟩
        rw [el] at hi
        obtain ⟨g0, g1, _, _⟩ := hx i (by omega)
        obtain ⟨e0, e1, _⟩ := hf i (by omega)
        rw [hadd, e0] at g0
        rw [hadd, e1] at g1
        unfold shA shF
        rw [shs_at f len i hi]
        exact ⟨g0, by rw [Nat.add_assoc]; exact g1⟩
    · intro k hk
      rw [el] at hk
      unfold shA
      rw [shs_at f len k hk]
      exact (hf k (by omega)).2.2
instance : Inhabited Air := ⟨airZ⟩
instance : Inhabited Dst := ⟨⟨noB, noB, 0⟩⟩
theorem len2 {α : Type} : ∀ {l : List α}, l.length = 2 → ∃ a b, l = [a, b]
  | [a, b], _ => ⟨a, b, rfl⟩
theorem len3 {α : Type} : ∀ {l : List α}, l.length = 3 → ∃ a b c, l = [a, b, c]
  | [a, b, c], _ => ⟨a, b, c, rfl⟩
theorem len4 {α : Type} : ∀ {l : List α}, l.length = 4 → ∃ a b c d, l = [a, b, c, d]
  | [a, b, c, d], _ => ⟨a, b, c, d, rfl⟩
theorem len5 {α : Type} : ∀ {l : List α}, l.length = 5 → ∃ a b c d e, l = [a, b, c, d, e]
  | [a, b, c, d, e], _ => ⟨a, b, c, d, e, rfl⟩
set_option maxRecDepth 100000 in
theorem open_air {H : Type} {enc : TypeId × Value → H} {W : World} {n b o : Nat} {cs : List Value} {y : DataW H × List MemPlace} (hc : W.cells? 0 ⟨b, o, none⟩ 5 = some cs) (h : DataW.trod enc Tryd.prog W 0 (fun _ => true) true n 53 cs = some y) :
    ∃ a : Air, AirAt W b o a ∧ OkA a := by
  obtain ⟨_, hlen, hcell⟩ := World.cells?_some hc
  obtain ⟨xs, k, _, _, _, hxl, hf⟩ := DataW.trod_struct Tryd.underlying53 h
  obtain ⟨y0, y1, y2, y3, rfl⟩ := len4 hxl
  obtain ⟨v0, v1, v2, v3, v4, rfl⟩ := len5 hlen
  all_goals
    have g0 := hf 0 _ rfl
    have g1 := hf 1 _ rfl
    have g2 := hf 2 _ rfl
    have g3 := hf 3 _ rfl
    simp [cells_string, cells_zone] at g0 g1 g2 g3
    obtain ⟨s0, e0, _, z0⟩ := DataW.trod_string Tryd.underlying9 g0
    obtain ⟨s1, e1, _, z1⟩ := DataW.trod_string Tryd.underlying9 g1
    obtain ⟨s2, e2, _, z2⟩ := DataW.trod_string Tryd.underlying9 g2
    obtain ⟨zs, k2, _, _, _, hzl, hz⟩ := DataW.trod_struct Tryd.underlying51 g3
    obtain ⟨u0, u1, rfl⟩ := len2 hzl
    all_goals
      have q0 := hz 0 _ rfl
      have q1 := hz 1 _ rfl
      simp [cells_int, cells_shs] at q0 q1
      obtain ⟨x, e3, _, w3⟩ := DataW.trod_int Tryd.underlying3 q0
      obtain ⟨A, c, l, e4, hL, hr, hl⟩ := open_shs q1
      simp at e0 e1 e2 e3
      subst e0 e1 e2 e3 e4
      have hadd : ∀ j, (⟨b, o, none⟩ : Addr).add j = ⟨b, o + j, none⟩ := fun j => by unfold Addr.add; split <;> simp_all
      have c0 := hcell 0 (by omega)
      have c1 := hcell 1 (by omega)
      have c2 := hcell 2 (by omega)
      have c3 := hcell 3 (by omega)
      have c4 := hcell 4 (by omega)
      rw [hadd] at c0 c1 c2 c3 c4
      exact ⟨⟨s0, s1, s2, x, A, c, l⟩, ⟨by simpa using c0, by simpa using c1, by simpa using c2, by simpa using c3, by simpa using c4, hL⟩, ⟨z0, z1, z2, hl, hr⟩⟩
set_option maxRecDepth 100000 in
theorem open_dst {H : Type} {enc : TypeId × Value → H} {W : World} {n b o : Nat} {cs : List Value} {y : DataW H × List MemPlace} (hc : W.cells? 0 ⟨b, o, none⟩ 3 = some cs) (h : DataW.trod enc Tryd.prog W 0 (fun _ => true) true n 95 cs = some y) :
    ∃ d : Dst, DstAt W b o d ∧ OkD d := by
  obtain ⟨_, hlen, hcell⟩ := World.cells?_some hc
  obtain ⟨xs, k, _, _, _, hxl, hf⟩ := DataW.trod_struct Tryd.underlying95 h
  obtain ⟨y0, y1, y2, rfl⟩ := len3 hxl
  obtain ⟨v0, v1, v2, rfl⟩ := len3 hlen
  all_goals
    have g0 := hf 0 _ rfl
    have g1 := hf 1 _ rfl
    have g2 := hf 2 _ rfl
    simp [cells_string, cells_int] at g0 g1 g2
    obtain ⟨s0, e0, _, z0⟩ := DataW.trod_string Tryd.underlying9 g0
    obtain ⟨s1, e1, _, z1⟩ := DataW.trod_string Tryd.underlying9 g1
    obtain ⟨x, e2, _, w2⟩ := DataW.trod_int Tryd.underlying3 g2
    simp at e0 e1 e2
    subst e0 e1 e2
    have hadd : ∀ j, (⟨b, o, none⟩ : Addr).add j = ⟨b, o + j, none⟩ := fun j => by unfold Addr.add; split <;> simp_all
    have c0 := hcell 0 (by omega)
    have c1 := hcell 1 (by omega)
    have c2 := hcell 2 (by omega)
    rw [hadd] at c0 c1 c2
    exact ⟨⟨s0, s1, x⟩, ⟨by simpa using c0, by simpa using c1, by simpa using c2⟩, ⟨z0, z1⟩⟩
theorem list_at {α : Type} (f : Nat → α) (n i : Nat) (a : α) (h : ((List.range n).map f)[i]? = some a) : i < n ∧ a = f i := by
  have hi : i < n := by have := (List.getElem?_eq_some_iff.1 h).1; simpa using this
  rw [List.getElem?_map, List.getElem?_range hi] at h
  exact ⟨hi, (Option.some.inj h).symm⟩
set_option maxRecDepth 100000 in
/-- places by value, opened -/
theorem open_places {H : Type} {enc : TypeId × Value → H} {W : World} {b0 : Nat} {v : Value} {d : DataW H} {p : List MemPlace} (hv : Value.okWide Tryd.prog W .any b0 36 v) (h : DataW.Trod enc Tryd.prog W 0 (fun _ => true) true 36 v d p) :
    ∃ pv : PV, v = encP pv ∧ PlL W pv ∧ (∀ a ∈ pv.l, OkA a) ∧ (∀ d ∈ pv.ds, OkD d) ∧ pv.l.length < 9223372036854775808 ∧ pv.ds.length < 9223372036854775808 := by
  have em : maxLen = 9223372036854775807 := by decide
  obtain ⟨v0, v1, y0, y1, m, rfl, rfl, rfl, hy0, hy1⟩ := Joins.open_agg2 Tryd.underlying36 (by kernel_rfl) cells_places hv h
  have hA : ∃ (A : Option Addr) (c : Nat) (l : List Air), v0 = .slice A l.length c ∧ AirL W A l ∧ (∀ a ∈ l, OkA a) ∧ l.length < 9223372036854775808 := by
    rcases Deep.open_slice Tryd.underlying33 hy0 with ⟨hcs, _⟩ | ⟨a, len, cap, m', n, D, Pl, hcs, _, hl, hm, hmm, _, hx⟩
    · simp at hcs
      exact ⟨none, 0, [], hcs, .inl rfl, fun a ha => by simp at ha, by simp⟩
    · simp at hcs hmm
      subst hcs hmm
      rcases Nat.eq_zero_or_pos len with h0 | h0
      · exact ⟨some a, m', [], by rw [h0]; rfl, .inl rfl, fun a ha => by simp at ha, by simp⟩
      obtain ⟨b, off, spot⟩ := a
      obtain ⟨cs0, hc0, _⟩ := hx 0 (by omega)
      have hspot : spot = none := by
        rw [cells_air] at hc0
        obtain ⟨_, hl0, hcell⟩ := World.cells?_some hc0
        have h1 := hcell 0 (by omega)
        rw [List.getElem?_eq_getElem (by omega)] at h1
        simpa [Addr.add] using World.cell?_spot h1
      subst hspot
      have hadd : ∀ i, (⟨b, off, none⟩ : Addr).add i = ⟨b, off + i, none⟩ := fun i => by unfold Addr.add; split <;> simp_all
      have each : ∀ i, i < len → ∃ a : Air, AirAt W b (off + i * 5) a ∧ OkA a := fun i hi => by
        obtain ⟨cs', h1, h2⟩ := hx i (by omega)
        rw [cells_air, hadd] at h1
        exact open_air h1 h2
      obtain ⟨f, hf⟩ := Deep.choose_lt each
      have el : ((List.range len).map f).length = len := by simp
      refine ⟨some ⟨b, off, none⟩, m', (List.range len).map f, by rw [el], .inr ⟨b, off, rfl, World.block_lt_of_cell? _ _ (hf 0 h0).1.c0, fun i a hi => ?_⟩, fun a ha => ?_, by rw [el]; omega⟩
      · obtain ⟨h1, rfl⟩ := list_at f len i a hi
        exact (hf i h1).1
      · obtain ⟨i, hi, rfl⟩ := List.mem_map.1 ha
        exact (hf i (List.mem_range.1 hi)).2
  have hD : ∃ (A : Option Addr) (c : Nat) (l : List Dst), v1 = .slice A l.length c ∧ DstL W A l ∧ (∀ a ∈ l, OkD a) ∧ l.length < 9223372036854775808 := by
    rcases Deep.open_slice Tryd.underlying34 hy1 with ⟨hcs, _⟩ | ⟨a, len, cap, m', n, D, Pl, hcs, _, hl, hm, hmm, _, hx⟩
    · simp at hcs
      exact ⟨none, 0, [], hcs, .inl rfl, fun a ha => by simp at ha, by simp⟩
    · simp at hcs hmm
      subst hcs hmm
      rcases Nat.eq_zero_or_pos len with h0 | h0
      · exact ⟨some a, m', [], by rw [h0]; rfl, .inl rfl, fun a ha => by simp at ha, by simp⟩
      obtain ⟨b, off, spot⟩ := a
      obtain ⟨cs0, hc0, _⟩ := hx 0 (by omega)
      have hspot : spot = none := by
        rw [cells_dst] at hc0
        obtain ⟨_, hl0, hcell⟩ := World.cells?_some hc0
        have h1 := hcell 0 (by omega)
        rw [List.getElem?_eq_getElem (by omega)] at h1
        simpa [Addr.add] using World.cell?_spot h1
      subst hspot
      have hadd : ∀ i, (⟨b, off, none⟩ : Addr).add i = ⟨b, off + i, none⟩ := fun i => by unfold Addr.add; split <;> simp_all
      have each : ∀ i, i < len → ∃ a : Dst, DstAt W b (off + i * 3) a ∧ OkD a := fun i hi => by
        obtain ⟨cs', h1, h2⟩ := hx i (by omega)
        rw [cells_dst, hadd] at h1
        exact open_dst h1 h2
      obtain ⟨f, hf⟩ := Deep.choose_lt each
      have el : ((List.range len).map f).length = len := by simp
      refine ⟨some ⟨b, off, none⟩, m', (List.range len).map f, by rw [el], .inr ⟨b, off, rfl, World.block_lt_of_cell? _ _ (hf 0 h0).1.c0, fun i a hi => ?_⟩, fun a ha => ?_, by rw [el]; omega⟩
      · obtain ⟨h1, rfl⟩ := list_at f len i a hi
        exact (hf i h1).1
      · obtain ⟨i, hi, rfl⟩ := List.mem_map.1 ha
        exact (hf i (List.mem_range.1 hi)).2
  obtain ⟨A, ca, l, rfl, h1, h2, h3⟩ := hA
  obtain ⟨D, cd, ds, rfl, h4, h5, h6⟩ := hD
  exact ⟨⟨A, ca, l, D, cd, ds⟩, rfl, ⟨h1, h4⟩, h2, h5, h3, h6⟩

/-! ### A list of texts among the arguments -/
theorem weights_strs {P : Program} {H : Type} {e : TypeId} : ∀ {l : List ByteArray} {s : ByteArray}, s ∈ l → s.size ∈ DataW.weightsAll P e (strs l : List (DataW H))
  | a :: r, s, h => by
    simp only [strs, List.map_cons, DataW.weightsAll, List.mem_append]
    rcases List.mem_cons.1 h with rfl | h
    · left
      simp [DataW.weights]
    · right
      exact weights_strs h
theorem open_strL {H : Type} {enc : TypeId × Value → H} {P : Program} {W : World} {t e : TypeId} (ht : P.underlying t = some (.slice e)) (he : P.underlying e = some .string) (hc : P.cellsOf e = 1) (hb : P.bytesOf e = 16)
    {A : Option Addr} {n c : Nat} {d : DataW H} {p : List MemPlace} (h : DataW.Trod enc P W 0 (fun _ => true) true t (.slice A n c) d p)
    {ts : List TypeId} {ds : List (DataW H)} (hsz : (DataW.weightsEach P ts ds).all (· ≤ reachBytes) = true) {j : Nat} (hj : ts[j]? = some t) (hd : ds[j]? = some d) :
    ∃ ss : List ByteArray, n = ss.length ∧ StrL W (.slice A ss.length c) ss ∧ ss.length ≤ 140737488355328 ∧ ∀ s ∈ ss, s.size ≤ 140737488355328 := by
  have hr := reachBytes_lt
  have e3 : (2 : Nat) ^ 47 = 140737488355328 := by decide
  obtain ⟨fuel, hf⟩ := h
  rcases open_strings ht he hc hf with ⟨hcs, _⟩ | ⟨a, len, cap, ss, hcs, _, hl, hm, hz, hx, hcell, _⟩
  · simp [Value.cells] at hcs
    obtain ⟨rfl, rfl, rfl⟩ := hcs
    exact ⟨[], rfl, ⟨none, 0, rfl, .inl rfl⟩, by simp, by simp⟩
  · simp [Value.cells] at hcs
    obtain ⟨rfl, rfl, rfl⟩ := hcs
    simp at hz
    have hlen : (ss.take n).length = n := by rw [List.length_take]; omega
    injection hx with hx _
    subst hx
    have w1 := sized_slice hsz hj hd ht
    rw [hb] at w1
    have el : (strs (H := H) (ss.take n)).length = n := by rw [strs, List.length_map, hlen]
    refine ⟨ss.take n, hlen.symm, ?_, by omega, fun s hs => ?_⟩
    · rw [hlen]
      refine ⟨some a, c, by rw [hlen], ?_⟩
      rcases Nat.eq_zero_or_pos n with h0 | h0
      · left
        rw [h0]; rfl
      · right
        obtain ⟨b, off, spot⟩ := a
        have h1 := hcell 0 (by omega)
        have hspot : spot = none := by simpa [Addr.add] using World.cell?_spot h1
        subst hspot
        refine ⟨b, off, rfl, World.block_lt_of_cell? _ _ h1, fun i hi => ?_⟩
        have h2 := hcell i (by omega)
        rw [List.getElem_take]
        have : ss.getD i ByteArray.empty = ss[i]'(by omega) := by rw [List.getD_eq_getElem?_getD, List.getElem?_eq_getElem (by omega)]; rfl
        rw [this] at h2
        have hadd : (⟨b, off, none⟩ : Addr).add i = ⟨b, off + i, none⟩ := by unfold Addr.add; split <;> simp_all
        rw [hadd] at h2
        exact h2
    · have w2 := List.all_eq_true.1 hsz _ (DataW.weights_mem_each hj hd s.size (by
        simp only [DataW.weights, ht, List.mem_cons, List.mem_append]
        exact .inr (.inl (weights_strs hs))))
      simp at w2
      omega

/-! ### connecting times, a segment -/
open Con
theorem u8_bounds {a : Int} (h : (Lit.int .u8 a).wf = true) : 0 ≤ a ∧ a ≤ 255 := by
  have e1 : IntKind.u8.min = 0 := rfl
  have e2 : IntKind.u8.max = 255 := rfl
  simp only [Lit.wf, e1, e2, Bool.and_eq_true, decide_eq_true_eq] at h
  omega
theorem cells_cn : Tryd.prog.cellsOf 59 = 4 := by kernel_rfl
theorem cells_sgK : Tryd.prog.cellsOf 24 = 7 := by kernel_rfl
instance : Inhabited Cn := ⟨⟨noB, noB, noB, 0⟩⟩
instance : Inhabited Sg := ⟨sgZ⟩
structure OkCn (c : Cn) : Prop where
  a : c.a.size ≤ maxLen
  i : c.i.size ≤ maxLen
  o : c.o.size ≤ maxLen
theorem len7K {α : Type} : ∀ {l : List α}, l.length = 7 → ∃ a b c d e f g, l = [a, b, c, d, e, f, g]
  | [a, b, c, d, e, f, g], _ => ⟨a, b, c, d, e, f, g, rfl⟩
theorem array7K {α : Type} {cs : Array α} (h : cs.size = 7) : ∃ c0 c1 c2 c3 c4 c5 c6, cs = #[c0, c1, c2, c3, c4, c5, c6] := by
  obtain ⟨l⟩ := cs
  match l, h with
  | [c0, c1, c2, c3, c4, c5, c6], _ => exact ⟨c0, c1, c2, c3, c4, c5, c6, rfl⟩
set_option maxRecDepth 100000 in
theorem read_seg {H : Type} {enc : TypeId × Value → H} {W : World} {n : Nat} {c0 c1 c2 c3 c4 c5 c6 : Value} {y : DataW H × List MemPlace} (h : DataW.trod enc Tryd.prog W 0 (fun _ => true) true n 24 [c0, c1, c2, c3, c4, c5, c6] = some y) :
    ∃ sv : Sg, (#[c0, c1, c2, c3, c4, c5, c6] : Array Value) = #[.string sv.car, .int .i64 sv.num, .int .i64 sv.day, .string sv.f, .string sv.t, .int .i64 sv.dep, .int .i64 sv.arr] ∧ sv.f.size ≤ maxLen ∧ sv.t.size ≤ maxLen := by
  obtain ⟨xs, k, _, _, _, hxl, hf⟩ := DataW.trod_struct Tryd.underlying24 h
  obtain ⟨y0, y1, y2, y3, y4, y5, y6, rfl⟩ := len7K hxl
  all_goals
    have g0 := hf 0 _ rfl
    have g1 := hf 1 _ rfl
    have g2 := hf 2 _ rfl
    have g3 := hf 3 _ rfl
    have g4 := hf 4 _ rfl
    have g5 := hf 5 _ rfl
    have g6 := hf 6 _ rfl
    simp [cells_string, cells_int] at g0 g1 g2 g3 g4 g5 g6
    obtain ⟨s0, e0, _, z0⟩ := DataW.trod_string Tryd.underlying9 g0
    obtain ⟨x1, e1, _, w1⟩ := DataW.trod_int Tryd.underlying3 g1
    obtain ⟨x2, e2, _, w2⟩ := DataW.trod_int Tryd.underlying3 g2
    obtain ⟨s3, e3, _, z3⟩ := DataW.trod_string Tryd.underlying9 g3
    obtain ⟨s4, e4, _, z4⟩ := DataW.trod_string Tryd.underlying9 g4
    obtain ⟨x5, e5, _, w5⟩ := DataW.trod_int Tryd.underlying3 g5
    obtain ⟨x6, e6, _, w6⟩ := DataW.trod_int Tryd.underlying3 g6
    simp at e0 e1 e2 e3 e4 e5 e6
    subst e0 e1 e2 e3 e4 e5 e6
    exact ⟨⟨s0, x1, x2, s3, s4, x5, x6⟩, rfl, z3, z4⟩
set_option maxRecDepth 100000 in
/-- a segment by value, opened -/
theorem open_seg {H : Type} {enc : TypeId × Value → H} {W : World} {b0 : Nat} {v : Value} {d : DataW H} {p : List MemPlace} (hv : Value.okWide Tryd.prog W .any b0 24 v) (h : DataW.Trod enc Tryd.prog W 0 (fun _ => true) true 24 v d p) :
    ∃ sv : Sg, v = aggSg sv ∧ sv.f.size ≤ maxLen ∧ sv.t.size ≤ maxLen := by
  obtain ⟨cs, rfl, hsz⟩ := okWide_struct Tryd.underlying24 hv
  obtain ⟨c0, c1, c2, c3, c4, c5, c6, rfl⟩ := array7K (hsz.trans cells_sgK)
  obtain ⟨fuel, hf⟩ := h
  obtain ⟨sv, e, h2⟩ := read_seg hf
  exact ⟨sv, by rw [e], h2⟩
set_option maxRecDepth 100000 in
theorem read_cn {H : Type} {enc : TypeId × Value → H} {W : World} {n : Nat} {c0 c1 c2 c3 : Value} {y : DataW H × List MemPlace} (h : DataW.trod enc Tryd.prog W 0 (fun _ => true) true n 59 [c0, c1, c2, c3] = some y) :
    ∃ x : Cn, [c0, c1, c2, c3] = encCn x ∧ OkCn x := by
  obtain ⟨xs, k, _, _, _, hxl, hf⟩ := DataW.trod_struct Tryd.underlying59 h
  obtain ⟨y0, y1, y2, y3, rfl⟩ := len4 hxl
  all_goals
    have g0 := hf 0 _ rfl
    have g1 := hf 1 _ rfl
    have g2 := hf 2 _ rfl
    have g3 := hf 3 _ rfl
    simp [cells_string, cells_int] at g0 g1 g2 g3
    obtain ⟨s0, e0, _, z0⟩ := DataW.trod_string Tryd.underlying9 g0
    obtain ⟨s1, e1, _, z1⟩ := DataW.trod_string Tryd.underlying9 g1
    obtain ⟨s2, e2, _, z2⟩ := DataW.trod_string Tryd.underlying9 g2
    obtain ⟨x3, e3, _, w3⟩ := DataW.trod_int Tryd.underlying3 g3
    simp at e0 e1 e2 e3
    subst e0 e1 e2 e3
    exact ⟨⟨s0, s1, s2, x3⟩, rfl, ⟨z0, z1, z2⟩⟩

set_option maxRecDepth 100000 in
theorem read_rowK {α : Type} [Inhabited α] {sz : Nat} {enc' : α → List Value} {Ok : α → Prop} {H : Type} {enc : TypeId × Value → H} {W : World} {n : Nat} {v : Value} {y : DataW H × List MemPlace} {ts te : TypeId} (hu : Tryd.prog.underlying ts = some (.slice te)) (hce : Tryd.prog.cellsOf te = sz) (h1 : 0 < sz) (he : ∀ x, (enc' x).length = sz)
    (hread : ∀ m cs yy, cs.length = sz → DataW.trod enc Tryd.prog W 0 (fun _ => true) true m te cs = some yy → ∃ x : α, cs = enc' x ∧ Ok x) (h : DataW.trod enc Tryd.prog W 0 (fun _ => true) true n ts [v] = some y) :
    ∃ (A : Option Addr) (c : Nat) (l : List α), v = .slice A l.length c ∧ RowL sz enc' W (.slice A l.length c) l ∧ (∀ f ∈ l, Ok f) ∧ l.length < 9223372036854775808 := by
  have em : maxLen = 9223372036854775807 := by decide
  rcases Deep.open_slice hu h with ⟨hcs, _⟩ | ⟨a, len, cap, m', n, D, Pl, hcs, _, hl, hm, hmm, _, hx⟩
  · simp at hcs
    exact ⟨none, 0, [], hcs, ⟨none, 0, rfl, .inl rfl⟩, fun a ha => by simp at ha, by simp⟩
  · simp at hcs hmm
    subst hcs hmm
    rcases Nat.eq_zero_or_pos len with h0 | h0
    · exact ⟨some a, m', [], by rw [h0]; rfl, ⟨some a, m', rfl, .inl rfl⟩, fun a ha => by simp at ha, by simp⟩
    obtain ⟨b, off, spot⟩ := a
    obtain ⟨cs0, hc0, _⟩ := hx 0 (by omega)
    have hspot : spot = none := by
      rw [hce] at hc0
      obtain ⟨_, hl0, hcell⟩ := World.cells?_some hc0
      have h1 := hcell 0 (by omega)
      rw [List.getElem?_eq_getElem (by omega)] at h1
      simpa [Addr.add] using World.cell?_spot h1
    subst hspot
    have hadd : ∀ i, (⟨b, off, none⟩ : Addr).add i = ⟨b, off + i, none⟩ := fun i => by unfold Addr.add; split <;> simp_all
    have each : ∀ i, i < len → ∃ x : α, (∀ j u, (enc' x)[j]? = some u → W.cell? ⟨b, off + i * sz + j, none⟩ = some u) ∧ Ok x := fun i hi => by
      obtain ⟨cs', h1, h2⟩ := hx i (by omega)
      rw [hce, hadd] at h1
      obtain ⟨_, hlen, hcell⟩ := World.cells?_some h1
      obtain ⟨x, e, hok⟩ := hread _ _ _ hlen h2
      rw [e] at hcell
      refine ⟨x, fun j u hu => ?_, hok⟩
      have hj : j < sz := by have := (List.getElem?_eq_some_iff.1 hu).1; rw [he] at this; exact this
      have hadd2 : ∀ i, (⟨b, off + i * sz, none⟩ : Addr).add j = ⟨b, off + i * sz + j, none⟩ := fun i => by unfold Addr.add; split <;> simp_all
      have hc2 := hcell j hj
      rw [hadd2] at hc2
      rw [hc2]
      exact hu
    obtain ⟨f, hf⟩ := Deep.choose_lt each
    have el : ((List.range len).map f).length = len := by simp
    have hlt : b < W.heap.size := by
      have h3 := (hf 0 h0).1 0 ((enc' (f 0))[0]'(by rw [he]; exact h1)) (List.getElem?_eq_getElem _)
      exact World.block_lt_of_cell? _ _ h3
    refine ⟨some ⟨b, off, none⟩, m', (List.range len).map f, by rw [el], ⟨some ⟨b, off, none⟩, m', rfl, .inr ⟨b, off, rfl, hlt, fun i x j u hi hu => ?_⟩⟩, fun a ha => ?_, by rw [el]; omega⟩
    · obtain ⟨h1, rfl⟩ := list_at f len i x hi
      exact (hf i h1).1 j u hu
    · obtain ⟨i, hi, rfl⟩ := List.mem_map.1 ha
      exact (hf i (List.mem_range.1 hi)).2
set_option maxRecDepth 100000 in
/-- a list of connecting times by value, opened -/
theorem open_connects {H : Type} {enc : TypeId × Value → H} {W : World} {b0 : Nat} {v : Value} {d : DataW H} {p : List MemPlace} (hv : Value.okWide Tryd.prog W .any b0 22 v) (h : DataW.Trod enc Tryd.prog W 0 (fun _ => true) true 22 v d p) :
    ∃ (A : Option Addr) (c : Nat) (l : List Cn), v = .slice A l.length c ∧ CnL W (.slice A l.length c) l ∧ (∀ x ∈ l, OkCn x) ∧ l.length < 9223372036854775808 := by
  obtain ⟨a, len, cap, rfl⟩ := okWide_slice Tryd.underlying22 hv
  obtain ⟨fuel, hf⟩ := h
  refine read_rowK (enc' := encCn) (Ok := OkCn) Tryd.underlying22 cells_cn (by omega) (fun _ => rfl) (fun m cs yy hl h => ?_) hf
  obtain ⟨c0, c1, c2, c3, rfl⟩ := len4 hl
  exact read_cn h
set_option maxRecDepth 100000 in
/-- a list of segments by value, opened -/
theorem open_segs {H : Type} {enc : TypeId × Value → H} {W : World} {b0 : Nat} {v : Value} {d : DataW H} {p : List MemPlace} (hv : Value.okWide Tryd.prog W .any b0 26 v) (h : DataW.Trod enc Tryd.prog W 0 (fun _ => true) true 26 v d p) :
    ∃ (A : Option Addr) (c : Nat) (l : List Sg), v = .slice A l.length c ∧ SgL W (.slice A l.length c) l ∧ (∀ x ∈ l, x.f.size ≤ maxLen ∧ x.t.size ≤ maxLen) ∧ l.length < 9223372036854775808 := by
  obtain ⟨a, len, cap, rfl⟩ := okWide_slice Tryd.underlying26 hv
  obtain ⟨fuel, hf⟩ := h
  refine read_rowK (enc' := encSg) (Ok := fun x : Sg => x.f.size ≤ maxLen ∧ x.t.size ≤ maxLen) Tryd.underlying26 cells_sgK (by omega) (fun _ => rfl) (fun m cs yy hl h => ?_) hf
  obtain ⟨c0, c1, c2, c3, c4, c5, c6, rfl⟩ := len7K hl
  obtain ⟨sv, e, h2⟩ := read_seg h
  exact ⟨sv, congrArg Array.toList e, h2⟩
end Go.Proofs.YtimemdakmppcnaaDoor

/- Proved here, one card a law: airlinelaw11/ConnectMany return true at every input and leave what they were given as it was. Conditions: those of the given rows alone (the arguments within the form's reach; the listed library variables as their initialisers lay them). -/
namespace Go.Proofs.YtimemdakmppcnaaDoor
open Go.ChangeShapes Go.WideShapes Go.ChangeAt Go.RowKit
open Go.ChangeMaps (open_string shut_string)
set_option linter.unusedSimpArgs false
set_option linter.unusedVariables false

theorem connectMany_params : Tryd.f6.params = #[5, 3] := by kernel_rfl
set_option maxRecDepth 100000 in
theorem connectMany_contract (H : Type) (enc : TypeId × Value → H) (W : World) (base : Nat) (args : Array Value) (ds gs : List (DataW H)) (before : List MemPlace)
    (hval0 : ∀ (j : Nat) t v, Tryd.f6.params[j]? = some t → args[j]? = some v → Value.okWide Tryd.prog W .any base t v)
    (hW : DataW.Whole enc Tryd.prog Tryd.f6.params.toList Rows.connectManySpec.vars false W args.toList ds gs before)
    (hsz0 : (DataW.weightsEach Tryd.prog (Tryd.f6.params.toList ++ Rows.connectManySpec.plain.varTypes Tryd.prog) (ds ++ gs)).all (· ≤ reachBytes) = true) (hL : laidMetH Tryd.prog Rows.connectManyRow.laid W) :
    Calls Tryd.prog 6 args W fun e W' => ∃ v, e = .returned v ∧ Rows.connectManySpec.post enc Tryd.prog Tryd.f6 false true false false W args v W' := by
  have hE : Env W := env_of hL
  have hval := hval0
  have hsz := hsz0
  clear hval0 hsz0
  have hW' := hW
  obtain ⟨p, q, hA0, hV, rfl, hfz, hnd⟩ := hW
  have hA : DataW.TrodAll enc Tryd.prog W 0 (fun _ => true) true Tryd.f6.params.toList args.toList ds p := hA0
  rw [connectMany_params] at hA hval hsz
  obtain ⟨v0, vs0, d0, ds0, p0, q0, hargs, rfl, rfl, h0, r0⟩ := trodAll_cons hA
  obtain ⟨v1, vs1, d1, ds1, p1, q1, rfl, rfl, rfl, h1, r1⟩ := trodAll_cons r0
  obtain ⟨rfl, rfl, rfl⟩ := trodAll_nil r1
  obtain rfl : args = #[v0, v1] := by cases args; simp_all
  obtain ⟨rfl, rfl⟩ := trodVars_none hV
  have k0 := h0
  have lt0 : ∀ x ∈ p0, x.block < W.heap.size := by obtain ⟨m, hm⟩ := k0; exact DataW.trod_lt m _ _ _ hm
  obtain ⟨a0, rfl, rfl, rfl, w0⟩ := open_int Tryd.underlying5 (hval 0 5 v0 rfl rfl) h0
  have b0 := u8_bounds w0
  have k1 := h1
  have lt1 : ∀ x ∈ p1, x.block < W.heap.size := by obtain ⟨m, hm⟩ := k1; exact DataW.trod_lt m _ _ _ hm
  obtain ⟨a1, rfl, rfl, rfl, w1⟩ := open_int Tryd.underlying3 (hval 1 3 v1 rfl rfl) h1
  have b1 := int_bounds w1
  clear hA0 hval hsz
  refine (Con.connectMany_walk a0 a1 W b0).mono fun e W' ⟨he, bel⟩ => ?_
  subst he
  exact ⟨_, rfl, _, _, _, [], _, [], hW', trodAll_mk1 (shut_bool Tryd.underlying4 _), (trodAll_cons_mk (Below.trod laidOut (by kernel_rfl) (of_decide_eq_true (by kernel_rfl)) k0 bel lt0) (trodAll_cons_mk (Below.trod laidOut (by kernel_rfl) (of_decide_eq_true (by kernel_rfl)) k1 bel lt1) (trodAll_mk0))), rfl, bel.frame _, fun h => by cases h⟩
theorem connectMany_reads (os : Os) {H : Type} (enc : TypeId × Value → H) : ∃ places, DataW.whole enc Tryd.prog ((laidWorld os).forCall (fun _ _ => 0) ⟨#[], #[.int .u8 0, .int .i64 0], []⟩).memory Tryd.f6.params.toList Rows.connectManySpec.vars false (#[.int .u8 0, .int .i64 0] : Array Value).toList 8 = some ([.lit (.int .u8 0), .lit (.int .i64 0)], [], places) :=
  ⟨[], by kernel_rfl⟩
set_option maxRecDepth 100000 in
theorem connectMany_lifted (os : Os) (started : os.Started) (H : Type) (enc : TypeId × Value → H) (F : Stop.Interp) :
    ReturnsInHanded {} Tryd.checked os 6 .any ((OpenSpec.ofChange Rows.connectManySpec).preRow enc Tryd.prog Tryd.f6 Rows.connectManyRow.domain false Rows.connectManyRow.laid) (((OpenSpec.ofChange Rows.connectManySpec).at F).post enc Tryd.prog Tryd.f6 false true false false) := by
  obtain ⟨places, hx⟩ := connectMany_reads os enc
  refine returnsInHanded_of_row (C := Tryd.checked) (s := (OpenSpec.ofChange Rows.connectManySpec)) own started (by kernel_rfl) Tryd.func6
    (witness_row_atRef (enc := enc) (C := Tryd.checked) false (laidWorld os) #[.int .u8 0, .int .i64 0] rfl (by kernel_rfl) (by kernel_rfl) (by kernel_rfl)
      (OpenSpec.preRow_of_cond 8 hx (by kernel_rfl) (fun k hk => by cases hk) (by kernel_rfl) (laidWorld_met os _))) ?_
  intro W base args ds gs before hval hW _ _ hsz hL _ _
  exact connectMany_contract H enc W base args ds gs before hval hW hsz hL
theorem connectMany_said : Rows.ConnectManySaid :=
  OpenClaim.holds_of_cond 6 Tryd.f6 rfl rfl rfl rfl rfl rfl rfl ⟨rfl, rfl, rfl, rfl, rfl⟩ rfl rfl rfl rfl rfl (by kernel_rfl) Tryd.func6 (by kernel_rfl)
    (of_decide_eq_true (by kernel_rfl)) (by unfold Func.isWrapper; first | (rw [if_pos (by decide +kernel)]; kernel_rfl) | (rw [if_neg (by decide +kernel)]; exact ⟨rfl, rfl⟩))
    (fun os started H enc _ F => by rw [OpenClaim.pre_eq_preRow]; exact connectMany_lifted os started H enc F)
theorem connectMany_plain (f : FuncId) (fn : Func) (hf : Tryd.pinned.checked.prog.funcNamed "airline/airlinelaw11.ConnectMany" = some f) (hfn : Tryd.pinned.checked.prog.funcs[f]? = some fn) :
    false = Tryd.pinned.checked.prog.looks [] ∧ ∀ (j : Nat) t, fn.params[j]? = some t → Tryd.pinned.checked.prog.wantsStandIn t = false := by
  obtain rfl : f = 6 := Option.some.inj ((show Tryd.prog.funcNamed "airline/airlinelaw11.ConnectMany" = some 6 by kernel_rfl).symm.trans hf) |>.symm
  obtain rfl : fn = Tryd.f6 := (Option.some.inj (Tryd.func6.symm.trans hfn)).symm
  refine ⟨by kernel_rfl, fun j t ht => ?_⟩
  rw [connectMany_params] at ht
  have h := Array.mem_of_getElem? ht
  simp only [List.mem_toArray, List.mem_cons, List.not_mem_nil, or_false] at h
  rcases h with rfl | rfl
  · exact (show Tryd.prog.wantsStandIn 5 = false by kernel_rfl)
  · exact (show Tryd.prog.wantsStandIn 3 = false by kernel_rfl)
/-- the card -/
theorem connectMany_card : Rows.ConnectManyCardSaid :=
  Claim7.holds_tied_plain_at .later [] _ _ _ _ connectMany_said (fun _ h => by cases h) (by kernel_rfl) (fun _ h => by cases h) connectMany_row_tie rfl ⟨rfl, rfl⟩ (by kernel_rfl) rfl connectMany_plain (by kernel_rfl)

end Go.Proofs.YtimemdakmppcnaaDoor
