/- Words and walks that the laws below ask: FliF, FliG, PerP, PerA, PerB, PerC, PerD, PerM. -/
import Derived.Test.YtfgmlbmjjihhfaaGreatDoorRows
import Derived.OwnWalk
import Derived.IntWalk
import Derived.Deep.QuietTactic
import Derived.BigQuiet
import Derived.Deep.RegionHeld3
import Derived.RangeFuncNested
import Derived.RangeFuncBound
import Derived.RangeFuncCalls
import Derived.RangeFuncLeaves
import Derived.Shelf.Abstract
import Derived.Shelf.RegionOpen
import Derived.WalkKit
import Derived.OwnWalkIn
import Derived.TacticsInMore
import Derived.LoopNIn
import Derived.LoopIn
import Derived.Maps.AppendAt
import Derived.Sort.QuietIn
import Derived.Sort.BigQuietIn
import Derived.Deep.AppendLies
import Derived.Test.YtfgmlbmjjihhfaaGreatDoorPk1
import Derived.Test.YtfgmlbmjjihhfaaGreatDoorPk3
/- Walks of the comparisons of legs and of flights: slices.Equal, SameLegs. -/
namespace Go.Proofs.YtfgmlbmjjihhfaaGreatDoor
open Go.RowKit Go.Shelf
set_option linter.unusedSimpArgs false
set_option linter.unusedVariables false

def eqLg (x y : Lg) : Bool := (x.f.toList == y.f.toList) && ((x.t.toList == y.t.toList) && (decide (x.dep = y.dep) && (decide (x.arr = y.arr) && (x.eq.toList == y.eq.toList))))
def sameL : List Lg → List Lg → Bool
  | [], [] => true
  | x :: l, y :: m => eqLg x y && sameL l m
  | _, _ => false
theorem sameL_len : ∀ (l m : List Lg), l.length ≠ m.length → sameL l m = false
  | [], [], h => absurd rfl h
  | [], _ :: _, _ => rfl
  | _ :: _, [], _ => rfl
  | x :: l, y :: m, h => by simp only [sameL]; rw [sameL_len l m (by simpa using h), Bool.and_false]
theorem eqLg_refl (x : Lg) : eqLg x x = true := by simp [eqLg]
theorem sameL_refl : ∀ l : List Lg, sameL l l = true
  | [] => rfl
  | x :: l => by simp only [sameL]; rw [eqLg_refl, sameL_refl l]; rfl
theorem sameL_drop (l m : List Lg) {k : Nat} {x y : Lg} (hx : l[k]? = some x) (hy : m[k]? = some y) : sameL (l.drop k) (m.drop k) = (eqLg x y && sameL (l.drop (k + 1)) (m.drop (k + 1))) := by
  obtain ⟨hk, e⟩ := List.getElem?_eq_some_iff.1 hx
  obtain ⟨hk', e'⟩ := List.getElem?_eq_some_iff.1 hy
  rw [List.drop_eq_getElem_cons hk, List.drop_eq_getElem_cons hk', e, e']
  rfl

set_option maxRecDepth 100000 in
set_option maxHeartbeats 4000000 in
theorem sameLegs_any (u v : Value) (l m : List Lg) (w : World) (hu : LegL w u l) (hv : LegL w v m) (hl : l.length ≤ 1000) (hm : m.length ≤ 1000) :
    Calls Tryz.prog 92 #[u, v] w fun e w' => e = .returned (.bool (sameL l m)) ∧ Below w.heap.size w w' := by
  obtain ⟨A, c, rfl, hA⟩ := hu
  obtain ⟨A', c', rfl, hA'⟩ := hv
  have hL : LegL w (.slice A l.length c) l := ⟨A, c, rfl, hA⟩
  have hL' : LegL w (.slice A' m.length c') m := ⟨A', c', rfl, hA'⟩
  clear hA hA'
  by_cases hlen : l.length = m.length
  · have HM : Hid (l.length = m.length) := Lib.hid hlen
    have hq : ((l.length : Int) != (m.length : Int)) = false := by rw [hlen]; simp
    clear hlen
    go_enter Tryz.func92, Tryz.ntmps92
    go_wp2
    go_loopw [5] (fun vi wr => ∃ k : Nat, k ≤ l.length ∧ vi = .int .i64 k ∧ Hid (sameL l m = sameL (l.drop k) (m.drop k)) ∧ SW w wr) (fun vi _ => l.length - (intOf vi).toNat)
    case atStart => exact ⟨0, Nat.zero_le _, rfl, Lib.hid rfl, Below.refl _ _⟩
    case round =>
      obtain ⟨k, hk, rfl, HK, hS⟩ := hrel
      by_cases hlt : k < l.length
      · obtain ⟨b, o, x, rfl, _, hx, c0, c1, c2, c3, c4⟩ := LegL.get (hL.more hS) hlt
        obtain ⟨b', o', y, rfl, _, hy, d0, d1, d2, d3, d4⟩ := LegL.get (hL'.more hS) (show k < m.length by have := HM.out; omega)
        have i2 : (k : Int) < (l.length : Int) := by omega
        have i3 : (k : Int) < (m.length : Int) := by have := HM.out; omega
        have HK2 := Lib.hid (HK.out.trans (sameL_drop l m hx hy))
        have f0 := SW.cell c0
        have f1 := SW.cell c1
        have f2 := SW.cell c2
        have f3 := SW.cell c3
        have f4 := SW.cell c4
        have g0 := SW.cell d0
        have g1 := SW.cell d1
        have g2 := SW.cell d2
        have g3 := SW.cell d3
        have g4 := SW.cell d4
        clear hx hy c0 c1 c2 c3 c4 d0 d1 d2 d3 d4 HK
        cases h1 : x.f.toList == y.f.toList
        · skip
          have HR : Hid (sameL l m = false) := Lib.hid (by rw [HK2.out]; unfold eqLg; simp [h1])
          clear HK2
          go_wp2
          have hNe : Nonempty (Wd (SW wr)) := ⟨⟨_, SW.drew _⟩⟩
          refine quietS (S := SW wr) (by kernel_rfl) (by kernel_rfl) (SW.drew _) ?_
          repeat (first | go_big_quiet_skip | (go_big_quiet_want; go_big_quiet_op; first | go_big_quiet_on | go_big_quiet_call ((fail))))
          refine wpQuiet_nil ?_
          rintro W ⟨⟨_, hW⟩, rfl⟩
          go_wp2
          go_ret
          exact ⟨ret_bool HR.out.symm, Below.trans hS (Below.mono hW hS.size)⟩
        · skip
          cases h2 : x.t.toList == y.t.toList
          · skip
            have HR : Hid (sameL l m = false) := Lib.hid (by rw [HK2.out]; unfold eqLg; simp [h1, h2])
            clear HK2
            go_wp2
            have hNe : Nonempty (Wd (SW wr)) := ⟨⟨_, SW.drew _⟩⟩
            refine quietS (S := SW wr) (by kernel_rfl) (by kernel_rfl) (SW.drew _) ?_
            repeat (first | go_big_quiet_skip | (go_big_quiet_want; go_big_quiet_op; first | go_big_quiet_on | go_big_quiet_call ((fail))))
            refine wpQuiet_nil ?_
            rintro W ⟨⟨_, hW⟩, rfl⟩
            go_wp2
            go_ret
            exact ⟨ret_bool HR.out.symm, Below.trans hS (Below.mono hW hS.size)⟩
          · skip
            by_cases h3 : x.dep = y.dep
            · have h3b : (x.dep == y.dep) = true := beq_iff_eq.2 h3
              by_cases h4 : x.arr = y.arr
              · have h4b : (x.arr == y.arr) = true := beq_iff_eq.2 h4
                cases h5 : x.eq.toList == y.eq.toList
                · skip
                  have HR : Hid (sameL l m = false) := Lib.hid (by rw [HK2.out]; unfold eqLg; simp [h1, h2, h3, h4, h5])
                  clear HK2
                  go_wp2
                  have hNe : Nonempty (Wd (SW wr)) := ⟨⟨_, SW.drew _⟩⟩
                  refine quietS (S := SW wr) (by kernel_rfl) (by kernel_rfl) (SW.drew _) ?_
                  repeat (first | go_big_quiet_skip | (go_big_quiet_want; go_big_quiet_op; first | go_big_quiet_on | go_big_quiet_call ((fail))))
                  refine wpQuiet_nil ?_
                  rintro W ⟨⟨_, hW⟩, rfl⟩
                  go_wp2
                  go_ret
                  exact ⟨ret_bool HR.out.symm, Below.trans hS (Below.mono hW hS.size)⟩
                · skip
                  have HR : Hid (sameL l m = sameL (l.drop (k + 1)) (m.drop (k + 1))) := Lib.hid (by rw [HK2.out, show eqLg x y = true by unfold eqLg; simp [h1, h2, h3, h4, h5], Bool.true_and])
                  clear HK2
                  go_wp2
                  have hNe : Nonempty (Wd (SW wr)) := ⟨⟨_, SW.drew _⟩⟩
                  refine quietS (S := SW wr) (by kernel_rfl) (by kernel_rfl) (SW.drew _) ?_
                  repeat (first | go_big_quiet_skip | (go_big_quiet_want; go_big_quiet_op; first | go_big_quiet_on | go_big_quiet_call ((fail))))
                  refine wpQuiet_nil ?_
                  rintro W ⟨⟨_, hW⟩, rfl⟩
                  go_wp2
                  go_roundw
                  case rel => exact ⟨k + 1, by omega, by go_num, HR, Below.trans hS (Below.mono hW hS.size)⟩
                  case measure => simp [intOf]; omega
              · have h4b : (x.arr == y.arr) = false := beq_eq_false_iff_ne.2 h4
                have HR : Hid (sameL l m = false) := Lib.hid (by rw [HK2.out]; unfold eqLg; simp [h1, h2, h3, h4])
                clear HK2
                go_wp2
                have hNe : Nonempty (Wd (SW wr)) := ⟨⟨_, SW.drew _⟩⟩
                refine quietS (S := SW wr) (by kernel_rfl) (by kernel_rfl) (SW.drew _) ?_
                repeat (first | go_big_quiet_skip | (go_big_quiet_want; go_big_quiet_op; first | go_big_quiet_on | go_big_quiet_call ((fail))))
                refine wpQuiet_nil ?_
                rintro W ⟨⟨_, hW⟩, rfl⟩
                go_wp2
                go_ret
                exact ⟨ret_bool HR.out.symm, Below.trans hS (Below.mono hW hS.size)⟩
            · have h3b : (x.dep == y.dep) = false := beq_eq_false_iff_ne.2 h3
              have HR : Hid (sameL l m = false) := Lib.hid (by rw [HK2.out]; unfold eqLg; simp [h1, h2, h3])
              clear HK2
              go_wp2
              have hNe : Nonempty (Wd (SW wr)) := ⟨⟨_, SW.drew _⟩⟩
              refine quietS (S := SW wr) (by kernel_rfl) (by kernel_rfl) (SW.drew _) ?_
              repeat (first | go_big_quiet_skip | (go_big_quiet_want; go_big_quiet_op; first | go_big_quiet_on | go_big_quiet_call ((fail))))
              refine wpQuiet_nil ?_
              rintro W ⟨⟨_, hW⟩, rfl⟩
              go_wp2
              go_ret
              exact ⟨ret_bool HR.out.symm, Below.trans hS (Below.mono hW hS.size)⟩
      · have HR : Hid (sameL l m = true) := Lib.hid (by
          rw [HK.out, List.drop_of_length_le (by omega), List.drop_of_length_le (by have := HM.out; omega)]
          rfl)
        go_wp2
        go_ret
        exact ⟨ret_bool HR.out.symm, hS⟩
  · have HR : Hid (sameL l m = false) := Lib.hid (sameL_len l m hlen)
    have hq : ((l.length : Int) != (m.length : Int)) = true := by simp; omega
    clear hlen
    go_enter Tryz.func92, Tryz.ntmps92
    go_wp2
    go_ret
    exact ⟨ret_bool HR.out.symm, Below.refl _ _⟩

set_option maxRecDepth 100000 in
set_option maxHeartbeats 4000000 in
theorem equalL_any (u v : Value) (l m : List Lg) (w : World) (hu : LegL w u l) (hv : LegL w v m) (hl : l.length ≤ 1000) (hm : m.length ≤ 1000) :
    Calls Tryz.prog 107 #[u, v] w fun e w' => e = .returned (.bool (sameL l m)) ∧ Below w.heap.size w w' := by
  obtain ⟨A, c, rfl, hA⟩ := hu
  obtain ⟨A', c', rfl, hA'⟩ := hv
  have hL : LegL w (.slice A l.length c) l := ⟨A, c, rfl, hA⟩
  have hL' : LegL w (.slice A' m.length c') m := ⟨A', c', rfl, hA'⟩
  clear hA hA'
  by_cases hlen : l.length = m.length
  · have HM : Hid (l.length = m.length) := Lib.hid hlen
    have hq : ((l.length : Int) != (m.length : Int)) = false := by rw [hlen]; simp
    clear hlen
    go_enter Tryz.func107, Tryz.ntmps107
    go_wp2
    go_loopw [13] (fun vi wr => ∃ k : Nat, k ≤ l.length ∧ vi = .int .i64 k ∧ Hid (sameL l m = sameL (l.drop k) (m.drop k)) ∧ SW w wr) (fun vi _ => l.length - (intOf vi).toNat)
    case atStart => exact ⟨0, Nat.zero_le _, rfl, Lib.hid rfl, Below.refl _ _⟩
    case round =>
      obtain ⟨k, hk, rfl, HK, hS⟩ := hrel
      by_cases hlt : k < l.length
      · obtain ⟨b, o, x, rfl, _, hx, c0, c1, c2, c3, c4⟩ := LegL.get (hL.more hS) hlt
        obtain ⟨b', o', y, rfl, _, hy, d0, d1, d2, d3, d4⟩ := LegL.get (hL'.more hS) (show k < m.length by have := HM.out; omega)
        have i2 : (k : Int) < (l.length : Int) := by omega
        have i3 : (k : Int) < (m.length : Int) := by have := HM.out; omega
        have HK2 := Lib.hid (HK.out.trans (sameL_drop l m hx hy))
        have f0 := SW.cell c0
        have f1 := SW.cell c1
        have f2 := SW.cell c2
        have f3 := SW.cell c3
        have f4 := SW.cell c4
        have g0 := SW.cell d0
        have g1 := SW.cell d1
        have g2 := SW.cell d2
        have g3 := SW.cell d3
        have g4 := SW.cell d4
        clear hx hy c0 c1 c2 c3 c4 d0 d1 d2 d3 d4 HK
        cases h1 : x.f.toList == y.f.toList
        · skip
          have HR : Hid (sameL l m = false) := Lib.hid (by rw [HK2.out]; unfold eqLg; simp [h1])
          clear HK2
          go_wp2
          have hNe : Nonempty (Wd (SW wr)) := ⟨⟨_, SW.drew _⟩⟩
          refine quietS (S := SW wr) (by kernel_rfl) (by kernel_rfl) (SW.drew _) ?_
          repeat (first | go_big_quiet_skip | (go_big_quiet_want; go_big_quiet_op; first | go_big_quiet_on | go_big_quiet_call ((fail))))
          refine wpQuiet_nil ?_
          rintro W ⟨⟨_, hW⟩, rfl⟩
          go_wp2
          go_ret
          exact ⟨ret_bool HR.out.symm, Below.trans hS (Below.mono hW hS.size)⟩
        · skip
          cases h2 : x.t.toList == y.t.toList
          · skip
            have HR : Hid (sameL l m = false) := Lib.hid (by rw [HK2.out]; unfold eqLg; simp [h1, h2])
            clear HK2
            go_wp2
            have hNe : Nonempty (Wd (SW wr)) := ⟨⟨_, SW.drew _⟩⟩
            refine quietS (S := SW wr) (by kernel_rfl) (by kernel_rfl) (SW.drew _) ?_
            repeat (first | go_big_quiet_skip | (go_big_quiet_want; go_big_quiet_op; first | go_big_quiet_on | go_big_quiet_call ((fail))))
            refine wpQuiet_nil ?_
            rintro W ⟨⟨_, hW⟩, rfl⟩
            go_wp2
            go_ret
            exact ⟨ret_bool HR.out.symm, Below.trans hS (Below.mono hW hS.size)⟩
          · skip
            by_cases h3 : x.dep = y.dep
            · have h3b : (x.dep == y.dep) = true := beq_iff_eq.2 h3
              by_cases h4 : x.arr = y.arr
              · have h4b : (x.arr == y.arr) = true := beq_iff_eq.2 h4
                cases h5 : x.eq.toList == y.eq.toList
                · skip
                  have HR : Hid (sameL l m = false) := Lib.hid (by rw [HK2.out]; unfold eqLg; simp [h1, h2, h3, h4, h5])
                  clear HK2
                  go_wp2
                  have hNe : Nonempty (Wd (SW wr)) := ⟨⟨_, SW.drew _⟩⟩
                  refine quietS (S := SW wr) (by kernel_rfl) (by kernel_rfl) (SW.drew _) ?_
                  repeat (first | go_big_quiet_skip | (go_big_quiet_want; go_big_quiet_op; first | go_big_quiet_on | go_big_quiet_call ((fail))))
                  refine wpQuiet_nil ?_
                  rintro W ⟨⟨_, hW⟩, rfl⟩
                  go_wp2
                  go_ret
                  exact ⟨ret_bool HR.out.symm, Below.trans hS (Below.mono hW hS.size)⟩
                · skip
                  have HR : Hid (sameL l m = sameL (l.drop (k + 1)) (m.drop (k + 1))) := Lib.hid (by rw [HK2.out, show eqLg x y = true by unfold eqLg; simp [h1, h2, h3, h4, h5], Bool.true_and])
                  clear HK2
                  go_wp2
                  have hNe : Nonempty (Wd (SW wr)) := ⟨⟨_, SW.drew _⟩⟩
                  refine quietS (S := SW wr) (by kernel_rfl) (by kernel_rfl) (SW.drew _) ?_
                  repeat (first | go_big_quiet_skip | (go_big_quiet_want; go_big_quiet_op; first | go_big_quiet_on | go_big_quiet_call ((fail))))
                  refine wpQuiet_nil ?_
                  rintro W ⟨⟨_, hW⟩, rfl⟩
                  go_wp2
                  go_roundw
                  case rel => exact ⟨k + 1, by omega, by go_num, HR, Below.trans hS (Below.mono hW hS.size)⟩
                  case measure => simp [intOf]; omega
              · have h4b : (x.arr == y.arr) = false := beq_eq_false_iff_ne.2 h4
                have HR : Hid (sameL l m = false) := Lib.hid (by rw [HK2.out]; unfold eqLg; simp [h1, h2, h3, h4])
                clear HK2
                go_wp2
                have hNe : Nonempty (Wd (SW wr)) := ⟨⟨_, SW.drew _⟩⟩
                refine quietS (S := SW wr) (by kernel_rfl) (by kernel_rfl) (SW.drew _) ?_
                repeat (first | go_big_quiet_skip | (go_big_quiet_want; go_big_quiet_op; first | go_big_quiet_on | go_big_quiet_call ((fail))))
                refine wpQuiet_nil ?_
                rintro W ⟨⟨_, hW⟩, rfl⟩
                go_wp2
                go_ret
                exact ⟨ret_bool HR.out.symm, Below.trans hS (Below.mono hW hS.size)⟩
            · have h3b : (x.dep == y.dep) = false := beq_eq_false_iff_ne.2 h3
              have HR : Hid (sameL l m = false) := Lib.hid (by rw [HK2.out]; unfold eqLg; simp [h1, h2, h3])
              clear HK2
              go_wp2
              have hNe : Nonempty (Wd (SW wr)) := ⟨⟨_, SW.drew _⟩⟩
              refine quietS (S := SW wr) (by kernel_rfl) (by kernel_rfl) (SW.drew _) ?_
              repeat (first | go_big_quiet_skip | (go_big_quiet_want; go_big_quiet_op; first | go_big_quiet_on | go_big_quiet_call ((fail))))
              refine wpQuiet_nil ?_
              rintro W ⟨⟨_, hW⟩, rfl⟩
              go_wp2
              go_ret
              exact ⟨ret_bool HR.out.symm, Below.trans hS (Below.mono hW hS.size)⟩
      · have HR : Hid (sameL l m = true) := Lib.hid (by
          rw [HK.out, List.drop_of_length_le (by omega), List.drop_of_length_le (by have := HM.out; omega)]
          rfl)
        go_wp2
        go_ret
        exact ⟨ret_bool HR.out.symm, hS⟩
  · have HR : Hid (sameL l m = false) := Lib.hid (sameL_len l m hlen)
    have hq : ((l.length : Int) != (m.length : Int)) = true := by simp; omega
    clear hlen
    go_enter Tryz.func107, Tryz.ntmps107
    go_wp2
    go_ret
    exact ⟨ret_bool HR.out.symm, Below.refl _ _⟩

end Go.Proofs.YtfgmlbmjjihhfaaGreatDoor

/- Walks of Same, of the program and of the reference. -/
namespace Go.Proofs.YtfgmlbmjjihhfaaGreatDoor
open Go.RowKit Go.Shelf
set_option linter.unusedSimpArgs false
set_option linter.unusedVariables false

def sameB (a b : FV) : Bool := (a.car.toList == b.car.toList) && ((a.num == b.num) && ((a.pf == b.pf) && ((a.pt == b.pt) && ((a.pd == b.pd) && sameL a.lg b.lg))))
theorem sameB_refl (a : FV) : sameB a a = true := by simp [sameB, sameL_refl]

set_option maxRecDepth 100000 in
set_option maxHeartbeats 4000000 in
theorem rsame_any7 (a b : FV) (w : World) (ha : LegL w (.slice a.A a.lg.length a.c) a.lg) (hb : LegL w (.slice b.A b.lg.length b.c) b.lg) (hl : a.lg.length ≤ 1000) (hm : b.lg.length ≤ 1000) :
    Calls Tryz.prog 31 #[encFl a, encFl b] w fun e w' => e = .returned (.bool (sameB a b)) ∧ Below w.heap.size w w' := by
  have hb0 : Below w.heap.size w ((w.alloc (.cells #[.string a.car, .int .i64 a.num, .int .i64 a.pf, .int .i64 a.pt, .int .i64 a.pd, .slice a.A a.lg.length a.c] fliT)).alloc (.cells #[.string b.car, .int .i64 b.num, .int .i64 b.pf, .int .i64 b.pt, .int .i64 b.pd, .slice b.A b.lg.length b.c] fliT)) :=
    ((Below.refl _ w).alloc (Nat.le_refl _) _).alloc (by simp) _
  have HC := Lib.hid (sameLegs_any _ _ a.lg b.lg _ (ha.more hb0) (hb.more hb0) hl hm)
  clear ha hb
  go_enter Tryz.func31, Tryz.ntmps31
  cases h1 : a.car.toList == b.car.toList
  · skip
    have HR : Hid (sameB a b = false) := Lib.hid (by unfold sameB; simp only [h1, Bool.false_and, Bool.true_and])
    clear HC
    go_wp2
    go_ret
    exact ⟨ret_bool HR.out.symm, hb0⟩
  · skip
    cases h2 : (a.num == b.num)
    · skip
      have HR : Hid (sameB a b = false) := Lib.hid (by unfold sameB; simp only [h1, h2, Bool.false_and, Bool.true_and])
      clear HC
      go_wp2
      go_ret
      exact ⟨ret_bool HR.out.symm, hb0⟩
    · skip
      cases h3 : (a.pf == b.pf)
      · skip
        have HR : Hid (sameB a b = false) := Lib.hid (by unfold sameB; simp only [h1, h2, h3, Bool.false_and, Bool.true_and])
        clear HC
        go_wp2
        go_ret
        exact ⟨ret_bool HR.out.symm, hb0⟩
      · skip
        cases h4 : (a.pt == b.pt)
        · skip
          have HR : Hid (sameB a b = false) := Lib.hid (by unfold sameB; simp only [h1, h2, h3, h4, Bool.false_and, Bool.true_and])
          clear HC
          go_wp2
          go_ret
          exact ⟨ret_bool HR.out.symm, hb0⟩
        · skip
          cases h5 : (a.pd == b.pd)
          · skip
            have HR : Hid (sameB a b = false) := Lib.hid (by unfold sameB; simp only [h1, h2, h3, h4, h5, Bool.false_and, Bool.true_and])
            clear HC
            go_wp2
            go_ret
            exact ⟨ret_bool HR.out.symm, hb0⟩
          · skip
            have HR : Hid (sameB a b = sameL a.lg b.lg) := Lib.hid (by unfold sameB; simp only [h1, h2, h3, h4, h5, Bool.false_and, Bool.true_and])
            go_wp2_with (first | (go_at_call 92; refine HC.out.mono ?_; rintro e w' ⟨rfl, hb'⟩))
            go_ret
            exact ⟨ret_bool HR.out.symm, hb0.trans (Below.mono hb' hb0.size)⟩

end Go.Proofs.YtfgmlbmjjihhfaaGreatDoor

/- Plain facts on periods: sets of days as ascending lists; nothing of the program. -/
namespace Go.Proofs.YtfgmlbmjjihhfaaGreatDoor.Per
set_option linter.unusedSimpArgs false
set_option linter.unusedVariables false

abbrev Per := Int × Int × Int
def okQ (p : Per) : Bool := decide (0 ≤ p.1 ∧ p.1 ≤ p.2.1 ∧ p.2.1 < 36525 ∧ p.2.1 - p.1 < 800 ∧ 1 ≤ p.2.2 ∧ p.2.2 ≤ 127)
def errQ (p : Per) : Int := if p.1 < 0 ∨ p.2.1 < p.1 ∨ 36525 ≤ p.2.1 then 12 else if 800 ≤ p.2.1 - p.1 then 4 else if p.2.2 < 1 ∨ 127 < p.2.2 then 2 else 0
theorem okQ_yes {p : Per} (h : okQ p = true) : 0 ≤ p.1 ∧ p.1 ≤ p.2.1 ∧ p.2.1 < 36525 ∧ p.2.1 - p.1 < 800 ∧ 1 ≤ p.2.2 ∧ p.2.2 ≤ 127 := by simpa [okQ] using h
theorem okQ_mk {p : Per} (h : 0 ≤ p.1 ∧ p.1 ≤ p.2.1 ∧ p.2.1 < 36525 ∧ p.2.1 - p.1 < 800 ∧ 1 ≤ p.2.2 ∧ p.2.2 ≤ 127) : okQ p = true := by simpa [okQ] using h
theorem errQ_ok {p : Per} (h : okQ p = true) : errQ p = 0 := by
  have := okQ_yes h
  rw [errQ, if_neg (by omega), if_neg (by omega), if_neg (by omega)]
theorem errQ_no {p : Per} (h : okQ p = false) : errQ p ≠ 0 := by
  intro e
  have : okQ p = true := by
    unfold errQ at e
    split at e
    · omega
    · split at e
      · omega
      · split at e
        · omega
        · exact okQ_mk (by omega)
  rw [h] at this
  cases this
theorem errQ_two {p : Per} (h : okQ p = false) : (errQ p == 0) = false := beq_eq_false_iff_ne.2 (errQ_no h)

/-- the place of a day's weekday -/
def wkN (n : Int) : Nat := ((n + 5) % 7).toNat
theorem wkN_lt (n : Int) : wkN n < 7 := by unfold wkN; omega
theorem wkN_int (n : Int) : ((wkN n : Nat) : Int) = (n + 5) % 7 := by unfold wkN; omega
theorem wkN_week (n : Int) : wkN (n + 7) = wkN n := by unfold wkN; omega
def wdB (d : Int) (n : Int) : Bool := d.toNat.testBit (wkN n)
def hasQ (p : Per) (n : Int) : Bool := okQ p && (decide (p.1 ≤ n) && (decide (n ≤ p.2.1) && wdB p.2.2 n))
theorem hasQ_iff (p : Per) (n : Int) : hasQ p n = true ↔ okQ p = true ∧ p.1 ≤ n ∧ n ≤ p.2.1 ∧ wdB p.2.2 n = true := by simp [hasQ]

/-! ### lists that ascend -/
def Asc (l : List Int) : Prop := l.Pairwise (· < ·)
theorem asc_ext : ∀ {l m : List Int}, Asc l → Asc m → (∀ n, n ∈ l ↔ n ∈ m) → l = m
  | [], [], _, _, _ => rfl
  | [], y :: m, _, _, h => by have := (h y).2 (by simp); simp at this
  | x :: l, [], _, _, h => by have := (h x).1 (by simp); simp at this
  | x :: l, y :: m, hl, hm, h => by
    have hl' := List.pairwise_cons.1 hl
    have hm' := List.pairwise_cons.1 hm
    have e : x = y := by
      have h1 := (h x).1 (by simp)
      have h2 := (h y).2 (by simp)
      rcases List.mem_cons.1 h1 with e | h1
      · exact e
      · rcases List.mem_cons.1 h2 with e | h2
        · exact e.symm
        · have := hl'.1 y h2; have := hm'.1 x h1; omega
    subst e
    congr 1
    refine asc_ext hl'.2 hm'.2 fun n => ⟨fun hn => ?_, fun hn => ?_⟩
    · rcases List.mem_cons.1 ((h n).1 (List.mem_cons_of_mem _ hn)) with e | h2
      · subst e; have := hl'.1 n hn; omega
      · exact h2
    · rcases List.mem_cons.1 ((h n).2 (List.mem_cons_of_mem _ hn)) with e | h2
      · subst e; have := hm'.1 n hn; omega
      · exact h2
theorem asc_filter {l : List Int} (h : Asc l) (q : Int → Bool) : Asc (l.filter q) := List.Pairwise.filter q h

/-- k days from f on -/
def fromR (f : Int) (k : Nat) : List Int := (List.range k).map fun (i : Nat) => f + (i : Int)
theorem fromR_succ (f : Int) (k : Nat) : fromR f (k + 1) = fromR f k ++ [f + (k : Int)] := by simp [fromR, List.range_succ]
theorem fromR_length (f : Int) (k : Nat) : (fromR f k).length = k := by simp [fromR]
theorem fromR_mem (f : Int) (k : Nat) (n : Int) : n ∈ fromR f k ↔ f ≤ n ∧ n < f + k := by
  simp only [fromR, List.mem_map, List.mem_range]
  constructor
  · rintro ⟨i, hi, rfl⟩; omega
  · rintro ⟨h1, h2⟩; exact ⟨(n - f).toNat, by omega, by omega⟩
theorem fromR_asc (f : Int) (k : Nat) : Asc (fromR f k) := by
  unfold Asc fromR
  rw [List.pairwise_map]
  exact List.pairwise_lt_range.imp (by intro a b h; omega)

/-- the days of a set: the first k days looked at; all -/
def daysTo (p : Per) (k : Nat) : List Int := (fromR p.1 k).filter fun n => wdB p.2.2 n
def lenQ (p : Per) : Nat := (p.2.1 - p.1 + 1).toNat
def daysQ (p : Per) : List Int := if okQ p then daysTo p (lenQ p) else []
theorem daysTo_zero (p : Per) : daysTo p 0 = [] := rfl
theorem daysTo_hit (p : Per) (k : Nat) (h : wdB p.2.2 (p.1 + k) = true) : daysTo p (k + 1) = daysTo p k ++ [p.1 + (k : Int)] := by
  rw [daysTo, fromR_succ, List.filter_append]; simp [daysTo, h]
theorem daysTo_miss (p : Per) (k : Nat) (h : wdB p.2.2 (p.1 + k) = false) : daysTo p (k + 1) = daysTo p k := by
  rw [daysTo, fromR_succ, List.filter_append]; simp [daysTo, h]
theorem daysTo_len (p : Per) (k : Nat) : (daysTo p k).length ≤ k := by
  have := List.length_filter_le (fun n => wdB p.2.2 n) (fromR p.1 k)
  rw [fromR_length] at this
  exact this
theorem daysQ_yes {p : Per} (h : okQ p = true) : daysQ p = daysTo p (lenQ p) := by rw [daysQ, if_pos h]
theorem daysQ_no {p : Per} (h : okQ p = false) : daysQ p = [] := by rw [daysQ, if_neg (by simp [h])]
theorem daysQ_mem (p : Per) (n : Int) : n ∈ daysQ p ↔ hasQ p n = true := by
  rw [hasQ_iff]
  cases h : okQ p
  · rw [daysQ_no h]; simp
  · rw [daysQ_yes h, daysTo, List.mem_filter, fromR_mem, lenQ]
    have := okQ_yes h
    constructor
    · rintro ⟨⟨h1, h2⟩, h3⟩; exact ⟨rfl, h1, by omega, h3⟩
    · rintro ⟨_, h1, h2, h3⟩; exact ⟨⟨h1, by omega⟩, h3⟩
theorem daysQ_asc (p : Per) : Asc (daysQ p) := by
  cases h : okQ p
  · rw [daysQ_no h]; exact List.Pairwise.nil
  · rw [daysQ_yes h]; exact asc_filter (fromR_asc _ _) _
theorem daysQ_len (p : Per) : (daysQ p).length ≤ 800 := by
  cases h : okQ p
  · rw [daysQ_no h]; simp
  · rw [daysQ_yes h]
    have h1 := daysTo_len p (lenQ p)
    have h2 := okQ_yes h
    unfold lenQ at h1 ⊢
    omega
theorem daysQ_range (p : Per) (n : Int) (h : n ∈ daysQ p) : 0 ≤ n ∧ n < 36525 := by
  rw [daysQ_mem, hasQ_iff] at h
  have := okQ_yes h.1
  omega
theorem daysQ_has (p : Per) (k : Nat) (h : okQ p = true) (hk : k < lenQ p) : hasQ p (p.1 + k) = wdB p.2.2 (p.1 + k) := by
  have h2 := okQ_yes h
  unfold lenQ at hk
  have e1 : p.1 ≤ p.1 + (k : Int) := by omega
  have e2 : p.1 + (k : Int) ≤ p.2.1 := by omega
  simp [hasQ, h, e1, e2]

/-! ### the canonical period of a list -/
def maskN (l : List Int) : Nat := l.foldl (fun m n => m ||| 2 ^ wkN n) 0
theorem maskN_snoc (l : List Int) (x : Int) : maskN (l ++ [x]) = maskN l ||| 2 ^ wkN x := by simp [maskN]
theorem mask_lt : ∀ (l : List Int) (m : Nat), m < 128 → l.foldl (fun m n => m ||| 2 ^ wkN n) m < 128
  | [], m, h => h
  | x :: r, m, h => mask_lt r _ (Nat.or_lt_two_pow (n := 7) h (Nat.pow_lt_pow_right (by omega) (wkN_lt x)))
theorem maskN_lt (l : List Int) : maskN l < 128 := mask_lt l 0 (by omega)
theorem mask_bit : ∀ (l : List Int) (m k : Nat), (l.foldl (fun m n => m ||| 2 ^ wkN n) m).testBit k = true ↔ m.testBit k = true ∨ ∃ x ∈ l, wkN x = k
  | [], m, k => by simp
  | x :: r, m, k => by
    rw [List.foldl_cons, mask_bit r _ k, Nat.testBit_or, Nat.testBit_two_pow]
    simp only [Bool.or_eq_true, decide_eq_true_eq, List.mem_cons, or_assoc]
    constructor
    · rintro (h | h | ⟨y, hy, h⟩)
      · exact .inl h
      · exact .inr ⟨x, .inl rfl, h⟩
      · exact .inr ⟨y, .inr hy, h⟩
    · rintro (h | ⟨y, rfl | hy, h⟩)
      · exact .inl h
      · exact .inr (.inl h)
      · exact .inr (.inr ⟨y, hy, h⟩)
theorem maskN_bit (l : List Int) (k : Nat) : (maskN l).testBit k = true ↔ ∃ x ∈ l, wkN x = k := by
  rw [maskN, mask_bit]; simp
theorem maskN_pos {l : List Int} {x : Int} (h : x ∈ l) : 0 < maskN l := by
  rcases Nat.eq_zero_or_pos (maskN l) with h0 | h0
  · have := (maskN_bit l (wkN x)).2 ⟨x, h, rfl⟩
    rw [h0] at this; simp at this
  · exact h0
theorem maskN_zero (l : List Int) : maskN l = 0 ↔ l = [] := by
  cases l with
  | nil => simp [maskN]
  | cons x r => have := maskN_pos (l := x :: r) (x := x) (by simp); simp; omega
/-- the period that has been gathered -/
def accQ (l : List Int) : Per := (l.headD 0, l.getLastD 0, (maskN l : Int))
def ofQ (l : List Int) : Per × Bool := (accQ l, decide (l ≠ []))
theorem accQ_nil : accQ [] = (0, 0, 0) := rfl
theorem accQ_snoc (l : List Int) (x : Int) : accQ (l ++ [x]) = (if maskN l = 0 then x else l.headD 0, x, ((maskN l ||| 2 ^ wkN x : Nat) : Int)) := by
  rw [accQ, maskN_snoc]
  cases l with
  | nil => simp [maskN]
  | cons y r =>
    have := maskN_pos (l := y :: r) (x := y) (by simp)
    rw [if_neg (by omega)]
    have e : ((y :: r) ++ [x]).getLastD 0 = x := by rw [List.getLastD_eq_getLast?, List.getLast?_append]; simp
    rw [e]
    simp
/-- the same, told as the reference does -/
theorem or_add : ∀ m, m < 128 → ∀ k, k < 7 → (m ||| 2 ^ k) = if m / 2 ^ k % 2 = 0 then m + 2 ^ k else m := by decide

theorem head_mem {l : List Int} (h : l ≠ []) : l.headD 0 ∈ l := by cases l with
  | nil => exact absurd rfl h
  | cons x r => simp
theorem last_mem {l : List Int} (h : l ≠ []) : l.getLastD 0 ∈ l := by
  rw [List.getLastD_eq_getLast?, List.getLast?_eq_some_getLast h]
  exact List.getLast_mem h
theorem head_le {l : List Int} (h : Asc l) {n : Int} (hn : n ∈ l) : l.headD 0 ≤ n := by
  cases l with
  | nil => simp at hn
  | cons x r =>
    rcases List.mem_cons.1 hn with e | hn
    · simp [e]
    · have := (List.pairwise_cons.1 h).1 n hn; simp; omega
theorem le_last : ∀ {l : List Int}, Asc l → ∀ {n : Int}, n ∈ l → n ≤ l.getLastD 0
  | [x], _, n, hn => by simp at hn; simp [hn]
  | x :: y :: r, h, n, hn => by
    have h' := List.pairwise_cons.1 h
    have e : (x :: y :: r).getLastD 0 = (y :: r).getLastD 0 := by simp [List.getLastD_eq_getLast?, List.getLast?_cons_cons]
    rw [e]
    rcases List.mem_cons.1 hn with e | hn
    · have := le_last h'.2 (n := y) (by simp)
      have := h'.1 y (by simp)
      omega
    · exact le_last h'.2 hn
/-- the canonical period of a set has this set -/
theorem canon_days (p : Per) : daysQ (accQ (daysQ p)) = daysQ p := by
  by_cases h0 : daysQ p = []
  · rw [h0]; rfl
  · refine asc_ext (daysQ_asc _) (daysQ_asc _) fun n => ?_
    have hh := head_mem h0
    have hl := last_mem h0
    have hr1 := daysQ_range p _ hh
    have hr2 := daysQ_range p _ hl
    have hm := maskN_lt (daysQ p)
    have hp := maskN_pos hh
    have hle := le_last (daysQ_asc p) hh
    have a1 := (hasQ_iff p _).1 ((daysQ_mem p _).1 hh)
    have a2 := (hasQ_iff p _).1 ((daysQ_mem p _).1 hl)
    have a3 := okQ_yes a1.1
    have hok : okQ (accQ (daysQ p)) = true := okQ_mk ⟨hr1.1, hle, hr2.2, by show (daysQ p).getLastD 0 - (daysQ p).headD 0 < 800; omega, by show (1 : Int) ≤ (maskN (daysQ p) : Nat); omega, by show ((maskN (daysQ p) : Nat) : Int) ≤ 127; omega⟩
    rw [daysQ_mem, hasQ_iff]
    constructor
    · rintro ⟨_, h1, h2, h3⟩
      have h3' : (maskN (daysQ p)).testBit (wkN n) = true := h3
      obtain ⟨x, hx, hw⟩ := (maskN_bit _ _).1 h3'
      have a4 := (hasQ_iff p _).1 ((daysQ_mem p _).1 hx)
      rw [daysQ_mem, hasQ_iff]
      have h1' : (daysQ p).headD 0 ≤ n := h1
      have h2' : n ≤ (daysQ p).getLastD 0 := h2
      refine ⟨a1.1, by omega, by omega, ?_⟩
      have := a4.2.2.2
      unfold wdB at this ⊢
      rw [← hw]; exact this
    · intro hn
      exact ⟨hok, head_le (daysQ_asc p) hn, le_last (daysQ_asc p) hn, (maskN_bit _ _).2 ⟨n, hn, rfl⟩⟩
theorem canon_has (p : Per) (n : Int) : hasQ (accQ (daysQ p)) n = hasQ p n := by
  have h1 := daysQ_mem (accQ (daysQ p)) n
  have h2 := daysQ_mem p n
  rw [canon_days] at h1
  cases ha : hasQ (accQ (daysQ p)) n <;> cases hb : hasQ p n <;> simp_all

/-! ### the intersection, the difference -/
def btw (p : Per) (f t : Int) : Per := (if f < p.1 then p.1 else f, if p.2.1 < t then p.2.1 else t, p.2.2)
def meetQ (a b : Per) : Per := ((btw a b.1 b.2.1).1, (btw a b.1 b.2.1).2.1, ((a.2.2.toNat &&& b.2.2.toNat : Nat) : Int))
def durQ (a b : Per) : Per := ((btw a b.1 b.2.1).1, (btw a b.1 b.2.1).2.1, ((a.2.2.toNat &&& (127 - b.2.2.toNat) : Nat) : Int))
theorem testBit_pos {m k : Nat} (h : m.testBit k = true) : 0 < m := by
  rcases Nat.eq_zero_or_pos m with h0 | h0
  · rw [h0] at h; simp at h
  · exact h0
theorem meet_mem (a b : Per) (ha : okQ a = true) (hb : okQ b = true) (n : Int) : hasQ (meetQ a b) n = true ↔ hasQ a n = true ∧ hasQ b n = true := by
  have a1 := okQ_yes ha
  have b1 := okQ_yes hb
  simp only [hasQ_iff]
  have e1 : (meetQ a b).1 = if b.1 < a.1 then a.1 else b.1 := rfl
  have e2 : (meetQ a b).2.1 = if a.2.1 < b.2.1 then a.2.1 else b.2.1 := rfl
  have e3 : wdB (meetQ a b).2.2 n = (wdB a.2.2 n && wdB b.2.2 n) := by
    show (a.2.2.toNat &&& b.2.2.toNat).testBit (wkN n) = _
    rw [Nat.testBit_and]; rfl
  rw [e1, e2, e3, Bool.and_eq_true]
  constructor
  · rintro ⟨h0, h1, h2, h3⟩
    refine ⟨⟨ha, ?_, ?_, h3.1⟩, hb, ?_, ?_, h3.2⟩ <;> (split at h1 <;> split at h2 <;> omega)
  · rintro ⟨⟨_, h1, h2, h3⟩, _, h4, h5, h6⟩
    refine ⟨okQ_mk ?_, ?_, ?_, h3, h6⟩
    · rw [e1, e2]
      have hm : 0 < (a.2.2.toNat &&& b.2.2.toNat) := testBit_pos (k := wkN n) (by rw [Nat.testBit_and]; exact Bool.and_eq_true _ _ ▸ ⟨h3, h6⟩)
      have hm2 : (a.2.2.toNat &&& b.2.2.toNat) ≤ a.2.2.toNat := Nat.and_le_left
      have e4 : (meetQ a b).2.2 = ((a.2.2.toNat &&& b.2.2.toNat : Nat) : Int) := rfl
      rw [e4]
      refine ⟨?_, ?_, ?_, ?_, ?_, ?_⟩ <;> (first | omega | (split <;> (first | omega | (split <;> omega))))
    · split <;> omega
    · split <;> omega
theorem not_bit : ∀ d, d < 128 → ∀ k, k < 7 → (127 - d).testBit k = !d.testBit k := by decide
theorem dur_mem (a b : Per) (ha : okQ a = true) (hb : okQ b = true) (n : Int) : hasQ (durQ a b) n = true ↔ hasQ a n = true ∧ b.1 ≤ n ∧ n ≤ b.2.1 ∧ hasQ b n = false := by
  have a1 := okQ_yes ha
  have b1 := okQ_yes hb
  have e1 : (durQ a b).1 = if b.1 < a.1 then a.1 else b.1 := rfl
  have e2 : (durQ a b).2.1 = if a.2.1 < b.2.1 then a.2.1 else b.2.1 := rfl
  have e3 : wdB (durQ a b).2.2 n = (wdB a.2.2 n && !wdB b.2.2 n) := by
    show (a.2.2.toNat &&& (127 - b.2.2.toNat)).testBit (wkN n) = _
    rw [Nat.testBit_and, not_bit _ (by omega) _ (wkN_lt n)]; rfl
  have hbn : b.1 ≤ n → n ≤ b.2.1 → (hasQ b n = false ↔ wdB b.2.2 n = false) := fun h1 h2 => by simp [hasQ, hb, h1, h2]
  simp only [hasQ_iff a, hasQ_iff (durQ a b)]
  rw [e1, e2, e3, Bool.and_eq_true, Bool.not_eq_true']
  constructor
  · rintro ⟨h0, h1, h2, h3⟩
    have k1 : b.1 ≤ n := by split at h1 <;> omega
    have k2 : n ≤ b.2.1 := by split at h2 <;> omega
    refine ⟨⟨ha, ?_, ?_, h3.1⟩, k1, k2, (hbn k1 k2).2 h3.2⟩ <;> (split at h1 <;> split at h2 <;> omega)
  · rintro ⟨⟨_, h1, h2, h3⟩, h4, h5, h6⟩
    have h6 := (hbn h4 h5).1 h6
    refine ⟨okQ_mk ?_, ?_, ?_, h3, h6⟩
    · rw [e1, e2]
      have hm : 0 < (a.2.2.toNat &&& (127 - b.2.2.toNat)) := testBit_pos (k := wkN n) (by
        have : (a.2.2.toNat &&& (127 - b.2.2.toNat)).testBit (wkN n) = (wdB a.2.2 n && !wdB b.2.2 n) := e3
        rw [this, h3, h6]; rfl)
      have hm2 : (a.2.2.toNat &&& (127 - b.2.2.toNat)) ≤ a.2.2.toNat := Nat.and_le_left
      have e4 : (durQ a b).2.2 = ((a.2.2.toNat &&& (127 - b.2.2.toNat) : Nat) : Int) := rfl
      rw [e4]
      refine ⟨?_, ?_, ?_, ?_, ?_, ?_⟩ <;> (first | omega | (split <;> (first | omega | (split <;> omega))))
    · split <;> omega
    · split <;> omega
theorem btw_mem (a : Per) (f t : Int) (ha : okQ a = true) (hf : -1 ≤ f) (n : Int) : hasQ (btw a f t) n = true ↔ hasQ a n = true ∧ f ≤ n ∧ n ≤ t := by
  have a1 := okQ_yes ha
  have e1 : (btw a f t).1 = if f < a.1 then a.1 else f := rfl
  have e2 : (btw a f t).2.1 = if a.2.1 < t then a.2.1 else t := rfl
  have e3 : (btw a f t).2.2 = a.2.2 := rfl
  simp only [hasQ_iff]
  rw [e1, e2, e3]
  constructor
  · rintro ⟨h0, h1, h2, h3⟩
    refine ⟨⟨ha, ?_, ?_, h3⟩, ?_, ?_⟩ <;> (split at h1 <;> split at h2 <;> omega)
  · rintro ⟨⟨_, h1, h2, h3⟩, h4, h5⟩
    refine ⟨okQ_mk ?_, ?_, ?_, h3⟩
    · rw [e1, e2, e3]
      refine ⟨?_, ?_, ?_, ?_, ?_, ?_⟩ <;> (first | omega | (split <;> (first | omega | (split <;> omega))))
    · split <;> omega
    · split <;> omega

/-- what the reference gathers -/
def partQ (l : List Int) (f t : Int) (b : Per) : List Int := l.filter fun n => decide (f ≤ n) && (decide (n ≤ t) && !hasQ b n)
theorem meet_days (a b : Per) (ha : okQ a = true) (hb : okQ b = true) : (daysQ a).filter (fun n => hasQ b n) = daysQ (meetQ a b) :=
  asc_ext (asc_filter (daysQ_asc a) _) (daysQ_asc _) fun n => by
    rw [List.mem_filter, daysQ_mem, daysQ_mem, meet_mem a b ha hb]
theorem dur_days (a b : Per) (ha : okQ a = true) (hb : okQ b = true) : partQ (daysQ a) b.1 b.2.1 b = daysQ (durQ a b) :=
  asc_ext (asc_filter (daysQ_asc a) _) (daysQ_asc _) fun n => by
    rw [partQ, List.mem_filter, daysQ_mem, daysQ_mem, dur_mem a b ha hb]
    simp
theorem before_days (a b : Per) (ha : okQ a = true) (hb : okQ b = true) : partQ (daysQ a) 0 (b.1 - 1) b = daysQ (btw a a.1 (b.1 - 1)) :=
  asc_ext (asc_filter (daysQ_asc a) _) (daysQ_asc _) fun n => by
    have a1 := okQ_yes ha
    have b1 := okQ_yes hb
    rw [partQ, List.mem_filter, daysQ_mem, daysQ_mem, btw_mem a _ _ ha (by omega), hasQ_iff a]
    simp only [Bool.and_eq_true, decide_eq_true_eq, Bool.not_eq_true']
    constructor
    · rintro ⟨h, h1, h2, h3⟩; exact ⟨h, h.2.1, h2⟩
    · rintro ⟨h, h1, h2⟩
      refine ⟨h, by omega, h2, ?_⟩
      cases hb2 : hasQ b n
      · rfl
      · have := (hasQ_iff b n).1 hb2; omega
theorem after_days (a b : Per) (ha : okQ a = true) (hb : okQ b = true) : partQ (daysQ a) (b.2.1 + 1) 36525 b = daysQ (btw a (b.2.1 + 1) a.2.1) :=
  asc_ext (asc_filter (daysQ_asc a) _) (daysQ_asc _) fun n => by
    have a1 := okQ_yes ha
    have b1 := okQ_yes hb
    rw [partQ, List.mem_filter, daysQ_mem, daysQ_mem, btw_mem a _ _ ha (by omega), hasQ_iff a]
    simp only [Bool.and_eq_true, decide_eq_true_eq, Bool.not_eq_true']
    constructor
    · rintro ⟨h, h1, h2, h3⟩; exact ⟨h, by omega, h.2.2.1⟩
    · rintro ⟨h, h1, h2⟩
      refine ⟨h, by omega, by omega, ?_⟩
      cases hb2 : hasQ b n
      · rfl
      · have := (hasQ_iff b n).1 hb2; omega

/-- a list's canonical periods, parts without days omitted -/
def normsQ (l : List Per) : List Per := ((l.map daysQ).filter fun x => decide (x ≠ [])).map accQ
/-- what the difference is -/
def withQ (a b : Per) : List Per := if okQ a then (if okQ b then normsQ [btw a a.1 (b.1 - 1), durQ a b, btw a (b.2.1 + 1) a.2.1] else normsQ [a]) else []
def mtQ (a b : Per) : List Int := if okQ a && okQ b then daysQ (meetQ a b) else []
theorem mtQ_filter (a b : Per) : (daysQ a).filter (fun n => hasQ b n) = mtQ a b := by
  unfold mtQ
  cases ha : okQ a
  · simp [daysQ_no ha]
  · cases hb : okQ b
    · simp [hasQ, hb]
    · simp [meet_days a b ha hb]
theorem mtQ_days (a b : Per) : ∃ q, mtQ a b = daysQ q := by
  unfold mtQ
  split
  · exact ⟨_, rfl⟩
  · exact ⟨(0, 0, 0), rfl⟩
theorem mtQ_mem (a b : Per) (n : Int) : n ∈ mtQ a b ↔ hasQ a n = true ∧ hasQ b n = true := by
  rw [← mtQ_filter, List.mem_filter, daysQ_mem]
theorem mtQ_comm (a b : Per) : mtQ a b = mtQ b a := by
  obtain ⟨q, hq⟩ := mtQ_days a b
  obtain ⟨r, hr⟩ := mtQ_days b a
  refine asc_ext (hq ▸ daysQ_asc q) (hr ▸ daysQ_asc r) fun n => ?_
  rw [mtQ_mem, mtQ_mem, And.comm]
theorem mtQ_self (a : Per) : mtQ a a = daysQ a := by
  obtain ⟨q, hq⟩ := mtQ_days a a
  refine asc_ext (hq ▸ daysQ_asc q) (daysQ_asc a) fun n => ?_
  rw [mtQ_mem, daysQ_mem, and_self]
theorem mt_has (a b : Per) (n : Int) : hasQ (accQ (mtQ a b)) n = (hasQ a n && hasQ b n) := by
  obtain ⟨q, hq⟩ := mtQ_days a b
  have h1 := mtQ_mem a b n
  rw [hq] at h1 ⊢
  rw [canon_has]
  rw [daysQ_mem] at h1
  cases h2 : hasQ q n <;> cases h3 : hasQ a n <;> cases h4 : hasQ b n <;> simp_all
/-- equal sets, equal canonical periods -/
theorem canon_iff (a b : Per) : ofQ (daysQ a) = ofQ (daysQ b) ↔ daysQ a = daysQ b := by
  constructor
  · intro h
    have h1 : accQ (daysQ a) = accQ (daysQ b) := congrArg Prod.fst h
    rw [← canon_days a, h1, canon_days]
  · intro h; rw [h]

/-- how many of a list's periods have a day -/
def cntQ (l : List Per) (n : Int) : Nat := (l.filter fun p => hasQ p n).length
theorem cnt_norms : ∀ (l : List Per) (n : Int), cntQ (normsQ l) n = cntQ l n
  | [], n => rfl
  | p :: r, n => by
    have ih := cnt_norms r n
    unfold cntQ normsQ at ih ⊢
    by_cases h0 : daysQ p = []
    · have hp : hasQ p n = false := by
        cases h : hasQ p n
        · rfl
        · rw [← daysQ_mem, h0] at h; simp at h
      simp [h0, hp] at ih ⊢
      exact ih
    · have hp := canon_has p n
      simp only [List.map_cons, List.filter_cons, ne_eq, h0, not_false_eq_true, decide_true, if_true, hp]
      cases hasQ p n
      · simpa using ih
      · simpa using ih
theorem norms_len (l : List Per) : (normsQ l).length ≤ l.length := by
  unfold normsQ
  rw [List.length_map]
  exact Nat.le_trans (List.length_filter_le _ _) (by simp)
theorem with_len (a b : Per) : (withQ a b).length ≤ 3 := by
  unfold withQ
  split
  · split
    · exact norms_len _
    · exact Nat.le_trans (norms_len _) (by simp)
  · simp
theorem with_cnt (a b : Per) (n : Int) : cntQ (withQ a b) n = if hasQ a n = true ∧ hasQ b n = false then 1 else 0 := by
  unfold withQ
  cases ha : okQ a
  · have : hasQ a n = false := by simp [hasQ, ha]
    simp [cntQ, this]
  · cases hb : okQ b
    · have : hasQ b n = false := by simp [hasQ, hb]
      simp only [if_true, Bool.false_eq_true, if_false]
      rw [cnt_norms, this]
      unfold cntQ
      cases h : hasQ a n <;> simp [h]
    · simp only [if_true]
      rw [cnt_norms]
      have a1 := okQ_yes ha
      have b1 := okQ_yes hb
      have h1 := btw_mem a a.1 (b.1 - 1) ha (by omega) n
      have h2 := dur_mem a b ha hb n
      have h3 := btw_mem a (b.2.1 + 1) a.2.1 ha (by omega) n
      have h4 := hasQ_iff a n
      have h5 := hasQ_iff b n
      unfold cntQ
      cases e1 : hasQ (btw a a.1 (b.1 - 1)) n <;> cases e2 : hasQ (durQ a b) n <;> cases e3 : hasQ (btw a (b.2.1 + 1) a.2.1) n <;> cases e4 : hasQ a n <;> cases e5 : hasQ b n <;> simp [e1, e2, e3, e4, e5] at h1 h2 h3 h4 h5 ⊢ <;> omega

/-! ### moved by a week -/
def weekQ (p : Per) : Per := (p.1 + 7, p.2.1 + 7, p.2.2)
theorem week_has (p : Per) (n : Int) (hp : okQ p = true) (hq : okQ (weekQ p) = true) : hasQ (weekQ p) (n + 7) = hasQ p n := by
  have e1 : (weekQ p).1 = p.1 + 7 := rfl
  have e2 : (weekQ p).2.1 = p.2.1 + 7 := rfl
  have e3 : (weekQ p).2.2 = p.2.2 := rfl
  have w : wdB p.2.2 (n + 7) = wdB p.2.2 n := by unfold wdB; rw [wkN_week]
  have i1 : (p.1 + 7 ≤ n + 7) = (p.1 ≤ n) := by simp
  have i2 : (n + 7 ≤ p.2.1 + 7) = (n ≤ p.2.1) := by simp
  rw [hasQ, hasQ, hp, hq, e1, e2, e3, w]
  simp only [i1, i2]
theorem week_cnt (p : Per) (hp : okQ p = true) (hq : okQ (weekQ p) = true) : (daysQ (weekQ p)).length = (daysQ p).length := by
  have h : daysQ (weekQ p) = (daysQ p).map (· + 7) := by
    refine asc_ext (daysQ_asc _) ?_ fun n => ?_
    · unfold Asc
      rw [List.pairwise_map]
      exact (daysQ_asc p).imp (by intro a b h; omega)
    · rw [daysQ_mem, List.mem_map]
      constructor
      · intro h
        refine ⟨n - 7, ?_, by omega⟩
        rw [daysQ_mem, ← week_has p _ hp hq]
        have : n - 7 + 7 = n := by omega
        rw [this]; exact h
      · rintro ⟨m, hm, rfl⟩
        rw [week_has p m hp hq, ← daysQ_mem]; exact hm
  rw [h, List.length_map]

end Go.Proofs.YtfgmlbmjjihhfaaGreatDoor.Per

/- Walks of the small functions of package period, beside the reference's: Check, the weekday's bit, between. -/
namespace Go.Proofs.YtfgmlbmjjihhfaaGreatDoor.Per
open Go.RowKit
set_option linter.unusedSimpArgs false
set_option linter.unusedVariables false

abbrev encQ (p : Per) : Value := .agg #[.int .i64 p.1, .int .i64 p.2.1, .int .i64 p.2.2]
theorem bel_alloc (w : World) (o : Obj) : Below w.heap.size w (w.alloc o) := (Below.refl _ w).alloc (Nat.le_refl _) o
theorem err_first {f t d : Int} (h : f < 0 ∨ t < f ∨ 36525 ≤ t) : errQ (f, t, d) = 12 := by rw [errQ, if_pos h]
theorem err_second {f t d : Int} (h : ¬ (f < 0 ∨ t < f ∨ 36525 ≤ t)) (h2 : 800 ≤ t - f) : errQ (f, t, d) = 4 := by rw [errQ, if_neg h, if_pos h2]
theorem err_third {f t d : Int} (h : ¬ (f < 0 ∨ t < f ∨ 36525 ≤ t)) (h2 : ¬ 800 ≤ t - f) (h3 : d < 1 ∨ 127 < d) : errQ (f, t, d) = 2 := by rw [errQ, if_neg h, if_neg h2, if_pos h3]
theorem err_none {f t d : Int} (h : ¬ (f < 0 ∨ t < f ∨ 36525 ≤ t)) (h2 : ¬ 800 ≤ t - f) (h3 : ¬ (d < 1 ∨ 127 < d)) : errQ (f, t, d) = 0 := by rw [errQ, if_neg h, if_neg h2, if_neg h3]

set_option maxHeartbeats 1000000 in
theorem check_any (f t d : Int) (w : World) : Calls Tryz.prog 54 #[encQ (f, t, d)] w fun e w' => e = .returned (.int .i64 (errQ (f, t, d))) ∧ Below w.heap.size w w' := by
  by_cases h1 : f < 0
  · have HR := Lib.hid (err_first (d := d) (.inl h1) (t := t))
    go_enter Tryz.func54, Tryz.ntmps54
    go_wp2
    go_ret
    exact ⟨by rw [HR.out]; rfl, bel_alloc _ _⟩
  by_cases h2 : t < f
  · have HR := Lib.hid (err_first (d := d) (.inr (.inl h2)))
    go_enter Tryz.func54, Tryz.ntmps54
    go_wp2
    go_ret
    exact ⟨by rw [HR.out]; rfl, bel_alloc _ _⟩
  by_cases h3 : 36525 ≤ t
  · have HR := Lib.hid (err_first (f := f) (d := d) (.inr (.inr h3)))
    go_enter Tryz.func54, Tryz.ntmps54
    go_wp2
    go_ret
    exact ⟨by rw [HR.out]; rfl, bel_alloc _ _⟩
  have ha : ¬ (f < 0 ∨ t < f ∨ 36525 ≤ t) := by omega
  by_cases h4 : 800 ≤ t - f
  · have HR := Lib.hid (err_second (d := d) ha h4)
    clear ha
    go_enter Tryz.func54, Tryz.ntmps54
    go_wp2
    go_ret
    exact ⟨by rw [HR.out]; rfl, bel_alloc _ _⟩
  by_cases h5 : d < 1
  · have HR := Lib.hid (err_third ha h4 (.inl h5))
    clear ha
    go_enter Tryz.func54, Tryz.ntmps54
    go_wp2
    go_ret
    exact ⟨by rw [HR.out]; rfl, bel_alloc _ _⟩
  by_cases h6 : 127 < d
  · have HR := Lib.hid (err_third ha h4 (.inr h6))
    clear ha
    go_enter Tryz.func54, Tryz.ntmps54
    go_wp2
    go_ret
    exact ⟨by rw [HR.out]; rfl, bel_alloc _ _⟩
  · have HR := Lib.hid (err_none ha h4 (d := d) (by omega))
    clear ha
    go_enter Tryz.func54, Tryz.ntmps54
    go_wp2
    go_ret
    exact ⟨by rw [HR.out]; rfl, bel_alloc _ _⟩

set_option maxHeartbeats 1000000 in
theorem rcheck_any (f t d : Int) (w : World) : Calls Tryz.prog 121 #[encQ (f, t, d)] w fun e w' => e = .returned (.int .i64 (errQ (f, t, d))) ∧ Below w.heap.size w w' := by
  by_cases h1 : f < 0
  · have HR := Lib.hid (err_first (d := d) (.inl h1) (t := t))
    go_enter Tryz.func121, Tryz.ntmps121
    go_wp2
    go_ret
    exact ⟨by rw [HR.out]; rfl, bel_alloc _ _⟩
  by_cases h2 : t < f
  · have HR := Lib.hid (err_first (d := d) (.inr (.inl h2)))
    go_enter Tryz.func121, Tryz.ntmps121
    go_wp2
    go_ret
    exact ⟨by rw [HR.out]; rfl, bel_alloc _ _⟩
  by_cases h3 : 36525 ≤ t
  · have HR := Lib.hid (err_first (f := f) (d := d) (.inr (.inr h3)))
    go_enter Tryz.func121, Tryz.ntmps121
    go_wp2
    go_ret
    exact ⟨by rw [HR.out]; rfl, bel_alloc _ _⟩
  have ha : ¬ (f < 0 ∨ t < f ∨ 36525 ≤ t) := by omega
  by_cases h4 : 800 ≤ t - f
  · have HR := Lib.hid (err_second (d := d) ha h4)
    clear ha
    go_enter Tryz.func121, Tryz.ntmps121
    go_wp2
    go_ret
    exact ⟨by rw [HR.out]; rfl, bel_alloc _ _⟩
  by_cases h5 : d < 1
  · have HR := Lib.hid (err_third ha h4 (.inl h5))
    clear ha
    go_enter Tryz.func121, Tryz.ntmps121
    go_wp2
    go_ret
    exact ⟨by rw [HR.out]; rfl, bel_alloc _ _⟩
  by_cases h6 : 127 < d
  · have HR := Lib.hid (err_third ha h4 (.inr h6))
    clear ha
    go_enter Tryz.func121, Tryz.ntmps121
    go_wp2
    go_ret
    exact ⟨by rw [HR.out]; rfl, bel_alloc _ _⟩
  · have HR := Lib.hid (err_none ha h4 (d := d) (by omega))
    clear ha
    go_enter Tryz.func121, Tryz.ntmps121
    go_wp2
    go_ret
    exact ⟨by rw [HR.out]; rfl, bel_alloc _ _⟩

end Go.Proofs.YtfgmlbmjjihhfaaGreatDoor.Per

/- Walks of isValid, the weekday's bit, Has, between, beside the reference's. -/
namespace Go.Proofs.YtfgmlbmjjihhfaaGreatDoor.Per
open Go.RowKit
set_option linter.unusedSimpArgs false
set_option linter.unusedVariables false

theorem bel_acc {f : Nat} {args : Array Value} {w w1 : World} {R : Ending → Prop} (h : Calls Tryz.prog f args w1 fun e w' => R e ∧ Below w1.heap.size w1 w') (hb : Below w.heap.size w w1) :
    Calls Tryz.prog f args w1 fun e w' => R e ∧ Below w.heap.size w w' := h.mono (by rintro e w' ⟨hr, h⟩; exact ⟨hr, hb.trans (h.mono hb.size)⟩)

set_option maxHeartbeats 1000000 in
theorem isValid_any (f t d : Int) (w : World) : Calls Tryz.prog 127 #[encQ (f, t, d)] w fun e w' => e = .returned (.bool (okQ (f, t, d))) ∧ Below w.heap.size w w' := by
  have hb := bel_alloc w (.cells #[.int .i64 f, .int .i64 t, .int .i64 d] 27)
  have CC := Lib.hid (fun w1 hb => bel_acc (w := w) (check_any f t d w1) hb)
  cases h : okQ (f, t, d)
  · have he := errQ_two h
    clear h
    generalize errQ (f, t, d) = z at *
    go_enter Tryz.func127, Tryz.ntmps127
    go_wp2_with (go_at_call 54; refine (CC.out _ hb).mono ?_; rintro e w' ⟨rfl, hb⟩)
    go_ret
    exact ⟨ret_bool rfl, hb⟩
  · have he := errQ_ok h
    clear h
    rw [he] at CC
    clear he
    go_enter Tryz.func127, Tryz.ntmps127
    go_wp2_with (go_at_call 54; refine (CC.out _ hb).mono ?_; rintro e w' ⟨rfl, hb⟩)
    go_ret
    exact ⟨ret_bool rfl, hb⟩

theorem wraps7 (n : Int) (h₀ : 0 ≤ n) (h₁ : n < 2 ^ 7) : IntKind.i64.wrap n = n := by rw [IntKind.wrap_i64]; omega
theorem and7 (a b : Nat) (ha : a < 128) (hb : b < 128) : bits .and .i64 (a : Int) (b : Int) = ((a &&& b : Nat) : Int) := (bits_nat .i64 7 (by decide) wraps7 a b ha hb).1
theorem or7 (a b : Nat) (ha : a < 128) (hb : b < 128) : bits .or .i64 (a : Int) (b : Int) = ((a ||| b : Nat) : Int) := (bits_nat .i64 7 (by decide) wraps7 a b ha hb).2
theorem one7 (x : Int) (h0 : 0 ≤ x) (h1 : x < 128) : bits .and .i64 x 1 = x % 2 := bits_mask .i64 7 (by decide) wraps7 1 (by decide) x h0 h1
theorem not7 (a b : Nat) (ha : a < 128) (hb : b < 128) : bits .andNot .i64 (a : Int) (b : Int) = ((a &&& (127 - b) : Nat) : Int) := by
  show IntKind.i64.wrap ((BitVec.ofInt 64 (a : Int) &&& ~~~BitVec.ofInt 64 (b : Int)).toNat : Int) = _
  rw [BitVec.toNat_and, BitVec.toNat_not, BitVec.ofInt_natCast, BitVec.ofInt_natCast, BitVec.toNat_ofNat, BitVec.toNat_ofNat, Nat.mod_eq_of_lt (by omega), Nat.mod_eq_of_lt (by omega)]
  have e : a &&& (2 ^ 64 - 1 - b) = a &&& (127 - b) := by
    apply Nat.eq_of_testBit_eq
    intro i
    rw [Nat.testBit_and, Nat.testBit_and]
    by_cases hi : i < 7
    · congr 1
      rw [not_bit b hb i hi, show 2 ^ 64 - 1 - b = 2 ^ 64 - (b + 1) by omega, Nat.testBit_two_pow_sub_succ (by omega)]
      simp; omega
    · have : a.testBit i = false := Nat.testBit_lt_two_pow (Nat.lt_of_lt_of_le ha (by have := Nat.pow_le_pow_right (n := 2) (by omega) (show 7 ≤ i by omega); omega))
      rw [this]; rfl
  rw [e]
  refine wraps7 _ (by omega) ?_
  have := Nat.and_lt_two_pow a (y := 127 - b) (n := 7) (by omega)
  omega
theorem shr_bit (d : Int) (k : Nat) (h0 : 0 ≤ d) : d / 2 ^ k % 2 = if d.toNat.testBit k then 1 else 0 := by
  obtain ⟨n, rfl⟩ := Int.eq_ofNat_of_zero_le h0
  rw [Int.toNat_natCast, Nat.testBit_eq_decide_div_mod_eq]
  have e : ((n : Int) / 2 ^ k % 2) = ((n / 2 ^ k % 2 : Nat) : Int) := by simp
  rw [e]
  by_cases h : n / 2 ^ k % 2 = 1
  · simp [h]
  · have : n / 2 ^ k % 2 = 0 := by omega
    simp [this]
set_option maxHeartbeats 1000000 in
theorem hasWd_any (f t d : Int) (k : Nat) (w : World) (h0 : 0 ≤ d) (h1 : d ≤ 127) (hk : k < 7) : Calls Tryz.prog 128 #[encQ (f, t, d), .int .i64 k] w fun e w' => e = .returned (.bool (d.toNat.testBit k)) ∧ Below w.heap.size w w' := by
  have hm : min k 64 = k := by omega
  have HB : Hid ((bits BinOp.and IntKind.i64 (d / 2 ^ k) 1 == 1) = d.toNat.testBit k) := Lib.hid (by
    have q0 : 0 ≤ d / 2 ^ k := Int.ediv_nonneg h0 (Int.pow_nonneg (by omega))
    have q1 : d / 2 ^ k ≤ d := Int.ediv_le_self _ h0
    rw [one7 _ q0 (by omega), shr_bit d k h0]
    cases d.toNat.testBit k <;> rfl)
  go_enter Tryz.func128, Tryz.ntmps128
  go_wp2
  go_ret
  exact ⟨ret_bool HB.out, bel_alloc _ _⟩

theorem wk_val (n : Int) : weekP n = ((wkN n : Nat) : Int) := by rw [wkN_int]; rfl
theorem wk_any (n : Int) (w : World) (h0 : -9223372036854775808 ≤ n) (h1 : n ≤ 9223372036854775807) : Calls Tryz.prog 129 #[.int .i64 n] w fun e w' => e = .returned (.int .i64 (wkN n : Nat)) ∧ Below w.heap.size w w' := by
  rw [← wk_val]; exact weekday_any n w h0 h1
theorem rwk_any (n : Int) (w : World) (h0 : -9223372036854775808 ≤ n) (h1 : n ≤ 9223372036854775807) : Calls Tryz.prog 180 #[.int .i64 n] w fun e w' => e = .returned (.int .i64 (wkN n : Nat)) ∧ w = w' := by
  rw [← wk_val]; exact rweekday_any n w h0 h1

theorem pow_step (k : Nat) (h : k < 7) : ((2 ^ k : Nat) : Int) ≤ 64 ∧ 1 ≤ ((2 ^ k : Nat) : Int) := by
  have h1 := Nat.pow_le_pow_right (n := 2) (by omega) (show k ≤ 6 by omega)
  have h2 := Nat.two_pow_pos k
  omega
set_option maxHeartbeats 1000000 in
theorem bit_any (n : Int) (w : World) (h0 : -9223372036854775808 ≤ n) (h1 : n ≤ 9223372036854775807) : Calls Tryz.prog 131 #[.int .i64 n] w fun e w' => e = .returned (.int .i64 ((2 ^ wkN n : Nat) : Int)) ∧ w = w' := by
  have CW := Lib.hid (fun w => rwk_any n w h0 h1)
  have hl := wkN_lt n
  generalize wkN n = m at *
  go_enter Tryz.func131, Tryz.ntmps131
  go_wp2
  go_loop [3, 4] (fun x i => ∃ (k : Nat), k ≤ m ∧ i = .int .i64 k ∧ x = .int .i64 ((2 ^ k : Nat) : Int)) (fun _ i => m - (intOf i).toNat)
  case atStart => exact ⟨0, Nat.zero_le _, rfl, rfl⟩
  case round =>
    obtain ⟨k, hk, rfl, rfl⟩ := hrel
    obtain ⟨y, hy⟩ : ∃ y : Int, y = ((2 ^ k : Nat) : Int) := ⟨_, rfl⟩
    have hp := pow_step k (by omega)
    rw [← hy] at hp ⊢
    have HY := Lib.hid hy
    clear hy
    by_cases hlt : k < m
    · have i1 : (k : Int) < (m : Int) := by omega
      go_wp2_with (go_at_call 180; refine (CW.out _).mono ?_; rintro e w' ⟨rfl, rfl⟩)
      go_round
      case rel => exact ⟨k + 1, by omega, by go_num, by rw [HY.out, Nat.pow_succ]; congr 1; omega⟩
      case measure => simp [intOf]; omega
    · have e : k = m := by omega
      subst e
      go_wp2_with (go_at_call 180; refine (CW.out _).mono ?_; rintro e w' ⟨rfl, rfl⟩)
      go_ret
      exact ⟨ret_int HY.out, rfl⟩

/-- a period that lies in a box, in a world that has only grown since w -/
def Box3 (w : World) (B : Nat) (p : Per) (W : World) : Prop := W.cell? ⟨B, 0, none⟩ = some (.int .i64 p.1) ∧ W.cell? ⟨B, 1, none⟩ = some (.int .i64 p.2.1) ∧ W.cell? ⟨B, 2, none⟩ = some (.int .i64 p.2.2) ∧ Below w.heap.size w W
theorem Box3.new (w : World) (p : Per) (t : TypeId) : Box3 w w.heap.size p (w.alloc (.cells #[.int .i64 p.1, .int .i64 p.2.1, .int .i64 p.2.2] t)) := by
  have h := heap_alloc_new w (.cells #[.int .i64 p.1, .int .i64 p.2.1, .int .i64 p.2.2] t)
  refine ⟨?_, ?_, ?_, bel_alloc _ _⟩
  · exact cell_of_row _ _ 0 _ _ (0, 0) h
  · exact cell_of_row _ _ 1 _ _ (0, 0) h
  · exact cell_of_row _ _ 2 _ _ (0, 0) h
theorem Box3.more {w : World} {B : Nat} {p : Per} {W W' : World} (h : Box3 w B p W) (hb : Below W.heap.size W W') : Box3 w B p W' :=
  ⟨(hb.cell (p := ⟨B, 0, none⟩) (World.block_lt_of_cell? W _ h.1)).trans h.1, (hb.cell (p := ⟨B, 1, none⟩) (World.block_lt_of_cell? W _ h.2.1)).trans h.2.1, (hb.cell (p := ⟨B, 2, none⟩) (World.block_lt_of_cell? W _ h.2.2.1)).trans h.2.2.1, h.2.2.2.trans (hb.mono h.2.2.2.size)⟩
theorem Box3.call {f : Nat} {args : Array Value} {w : World} {B : Nat} {p : Per} {v : Value} (h : ∀ W, Calls Tryz.prog f args W fun e w' => e = .returned v ∧ Below W.heap.size W w') (W : World) (hb : Box3 w B p W) :
    Calls Tryz.prog f args W fun e w' => e = .returned v ∧ Box3 w B p w' := (h W).mono (by rintro e w' ⟨he, h⟩; exact ⟨he, hb.more h⟩)
theorem bel_self (W : World) (n : Nat) : Below W.heap.size W (W.drewN n) := below_drewN (Below.refl _ _) n

/-! ### regions that draw their order and whose calls make memory: one walk in the class of the worlds of which S holds -/
structure Wd (S : World → Prop) where
  w : World
  ok : S w
theorem quietS {P : Program} {S : World → Prop} {id : Nat} {Q : Exit → Act → World → Prop} {a : Act} {w : World} {l : List Oper} (hm : P.follows .mixedOrders = true) (hB : Region.lexB .any l.toArray = true) (hC : S w.drew)
    (h : wpQuiet P l.toArray (fun w' => ∃ x : Wd S, w' = x.w) (fun a' => ∀ w', (∃ x : Wd S, w' = x.w) → Q .normal a' w') l a) : (Code.region id l.toArray true).wp P Q a w :=
  wp_region_quiet (C := fun w' => ∃ x : Wd S, w' = x.w) hm hB ⟨⟨_, hC⟩, rfl⟩ (by simpa using h)
theorem quiet_S {P : Program} {f : FuncId} {args : Array Value} {W : World} {S : World → Prop} {v : Value} (h : Calls P f args W fun e w' => e = .returned v ∧ S w') :
    Calls P f args W fun e w'' => e = .returned v ∧ ∃ x : Wd S, w'' = x.w := h.mono (by rintro e w' ⟨he, hs⟩; exact ⟨he, ⟨w', hs⟩, rfl⟩)

set_option maxHeartbeats 2000000 in
theorem has_any (f t d n : Int) (w : World) (h0 : -9223372036854775808 ≤ n) (h1 : n ≤ 9223372036854775807) : Calls Tryz.prog 71 #[encQ (f, t, d), .int .i64 n] w fun e w' => e = .returned (.bool (hasQ (f, t, d) n)) ∧ Below w.heap.size w w' := by
  have hB : Box3 w w.heap.size (f, t, d) (w.alloc (.cells #[.int .i64 f, .int .i64 t, .int .i64 d] 27)).drew := (Box3.new w (f, t, d) _).more (Below.refl _ _).drew
  have f0 : ∀ x : Wd (Box3 w w.heap.size (f, t, d)), x.w.cell? ⟨w.heap.size, 0, none⟩ = some (.int .i64 f) := fun x => x.ok.1
  have f1 : ∀ x : Wd (Box3 w w.heap.size (f, t, d)), x.w.cell? ⟨w.heap.size, 1, none⟩ = some (.int .i64 t) := fun x => x.ok.2.1
  have f2 : ∀ x : Wd (Box3 w w.heap.size (f, t, d)), x.w.cell? ⟨w.heap.size, 2, none⟩ = some (.int .i64 d) := fun x => x.ok.2.2.1
  cases h : okQ (f, t, d)
  · have HR : Hid (hasQ (f, t, d) n = false) := Lib.hid (by simp [hasQ, h])
    have CV := Lib.hid (Box3.call (w := w) (B := w.heap.size) (p := (f, t, d)) (fun W => isValid_any f t d W))
    rw [h] at CV
    clear h
    go_enter Tryz.func71, Tryz.ntmps71
    go_wp2
    have hNe : Nonempty (Wd (Box3 w w.heap.size (f, t, d))) := ⟨⟨_, hB⟩⟩
    refine quietS (S := Box3 w w.heap.size (f, t, d)) (by kernel_rfl) (by kernel_rfl) (hB) ?_
    repeat (first | go_big_quiet_skip | (go_big_quiet_want; go_big_quiet_op; first | go_big_quiet_on | go_big_quiet_call ((go_at_call 127; exact quiet_S (CV.out _ (Wd.ok _))))))
    refine wpQuiet_nil ?_
    rintro W ⟨⟨_, hW⟩, rfl⟩
    go_wp2
    go_ret
    exact ⟨ret_bool HR.out.symm, hW.2.2.2⟩
  · have hq := okQ_yes h
    have CV := Lib.hid (Box3.call (w := w) (B := w.heap.size) (p := (f, t, d)) (fun W => isValid_any f t d W))
    rw [h] at CV
    have CW := Lib.hid (Box3.call (w := w) (B := w.heap.size) (p := (f, t, d)) (fun W => wk_any n W h0 h1))
    have CH := Lib.hid (Box3.call (w := w) (B := w.heap.size) (p := (f, t, d)) (fun W => hasWd_any f t d (wkN n) W (by have := hq.2.2.2.2.1; simp at this; omega) (by have := hq.2.2.2.2.2; simp at this; omega) (wkN_lt n)))
    by_cases a1 : f ≤ n
    · by_cases a2 : n ≤ t
      · have HR : Hid (hasQ (f, t, d) n = d.toNat.testBit (wkN n)) := Lib.hid (by simp [hasQ, a1, a2, h, wdB])
        clear h hq
        generalize d.toNat.testBit (wkN n) = z at *
        generalize wkN n = k at *
        go_enter Tryz.func71, Tryz.ntmps71
        go_wp2
        have hNe : Nonempty (Wd (Box3 w w.heap.size (f, t, d))) := ⟨⟨_, hB⟩⟩
        refine quietS (S := Box3 w w.heap.size (f, t, d)) (by kernel_rfl) (by kernel_rfl) (hB) ?_
        repeat (first | go_big_quiet_skip | (go_big_quiet_want; go_big_quiet_op; first | go_big_quiet_on | go_big_quiet_call ((first | (go_at_call 127; exact quiet_S (CV.out _ (Wd.ok _))) | (go_at_call 129; exact quiet_S (CW.out _ (Wd.ok _))) | (go_at_call 128; exact quiet_S (CH.out _ (Wd.ok _)))))))
        refine wpQuiet_nil ?_
        rintro W ⟨⟨_, hW⟩, rfl⟩
        go_wp2
        go_ret
        exact ⟨ret_bool HR.out.symm, hW.2.2.2⟩
      · have HR : Hid (hasQ (f, t, d) n = false) := Lib.hid (by simp [hasQ, a2])
        have a3 : decide (n ≤ t) = false := decide_eq_false a2
        clear h hq
        go_enter Tryz.func71, Tryz.ntmps71
        go_wp2
        have hNe : Nonempty (Wd (Box3 w w.heap.size (f, t, d))) := ⟨⟨_, hB⟩⟩
        refine quietS (S := Box3 w w.heap.size (f, t, d)) (by kernel_rfl) (by kernel_rfl) (hB) ?_
        repeat (first | go_big_quiet_skip | (go_big_quiet_want; go_big_quiet_op; first | go_big_quiet_on | go_big_quiet_call ((go_at_call 127; exact quiet_S (CV.out _ (Wd.ok _))))))
        refine wpQuiet_nil ?_
        rintro W ⟨⟨_, hW⟩, rfl⟩
        go_wp2
        go_ret
        exact ⟨ret_bool HR.out.symm, hW.2.2.2⟩
    · have HR : Hid (hasQ (f, t, d) n = false) := Lib.hid (by simp [hasQ, a1])
      have a3 : decide (f ≤ n) = false := decide_eq_false a1
      clear h hq
      go_enter Tryz.func71, Tryz.ntmps71
      go_wp2
      have hNe : Nonempty (Wd (Box3 w w.heap.size (f, t, d))) := ⟨⟨_, hB⟩⟩
      refine quietS (S := Box3 w w.heap.size (f, t, d)) (by kernel_rfl) (by kernel_rfl) (hB) ?_
      repeat (first | go_big_quiet_skip | (go_big_quiet_want; go_big_quiet_op; first | go_big_quiet_on | go_big_quiet_call ((go_at_call 127; exact quiet_S (CV.out _ (Wd.ok _))))))
      refine wpQuiet_nil ?_
      rintro W ⟨⟨_, hW⟩, rfl⟩
      go_wp2
      go_ret
      exact ⟨ret_bool HR.out.symm, hW.2.2.2⟩

end Go.Proofs.YtfgmlbmjjihhfaaGreatDoor.Per

/- Walks of the reference's Has and Days; of equal lists. -/
namespace Go.Proofs.YtfgmlbmjjihhfaaGreatDoor.Per
open Go.RowKit
set_option linter.unusedSimpArgs false
set_option linter.unusedVariables false

theorem quo_bit (d : Int) (k : Nat) (h0 : 0 ≤ d) : ((d / ((2 ^ k : Nat) : Int)).tmod 2 == 1) = d.toNat.testBit k := by
  have e : ((2 ^ k : Nat) : Int) = (2 : Int) ^ k := by simp
  rw [e, tmod_pos _ _ (Int.ediv_nonneg h0 (Int.pow_nonneg (by omega))), shr_bit d k h0]
  cases d.toNat.testBit k <;> rfl
set_option maxHeartbeats 2000000 in
theorem rhas_any (f t d n : Int) (w : World) (h0 : -9223372036854775808 ≤ n) (h1 : n ≤ 9223372036854775807) : Calls Tryz.prog 75 #[encQ (f, t, d), .int .i64 n] w fun e w' => e = .returned (.bool (hasQ (f, t, d) n)) ∧ Below w.heap.size w w' := by
  have hB : Box3 w w.heap.size (f, t, d) (w.alloc (.cells #[.int .i64 f, .int .i64 t, .int .i64 d] 27)).drew := (Box3.new w (f, t, d) _).more (Below.refl _ _).drew
  have f0 : ∀ x : Wd (Box3 w w.heap.size (f, t, d)), x.w.cell? ⟨w.heap.size, 0, none⟩ = some (.int .i64 f) := fun x => x.ok.1
  have f1 : ∀ x : Wd (Box3 w w.heap.size (f, t, d)), x.w.cell? ⟨w.heap.size, 1, none⟩ = some (.int .i64 t) := fun x => x.ok.2.1
  have f2 : ∀ x : Wd (Box3 w w.heap.size (f, t, d)), x.w.cell? ⟨w.heap.size, 2, none⟩ = some (.int .i64 d) := fun x => x.ok.2.2.1
  have CV := Lib.hid (Box3.call (w := w) (B := w.heap.size) (p := (f, t, d)) (fun W => rcheck_any f t d W))
  cases h : okQ (f, t, d)
  · have HR : Hid (hasQ (f, t, d) n = false) := Lib.hid (by simp [hasQ, h])
    have he := errQ_two h
    generalize errQ (f, t, d) = z at *
    clear h
    go_enter Tryz.func75, Tryz.ntmps75
    go_wp2
    have hNe : Nonempty (Wd (Box3 w w.heap.size (f, t, d))) := ⟨⟨_, hB⟩⟩
    refine quietS (S := Box3 w w.heap.size (f, t, d)) (by kernel_rfl) (by kernel_rfl) (hB) ?_
    repeat (first | go_big_quiet_skip | (go_big_quiet_want; go_big_quiet_op; first | go_big_quiet_on | go_big_quiet_call ((go_at_call 121; exact quiet_S (CV.out _ (Wd.ok _))))))
    refine wpQuiet_nil ?_
    rintro W ⟨⟨_, hW⟩, rfl⟩
    go_wp2
    go_ret
    exact ⟨ret_bool HR.out.symm, hW.2.2.2⟩
  · have hq := okQ_yes h
    have he := errQ_ok h
    rw [he] at CV
    clear he
    by_cases a1 : f ≤ n
    · by_cases a2 : n ≤ t
      · have HR : Hid (hasQ (f, t, d) n = ((d / ((2 ^ wkN n : Nat) : Int)).tmod 2 == 1)) := Lib.hid (by rw [quo_bit d (wkN n) (by have := hq.2.2.2.2.1; simp at this; omega)]; simp [hasQ, a1, a2, h, wdB])
        have CB := Lib.hid (Box3.call (w := w) (B := w.heap.size) (p := (f, t, d)) (fun W => (bit_any n W h0 h1).mono (R' := fun e w' => e = .returned (.int .i64 ((2 ^ wkN n : Nat) : Int)) ∧ Below W.heap.size W w') (by rintro e w' ⟨rfl, rfl⟩; exact ⟨rfl, Below.refl _ _⟩)))
        have hp := pow_step (wkN n) (wkN_lt n)
        have hd1 : 1 ≤ d := hq.2.2.2.2.1
        have hd2 : d ≤ 127 := hq.2.2.2.2.2
        generalize ((2 ^ wkN n : Nat) : Int) = y at *
        have y0 : ¬ y = 0 := by omega
        have y1 : ¬ y = -1 := by omega
        clear h hq
        go_enter Tryz.func75, Tryz.ntmps75
        go_wp2
        have hNe : Nonempty (Wd (Box3 w w.heap.size (f, t, d))) := ⟨⟨_, hB⟩⟩
        refine quietS (S := Box3 w w.heap.size (f, t, d)) (by kernel_rfl) (by kernel_rfl) (hB) ?_
        repeat (first | go_big_quiet_skip | (go_big_quiet_want; go_big_quiet_op; first | go_big_quiet_on | go_big_quiet_call ((first | (go_at_call 121; exact quiet_S (CV.out _ (Wd.ok _))) | (go_at_call 131; exact quiet_S (CB.out _ (Wd.ok _)))))))
        refine wpQuiet_nil ?_
        rintro W ⟨⟨_, hW⟩, rfl⟩
        go_wp2
        go_ret
        exact ⟨ret_bool HR.out.symm, hW.2.2.2⟩
      · have HR : Hid (hasQ (f, t, d) n = false) := Lib.hid (by simp [hasQ, a2])
        have a3 : decide (n ≤ t) = false := decide_eq_false a2
        clear h hq
        go_enter Tryz.func75, Tryz.ntmps75
        go_wp2
        have hNe : Nonempty (Wd (Box3 w w.heap.size (f, t, d))) := ⟨⟨_, hB⟩⟩
        refine quietS (S := Box3 w w.heap.size (f, t, d)) (by kernel_rfl) (by kernel_rfl) (hB) ?_
        repeat (first | go_big_quiet_skip | (go_big_quiet_want; go_big_quiet_op; first | go_big_quiet_on | go_big_quiet_call ((go_at_call 121; exact quiet_S (CV.out _ (Wd.ok _))))))
        refine wpQuiet_nil ?_
        rintro W ⟨⟨_, hW⟩, rfl⟩
        go_wp2
        go_ret
        exact ⟨ret_bool HR.out.symm, hW.2.2.2⟩
    · have HR : Hid (hasQ (f, t, d) n = false) := Lib.hid (by simp [hasQ, a1])
      have a3 : decide (f ≤ n) = false := decide_eq_false a1
      clear h hq
      go_enter Tryz.func75, Tryz.ntmps75
      go_wp2
      have hNe : Nonempty (Wd (Box3 w w.heap.size (f, t, d))) := ⟨⟨_, hB⟩⟩
      refine quietS (S := Box3 w w.heap.size (f, t, d)) (by kernel_rfl) (by kernel_rfl) (hB) ?_
      repeat (first | go_big_quiet_skip | (go_big_quiet_want; go_big_quiet_op; first | go_big_quiet_on | go_big_quiet_call ((go_at_call 121; exact quiet_S (CV.out _ (Wd.ok _))))))
      refine wpQuiet_nil ?_
      rintro W ⟨⟨_, hW⟩, rfl⟩
      go_wp2
      go_ret
      exact ⟨ret_bool HR.out.symm, hW.2.2.2⟩

end Go.Proofs.YtfgmlbmjjihhfaaGreatDoor.Per

/- The iterator over the days of a period: its contract, over whatever loop. -/
namespace Go.Proofs.YtfgmlbmjjihhfaaGreatDoor.Per
open Go.RowKit Go.Shelf
set_option linter.unusedSimpArgs false
set_option linter.unusedVariables false
attribute [local go_sem] Oper.semAt_some

/-- a day that there is -/
abbrev Dy := { x : Int // 0 ≤ x ∧ x < 36525 }
abbrev encD (x : Dy) : Array Value := #[.int .i64 x.1]
abbrev perT : TypeId := 27
/-- block B holds the period p -/
def BoxAt (W : World) (B : Nat) (p : Per) : Prop := W.heap[B]? = some (.cells #[.int .i64 p.1, .int .i64 p.2.1, .int .i64 p.2.2] perT (0, 0))
theorem BoxAt.cell {W : World} {B : Nat} {p : Per} (h : BoxAt W B p) : W.cell? ⟨B, 0, none⟩ = some (.int .i64 p.1) ∧ W.cell? ⟨B, 1, none⟩ = some (.int .i64 p.2.1) ∧ W.cell? ⟨B, 2, none⟩ = some (.int .i64 p.2.2) :=
  ⟨cell_of_row _ _ 0 _ _ (0, 0) h, cell_of_row _ _ 1 _ _ (0, 0) h, cell_of_row _ _ 2 _ _ (0, 0) h⟩
theorem BoxAt.lt {W : World} {B : Nat} {p : Per} (h : BoxAt W B p) : B < W.heap.size := (Array.getElem?_eq_some_iff.1 h).1
theorem BoxAt.more {W W' : World} {B : Nat} {p : Per} (h : BoxAt W B p) (hb : Below W.heap.size W W') : BoxAt W' B p := (hb.block B h.lt).trans h
theorem BoxAt.drew' {W : World} {B : Nat} {p : Per} (h : BoxAt W B p) : BoxAt W.drew B p := h.more (Below.refl _ _).drew
/-- what a round keeps -/
def KpB (n₀ B : Nat) (W W' : World) : Prop := Below n₀ W W' ∧ W'.heap[B]? = W.heap[B]?
theorem kp_t {n₀ B : Nat} {X Y Z : World} (h : KpB n₀ B X Y) (k : KpB n₀ B Y Z) : KpB n₀ B X Z := ⟨h.1.trans k.1, k.2.trans h.2⟩
theorem kp_b {n₀ B : Nat} {w : World} (hn : n₀ ≤ w.heap.size) (hB : B < w.heap.size) (W : World) (l : Nat) (o o' : Obj) (hl : w.heap.size ≤ l) (h : W.heap[l]? = some o) (h1 : o.isCells = false) (h2 : o.isWalk = false) : KpB n₀ B W (W.putObj l o') :=
  ⟨belowK_b hn W l o o' hl h h1 h2, World.putObj_heap_other (by omega)⟩
theorem grown_of_below {W W' : World} (h : Below W.heap.size W W') : W.grownBy W' none := ⟨h.os, h.tape, h.output, h.size, fun k hk _ => h.block k hk⟩
theorem abide_below {β : Type} {B : Nat} {J : β → World → Prop} (hJ : AbidesFrom B J) {s : β} {W W' : World} (h : J s W) (hb : Below W.heap.size W W') : J s W' :=
  hJ s W W' none h (grown_of_below hb) (fun r e => by cases e)

/-- the days as numbers -/
def vals (l : List Dy) : List Int := l.map (·.1)
theorem vals_nil : vals [] = [] := rfl
theorem vals_snoc (l : List Dy) (x : Dy) : vals (l ++ [x]) = vals l ++ [x.1] := by simp [vals]
theorem vals_len (l : List Dy) : (vals l).length = l.length := by simp [vals]
theorem wide_fn (f : Nat) : Fence.wide.fn f := trivial
attribute [local simp] wide_fn
theorem quietSIn {F : Fence} {n : Nat} {P : Program} {S : World → Prop} {id : Nat} {Q : Exit → Act → World → Prop} {a : Act} {w : World} {l : List Oper} (hro : F.round = none) (hm : P.follows .mixedOrders = true) (hB : Region.lexB .any l.toArray = true) (hC : S w.drew)
    (h : wpQuietIn F n P l.toArray (fun w' => ∃ x : Wd S, w' = x.w) (fun a' => ∀ w', (∃ x : Wd S, w' = x.w) → Q .normal a' w') l a) : (Code.region id l.toArray true).wpIn F n P Q a w :=
  wpIn_region_quiet (C := fun w' => ∃ x : Wd S, w' = x.w) hro hm hB ⟨⟨_, hC⟩, rfl⟩ (by simpa using h)
theorem quiet_SIn {F : Fence} {n : Nat} {P : Program} {f : FuncId} {args : Array Value} {W : World} {S : World → Prop} {v : Value} (h : CallsIn F n P f args W fun e w' => e = .returned v ∧ S w') :
    CallsIn F n P f args W fun e w'' => e = .returned v ∧ ∃ x : Wd S, w'' = x.w := h.mono (by rintro e w' ⟨he, hs⟩; exact ⟨he, ⟨w', hs⟩, rfl⟩)
/-- a world of a round before its yield -/
def InRd (J : List Dy → World → Prop) (pre : List Dy) (B : Nat) (p : Per) (W : World) : Prop := J pre W ∧ BoxAt W B p
theorem inRd_call {J : List Dy → World → Prop} {B0 : Nat} (hJa : AbidesFrom B0 J) {pre : List Dy} {B : Nat} {p : Per} {f : Nat} {args : Array Value} {v : Value} (h : ∀ W, Calls Tryz.prog f args W fun e w' => e = .returned v ∧ Below W.heap.size W w') (W : World) (hi : InRd J pre B p W) :
    CallsIn Fence.wide 8 Tryz.prog f args W fun e w' => e = .returned v ∧ InRd J pre B p w' :=
  callsIn_wide.2 ((h W).mono (by rintro e w' ⟨he, hb⟩; exact ⟨he, abide_below hJa hi.1 hb, hi.2.more hb⟩))

theorem yield_two {F : Fence} {m : Nat} {P : Program} {l : Nat} {fn : FuncId} {tmps : Array Value} {assign body : Code} {W : World} {R1 R2 : World → Prop}
    (h : RoundIn F m P l fn tmps assign body W fun e W' => (e = .returned (.bool true) ∧ R1 W') ∨ (e = .returned (.bool false) ∧ R2 W')) :
    RoundIn F m P l fn tmps assign body W fun e W' => ∃ b, e = .returned (.bool b) ∧ (b = true → R1 W') ∧ (b = false → R2 W') := h.mono (by
  rintro e W' (⟨rfl, h⟩ | ⟨rfl, h⟩)
  · exact ⟨true, rfl, fun _ => h, fun e => (nomatch e)⟩
  · exact ⟨false, rfl, fun e => (nomatch e), fun _ => h⟩)

set_option maxRecDepth 100000 in
set_option maxHeartbeats 2000000 in
theorem each1_in (l Bn n₀ : Nat) (f t d : Int) (J Jx : List Dy → World → Prop) (B0 : Nat) (hJa : AbidesFrom B0 J)
    (hY : ∀ pre x W, J pre W → pre.length < 800 → YieldAt Fence.wide 8 Tryz.prog l (encD x) W fun e W' =>
      (e = .returned (.bool true) ∧ J (pre ++ [x]) W' ∧ KpB n₀ Bn W W') ∨ (e = .returned (.bool false) ∧ Jx (pre ++ [x]) W'))
    (W : World) (hBn : BoxAt W Bn (f, t, d)) (h0 : J [] W) :
    CallsIn Fence.wide 9 Tryz.prog 205 #[.func (.yield l) #[] #[], .pointer (some ⟨Bn, 0, none⟩)] W fun e W' => (∃ v, e = .returned v) ∧
      ((∃ ys : List Dy, vals ys = daysQ (f, t, d) ∧ J ys W') ∨ (∃ pre, True ∧ Jx pre W')) := by
  obtain ⟨c0, c1, c2⟩ := hBn.cell
  have CV := isValid_any f t d W
  cases h : okQ (f, t, d)
  · rw [h] at CV
    refine callsIn_of_wp Tryz.func205 rfl trivial ?_ rfl
    simp only [Tryz.ntmps205, List.size_toArray, List.length_cons, List.length_nil, Nat.reduceAdd, Nat.reduceSub, Array.replicate_succ, Array.replicate_zero, List.push_toArray, List.append_toArray, List.nil_append, List.cons_append]
    gi_wp2_with (gi_at_call 127; refine (callsIn_wide.2 CV).mono ?_; rintro e w' ⟨rfl, hb⟩)
    refine bodyPost_ret (results_none rfl _ _ _) rfl ?_
    exact ⟨⟨_, rfl⟩, .inl ⟨[], by rw [daysQ_no h]; rfl, abide_below hJa h0 hb⟩⟩
  · rw [h] at CV
    have hq := okQ_yes h
    have q0 : 0 ≤ f := hq.1
    have q1 : f ≤ t := hq.2.1
    have q2 : t < 36525 := hq.2.2.1
    have q3 : t - f < 800 := hq.2.2.2.1
    have q4 : 1 ≤ d := hq.2.2.2.2.1
    have q5 : d ≤ 127 := hq.2.2.2.2.2
    have hlen : lenQ (f, t, d) = (t - f + 1).toNat := rfl
    have HD := Lib.hid (daysQ_yes h)
    clear h hq
    refine callsIn_of_wp Tryz.func205 rfl trivial ?_ rfl
    simp only [Tryz.ntmps205, List.size_toArray, List.length_cons, List.length_nil, Nat.reduceAdd, Nat.reduceSub, Array.replicate_succ, Array.replicate_zero, List.push_toArray, List.append_toArray, List.nil_append, List.cons_append]
    gi_wp2_with (gi_at_call 127; refine (callsIn_wide.2 CV).mono ?_; rintro e w' ⟨rfl, hb⟩; have hBn2 := hBn.more hb; have c0' := hBn2.cell.1)
    gi_loopw [3] (fun i wr => ∃ (k : Nat) (pre : List Dy), k ≤ lenQ (f, t, d) ∧ i = .int .i64 (f + k) ∧ Hid (vals pre = daysTo (f, t, d) k) ∧ J pre wr ∧ BoxAt wr Bn (f, t, d)) (fun i _ => (t + 1 - intOf i).toNat)
    case atStart => exact ⟨0, [], Nat.zero_le _, by simp, Lib.hid rfl, abide_below hJa h0 hb, hBn2⟩
    case round =>
      clear CV hb hBn2 c0' c0 c1 c2 hBn h0
      obtain ⟨k, pre, hk, rfl, HP, hJ, hB⟩ := hrel
      obtain ⟨g0, g1, g2⟩ := hB.cell
      by_cases hlt : k < lenQ (f, t, d)
      · have x1 : 0 ≤ f + (k : Int) := by omega
        have x2 : f + (k : Int) < 36525 := by omega
        have x3 : f + (k : Int) ≤ t := by omega
        have hpl : pre.length < 800 := by
          have h1 := daysTo_len (f, t, d) k
          rw [← HP.out, vals_len] at h1
          omega
        have CW := Lib.hid (inRd_call hJa (pre := pre) (B := Bn) (p := (f, t, d)) (fun W => wk_any (f + k) W (by omega) (by omega)))
        have CH := Lib.hid (inRd_call hJa (pre := pre) (B := Bn) (p := (f, t, d)) (fun W => hasWd_any f t d (wkN (f + k)) W (by omega) (by omega) (wkN_lt _)))
        have hI : InRd J pre Bn (f, t, d) wr.drew := ⟨abide_below hJa hJ (Below.refl _ _).drew, hB.drew'⟩
        have g0' : ∀ x : Wd (InRd J pre Bn (f, t, d)), x.w.cell? ⟨Bn, 0, none⟩ = some (.int .i64 f) := fun x => x.ok.2.cell.1
        have g1' : ∀ x : Wd (InRd J pre Bn (f, t, d)), x.w.cell? ⟨Bn, 1, none⟩ = some (.int .i64 t) := fun x => x.ok.2.cell.2.1
        have g2' : ∀ x : Wd (InRd J pre Bn (f, t, d)), x.w.cell? ⟨Bn, 2, none⟩ = some (.int .i64 d) := fun x => x.ok.2.cell.2.2
        cases hw : wdB d (f + k)
        · rw [show d.toNat.testBit (wkN (f + k)) = false from hw] at CH
          have HN := Lib.hid (daysTo_miss (f, t, d) k hw)
          clear hw
          generalize wkN (f + k) = wk at *
          gi_wp2
          have hNe : Nonempty (Wd (InRd J pre Bn (f, t, d))) := ⟨⟨_, hI⟩⟩
          refine quietSIn (S := InRd J pre Bn (f, t, d)) rfl (by kernel_rfl) (by kernel_rfl) (hI) ?_
          repeat (first | gi_big_quiet_skip | (gi_big_quiet_want; gi_big_quiet_op; first | go_big_quiet_on | gi_big_quiet_call ((first | (gi_at_call 129; exact quiet_SIn (CW.out _ (Wd.ok _))) | (gi_at_call 128; exact quiet_SIn (CH.out _ (Wd.ok _)))))))
          refine wpQuietIn_nil ?_
          rintro W ⟨⟨_, hW⟩, rfl⟩
          gi_wp2
          go_roundw
          case rel => exact ⟨k + 1, pre, by omega, by congr 1; omega, Lib.hid (by rw [HP.out, HN.out]), hW.1, hW.2⟩
          case measure => simp [intOf]; omega
        · rw [show d.toNat.testBit (wkN (f + k)) = true from hw] at CH
          have HN := Lib.hid (daysTo_hit (f, t, d) k hw)
          clear hw
          have HY := Lib.hid hY
          clear hY
          generalize wkN (f + k) = wk at *
          gi_wp2
          gi_region_with (first | (gi_at_call 129; refine (CW.out _ hI).mono ?_; rintro e w2 ⟨rfl, hI2⟩; have k0 := hI2.2.cell.1; have k1 := hI2.2.cell.2.1; have k2 := hI2.2.cell.2.2) | (gi_at_call 128; refine (CH.out _ hI2).mono ?_; rintro e w3 ⟨rfl, hI3⟩; obtain ⟨fn, tmps, assign, body, hy, hR⟩ := HY.out pre ⟨f + k, x1, x2⟩ w3 hI3.1 hpl; dsimp only [encD] at hy) | (refine (yield_two hR).mono ?_; rintro e W3 ⟨b, rfl, hb1, hb2⟩))
          all_goals
            cases b
            · have hx := hb2 rfl
              gi_wp2
              refine bodyPost_ret (results_none rfl _ _ _) rfl ?_
              exact ⟨⟨_, rfl⟩, .inr ⟨_, hx⟩⟩
            · obtain ⟨hJ3, hk3⟩ := hb1 rfl
              gi_wp2
              go_roundw
              case rel => exact ⟨k + 1, pre ++ [⟨f + k, x1, x2⟩], by omega, by congr 1; omega, Lib.hid (by rw [vals_snoc, HP.out, HN.out]), hJ3, hk3.2.trans hI3.2⟩
              case measure => simp [intOf]; omega
      · have e : k = lenQ (f, t, d) := by omega
        subst e
        gi_wp2
        go_end0
        exact ⟨⟨_, rfl⟩, .inl ⟨pre, by rw [HP.out, HD.out], hJ⟩⟩

/-- the contract of the iterator's value -/
theorem each_stops (Bn n₀ : Nat) (p : Per) (w : World) (hBn : BoxAt w Bn p) :
    SeqStopsK Fence.wide 9 Tryz.prog 205 #[.pointer (some ⟨Bn, 0, none⟩)] encD (KpB n₀ Bn) (fun ys => vals ys = daysQ p) (fun _ => True) 800 w := fun l J Jx W hW hJ _ hY h0 =>
  each1_in l Bn n₀ p.1 p.2.1 p.2.2 J Jx W.heap.size hJ hY W (hBn.more hW) h0
set_option maxHeartbeats 1000000 in
/-- 'each(p)': the period is boxed; the function value captures the box -/
theorem each_any (p : Per) (w : World) : CallsIn Fence.wide 9 Tryz.prog 165 #[encQ p] w fun e w' => e = .returned (.func (.func 205) #[] #[.pointer (some ⟨w.heap.size, 0, none⟩)]) ∧ w' = w.alloc (.cells #[.int .i64 p.1, .int .i64 p.2.1, .int .i64 p.2.2] perT) := by
  refine callsIn_of_wp Tryz.func165 rfl trivial ?_ rfl
  simp only [Tryz.ntmps165, List.size_toArray, List.length_cons, List.length_nil, Nat.reduceAdd, Nat.reduceSub, Array.replicate_succ, Array.replicate_zero, List.push_toArray, List.append_toArray, List.nil_append, List.cons_append]
  gi_wp2
  go_ret
  exact ⟨rfl, rfl⟩

end Go.Proofs.YtfgmlbmjjihhfaaGreatDoor.Per

/- Words for memory: lists of numbers and of periods, as slices. -/
namespace Go.Proofs.YtfgmlbmjjihhfaaGreatDoor.Per
open Go.RowKit
set_option linter.unusedSimpArgs false
set_option linter.unusedVariables false

/-- the slice value v holds the numbers l, in memory that lies in w -/
def IntL (w : World) (v : Value) (l : List Int) : Prop :=
  ∃ A c, v = .slice A l.length c ∧ (l = [] ∨ ∃ b o, A = some ⟨b, o, none⟩ ∧ b < w.heap.size ∧ ∀ i (h : i < l.length), w.cell? ⟨b, o + i, none⟩ = some (.int .i64 l[i]))
theorem IntL.more {w w' : World} {v : Value} {l : List Int} (h : IntL w v l) (hb : Below w.heap.size w w') : IntL w' v l := by
  obtain ⟨A, c, rfl, h⟩ := h
  refine ⟨A, c, rfl, ?_⟩
  rcases h with h | ⟨b, o, rfl, hlt, hc⟩
  · exact .inl h
  · exact .inr ⟨b, o, rfl, Nat.lt_of_lt_of_le hlt hb.size, fun i hi => (hb.cell (p := ⟨b, o + i, none⟩) hlt).trans (hc i hi)⟩
theorem IntL.of_own {e : TypeId} {B : Nat} {w : World} {v : Value} {l : List Int} (h : w.ownsRow B e 1 v l.length (l.map (Value.int .i64))) : IntL w v l := by
  cases l with
  | nil =>
    rcases h.2 with ⟨rfl, _⟩ | ⟨g, cap, cur, rfl, _⟩
    · exact ⟨none, 0, rfl, .inl rfl⟩
    · exact ⟨_, cap, rfl, .inl rfl⟩
  | cons x r =>
    obtain ⟨g, cap, rfl, _, hlt⟩ := h.form (by simp)
    refine ⟨_, cap, rfl, .inr ⟨g, 0, rfl, hlt, fun i hi => ?_⟩⟩
    have := h.cells (g := g) rfl i (.int .i64 (x :: r)[i]) (by rw [List.getElem?_map, List.getElem?_eq_getElem hi]; rfl)
    have hadd : (⟨g, 0, none⟩ : Addr).add i = ⟨g, 0 + i, none⟩ := by unfold Addr.add; split <;> simp_all
    rw [← hadd]
    exact this
/-- the cells of periods, one behind the other -/
def cellsQ (l : List Per) : List Value := l.flatMap fun p => [.int .i64 p.1, .int .i64 p.2.1, .int .i64 p.2.2]
theorem cellsQ_len (l : List Per) : (cellsQ l).length = l.length * 3 := by
  induction l with
  | nil => rfl
  | cons x r ih => simp only [cellsQ, List.flatMap_cons, List.length_append, List.length_cons, List.length_nil] at ih ⊢; omega
theorem cellsQ_app (l m : List Per) : cellsQ (l ++ m) = cellsQ l ++ cellsQ m := by simp [cellsQ]
theorem cellsQ_at : ∀ (l : List Per) (i : Nat) (h : i < l.length), (cellsQ l)[i * 3]? = some (.int .i64 l[i].1) ∧ (cellsQ l)[i * 3 + 1]? = some (.int .i64 l[i].2.1) ∧ (cellsQ l)[i * 3 + 2]? = some (.int .i64 l[i].2.2)
  | [], i, h => by simp at h
  | x :: r, 0, h => by simp [cellsQ]
  | x :: r, i + 1, h => by
    have ih := cellsQ_at r i (by simpa using h)
    have e : cellsQ (x :: r) = .int .i64 x.1 :: .int .i64 x.2.1 :: .int .i64 x.2.2 :: cellsQ r := by simp [cellsQ]
    rw [e, show (i + 1) * 3 = i * 3 + 1 + 1 + 1 by omega, show i * 3 + 1 + 1 + 1 + 1 = (i * 3 + 1) + 1 + 1 + 1 by omega, show i * 3 + 1 + 1 + 1 + 2 = (i * 3 + 2) + 1 + 1 + 1 by omega]
    simp only [List.getElem?_cons_succ, List.getElem_cons_succ]
    exact ih
/-- the slice value v holds the periods l, in memory that lies in w -/
def PerL (w : World) (v : Value) (l : List Per) : Prop :=
  ∃ A c, v = .slice A l.length c ∧ (l = [] ∨ ∃ b o, A = some ⟨b, o, none⟩ ∧ b < w.heap.size ∧ ∀ i (h : i < l.length), w.cell? ⟨b, o + i * 3, none⟩ = some (.int .i64 l[i].1) ∧ w.cell? ⟨b, o + i * 3 + 1, none⟩ = some (.int .i64 l[i].2.1) ∧ w.cell? ⟨b, o + i * 3 + 2, none⟩ = some (.int .i64 l[i].2.2))
theorem PerL.more {w w' : World} {v : Value} {l : List Per} (h : PerL w v l) (hb : Below w.heap.size w w') : PerL w' v l := by
  obtain ⟨A, c, rfl, h⟩ := h
  refine ⟨A, c, rfl, ?_⟩
  rcases h with h | ⟨b, o, rfl, hlt, hc⟩
  · exact .inl h
  · exact .inr ⟨b, o, rfl, Nat.lt_of_lt_of_le hlt hb.size, fun i hi => ⟨(hb.cell (p := ⟨b, o + i * 3, none⟩) hlt).trans (hc i hi).1, (hb.cell (p := ⟨b, o + i * 3 + 1, none⟩) hlt).trans (hc i hi).2.1, (hb.cell (p := ⟨b, o + i * 3 + 2, none⟩) hlt).trans (hc i hi).2.2⟩⟩
theorem PerL.of_own {e : TypeId} {B : Nat} {w : World} {v : Value} {l : List Per} (h : w.ownsRow B e 3 v l.length (cellsQ l)) : PerL w v l := by
  cases l with
  | nil =>
    rcases h.2 with ⟨rfl, _⟩ | ⟨g, cap, cur, rfl, _⟩
    · exact ⟨none, 0, rfl, .inl rfl⟩
    · exact ⟨_, cap, rfl, .inl rfl⟩
  | cons x r =>
    obtain ⟨g, cap, rfl, _, hlt⟩ := h.form (by simp [cellsQ])
    have hadd : ∀ j, (⟨g, 0, none⟩ : Addr).add j = ⟨g, 0 + j, none⟩ := fun j => by unfold Addr.add; split <;> simp_all
    refine ⟨_, cap, rfl, .inr ⟨g, 0, rfl, hlt, fun i hi => ?_⟩⟩
    obtain ⟨a0, a1, a2⟩ := cellsQ_at (x :: r) i hi
    have h0 := h.cells (g := g) rfl _ _ a0
    have h1 := h.cells (g := g) rfl _ _ a1
    have h2 := h.cells (g := g) rfl _ _ a2
    rw [hadd] at h0 h1 h2
    exact ⟨h0, by rw [Nat.add_assoc]; exact h1, by rw [Nat.add_assoc]; exact h2⟩

/-- a row of numbers of the call's own -/
structure IOwn (e : TypeId) (B : Nat) (w : World) (v : Value) (l : List Int) : Prop where
  own : w.ownsRow B e 1 v l.length (l.map (Value.int .i64))
  base : B ≤ w.heap.size
theorem IOwn.nil {e : TypeId} {B : Nat} {w : World} (hB : B ≤ w.heap.size) : IOwn e B w (.slice none 0 0) [] := ⟨World.ownsRow_nil _ _ _ _, hB⟩
theorem IOwn.more {e : TypeId} {B : Nat} {w w' : World} {v : Value} {l : List Int} (h : IOwn e B w v l) (hb : Below w.heap.size w w') : IOwn e B w' v l := ⟨own_more h.own hb, Nat.le_trans h.base hb.size⟩
theorem IOwn.alloc {e : TypeId} {B : Nat} {w : World} {v : Value} {l : List Int} (h : IOwn e B w v l) (o : Obj) : IOwn e B (w.alloc o) v l := h.more (bel_alloc w o)
/-- a row of periods of the call's own -/
structure POwn (e : TypeId) (B : Nat) (w : World) (v : Value) (l : List Per) : Prop where
  own : w.ownsRow B e 3 v l.length (cellsQ l)
  base : B ≤ w.heap.size
theorem POwn.nil {e : TypeId} {B : Nat} {w : World} (hB : B ≤ w.heap.size) : POwn e B w (.slice none 0 0) [] := ⟨World.ownsRow_nil _ _ _ _, hB⟩
theorem POwn.more {e : TypeId} {B : Nat} {w w' : World} {v : Value} {l : List Per} (h : POwn e B w v l) (hb : Below w.heap.size w w') : POwn e B w' v l := ⟨own_more h.own hb, Nat.le_trans h.base hb.size⟩
theorem POwn.alloc {e : TypeId} {B : Nat} {w : World} {v : Value} {l : List Per} (h : POwn e B w v l) (o : Obj) : POwn e B (w.alloc o) v l := h.more (bel_alloc w o)

theorem info_int : (Tryz.prog.info? 3).map (fun i => (i.zero, i.size, i.bytes)) = some (some (.int .i64 0), 1, 8) := by kernel_rfl
theorem info_per : (Tryz.prog.info? 27).map (fun i => (i.zero, i.size, i.bytes)) = some (some (.agg #[.int .i64 0, .int .i64 0, .int .i64 0]), 3, 24) := by kernel_rfl
section
/-- 'append(v, x)' for numbers: one way on -/
theorem wpList_iapp {B : Nat} {w : World} {ops : Array Oper} {rest : List Oper} {o : Oper} {a : Act} {Q : Exit → Act → World → Prop} (hgd : o.guard = none) (s x : Operand)
    (ho : o.op = .call { callee := .builtin .append, args := #[s, x], argTypes := #[81, 81] }) (v : Value) (l : List Int) (hs : a.eval s = v) (h0 : IOwn 3 B w v l)
    (b : Nat) (new : Int) (c : Nat) (hx : a.eval x = .slice (some ⟨b, 0, none⟩) 1 c) (hb : w.heap[b]? = some (.cells #[.int .i64 new] 3 (0, 0)))
    (hlim : l.length ≤ 1000000000)
    (h : ∀ v' w', IOwn 3 B w' v' (l ++ [new]) → Below B w w' → wpList Tryz.prog ops Q rest (a.put o.dst v') w') : wpList Tryz.prog ops Q (o :: rest) a w := by
  obtain ⟨i, hi, hz, hz1, hz2⟩ := info_parts info_int
  refine wpList_append_lies w hgd s x 81 ho B 3 i (.int .i64 0) 1 8 Tryz.underlying81 hi hz hz1 hz2 rfl (by omega) v l.length (l.map (Value.int .i64)) hs h0.own ⟨b, 0, none⟩ 1 c [.int .i64 new] hx
    rfl ?_ (by intro u hu; simp at hu; subst hu; rfl) (by omega) (by unfold maxLen; omega) (by omega) h0.base w.heap.size rfl ?_
  · exact World.news_of_block (cs := #[.int .i64 new]) hb
  · intro g cap w' hown hgrow _ _
    refine h _ _ ⟨?_, Nat.le_trans h0.base hgrow.size⟩ ((Below.refl B w).grown hgrow h0.base (own_below' h0.own))
    rw [List.map_append, List.length_append]
    exact hown
end

end Go.Proofs.YtfgmlbmjjihhfaaGreatDoor.Per
