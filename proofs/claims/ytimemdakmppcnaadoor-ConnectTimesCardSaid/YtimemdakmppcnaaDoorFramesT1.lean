/- SamF, ConF, FrameK, FramesCA in one text. -/
import Derived.Test.YtimemdakmppcnaaDoorFltA
import Derived.Test.YtimemdakmppcnaaDoorConE
import Derived.Deep.RegionHeld3
import Derived.OrdersHeld
import Derived.Test.YtimemdakmppcnaaDoorCards
import Derived.Test.YtimemdakmppcnaaDoorTie
import Derived.WalkKit
import Derived.ProofKit
import Derived.OpenShut
import Derived.ShutString
import Derived.Carry
import Derived.SizedLaws
import Derived.SliceStrings
import Derived.Stop.LaidErr
import Derived.Deep.DeepHandedRow
import Derived.Deep.DeepWitnessRowRef
import Derived.Deep.DeepLaidRun
import Derived.Lib.LaidTab
import Derived.Lib.SmallJoins
import Derived.Deep.SlicePairs
import Derived.Test.YtimemdakmppcnaaDoorRows
import Derived.ChangeSlices
import Derived.Test.YtimemdakmppcnaaDoorPlaB
import Derived.Test.YtimemdakmppcnaaDoorConA
/- Walk of the reference's SameFaults. -/
namespace Go.Proofs.YtimemdakmppcnaaDoor
open Go.RowKit Go.Shelf
set_option linter.unusedSimpArgs false
set_option linter.unusedVariables false

set_option maxRecDepth 100000 in
set_option maxHeartbeats 4000000 in
/-- equal lists are found equal -/
theorem samF7_any (u v : Value) (l : List Flt) (w : World) (hu : FltL w u l) (hv : FltL w v l) (hl : l.length ≤ 1000000) :
    Calls Tryd.prog 10 #[u, v] w fun e w' => e = .returned (.bool true) ∧ Below w.heap.size w w' := by
  obtain ⟨A, c, rfl, hA⟩ := hu
  obtain ⟨A', c', rfl, hA'⟩ := hv
  have HA : Hid (∀ k, k < l.length → ∃ b o x, A = some ⟨b, o, none⟩ ∧ l[k]? = some x ∧ w.cell? ⟨b, o + k * 2, none⟩ = some (.int .i64 x.1) ∧ w.cell? ⟨b, o + k * 2 + 1, none⟩ = some (.string x.2)) := Lib.hid (fun k hk => by
    rcases hA with h | ⟨b, o, h1, h2, h3⟩
    · rw [h] at hk; simp at hk
    · exact ⟨b, o, l[k], h1, List.getElem?_eq_getElem hk, h3 k _ 0 _ (List.getElem?_eq_getElem hk) rfl, h3 k _ 1 _ (List.getElem?_eq_getElem hk) rfl⟩)
  have HA' : Hid (∀ k, k < l.length → ∃ b o x, A' = some ⟨b, o, none⟩ ∧ l[k]? = some x ∧ w.cell? ⟨b, o + k * 2, none⟩ = some (.int .i64 x.1) ∧ w.cell? ⟨b, o + k * 2 + 1, none⟩ = some (.string x.2)) := Lib.hid (fun k hk => by
    rcases hA' with h | ⟨b, o, h1, h2, h3⟩
    · rw [h] at hk; simp at hk
    · exact ⟨b, o, l[k], h1, List.getElem?_eq_getElem hk, h3 k _ 0 _ (List.getElem?_eq_getElem hk) rfl, h3 k _ 1 _ (List.getElem?_eq_getElem hk) rfl⟩)
  clear hA hA'
  go_enter Tryd.func10, Tryd.ntmps10
  go_wp2
  go_loopw [5] (fun vi wr => ∃ k : Nat, k ≤ l.length ∧ vi = .int .i64 k ∧ SW w wr) (fun vi _ => l.length - (intOf vi).toNat)
  case atStart => exact ⟨0, Nat.zero_le _, rfl, Below.refl _ _⟩
  case round =>
    obtain ⟨k, hk, rfl, hS⟩ := hrel
    by_cases hlt : k < l.length
    · obtain ⟨b, o, x, rfl, hx, c0, c1⟩ := HA.out k hlt
      obtain ⟨b', o', x', rfl, hx', d0, d1⟩ := HA'.out k hlt
      rw [hx] at hx'
      obtain rfl := Option.some.inj hx'
      have i2 : (k : Int) < (l.length : Int) := by omega
      have f0 := SW.cell (bel_cell hS c0)
      have f1 := SW.cell (bel_cell hS c1)
      have f2 := SW.cell (bel_cell hS d0)
      have f3 := SW.cell (bel_cell hS d1)
      clear hx hx' c0 c1 d0 d1
      go_wp2
      have hNe : Nonempty (Wd (SW wr)) := ⟨⟨_, SW.drew _⟩⟩
      refine quietS (S := SW wr) (by kernel_rfl) (by kernel_rfl) (SW.drew _) ?_
      repeat (first | go_big_quiet_skip | (go_big_quiet_want; go_big_quiet_op; first | go_big_quiet_on | go_big_quiet_call ((fail))))
      refine wpQuiet_nil ?_
      rintro W ⟨⟨_, hW⟩, rfl⟩
      go_wp2
      go_roundw
      case rel => exact ⟨k + 1, by omega, by go_num, Below.trans hS (Below.mono hW hS.size)⟩
      case measure => simp [intOf]; omega
    · go_wp2
      go_ret
      exact ⟨rfl, hS⟩


end Go.Proofs.YtimemdakmppcnaaDoor

/- Walk of the law ConnectTimes. -/
namespace Go.Proofs.YtimemdakmppcnaaDoor.Con
open Go.RowKit Go.Shelf
set_option linter.unusedSimpArgs false
set_option linter.unusedVariables false

set_option maxRecDepth 100000 in
set_option maxHeartbeats 16000000 in
theorem connectTimes_walk (A : Option Addr) (c : Nat) (l : List Cn) (a b : Sg) (w : World) (hv : CnL w (.slice A l.length c) l) (hok : ∀ x ∈ l, OkC x) :
    Calls Tryd.prog 3 #[.slice A l.length c, aggSg a, aggSg b] w fun e w' => e = .returned (.bool true) ∧ Below w.heap.size w w' := by
  have hb1 := bel_alloc w (.cells #[.string a.car, .int .i64 a.num, .int .i64 a.day, .string a.f, .string a.t, .int .i64 a.dep, .int .i64 a.arr] sgT)
  have hb2 := bel_alloc (w.alloc (.cells #[.string a.car, .int .i64 a.num, .int .i64 a.day, .string a.f, .string a.t, .int .i64 a.dep, .int .i64 a.arr] sgT)) (.cells #[.string b.car, .int .i64 b.num, .int .i64 b.day, .string b.f, .string b.t, .int .i64 b.dep, .int .i64 b.arr] sgT)
  have hb12 := hb1.trans (hb2.mono hb1.size)
  have a0 := bel_cell hb2 ((cells_new w #[.string a.car, .int .i64 a.num, .int .i64 a.day, .string a.f, .string a.t, .int .i64 a.dep, .int .i64 a.arr] sgT 0).trans (show _ = some (Value.string a.car) from rfl))
  have a1 := bel_cell hb2 ((cells_new w #[.string a.car, .int .i64 a.num, .int .i64 a.day, .string a.f, .string a.t, .int .i64 a.dep, .int .i64 a.arr] sgT 1).trans (show _ = some (Value.int .i64 a.num) from rfl))
  have a2 := bel_cell hb2 ((cells_new w #[.string a.car, .int .i64 a.num, .int .i64 a.day, .string a.f, .string a.t, .int .i64 a.dep, .int .i64 a.arr] sgT 2).trans (show _ = some (Value.int .i64 a.day) from rfl))
  have a3 := bel_cell hb2 ((cells_new w #[.string a.car, .int .i64 a.num, .int .i64 a.day, .string a.f, .string a.t, .int .i64 a.dep, .int .i64 a.arr] sgT 3).trans (show _ = some (Value.string a.f) from rfl))
  have a4 := bel_cell hb2 ((cells_new w #[.string a.car, .int .i64 a.num, .int .i64 a.day, .string a.f, .string a.t, .int .i64 a.dep, .int .i64 a.arr] sgT 4).trans (show _ = some (Value.string a.t) from rfl))
  have a5 := bel_cell hb2 ((cells_new w #[.string a.car, .int .i64 a.num, .int .i64 a.day, .string a.f, .string a.t, .int .i64 a.dep, .int .i64 a.arr] sgT 5).trans (show _ = some (Value.int .i64 a.dep) from rfl))
  have a6 := bel_cell hb2 ((cells_new w #[.string a.car, .int .i64 a.num, .int .i64 a.day, .string a.f, .string a.t, .int .i64 a.dep, .int .i64 a.arr] sgT 6).trans (show _ = some (Value.int .i64 a.arr) from rfl))
  have b0 := (cells_new (w.alloc (.cells #[.string a.car, .int .i64 a.num, .int .i64 a.day, .string a.f, .string a.t, .int .i64 a.dep, .int .i64 a.arr] sgT)) #[.string b.car, .int .i64 b.num, .int .i64 b.day, .string b.f, .string b.t, .int .i64 b.dep, .int .i64 b.arr] sgT 0).trans (show _ = some (Value.string b.car) from rfl)
  have b1 := (cells_new (w.alloc (.cells #[.string a.car, .int .i64 a.num, .int .i64 a.day, .string a.f, .string a.t, .int .i64 a.dep, .int .i64 a.arr] sgT)) #[.string b.car, .int .i64 b.num, .int .i64 b.day, .string b.f, .string b.t, .int .i64 b.dep, .int .i64 b.arr] sgT 1).trans (show _ = some (Value.int .i64 b.num) from rfl)
  have b2 := (cells_new (w.alloc (.cells #[.string a.car, .int .i64 a.num, .int .i64 a.day, .string a.f, .string a.t, .int .i64 a.dep, .int .i64 a.arr] sgT)) #[.string b.car, .int .i64 b.num, .int .i64 b.day, .string b.f, .string b.t, .int .i64 b.dep, .int .i64 b.arr] sgT 2).trans (show _ = some (Value.int .i64 b.day) from rfl)
  have b3 := (cells_new (w.alloc (.cells #[.string a.car, .int .i64 a.num, .int .i64 a.day, .string a.f, .string a.t, .int .i64 a.dep, .int .i64 a.arr] sgT)) #[.string b.car, .int .i64 b.num, .int .i64 b.day, .string b.f, .string b.t, .int .i64 b.dep, .int .i64 b.arr] sgT 3).trans (show _ = some (Value.string b.f) from rfl)
  have b4 := (cells_new (w.alloc (.cells #[.string a.car, .int .i64 a.num, .int .i64 a.day, .string a.f, .string a.t, .int .i64 a.dep, .int .i64 a.arr] sgT)) #[.string b.car, .int .i64 b.num, .int .i64 b.day, .string b.f, .string b.t, .int .i64 b.dep, .int .i64 b.arr] sgT 4).trans (show _ = some (Value.string b.t) from rfl)
  have b5 := (cells_new (w.alloc (.cells #[.string a.car, .int .i64 a.num, .int .i64 a.day, .string a.f, .string a.t, .int .i64 a.dep, .int .i64 a.arr] sgT)) #[.string b.car, .int .i64 b.num, .int .i64 b.day, .string b.f, .string b.t, .int .i64 b.dep, .int .i64 b.arr] sgT 5).trans (show _ = some (Value.int .i64 b.dep) from rfl)
  have b6 := (cells_new (w.alloc (.cells #[.string a.car, .int .i64 a.num, .int .i64 a.day, .string a.f, .string a.t, .int .i64 a.dep, .int .i64 a.arr] sgT)) #[.string b.car, .int .i64 b.num, .int .i64 b.day, .string b.f, .string b.t, .int .i64 b.dep, .int .i64 b.arr] sgT 6).trans (show _ = some (Value.int .i64 b.arr) from rfl)
  rw [World.size_alloc] at b0 b1 b2 b3 b4 b5 b6
  obtain ⟨B, hB⟩ : ∃ B, B = w.heap.size := ⟨_, rfl⟩
  rw [← hB] at a0 a1 a2 a3 a4 a5 a6 b0 b1 b2 b3 b4 b5 b6
  have HV := Lib.hid hv
  have HOK := Lib.hid hok
  clear hv hok hb1 hb2
  go_enter Tryd.func3, Tryd.ntmps3
  go_upto_region 1 with fail
  have HB := Lib.hid hb12
  rw [← hB]
  generalize (w.alloc (.cells #[.string a.car, .int .i64 a.num, .int .i64 a.day, .string a.f, .string a.t, .int .i64 a.dep, .int .i64 a.arr] sgT)).alloc (.cells #[.string b.car, .int .i64 b.num, .int .i64 b.day, .string b.f, .string b.t, .int .i64 b.dep, .int .i64 b.arr] sgT) = w5 at *
  clear hb12 hB
  by_cases hl : 100 < l.length
  · have h1 : (100 : Int) < (l.length : Int) := by omega
    clear a0 a1 a2 a3 a4 a5 a6 b0 b1 b2 b3 b4 b5 b6
    go_wp2_with (go_at_call 9; refine (knows_any _).mono ?_; rintro e w7 ⟨rfl, hb7⟩)
    go_ret
    exact ⟨rfl, HB.out.trans (hb7.mono HB.out.size)⟩
  have h1 : ¬ (100 : Int) < (l.length : Int) := by omega
  have KF : Hid (Calls Tryd.prog 8 #[.slice (some ⟨w5.heap.size, 0, none⟩) 2 2] (w5.alloc (.cells #[.string a.car, .int .i64 a.num, .int .i64 a.day, .string a.f, .string a.t, .int .i64 a.dep, .int .i64 a.arr, .string b.car, .int .i64 b.num, .int .i64 b.day, .string b.f, .string b.t, .int .i64 b.dep, .int .i64 b.arr] sgT)) fun e w' => e = .returned (.bool (farB [a, b])) ∧ Below (w5.alloc (.cells #[.string a.car, .int .i64 a.num, .int .i64 a.day, .string a.f, .string a.t, .int .i64 a.dep, .int .i64 a.arr, .string b.car, .int .i64 b.num, .int .i64 b.day, .string b.f, .string b.t, .int .i64 b.dep, .int .i64 b.arr] sgT)).heap.size (w5.alloc (.cells #[.string a.car, .int .i64 a.num, .int .i64 a.day, .string a.f, .string a.t, .int .i64 a.dep, .int .i64 a.arr, .string b.car, .int .i64 b.num, .int .i64 b.day, .string b.f, .string b.t, .int .i64 b.dep, .int .i64 b.arr] sgT)) w') := Lib.hid (far_any _ [a, b] _ (RowL.new (enc := encSg) (sz := 7) w5 [a, b] sgT (fun _ => rfl) rfl 2) (by simp))
  have hbF := bel_alloc w5 (.cells #[.string a.car, .int .i64 a.num, .int .i64 a.day, .string a.f, .string a.t, .int .i64 a.dep, .int .i64 a.arr, .string b.car, .int .i64 b.num, .int .i64 b.day, .string b.f, .string b.t, .int .i64 b.dep, .int .i64 b.arr] sgT)
  cases hf : farB [a, b] with
  | true =>
    rw [hf] at KF
    go_wp2_with (first | (go_at_call 9; refine (knows_any _).mono ?_; rintro e w7 ⟨rfl, hb7⟩) | (go_at_call 8; refine KF.out.mono ?_; rintro e w6 ⟨rfl, hb6⟩))
    go_ret
    have hb56 := hbF.trans (hb6.mono hbF.size)
    exact ⟨rfl, (HB.out.trans (hb56.mono HB.out.size)).trans (hb7.mono (Nat.le_trans HB.out.size hb56.size))⟩
  | false =>
    rw [hf] at KF
    have ta : tmB a := far_no hf a (by simp)
    have tb : tmB b := far_no hf b (by simp)
    have HCl : Hid ((conF l l.length).length ≤ 1000000) := Lib.hid (by have := conF_le l l.length; omega)
    go_upto_region 3 with (go_at_call 8; refine KF.out.mono ?_; rintro e w6 ⟨rfl, hb6⟩)
    have hb56 := hbF.trans (hb6.mono hbF.size)
    have HB6 : Hid (Below w.heap.size w w6) := Lib.hid (HB.out.trans (hb56.mono HB.out.size))
    have HV6 : Hid (∀ W, SW w6 W → CnL W (.slice A l.length c) l) := Lib.hid (fun W h => HV.out.more (HB6.out.trans (Below.mono h HB6.out.size)))
    have f0 := bel_get (bel_cell hb56 a0)
    have f1 := bel_get (bel_cell hb56 a1)
    have f2 := bel_get (bel_cell hb56 a2)
    have f3 := bel_get (bel_cell hb56 a3)
    have f4 := bel_get (bel_cell hb56 a4)
    have f5 := bel_get (bel_cell hb56 a5)
    have f6 := bel_get (bel_cell hb56 a6)
    have g0 := bel_get (bel_cell hb56 b0)
    have g1 := bel_get (bel_cell hb56 b1)
    have g2 := bel_get (bel_cell hb56 b2)
    have g3 := bel_get (bel_cell hb56 b3)
    have g4 := bel_get (bel_cell hb56 b4)
    have g5 := bel_get (bel_cell hb56 b5)
    have g6 := bel_get (bel_cell hb56 b6)
    clear a0 a1 a2 a3 a4 a5 a6 b0 b1 b2 b3 b4 b5 b6 hbF hb6 hb56 KF hf HB
    have KC : Hid (∀ W, SW w6 W → Calls Tryd.prog 11 #[.slice A l.length c] W fun e w' => ∃ v', e = .returned v' ∧ FltL w' v' (conF l l.length) ∧ SW w6 w') := Lib.hid (fun W h => (check_any _ l W (HV6.out W h) (by omega) HOK.out).mono (by rintro e w' ⟨v', rfl, hO, hb⟩; exact ⟨v', rfl, hO.rowL rtF.len, Below.trans h (Below.mono hb h.size)⟩))
    have KRC : Hid (∀ W, SW w6 W → Calls Tryd.prog 12 #[.slice A l.length c] W fun e w' => ∃ v', e = .returned v' ∧ FltL w' v' (conF l l.length) ∧ Below W.heap.size W w') := Lib.hid (fun W h => (rcheck_any _ l W (HV6.out W h) (by omega) HOK.out).mono (by rintro e w' ⟨v', rfl, hO, hb⟩; exact ⟨v', rfl, hO.rowL rtF.len, hb⟩))
    have KS : Hid (∀ u v W, FltL W u (conF l l.length) → FltL W v (conF l l.length) → SW w6 W → Calls Tryd.prog 10 #[u, v] W fun e w' => e = .returned (.bool true) ∧ SW w6 w') := Lib.hid (fun u v W hu hv h => (samF7_any u v _ W hu hv HCl.out).mono (by rintro e w' ⟨rfl, hb⟩; exact ⟨rfl, Below.trans h (Below.mono hb h.size)⟩))
    have KM : Hid (∀ W, SW w6 W → Calls Tryd.prog 13 #[.slice A l.length c, .string a.t, .string a.car, .string b.car] W fun e w' => e = .returned (.int .i64 (minC l a.t a.car b.car)) ∧ SW w6 w') := Lib.hid (fun W h => (minutes_any _ l a.t a.car b.car W (HV6.out W h) (by omega)).mono (by rintro e w' ⟨rfl, hb⟩; exact ⟨rfl, Below.trans h (Below.mono hb h.size)⟩))
    have KRM : Hid (∀ W, SW w6 W → Calls Tryd.prog 14 #[.slice A l.length c, .string a.t, .string a.car, .string b.car] W fun e w' => e = .returned (.int .i64 (minC l a.t a.car b.car)) ∧ SW w6 w') := Lib.hid (fun W h => (rminutes_any _ l a.t a.car b.car W (HV6.out W h) (by omega)).mono (by rintro e w' ⟨rfl, hb⟩; exact ⟨rfl, Below.trans h (Below.mono hb h.size)⟩))
    have KX : Hid (∀ W, SW w6 W → Calls Tryd.prog 15 #[.slice A l.length c, .agg #[.string a.car, .int .i64 a.num, .int .i64 a.day, .string a.f, .string a.t, .int .i64 a.dep, .int .i64 a.arr], .agg #[.string b.car, .int .i64 b.num, .int .i64 b.day, .string b.f, .string b.t, .int .i64 b.dep, .int .i64 b.arr]] W fun e w' => e = .returned (.bool (fitB l a b)) ∧ SW w6 w') := Lib.hid (fun W h => (fits_any _ l a b W (HV6.out W h) (by omega) ta tb).mono (by rintro e w' ⟨rfl, hb⟩; exact ⟨rfl, Below.trans h (Below.mono hb h.size)⟩))
    have KRX : Hid (∀ W, SW w6 W → Calls Tryd.prog 16 #[.slice A l.length c, .agg #[.string a.car, .int .i64 a.num, .int .i64 a.day, .string a.f, .string a.t, .int .i64 a.dep, .int .i64 a.arr], .agg #[.string b.car, .int .i64 b.num, .int .i64 b.day, .string b.f, .string b.t, .int .i64 b.dep, .int .i64 b.arr]] W fun e w' => e = .returned (.bool (fitB l a b)) ∧ SW w6 w') := Lib.hid (fun W h => (rfits_any _ l a b W (HV6.out W h) (by omega) ta tb).mono (by rintro e w' ⟨rfl, hb⟩; exact ⟨rfl, Below.trans h (Below.mono hb h.size)⟩))
    have KK : Hid (∀ W, SW w6 W → Calls Tryd.prog 9 #[] W fun e w' => e = .returned (.bool true) ∧ SW w6 w') := Lib.hid (fun W h => (knows_any W).mono (by rintro e w' ⟨rfl, hb⟩; exact ⟨rfl, Below.trans h (Below.mono hb h.size)⟩))
    clear HCl ta tb HOK HV HV6
    generalize conF l l.length = CF at *
    generalize minC l a.t a.car b.car = mc at *
    generalize fitB l a b = fb at *
    have e1 : (mc == mc) = true := by simp
    have e2 : (fb == fb) = true := by simp
    have hS : (SW w6) _ := (Below.refl _ _).drew
    refine wp_region_held_drew (S := SW w6) (by kernel_rfl) hS (fun _ => ?_)
    refine wpAnyH_take (i := 0) (v := ?vL0) rfl (by kernel_rfl) (by kernel_rfl) (by kernel_rfl) (fun _ _ _ h => h) (Or.inl ⟨by rfl, ?hyL0⟩) hS ?restL0
    case hyL0 =>
      intro w hSw
      first | (go_simp; done) | (go_simp; with_reducible rfl)
    try simp only [Act.put, List.setIfInBounds_toArray, List.set_cons_zero, List.set_cons_succ]
    refine wpAnyH_take (i := 2) (v := ?vL2) rfl (by kernel_rfl) (by kernel_rfl) (by kernel_rfl) (fun _ _ _ h => h) (Or.inl ⟨by rfl, ?hyL2⟩) hS ?restL2
    case hyL2 =>
      intro w hSw
      first | (go_simp; done) | (go_simp; with_reducible rfl)
    try simp only [Act.put, List.setIfInBounds_toArray, List.set_cons_zero, List.set_cons_succ]
    refine wpAnyH_ready (rs := [1]) (by kernel_rfl) (by simp) ?_
    refine AllReadyH.cons rfl (fun K hK => ?_) AllReadyH.nil
    go_simp
    go_wp2_with ((go_at_call 11; refine (KC.out _ hS).mono ?_; rintro e w7 ⟨v1, rfl, hF1, hS⟩))
    refine hK.out _ _ hS (fun _ => ?_)
    clear hK K
    refine wpAnyH_ready (rs := [3]) (by kernel_rfl) (by simp) ?_
    refine AllReadyH.cons rfl (fun K hK => ?_) AllReadyH.nil
    go_simp
    go_wp2_with ((go_at_call 12; refine (KRC.out _ hS).mono ?_; rintro e w8 ⟨v2, rfl, hF2, hb8⟩; have hF1 := RowL.more hF1 hb8; have hS := Below.trans hS (Below.mono hb8 hS.size)))
    refine hK.out _ _ hS (fun _ => ?_)
    clear hK K
    refine wpAnyH_ready (rs := [4]) (by kernel_rfl) (by simp) ?_
    refine AllReadyH.cons rfl (fun K hK => ?_) AllReadyH.nil
    go_simp
    skip
    go_wp2_with ((go_at_call 10; refine (KS.out v1 v2 _ hF1 hF2 hS).mono ?_; rintro e w9 ⟨rfl, hS⟩))
    refine hK.out _ _ hS (fun _ => ?_)
    clear hK K
    refine wpAnyH_take (i := 5) (v := ?vL5) rfl (by kernel_rfl) (by kernel_rfl) (by kernel_rfl) (fun _ _ _ h => h) (Or.inl ⟨by rfl, ?hyL5⟩) hS ?restL5
    case hyL5 =>
      intro w hSw
      first | (go_simp; done) | (go_simp; with_reducible rfl)
    try simp only [Act.put, List.setIfInBounds_toArray, List.set_cons_zero, List.set_cons_succ]
    refine wpAnyH_take (i := 6) (v := ?vL6) rfl (by kernel_rfl) (by kernel_rfl) (by kernel_rfl) (fun _ _ _ h => h) (Or.inl ⟨by kernel_rfl, ?hyL6⟩) hS ?restL6
    case hyL6 =>
      intro w hSw
      first | (go_simp; done) | (go_simp; with_reducible rfl)
    try simp only [Act.put, List.setIfInBounds_toArray, List.set_cons_zero, List.set_cons_succ]
    refine wpAnyH_take (i := 7) (v := ?vL7) rfl (by kernel_rfl) (by kernel_rfl) (by kernel_rfl) (fun _ _ _ h => h) (Or.inl ⟨by kernel_rfl, ?hyL7⟩) hS ?restL7
    case hyL7 =>
      intro w hSw
      first | (go_simp; done) | (go_simp; with_reducible rfl)
    try simp only [Act.put, List.setIfInBounds_toArray, List.set_cons_zero, List.set_cons_succ]
    refine wpAnyH_take (i := 8) (v := ?vL8) rfl (by kernel_rfl) (by kernel_rfl) (by kernel_rfl) (fun _ _ _ h => h) (Or.inl ⟨by kernel_rfl, ?hyL8⟩) hS ?restL8
    case hyL8 =>
      intro w hSw
      have k0 := f0 w hSw; have k1 := f1 w hSw; have k2 := f2 w hSw; have k3 := f3 w hSw; have k4 := f4 w hSw; have k5 := f5 w hSw; have k6 := f6 w hSw; have k7 := g0 w hSw; have k8 := g1 w hSw; have k9 := g2 w hSw; have k10 := g3 w hSw; have k11 := g4 w hSw; have k12 := g5 w hSw; have k13 := g6 w hSw
      first | (go_simp; done) | (go_simp; with_reducible rfl)
    try simp only [Act.put, List.setIfInBounds_toArray, List.set_cons_zero, List.set_cons_succ]
    refine wpAnyH_take (i := 9) (v := ?vL9) rfl (by kernel_rfl) (by kernel_rfl) (by kernel_rfl) (fun _ _ _ h => h) (Or.inl ⟨by kernel_rfl, ?hyL9⟩) hS ?restL9
    case hyL9 =>
      intro w hSw
      first | (go_simp; done) | (go_simp; with_reducible rfl)
    try simp only [Act.put, List.setIfInBounds_toArray, List.set_cons_zero, List.set_cons_succ]
    refine wpAnyH_take (i := 10) (v := ?vL10) rfl (by kernel_rfl) (by kernel_rfl) (by kernel_rfl) (fun _ _ _ h => h) (Or.inl ⟨by kernel_rfl, ?hyL10⟩) hS ?restL10
    case hyL10 =>
      intro w hSw
      have k0 := f0 w hSw; have k1 := f1 w hSw; have k2 := f2 w hSw; have k3 := f3 w hSw; have k4 := f4 w hSw; have k5 := f5 w hSw; have k6 := f6 w hSw; have k7 := g0 w hSw; have k8 := g1 w hSw; have k9 := g2 w hSw; have k10 := g3 w hSw; have k11 := g4 w hSw; have k12 := g5 w hSw; have k13 := g6 w hSw
      first | (go_simp; done) | (go_simp; with_reducible rfl)
    try simp only [Act.put, List.setIfInBounds_toArray, List.set_cons_zero, List.set_cons_succ]
    refine wpAnyH_take (i := 11) (v := ?vL11) rfl (by kernel_rfl) (by kernel_rfl) (by kernel_rfl) (fun _ _ _ h => h) (Or.inl ⟨by kernel_rfl, ?hyL11⟩) hS ?restL11
    case hyL11 =>
      intro w hSw
      first | (go_simp; done) | (go_simp; with_reducible rfl)
    try simp only [Act.put, List.setIfInBounds_toArray, List.set_cons_zero, List.set_cons_succ]
    refine wpAnyH_take (i := 12) (v := ?vL12) rfl (by kernel_rfl) (by kernel_rfl) (by kernel_rfl) (fun _ _ _ h => h) (Or.inl ⟨by kernel_rfl, ?hyL12⟩) hS ?restL12
    case hyL12 =>
      intro w hSw
      have k0 := f0 w hSw; have k1 := f1 w hSw; have k2 := f2 w hSw; have k3 := f3 w hSw; have k4 := f4 w hSw; have k5 := f5 w hSw; have k6 := f6 w hSw; have k7 := g0 w hSw; have k8 := g1 w hSw; have k9 := g2 w hSw; have k10 := g3 w hSw; have k11 := g4 w hSw; have k12 := g5 w hSw; have k13 := g6 w hSw
      first | (go_simp; done) | (go_simp; with_reducible rfl)
    try simp only [Act.put, List.setIfInBounds_toArray, List.set_cons_zero, List.set_cons_succ]
    refine wpAnyH_take (i := 14) (v := ?vL14) rfl (by kernel_rfl) (by kernel_rfl) (by kernel_rfl) (fun _ _ _ h => h) (Or.inl ⟨by kernel_rfl, ?hyL14⟩) hS ?restL14
    case hyL14 =>
      intro w hSw
      first | (go_simp; done) | (go_simp; with_reducible rfl)
    try simp only [Act.put, List.setIfInBounds_toArray, List.set_cons_zero, List.set_cons_succ]
    refine wpAnyH_take (i := 15) (v := ?vL15) rfl (by kernel_rfl) (by kernel_rfl) (by kernel_rfl) (fun _ _ _ h => h) (Or.inl ⟨by kernel_rfl, ?hyL15⟩) hS ?restL15
    case hyL15 =>
      intro w hSw
      first | (go_simp; done) | (go_simp; with_reducible rfl)
    try simp only [Act.put, List.setIfInBounds_toArray, List.set_cons_zero, List.set_cons_succ]
    refine wpAnyH_take (i := 16) (v := ?vL16) rfl (by kernel_rfl) (by kernel_rfl) (by kernel_rfl) (fun _ _ _ h => h) (Or.inl ⟨by kernel_rfl, ?hyL16⟩) hS ?restL16
    case hyL16 =>
      intro w hSw
      have k0 := f0 w hSw; have k1 := f1 w hSw; have k2 := f2 w hSw; have k3 := f3 w hSw; have k4 := f4 w hSw; have k5 := f5 w hSw; have k6 := f6 w hSw; have k7 := g0 w hSw; have k8 := g1 w hSw; have k9 := g2 w hSw; have k10 := g3 w hSw; have k11 := g4 w hSw; have k12 := g5 w hSw; have k13 := g6 w hSw
      first | (go_simp; done) | (go_simp; with_reducible rfl)
    try simp only [Act.put, List.setIfInBounds_toArray, List.set_cons_zero, List.set_cons_succ]
    refine wpAnyH_take (i := 17) (v := ?vL17) rfl (by kernel_rfl) (by kernel_rfl) (by kernel_rfl) (fun _ _ _ h => h) (Or.inl ⟨by kernel_rfl, ?hyL17⟩) hS ?restL17
    case hyL17 =>
      intro w hSw
      first | (go_simp; done) | (go_simp; with_reducible rfl)
    try simp only [Act.put, List.setIfInBounds_toArray, List.set_cons_zero, List.set_cons_succ]
    refine wpAnyH_take (i := 18) (v := ?vL18) rfl (by kernel_rfl) (by kernel_rfl) (by kernel_rfl) (fun _ _ _ h => h) (Or.inl ⟨by kernel_rfl, ?hyL18⟩) hS ?restL18
    case hyL18 =>
      intro w hSw
      have k0 := f0 w hSw; have k1 := f1 w hSw; have k2 := f2 w hSw; have k3 := f3 w hSw; have k4 := f4 w hSw; have k5 := f5 w hSw; have k6 := f6 w hSw; have k7 := g0 w hSw; have k8 := g1 w hSw; have k9 := g2 w hSw; have k10 := g3 w hSw; have k11 := g4 w hSw; have k12 := g5 w hSw; have k13 := g6 w hSw
      first | (go_simp; done) | (go_simp; with_reducible rfl)
    try simp only [Act.put, List.setIfInBounds_toArray, List.set_cons_zero, List.set_cons_succ]
    refine wpAnyH_take (i := 19) (v := ?vL19) rfl (by kernel_rfl) (by kernel_rfl) (by kernel_rfl) (fun _ _ _ h => h) (Or.inl ⟨by kernel_rfl, ?hyL19⟩) hS ?restL19
    case hyL19 =>
      intro w hSw
      first | (go_simp; done) | (go_simp; with_reducible rfl)
    try simp only [Act.put, List.setIfInBounds_toArray, List.set_cons_zero, List.set_cons_succ]
    refine wpAnyH_take (i := 20) (v := ?vL20) rfl (by kernel_rfl) (by kernel_rfl) (by kernel_rfl) (fun _ _ _ h => h) (Or.inl ⟨by kernel_rfl, ?hyL20⟩) hS ?restL20
    case hyL20 =>
      intro w hSw
      have k0 := f0 w hSw; have k1 := f1 w hSw; have k2 := f2 w hSw; have k3 := f3 w hSw; have k4 := f4 w hSw; have k5 := f5 w hSw; have k6 := f6 w hSw; have k7 := g0 w hSw; have k8 := g1 w hSw; have k9 := g2 w hSw; have k10 := g3 w hSw; have k11 := g4 w hSw; have k12 := g5 w hSw; have k13 := g6 w hSw
      first | (go_simp; done) | (go_simp; with_reducible rfl)
    try simp only [Act.put, List.setIfInBounds_toArray, List.set_cons_zero, List.set_cons_succ]
    refine wpAnyH_ready (rs := [13]) (by kernel_rfl) (by simp) ?_
    refine AllReadyH.cons rfl (fun K hK => ?_) AllReadyH.nil
    go_simp
    go_wp2_with ((go_at_call 13; refine (KM.out _ hS).mono ?_; rintro e w10 ⟨rfl, hS⟩))
    refine hK.out _ _ hS (fun _ => ?_)
    clear hK K
    refine wpAnyH_ready (rs := [21]) (by kernel_rfl) (by simp) ?_
    refine AllReadyH.cons rfl (fun K hK => ?_) AllReadyH.nil
    go_simp
    go_wp2_with ((go_at_call 14; refine (KRM.out _ hS).mono ?_; rintro e w11 ⟨rfl, hS⟩))
    refine hK.out _ _ hS (fun _ => ?_)
    clear hK K
    refine wpAnyH_take (i := 22) (v := ?vL22) rfl (by kernel_rfl) (by kernel_rfl) (by kernel_rfl) (fun _ _ _ h => h) (Or.inl ⟨by kernel_rfl, ?hyL22⟩) hS ?restL22
    case hyL22 =>
      intro w hSw
      first | (go_simp; done) | (go_simp; with_reducible rfl)
    try simp only [Act.put, List.setIfInBounds_toArray, List.set_cons_zero, List.set_cons_succ]
    refine wpAnyH_take (i := 23) (v := ?vL23) rfl (by kernel_rfl) (by kernel_rfl) (by kernel_rfl) (fun _ _ _ h => h) (Or.inl ⟨by rfl, ?hyL23⟩) hS ?restL23
    case hyL23 =>
      intro w hSw
      first | (go_simp; done) | (go_simp; with_reducible rfl)
    try simp only [Act.put, List.setIfInBounds_toArray, List.set_cons_zero, List.set_cons_succ]
    refine wpAnyH_take (i := 24) (v := ?vL24) rfl (by kernel_rfl) (by kernel_rfl) (by kernel_rfl) (fun _ _ _ h => h) (Or.inl ⟨by rfl, ?hyL24⟩) hS ?restL24
    case hyL24 =>
      intro w hSw
      first | (go_simp; done) | (go_simp; with_reducible rfl)
    try simp only [Act.put, List.setIfInBounds_toArray, List.set_cons_zero, List.set_cons_succ]
    refine wpAnyH_take (i := 25) (v := ?vL25) rfl (by kernel_rfl) (by kernel_rfl) (by kernel_rfl) (fun _ _ _ h => h) (Or.inl ⟨by kernel_rfl, ?hyL25⟩) hS ?restL25
    case hyL25 =>
      intro w hSw
      first | (go_simp; done) | (go_simp; with_reducible rfl)
    try simp only [Act.put, List.setIfInBounds_toArray, List.set_cons_zero, List.set_cons_succ]
    refine wpAnyH_take (i := 26) (v := ?vL26) rfl (by kernel_rfl) (by kernel_rfl) (by kernel_rfl) (fun _ _ _ h => h) (Or.inl ⟨by kernel_rfl, ?hyL26⟩) hS ?restL26
    case hyL26 =>
      intro w hSw
      have k0 := f0 w hSw; have k1 := f1 w hSw; have k2 := f2 w hSw; have k3 := f3 w hSw; have k4 := f4 w hSw; have k5 := f5 w hSw; have k6 := f6 w hSw; have k7 := g0 w hSw; have k8 := g1 w hSw; have k9 := g2 w hSw; have k10 := g3 w hSw; have k11 := g4 w hSw; have k12 := g5 w hSw; have k13 := g6 w hSw
      first | (go_simp; done) | (go_simp; with_reducible rfl)
    try simp only [Act.put, List.setIfInBounds_toArray, List.set_cons_zero, List.set_cons_succ]
    refine wpAnyH_take (i := 27) (v := ?vL27) rfl (by kernel_rfl) (by kernel_rfl) (by kernel_rfl) (fun _ _ _ h => h) (Or.inl ⟨by kernel_rfl, ?hyL27⟩) hS ?restL27
    case hyL27 =>
      intro w hSw
      have k0 := f0 w hSw; have k1 := f1 w hSw; have k2 := f2 w hSw; have k3 := f3 w hSw; have k4 := f4 w hSw; have k5 := f5 w hSw; have k6 := f6 w hSw; have k7 := g0 w hSw; have k8 := g1 w hSw; have k9 := g2 w hSw; have k10 := g3 w hSw; have k11 := g4 w hSw; have k12 := g5 w hSw; have k13 := g6 w hSw
      first | (go_simp; done) | (go_simp; with_reducible rfl)
    try simp only [Act.put, List.setIfInBounds_toArray, List.set_cons_zero, List.set_cons_succ]
    refine wpAnyH_take (i := 29) (v := ?vL29) rfl (by kernel_rfl) (by kernel_rfl) (by kernel_rfl) (fun _ _ _ h => h) (Or.inl ⟨by kernel_rfl, ?hyL29⟩) hS ?restL29
    case hyL29 =>
      intro w hSw
      first | (go_simp; done) | (go_simp; with_reducible rfl)
    try simp only [Act.put, List.setIfInBounds_toArray, List.set_cons_zero, List.set_cons_succ]
    refine wpAnyH_take (i := 30) (v := ?vL30) rfl (by kernel_rfl) (by kernel_rfl) (by kernel_rfl) (fun _ _ _ h => h) (Or.inl ⟨by kernel_rfl, ?hyL30⟩) hS ?restL30
    case hyL30 =>
      intro w hSw
      have k0 := f0 w hSw; have k1 := f1 w hSw; have k2 := f2 w hSw; have k3 := f3 w hSw; have k4 := f4 w hSw; have k5 := f5 w hSw; have k6 := f6 w hSw; have k7 := g0 w hSw; have k8 := g1 w hSw; have k9 := g2 w hSw; have k10 := g3 w hSw; have k11 := g4 w hSw; have k12 := g5 w hSw; have k13 := g6 w hSw
      first | (go_simp; done) | (go_simp; with_reducible rfl)
    try simp only [Act.put, List.setIfInBounds_toArray, List.set_cons_zero, List.set_cons_succ]
    refine wpAnyH_take (i := 31) (v := ?vL31) rfl (by kernel_rfl) (by kernel_rfl) (by kernel_rfl) (fun _ _ _ h => h) (Or.inl ⟨by kernel_rfl, ?hyL31⟩) hS ?restL31
    case hyL31 =>
      intro w hSw
      have k0 := f0 w hSw; have k1 := f1 w hSw; have k2 := f2 w hSw; have k3 := f3 w hSw; have k4 := f4 w hSw; have k5 := f5 w hSw; have k6 := f6 w hSw; have k7 := g0 w hSw; have k8 := g1 w hSw; have k9 := g2 w hSw; have k10 := g3 w hSw; have k11 := g4 w hSw; have k12 := g5 w hSw; have k13 := g6 w hSw
      first | (go_simp; done) | (go_simp; with_reducible rfl)
    try simp only [Act.put, List.setIfInBounds_toArray, List.set_cons_zero, List.set_cons_succ]
    refine wpAnyH_ready (rs := [28]) (by kernel_rfl) (by simp) ?_
    refine AllReadyH.cons rfl (fun K hK => ?_) AllReadyH.nil
    go_simp
    go_wp2_with ((go_at_call 15; refine (KX.out _ hS).mono ?_; rintro e w12 ⟨rfl, hS⟩))
    refine hK.out _ _ hS (fun _ => ?_)
    clear hK K
    refine wpAnyH_ready (rs := [32]) (by kernel_rfl) (by simp) ?_
    refine AllReadyH.cons rfl (fun K hK => ?_) AllReadyH.nil
    go_simp
    go_wp2_with ((go_at_call 16; refine (KRX.out _ hS).mono ?_; rintro e w13 ⟨rfl, hS⟩))
    refine hK.out _ _ hS (fun _ => ?_)
    clear hK K
    refine wpAnyH_take (i := 33) (v := ?vL33) rfl (by kernel_rfl) (by kernel_rfl) (by kernel_rfl) (fun _ _ _ h => h) (Or.inl ⟨by kernel_rfl, ?hyL33⟩) hS ?restL33
    case hyL33 =>
      intro w hSw
      first | (go_simp; done) | (go_simp; with_reducible rfl)
    try simp only [Act.put, List.setIfInBounds_toArray, List.set_cons_zero, List.set_cons_succ]
    refine wpAnyH_take (i := 34) (v := ?vL34) rfl (by kernel_rfl) (by kernel_rfl) (by kernel_rfl) (fun _ _ _ h => h) (Or.inl ⟨by rfl, ?hyL34⟩) hS ?restL34
    case hyL34 =>
      intro w hSw
      first | (go_simp; done) | (go_simp; with_reducible rfl)
    try simp only [Act.put, List.setIfInBounds_toArray, List.set_cons_zero, List.set_cons_succ]
    refine wpAnyH_take (i := 35) (v := ?vL35) rfl (by kernel_rfl) (by kernel_rfl) (by kernel_rfl) (fun _ _ _ h => h) (Or.inl ⟨by rfl, ?hyL35⟩) hS ?restL35
    case hyL35 =>
      intro w hSw
      first | (go_simp; done) | (go_simp; with_reducible rfl)
    try simp only [Act.put, List.setIfInBounds_toArray, List.set_cons_zero, List.set_cons_succ]
    refine wpAnyH_ready (rs := [36]) (by kernel_rfl) (by simp) ?_
    refine AllReadyH.cons rfl (fun K hK => ?_) AllReadyH.nil
    go_simp
    go_wp2_with ((go_at_call 9; refine (KK.out _ hS).mono ?_; rintro e w14 ⟨rfl, hS⟩))
    refine hK.out _ _ hS (fun _ => ?_)
    clear hK K
    refine wpAnyH_take (i := 37) (v := ?vL37) rfl (by kernel_rfl) (by kernel_rfl) (by kernel_rfl) (fun _ _ _ h => h) (Or.inl ⟨by rfl, ?hyL37⟩) hS ?restL37
    case hyL37 =>
      intro w hSw
      first | (go_simp; done) | (go_simp; with_reducible rfl)
    try simp only [Act.put, List.setIfInBounds_toArray, List.set_cons_zero, List.set_cons_succ]
    refine wpAnyH_take (i := 38) (v := ?vL38) rfl (by kernel_rfl) (by kernel_rfl) (by kernel_rfl) (fun _ _ _ h => h) (Or.inl ⟨by rfl, ?hyL38⟩) hS ?restL38
    case hyL38 =>
      intro w hSw
      first | (go_simp; done) | (go_simp; with_reducible rfl)
    try simp only [Act.put, List.setIfInBounds_toArray, List.set_cons_zero, List.set_cons_succ]
    refine wpAnyH_done (by kernel_rfl) ?_ _
    simp only [List.getElem_toArray, List.getElem_cons_succ, List.getElem_cons_zero, List.set_cons_zero, List.set_cons_succ]
    try simp only [List.setIfInBounds_toArray, List.set_cons_zero, List.set_cons_succ]
    go_wp2
    go_ret
    exact ⟨by first | rfl | exact ret_bool (by simp) | (simp; done) | (simp [go_sem]; done), HB6.out.trans (Below.mono hS HB6.out.size)⟩
end Go.Proofs.YtimemdakmppcnaaDoor.Con

/- What all the rows of this seat ask besides the walks: a world for the witness; arguments opened (places, texts, lists of texts). -/
namespace Go.Proofs.YtimemdakmppcnaaDoor
open Go.ChangeShapes Go.WideShapes Go.ChangeAt Go.RowKit
set_option linter.unusedSimpArgs false
set_option linter.unusedVariables false

theorem own : ownKnob Tryd.prog.godebug = none := by kernel_rfl
theorem laidOut : laidOutB Tryd.prog = true := by kernel_rfl
/-- the listed variables are not asked for -/
def Env (_ : World) : Prop := True
theorem env_of {W : World} (h : laidMetH Tryd.prog Rows.connectTimesRow.laid W) : Env W := trivial

/-! ### A world for the witness -/
noncomputable def low : Nat := (World.holding Tryd.prog default ⟨#[], #[], []⟩).heap.size
def putCells (cs : Array Value) : Obj → Obj
  | .cells _ t frozen => .cells cs t frozen
  | o => o
def litsOf (k : IntKind) : DataW Unit → List Value
  | .agg ps => ps.map fun | .lit (.int _ z) => .int k z | _ => .int k 0
  | _ => []
noncomputable def laidWorld (os : Os) : World :=
  let w0 := World.holding Tryd.prog os ⟨#[], #[], []⟩
  let h3 := w0.heap.modify 0 (putCells (litsOf .u64 Rows.laid_internal_strconv_uint64pow10).toArray)
  let h4 := h3.modify 1 (putCells (litsOf .u8 Rows.laid_math_bits_deBruijn32tab).toArray)
  let h5 := h4.modify 2 (putCells (litsOf .u8 Rows.laid_math_bits_deBruijn64tab).toArray)
  { w0 with heap := h5 }
theorem laidWorld_met (os : Os) (args : Array Value) : laidMet Tryd.prog Rows.connectTimesRow.laid ((laidWorld os).forCall (fun _ _ => 0) ⟨#[], args, []⟩).memory :=
  laidMet_of_run3 8 (by kernel_rfl) (by kernel_rfl) (by kernel_rfl)

/-! ### Places among the arguments -/
theorem int_bounds {a : Int} (h : (Lit.int .i64 a).wf = true) : -9223372036854775808 ≤ a ∧ a ≤ 9223372036854775807 := by
  have e1 : IntKind.i64.min = -9223372036854775808 := rfl
  have e2 : IntKind.i64.max = 9223372036854775807 := rfl
  simp only [Lit.wf, e1, e2, Bool.and_eq_true, decide_eq_true_eq] at h
  omega
theorem bytes_string : Tryd.prog.bytesOf 9 = 16 := by kernel_rfl
theorem cells_string : Tryd.prog.cellsOf 9 = 1 := by kernel_rfl
theorem cells_int : Tryd.prog.cellsOf 3 = 1 := by kernel_rfl
theorem cells_shift : Tryd.prog.cellsOf 109 = 2 := by kernel_rfl
theorem cells_zone : Tryd.prog.cellsOf 51 = 2 := by kernel_rfl
theorem cells_shs : Tryd.prog.cellsOf 49 = 1 := by kernel_rfl
theorem cells_air : Tryd.prog.cellsOf 53 = 5 := by kernel_rfl
theorem cells_dst : Tryd.prog.cellsOf 95 = 3 := by kernel_rfl
theorem cells_places : Tryd.prog.cellsOf 36 = 2 := by kernel_rfl
theorem sized_str {H : Type} {P : Program} {ts : List TypeId} {ds : List (DataW H)} (h : (DataW.weightsEach P ts ds).all (· ≤ reachBytes) = true) {j : Nat} {t : TypeId} {s : ByteArray} (ht : ts[j]? = some t) (hd : ds[j]? = some (.lit (.string s.data.toList))) : s.size ≤ 140737488355328 := by
  have h1 := sized_string h ht hd
  have h2 := reachBytes_lt
  have e3 : (2 : Nat) ^ 47 = 140737488355328 := by decide
  have e1 : s.data.toList.length = s.size := Array.length_toList
  omega
theorem shs_at (f : Nat → Int × Int) (n i : Nat) (h : i < n) : ((List.range n).map f).getD i (0, 0) = f i := by
  rw [List.getD_eq_getElem?_getD, List.getElem?_map, List.getElem?_range h]; rfl
theorem open_shs {H : Type} {enc : TypeId × Value → H} {W : World} {n : Nat} {v : Value} {y : DataW H × List MemPlace} (h : DataW.trod enc Tryd.prog W 0 (fun _ => true) true n 49 [v] = some y) :
    ∃ (A : Option Addr) (c : Nat) (l : Shs), v = .slice A l.length c ∧ ShL W A l ∧ (∀ k, k < l.length → -9223372036854775808 ≤ shA l k ∧ shA l k ≤ 9223372036854775807) ∧ l.length < 9223372036854775808 := by
  rcases Deep.open_slice_pairs Tryd.underlying49 Tryd.underlying109 cells_shift rfl rfl cells_int cells_int h with ⟨hcs, rfl⟩ | ⟨a, len, cap, m', n, V0, V1, D0, D1, P0, P1, hcs, _, hl, hm, hmm, rfl, hx⟩
  · simp at hcs
    subst hcs
    exact ⟨none, 0, [], rfl, .inl rfl, fun k hk => by simp at hk, by simp⟩
  · simp at hcs
    subst hcs
    simp at hmm
    subst hmm
    have em : maxLen = 9223372036854775807 := by decide
    have each : ∀ i, i < m' → ∃ q : Int × Int, V0 i = .int .i64 q.1 ∧ V1 i = .int .i64 q.2 ∧ -9223372036854775808 ≤ q.1 ∧ q.1 ≤ 9223372036854775807 := fun i hi => by
      obtain ⟨_, _, g0, g1⟩ := hx i hi
      obtain ⟨x, e0, _, w0⟩ := DataW.trod_int Tryd.underlying3 g0
      obtain ⟨y, e1, _, w1⟩ := DataW.trod_int Tryd.underlying3 g1
      simp at e0 e1
      exact ⟨(x, y), e0, e1, int_bounds w0⟩
    obtain ⟨f, hf⟩ := Deep.choose_lt each
    have el : ((List.range len).map f).length = len := by simp
    refine ⟨some a, m', (List.range len).map f, by rw [el], ?_, ?_, by rw [el]; omega⟩
    · rcases Nat.eq_zero_or_pos len with h0 | h0
      · left; rw [h0]; rfl
      · right
        obtain ⟨b, off, spot⟩ := a
        have h1 := (hx 0 (by omega)).1
        have hspot : spot = none := by simpa [Addr.add] using World.cell?_spot h1
        subst hspot
        have hadd : ∀ i, (⟨b, off, none⟩ : Addr).add i = ⟨b, off + i, none⟩ := fun i => by unfold Addr.add; split <;> simp_all
        refine ⟨b, off, rfl, by simpa [Addr.add] using World.block_lt_of_cell? _ _ h1, fun i hi => ?_⟩
        rw [el] at hi
        obtain ⟨g0, g1, _, _⟩ := hx i (by omega)
        obtain ⟨e0, e1, _⟩ := hf i (by omega)
        rw [hadd, e0] at g0
        rw [hadd, e1] at g1
        unfold shA shF
        rw [shs_at f len i hi]
        exact ⟨g0, by rw [Nat.add_assoc]; exact g1⟩
    · intro k hk
      rw [el] at hk
      unfold shA
      rw [shs_at f len k hk]
      exact (hf k (by omega)).2.2
instance : Inhabited Air := ⟨airZ⟩
instance : Inhabited Dst := ⟨⟨noB, noB, 0⟩⟩
theorem len2 {α : Type} : ∀ {l : List α}, l.length = 2 → ∃ a b, l = [a, b]
  | [a, b], _ => ⟨a, b, rfl⟩
theorem len3 {α : Type} : ∀ {l : List α}, l.length = 3 → ∃ a b c, l = [a, b, c]
  | [a, b, c], _ => ⟨a, b, c, rfl⟩
theorem len4 {α : Type} : ∀ {l : List α}, l.length = 4 → ∃ a b c d, l = [a, b, c, d]
  | [a, b, c, d], _ => ⟨a, b, c, d, rfl⟩
theorem len5 {α : Type} : ∀ {l : List α}, l.length = 5 → ∃ a b c d e, l = [a, b, c, d, e]
  | [a, b, c, d, e], _ => ⟨a, b, c, d, e, rfl⟩
set_option maxRecDepth 100000 in
theorem open_air {H : Type} {enc : TypeId × Value → H} {W : World} {n b o : Nat} {cs : List Value} {y : DataW H × List MemPlace} (hc : W.cells? 0 ⟨b, o, none⟩ 5 = some cs) (h : DataW.trod enc Tryd.prog W 0 (fun _ => true) true n 53 cs = some y) :
    ∃ a : Air, AirAt W b o a ∧ OkA a := by
  obtain ⟨_, hlen, hcell⟩ := World.cells?_some hc
  obtain ⟨xs, k, _, _, _, hxl, hf⟩ := DataW.trod_struct Tryd.underlying53 h
  obtain ⟨y0, y1, y2, y3, rfl⟩ := len4 hxl
  obtain ⟨v0, v1, v2, v3, v4, rfl⟩ := len5 hlen
  all_goals
    have g0 := hf 0 _ rfl
    have g1 := hf 1 _ rfl
    have g2 := hf 2 _ rfl
    have g3 := hf 3 _ rfl
    simp [cells_string, cells_zone] at g0 g1 g2 g3
    obtain ⟨s0, e0, _, z0⟩ := DataW.trod_string Tryd.underlying9 g0
    obtain ⟨s1, e1, _, z1⟩ := DataW.trod_string Tryd.underlying9 g1
    obtain ⟨s2, e2, _, z2⟩ := DataW.trod_string Tryd.underlying9 g2
    obtain ⟨zs, k2, _, _, _, hzl, hz⟩ := DataW.trod_struct Tryd.underlying51 g3
    obtain ⟨u0, u1, rfl⟩ := len2 hzl
    all_goals
      have q0 := hz 0 _ rfl
      have q1 := hz 1 _ rfl
      simp [cells_int, cells_shs] at q0 q1
      obtain ⟨x, e3, _, w3⟩ := DataW.trod_int Tryd.underlying3 q0
      obtain ⟨A, c, l, e4, hL, hr, hl⟩ := open_shs q1
      simp at e0 e1 e2 e3
      subst e0 e1 e2 e3 e4
      have hadd : ∀ j, (⟨b, o, none⟩ : Addr).add j = ⟨b, o + j, none⟩ := fun j => by unfold Addr.add; split <;> simp_all
      have c0 := hcell 0 (by omega)
      have c1 := hcell 1 (by omega)
      have c2 := hcell 2 (by omega)
      have c3 := hcell 3 (by omega)
      have c4 := hcell 4 (by omega)
      rw [hadd] at c0 c1 c2 c3 c4
      exact ⟨⟨s0, s1, s2, x, A, c, l⟩, ⟨by simpa using c0, by simpa using c1, by simpa using c2, by simpa using c3, by simpa using c4, hL⟩, ⟨z0, z1, z2, hl, hr⟩⟩
set_option maxRecDepth 100000 in
theorem open_dst {H : Type} {enc : TypeId × Value → H} {W : World} {n b o : Nat} {cs : List Value} {y : DataW H × List MemPlace} (hc : W.cells? 0 ⟨b, o, none⟩ 3 = some cs) (h : DataW.trod enc Tryd.prog W 0 (fun _ => true) true n 95 cs = some y) :
    ∃ d : Dst, DstAt W b o d ∧ OkD d := by
  obtain ⟨_, hlen, hcell⟩ := World.cells?_some hc
  obtain ⟨xs, k, _, _, _, hxl, hf⟩ := DataW.trod_struct Tryd.underlying95 h
  obtain ⟨y0, y1, y2, rfl⟩ := len3 hxl
  obtain ⟨v0, v1, v2, rfl⟩ := len3 hlen
  all_goals
    have g0 := hf 0 _ rfl
    have g1 := hf 1 _ rfl
    have g2 := hf 2 _ rfl
    simp [cells_string, cells_int] at g0 g1 g2
    obtain ⟨s0, e0, _, z0⟩ := DataW.trod_string Tryd.underlying9 g0
    obtain ⟨s1, e1, _, z1⟩ := DataW.trod_string Tryd.underlying9 g1
    obtain ⟨x, e2, _, w2⟩ := DataW.trod_int Tryd.underlying3 g2
    simp at e0 e1 e2
    subst e0 e1 e2
    have hadd : ∀ j, (⟨b, o, none⟩ : Addr).add j = ⟨b, o + j, none⟩ := fun j => by unfold Addr.add; split <;> simp_all
    have c0 := hcell 0 (by omega)
    have c1 := hcell 1 (by omega)
    have c2 := hcell 2 (by omega)
    rw [hadd] at c0 c1 c2
    exact ⟨⟨s0, s1, x⟩, ⟨by simpa using c0, by simpa using c1, by simpa using c2⟩, ⟨z0, z1⟩⟩
theorem list_at {α : Type} (f : Nat → α) (n i : Nat) (a : α) (h : ((List.range n).map f)[i]? = some a) : i < n ∧ a = f i := by
  have hi : i < n := by have := (List.getElem?_eq_some_iff.1 h).1; simpa using this
  rw [List.getElem?_map, List.getElem?_range hi] at h
  exact ⟨hi, (Option.some.inj h).symm⟩
set_option maxRecDepth 100000 in
/-- places by value, opened -/
theorem open_places {H : Type} {enc : TypeId × Value → H} {W : World} {b0 : Nat} {v : Value} {d : DataW H} {p : List MemPlace} (hv : Value.okWide Tryd.prog W .any b0 36 v) (h : DataW.Trod enc Tryd.prog W 0 (fun _ => true) true 36 v d p) :
    ∃ pv : PV, v = encP pv ∧ PlL W pv ∧ (∀ a ∈ pv.l, OkA a) ∧ (∀ d ∈ pv.ds, OkD d) ∧ pv.l.length < 9223372036854775808 ∧ pv.ds.length < 9223372036854775808 := by
  have em : maxLen = 9223372036854775807 := by decide
  obtain ⟨v0, v1, y0, y1, m, rfl, rfl, rfl, hy0, hy1⟩ := Joins.open_agg2 Tryd.underlying36 (by kernel_rfl) cells_places hv h
  have hA : ∃ (A : Option Addr) (c : Nat) (l : List Air), v0 = .slice A l.length c ∧ AirL W A l ∧ (∀ a ∈ l, OkA a) ∧ l.length < 9223372036854775808 := by
    rcases Deep.open_slice Tryd.underlying33 hy0 with ⟨hcs, _⟩ | ⟨a, len, cap, m', n, D, Pl, hcs, _, hl, hm, hmm, _, hx⟩
    · simp at hcs
      exact ⟨none, 0, [], hcs, .inl rfl, fun a ha => by simp at ha, by simp⟩
    · simp at hcs hmm
      subst hcs hmm
      rcases Nat.eq_zero_or_pos len with h0 | h0
      · exact ⟨some a, m', [], by rw [h0]; rfl, .inl rfl, fun a ha => by simp at ha, by simp⟩
      obtain ⟨b, off, spot⟩ := a
      obtain ⟨cs0, hc0, _⟩ := hx 0 (by omega)
      have hspot : spot = none := by
        rw [cells_air] at hc0
        obtain ⟨_, hl0, hcell⟩ := World.cells?_some hc0
        have h1 := hcell 0 (by omega)
        rw [List.getElem?_eq_getElem (by omega)] at h1
        simpa [Addr.add] using World.cell?_spot h1
      subst hspot
      have hadd : ∀ i, (⟨b, off, none⟩ : Addr).add i = ⟨b, off + i, none⟩ := fun i => by unfold Addr.add; split <;> simp_all
      have each : ∀ i, i < len → ∃ a : Air, AirAt W b (off + i * 5) a ∧ OkA a := fun i hi => by
        obtain ⟨cs', h1, h2⟩ := hx i (by omega)
        rw [cells_air, hadd] at h1
        exact open_air h1 h2
      obtain ⟨f, hf⟩ := Deep.choose_lt each
      have el : ((List.range len).map f).length = len := by simp
      refine ⟨some ⟨b, off, none⟩, m', (List.range len).map f, by rw [el], .inr ⟨b, off, rfl, World.block_lt_of_cell? _ _ (hf 0 h0).1.c0, fun i a hi => ?_⟩, fun a ha => ?_, by rw [el]; omega⟩
      · obtain ⟨h1, rfl⟩ := list_at f len i a hi
        exact (hf i h1).1
      · obtain ⟨i, hi, rfl⟩ := List.mem_map.1 ha
        exact (hf i (List.mem_range.1 hi)).2
  have hD : ∃ (A : Option Addr) (c : Nat) (l : List Dst), v1 = .slice A l.length c ∧ DstL W A l ∧ (∀ a ∈ l, OkD a) ∧ l.length < 9223372036854775808 := by
    rcases Deep.open_slice Tryd.underlying34 hy1 with ⟨hcs, _⟩ | ⟨a, len, cap, m', n, D, Pl, hcs, _, hl, hm, hmm, _, hx⟩
    · simp at hcs
      exact ⟨none, 0, [], hcs, .inl rfl, fun a ha => by simp at ha, by simp⟩
    · simp at hcs hmm
      subst hcs hmm
      rcases Nat.eq_zero_or_pos len with h0 | h0
      · exact ⟨some a, m', [], by rw [h0]; rfl, .inl rfl, fun a ha => by simp at ha, by simp⟩
      obtain ⟨b, off, spot⟩ := a
      obtain ⟨cs0, hc0, _⟩ := hx 0 (by omega)
      have hspot : spot = none := by
        rw [cells_dst] at hc0
        obtain ⟨_, hl0, hcell⟩ := World.cells?_some hc0
        have h1 := hcell 0 (by omega)
        rw [List.getElem?_eq_getElem (by omega)] at h1
        simpa [Addr.add] using World.cell?_spot h1
      subst hspot
      have hadd : ∀ i, (⟨b, off, none⟩ : Addr).add i = ⟨b, off + i, none⟩ := fun i => by unfold Addr.add; split <;> simp_all
      have each : ∀ i, i < len → ∃ a : Dst, DstAt W b (off + i * 3) a ∧ OkD a := fun i hi => by
        obtain ⟨cs', h1, h2⟩ := hx i (by omega)
        rw [cells_dst, hadd] at h1
        exact open_dst h1 h2
      obtain ⟨f, hf⟩ := Deep.choose_lt each
      have el : ((List.range len).map f).length = len := by simp
      refine ⟨some ⟨b, off, none⟩, m', (List.range len).map f, by rw [el], .inr ⟨b, off, rfl, World.block_lt_of_cell? _ _ (hf 0 h0).1.c0, fun i a hi => ?_⟩, fun a ha => ?_, by rw [el]; omega⟩
      · obtain ⟨h1, rfl⟩ := list_at f len i a hi
        exact (hf i h1).1
      · obtain ⟨i, hi, rfl⟩ := List.mem_map.1 ha
        exact (hf i (List.mem_range.1 hi)).2
  obtain ⟨A, ca, l, rfl, h1, h2, h3⟩ := hA
  obtain ⟨D, cd, ds, rfl, h4, h5, h6⟩ := hD
  exact ⟨⟨A, ca, l, D, cd, ds⟩, rfl, ⟨h1, h4⟩, h2, h5, h3, h6⟩

/-! ### A list of texts among the arguments -/
theorem weights_strs {P : Program} {H : Type} {e : TypeId} : ∀ {l : List ByteArray} {s : ByteArray}, s ∈ l → s.size ∈ DataW.weightsAll P e (strs l : List (DataW H))
  | a :: r, s, h => by
    simp only [strs, List.map_cons, DataW.weightsAll, List.mem_append]
    rcases List.mem_cons.1 h with rfl | h
    · left
      simp [DataW.weights]
    · right
      exact weights_strs h
theorem open_strL {H : Type} {enc : TypeId × Value → H} {P : Program} {W : World} {t e : TypeId} (ht : P.underlying t = some (.slice e)) (he : P.underlying e = some .string) (hc : P.cellsOf e = 1) (hb : P.bytesOf e = 16)
    {A : Option Addr} {n c : Nat} {d : DataW H} {p : List MemPlace} (h : DataW.Trod enc P W 0 (fun _ => true) true t (.slice A n c) d p)
    {ts : List TypeId} {ds : List (DataW H)} (hsz : (DataW.weightsEach P ts ds).all (· ≤ reachBytes) = true) {j : Nat} (hj : ts[j]? = some t) (hd : ds[j]? = some d) :
    ∃ ss : List ByteArray, n = ss.length ∧ StrL W (.slice A ss.length c) ss ∧ ss.length ≤ 140737488355328 ∧ ∀ s ∈ ss, s.size ≤ 140737488355328 := by
  have hr := reachBytes_lt
  have e3 : (2 : Nat) ^ 47 = 140737488355328 := by decide
  obtain ⟨fuel, hf⟩ := h
  rcases open_strings ht he hc hf with ⟨hcs, _⟩ | ⟨a, len, cap, ss, hcs, _, hl, hm, hz, hx, hcell, _⟩
  · simp [Value.cells] at hcs
    obtain ⟨rfl, rfl, rfl⟩ := hcs
    exact ⟨[], rfl, ⟨none, 0, rfl, .inl rfl⟩, by simp, by simp⟩
  · simp [Value.cells] at hcs
    obtain ⟨rfl, rfl, rfl⟩ := hcs
    simp at hz
    have hlen : (ss.take n).length = n := by rw [List.length_take]; omega
    injection hx with hx _
    subst hx
    have w1 := sized_slice hsz hj hd ht
    rw [hb] at w1
    have el : (strs (H := H) (ss.take n)).length = n := by rw [strs, List.length_map, hlen]
    refine ⟨ss.take n, hlen.symm, ?_, by omega, fun s hs => ?_⟩
    · rw [hlen]
      refine ⟨some a, c, by rw [hlen], ?_⟩
      rcases Nat.eq_zero_or_pos n with h0 | h0
      · left
        rw [h0]; rfl
      · right
        obtain ⟨b, off, spot⟩ := a
        have h1 := hcell 0 (by omega)
        have hspot : spot = none := by simpa [Addr.add] using World.cell?_spot h1
        subst hspot
        refine ⟨b, off, rfl, World.block_lt_of_cell? _ _ h1, fun i hi => ?_⟩
        have h2 := hcell i (by omega)
        rw [List.getElem_take]
        have : ss.getD i ByteArray.empty = ss[i]'(by omega) := by rw [List.getD_eq_getElem?_getD, List.getElem?_eq_getElem (by omega)]; rfl
        rw [this] at h2
        have hadd : (⟨b, off, none⟩ : Addr).add i = ⟨b, off + i, none⟩ := by unfold Addr.add; split <;> simp_all
        rw [hadd] at h2
        exact h2
    · have w2 := List.all_eq_true.1 hsz _ (DataW.weights_mem_each hj hd s.size (by
        simp only [DataW.weights, ht, List.mem_cons, List.mem_append]
        exact .inr (.inl (weights_strs hs))))
      simp at w2
      omega

/-! ### connecting times, a segment -/
open Con
theorem cells_cn : Tryd.prog.cellsOf 59 = 4 := by kernel_rfl
theorem cells_sgK : Tryd.prog.cellsOf 24 = 7 := by kernel_rfl
instance : Inhabited Cn := ⟨⟨noB, noB, noB, 0⟩⟩
instance : Inhabited Sg := ⟨sgZ⟩
structure OkCn (c : Cn) : Prop where
  a : c.a.size ≤ maxLen
  i : c.i.size ≤ maxLen
  o : c.o.size ≤ maxLen
theorem len7K {α : Type} : ∀ {l : List α}, l.length = 7 → ∃ a b c d e f g, l = [a, b, c, d, e, f, g]
  | [a, b, c, d, e, f, g], _ => ⟨a, b, c, d, e, f, g, rfl⟩
theorem array7K {α : Type} {cs : Array α} (h : cs.size = 7) : ∃ c0 c1 c2 c3 c4 c5 c6, cs = #[c0, c1, c2, c3, c4, c5, c6] := by
  obtain ⟨l⟩ := cs
  match l, h with
  | [c0, c1, c2, c3, c4, c5, c6], _ => exact ⟨c0, c1, c2, c3, c4, c5, c6, rfl⟩
set_option maxRecDepth 100000 in
theorem read_seg {H : Type} {enc : TypeId × Value → H} {W : World} {n : Nat} {c0 c1 c2 c3 c4 c5 c6 : Value} {y : DataW H × List MemPlace} (h : DataW.trod enc Tryd.prog W 0 (fun _ => true) true n 24 [c0, c1, c2, c3, c4, c5, c6] = some y) :
    ∃ sv : Sg, (#[c0, c1, c2, c3, c4, c5, c6] : Array Value) = #[.string sv.car, .int .i64 sv.num, .int .i64 sv.day, .string sv.f, .string sv.t, .int .i64 sv.dep, .int .i64 sv.arr] ∧ sv.f.size ≤ maxLen ∧ sv.t.size ≤ maxLen := by
  obtain ⟨xs, k, _, _, _, hxl, hf⟩ := DataW.trod_struct Tryd.underlying24 h
  obtain ⟨y0, y1, y2, y3, y4, y5, y6, rfl⟩ := len7K hxl
  all_goals
    have g0 := hf 0 _ rfl
    have g1 := hf 1 _ rfl
    have g2 := hf 2 _ rfl
    have g3 := hf 3 _ rfl
    have g4 := hf 4 _ rfl
    have g5 := hf 5 _ rfl
    have g6 := hf 6 _ rfl
    simp [cells_string, cells_int] at g0 g1 g2 g3 g4 g5 g6
    obtain ⟨s0, e0, _, z0⟩ := DataW.trod_string Tryd.underlying9 g0
    obtain ⟨x1, e1, _, w1⟩ := DataW.trod_int Tryd.underlying3 g1
    obtain ⟨x2, e2, _, w2⟩ := DataW.trod_int Tryd.underlying3 g2
    obtain ⟨s3, e3, _, z3⟩ := DataW.trod_string Tryd.underlying9 g3
    obtain ⟨s4, e4, _, z4⟩ := DataW.trod_string Tryd.underlying9 g4
    obtain ⟨x5, e5, _, w5⟩ := DataW.trod_int Tryd.underlying3 g5
    obtain ⟨x6, e6, _, w6⟩ := DataW.trod_int Tryd.underlying3 g6
    simp at e0 e1 e2 e3 e4 e5 e6
    subst e0 e1 e2 e3 e4 e5 e6
    exact ⟨⟨s0, x1, x2, s3, s4, x5, x6⟩, rfl, z3, z4⟩
set_option maxRecDepth 100000 in
/-- a segment by value, opened -/
theorem open_seg {H : Type} {enc : TypeId × Value → H} {W : World} {b0 : Nat} {v : Value} {d : DataW H} {p : List MemPlace} (hv : Value.okWide Tryd.prog W .any b0 24 v) (h : DataW.Trod enc Tryd.prog W 0 (fun _ => true) true 24 v d p) :
    ∃ sv : Sg, v = aggSg sv ∧ sv.f.size ≤ maxLen ∧ sv.t.size ≤ maxLen := by
  obtain ⟨cs, rfl, hsz⟩ := okWide_struct Tryd.underlying24 hv
  obtain ⟨c0, c1, c2, c3, c4, c5, c6, rfl⟩ := array7K (hsz.trans cells_sgK)
  obtain ⟨fuel, hf⟩ := h
  obtain ⟨sv, e, h2⟩ := read_seg hf
  exact ⟨sv, by rw [e], h2⟩
set_option maxRecDepth 100000 in
theorem read_cn {H : Type} {enc : TypeId × Value → H} {W : World} {n : Nat} {c0 c1 c2 c3 : Value} {y : DataW H × List MemPlace} (h : DataW.trod enc Tryd.prog W 0 (fun _ => true) true n 59 [c0, c1, c2, c3] = some y) :
    ∃ x : Cn, [c0, c1, c2, c3] = encCn x ∧ OkCn x := by
  obtain ⟨xs, k, _, _, _, hxl, hf⟩ := DataW.trod_struct Tryd.underlying59 h
  obtain ⟨y0, y1, y2, y3, rfl⟩ := len4 hxl
  all_goals
    have g0 := hf 0 _ rfl
    have g1 := hf 1 _ rfl
    have g2 := hf 2 _ rfl
    have g3 := hf 3 _ rfl
    simp [cells_string, cells_int] at g0 g1 g2 g3
    obtain ⟨s0, e0, _, z0⟩ := DataW.trod_string Tryd.underlying9 g0
    obtain ⟨s1, e1, _, z1⟩ := DataW.trod_string Tryd.underlying9 g1
    obtain ⟨s2, e2, _, z2⟩ := DataW.trod_string Tryd.underlying9 g2
    obtain ⟨x3, e3, _, w3⟩ := DataW.trod_int Tryd.underlying3 g3
    simp at e0 e1 e2 e3
    subst e0 e1 e2 e3
    exact ⟨⟨s0, s1, s2, x3⟩, rfl, ⟨z0, z1, z2⟩⟩

set_option maxRecDepth 100000 in
theorem read_rowK {α : Type} [Inhabited α] {sz : Nat} {enc' : α → List Value} {Ok : α → Prop} {H : Type} {enc : TypeId × Value → H} {W : World} {n : Nat} {v : Value} {y : DataW H × List MemPlace} {ts te : TypeId} (hu : Tryd.prog.underlying ts = some (.slice te)) (hce : Tryd.prog.cellsOf te = sz) (h1 : 0 < sz) (he : ∀ x, (enc' x).length = sz)
    (hread : ∀ m cs yy, cs.length = sz → DataW.trod enc Tryd.prog W 0 (fun _ => true) true m te cs = some yy → ∃ x : α, cs = enc' x ∧ Ok x) (h : DataW.trod enc Tryd.prog W 0 (fun _ => true) true n ts [v] = some y) :
    ∃ (A : Option Addr) (c : Nat) (l : List α), v = .slice A l.length c ∧ RowL sz enc' W (.slice A l.length c) l ∧ (∀ f ∈ l, Ok f) ∧ l.length < 9223372036854775808 := by
  have em : maxLen = 9223372036854775807 := by decide
  rcases Deep.open_slice hu h with ⟨hcs, _⟩ | ⟨a, len, cap, m', n, D, Pl, hcs, _, hl, hm, hmm, _, hx⟩
  · simp at hcs
    exact ⟨none, 0, [], hcs, ⟨none, 0, rfl, .inl rfl⟩, fun a ha => by simp at ha, by simp⟩
  · simp at hcs hmm
    subst hcs hmm
    rcases Nat.eq_zero_or_pos len with h0 | h0
    · exact ⟨some a, m', [], by rw [h0]; rfl, ⟨some a, m', rfl, .inl rfl⟩, fun a ha => by simp at ha, by simp⟩
    obtain ⟨b, off, spot⟩ := a
    obtain ⟨cs0, hc0, _⟩ := hx 0 (by omega)
    have hspot : spot = none := by
      rw [hce] at hc0
      obtain ⟨_, hl0, hcell⟩ := World.cells?_some hc0
      have h1 := hcell 0 (by omega)
      rw [List.getElem?_eq_getElem (by omega)] at h1
      simpa [Addr.add] using World.cell?_spot h1
    subst hspot
    have hadd : ∀ i, (⟨b, off, none⟩ : Addr).add i = ⟨b, off + i, none⟩ := fun i => by unfold Addr.add; split <;> simp_all
    have each : ∀ i, i < len → ∃ x : α, (∀ j u, (enc' x)[j]? = some u → W.cell? ⟨b, off + i * sz + j, none⟩ = some u) ∧ Ok x := fun i hi => by
      obtain ⟨cs', h1, h2⟩ := hx i (by omega)
      rw [hce, hadd] at h1
      obtain ⟨_, hlen, hcell⟩ := World.cells?_some h1
      obtain ⟨x, e, hok⟩ := hread _ _ _ hlen h2
      rw [e] at hcell
      refine ⟨x, fun j u hu => ?_, hok⟩
      have hj : j < sz := by have := (List.getElem?_eq_some_iff.1 hu).1; rw [he] at this; exact this
      have hadd2 : ∀ i, (⟨b, off + i * sz, none⟩ : Addr).add j = ⟨b, off + i * sz + j, none⟩ := fun i => by unfold Addr.add; split <;> simp_all
      have hc2 := hcell j hj
      rw [hadd2] at hc2
      rw [hc2]
      exact hu
    obtain ⟨f, hf⟩ := Deep.choose_lt each
    have el : ((List.range len).map f).length = len := by simp
    have hlt : b < W.heap.size := by
      have h3 := (hf 0 h0).1 0 ((enc' (f 0))[0]'(by rw [he]; exact h1)) (List.getElem?_eq_getElem _)
      exact World.block_lt_of_cell? _ _ h3
    refine ⟨some ⟨b, off, none⟩, m', (List.range len).map f, by rw [el], ⟨some ⟨b, off, none⟩, m', rfl, .inr ⟨b, off, rfl, hlt, fun i x j u hi hu => ?_⟩⟩, fun a ha => ?_, by rw [el]; omega⟩
    · obtain ⟨h1, rfl⟩ := list_at f len i x hi
      exact (hf i h1).1 j u hu
    · obtain ⟨i, hi, rfl⟩ := List.mem_map.1 ha
      exact (hf i (List.mem_range.1 hi)).2
set_option maxRecDepth 100000 in
/-- a list of connecting times by value, opened -/
theorem open_connects {H : Type} {enc : TypeId × Value → H} {W : World} {b0 : Nat} {v : Value} {d : DataW H} {p : List MemPlace} (hv : Value.okWide Tryd.prog W .any b0 22 v) (h : DataW.Trod enc Tryd.prog W 0 (fun _ => true) true 22 v d p) :
    ∃ (A : Option Addr) (c : Nat) (l : List Cn), v = .slice A l.length c ∧ CnL W (.slice A l.length c) l ∧ (∀ x ∈ l, OkCn x) ∧ l.length < 9223372036854775808 := by
  obtain ⟨a, len, cap, rfl⟩ := okWide_slice Tryd.underlying22 hv
  obtain ⟨fuel, hf⟩ := h
  refine read_rowK (enc' := encCn) (Ok := OkCn) Tryd.underlying22 cells_cn (by omega) (fun _ => rfl) (fun m cs yy hl h => ?_) hf
  obtain ⟨c0, c1, c2, c3, rfl⟩ := len4 hl
  exact read_cn h
set_option maxRecDepth 100000 in
/-- a list of segments by value, opened -/
theorem open_segs {H : Type} {enc : TypeId × Value → H} {W : World} {b0 : Nat} {v : Value} {d : DataW H} {p : List MemPlace} (hv : Value.okWide Tryd.prog W .any b0 26 v) (h : DataW.Trod enc Tryd.prog W 0 (fun _ => true) true 26 v d p) :
    ∃ (A : Option Addr) (c : Nat) (l : List Sg), v = .slice A l.length c ∧ SgL W (.slice A l.length c) l ∧ (∀ x ∈ l, x.f.size ≤ maxLen ∧ x.t.size ≤ maxLen) ∧ l.length < 9223372036854775808 := by
  obtain ⟨a, len, cap, rfl⟩ := okWide_slice Tryd.underlying26 hv
  obtain ⟨fuel, hf⟩ := h
  refine read_rowK (enc' := encSg) (Ok := fun x : Sg => x.f.size ≤ maxLen ∧ x.t.size ≤ maxLen) Tryd.underlying26 cells_sgK (by omega) (fun _ => rfl) (fun m cs yy hl h => ?_) hf
  obtain ⟨c0, c1, c2, c3, c4, c5, c6, rfl⟩ := len7K hl
  obtain ⟨sv, e, h2⟩ := read_seg h
  exact ⟨sv, congrArg Array.toList e, h2⟩
end Go.Proofs.YtimemdakmppcnaaDoor

/- Proved here, one card a law: airlinelaw11/ConnectTimes return true at every input and leave what they were given as it was. Conditions: those of the given rows alone (the arguments within the form's reach; the listed library variables as their initialisers lay them). -/
namespace Go.Proofs.YtimemdakmppcnaaDoor
open Go.ChangeShapes Go.WideShapes Go.ChangeAt Go.RowKit
open Go.ChangeMaps (open_string shut_string)
set_option linter.unusedSimpArgs false
set_option linter.unusedVariables false

theorem connectTimes_params : Tryd.f3.params = #[22, 24, 24] := by kernel_rfl
set_option maxRecDepth 100000 in
theorem connectTimes_contract (H : Type) (enc : TypeId × Value → H) (W : World) (base : Nat) (args : Array Value) (ds gs : List (DataW H)) (before : List MemPlace)
    (hval0 : ∀ (j : Nat) t v, Tryd.f3.params[j]? = some t → args[j]? = some v → Value.okWide Tryd.prog W .any base t v)
    (hW : DataW.Whole enc Tryd.prog Tryd.f3.params.toList Rows.connectTimesSpec.vars false W args.toList ds gs before)
    (hsz0 : (DataW.weightsEach Tryd.prog (Tryd.f3.params.toList ++ Rows.connectTimesSpec.plain.varTypes Tryd.prog) (ds ++ gs)).all (· ≤ reachBytes) = true) (hL : laidMetH Tryd.prog Rows.connectTimesRow.laid W) :
    Calls Tryd.prog 3 args W fun e W' => ∃ v, e = .returned v ∧ Rows.connectTimesSpec.post enc Tryd.prog Tryd.f3 false true false false W args v W' := by
  have hE : Env W := env_of hL
  have hval := hval0
  have hsz := hsz0
  clear hval0 hsz0
  have hW' := hW
  obtain ⟨p, q, hA0, hV, rfl, hfz, hnd⟩ := hW
  have hA : DataW.TrodAll enc Tryd.prog W 0 (fun _ => true) true Tryd.f3.params.toList args.toList ds p := hA0
  rw [connectTimes_params] at hA hval hsz
  obtain ⟨v0, vs0, d0, ds0, p0, q0, hargs, rfl, rfl, h0, r0⟩ := trodAll_cons hA
  obtain ⟨v1, vs1, d1, ds1, p1, q1, rfl, rfl, rfl, h1, r1⟩ := trodAll_cons r0
  obtain ⟨v2, vs2, d2, ds2, p2, q2, rfl, rfl, rfl, h2, r2⟩ := trodAll_cons r1
  obtain ⟨rfl, rfl, rfl⟩ := trodAll_nil r2
  obtain rfl : args = #[v0, v1, v2] := by cases args; simp_all
  obtain ⟨rfl, rfl⟩ := trodVars_none hV
  have k0 := h0
  have lt0 : ∀ x ∈ p0, x.block < W.heap.size := by obtain ⟨m, hm⟩ := k0; exact DataW.trod_lt m _ _ _ hm
  obtain ⟨A0, c0, l0, rfl, hL0, ok0, le0⟩ := open_connects (hval 0 22 v0 rfl rfl) h0
  have k1 := h1
  have lt1 : ∀ x ∈ p1, x.block < W.heap.size := by obtain ⟨m, hm⟩ := k1; exact DataW.trod_lt m _ _ _ hm
  obtain ⟨sv1, rfl, ok1⟩ := open_seg (hval 1 24 v1 rfl rfl) h1
  have k2 := h2
  have lt2 : ∀ x ∈ p2, x.block < W.heap.size := by obtain ⟨m, hm⟩ := k2; exact DataW.trod_lt m _ _ _ hm
  obtain ⟨sv2, rfl, ok2⟩ := open_seg (hval 2 24 v2 rfl rfl) h2
  clear hA0 hval hsz
  refine (Con.connectTimes_walk A0 c0 l0 sv1 sv2 W hL0 (fun x hx => ⟨(ok0 x hx).a, (ok0 x hx).i, (ok0 x hx).o⟩)).mono fun e W' ⟨he, bel⟩ => ?_
  subst he
  exact ⟨_, rfl, _, _, _, [], _, [], hW', trodAll_mk1 (shut_bool Tryd.underlying4 _), (trodAll_cons_mk (Below.trod laidOut (by kernel_rfl) (of_decide_eq_true (by kernel_rfl)) k0 bel lt0) (trodAll_cons_mk (Below.trod laidOut (by kernel_rfl) (of_decide_eq_true (by kernel_rfl)) k1 bel lt1) (trodAll_cons_mk (Below.trod laidOut (by kernel_rfl) (of_decide_eq_true (by kernel_rfl)) k2 bel lt2) (trodAll_mk0)))), rfl, bel.frame _, fun h => by cases h⟩
theorem connectTimes_reads (os : Os) {H : Type} (enc : TypeId × Value → H) : ∃ places, DataW.whole enc Tryd.prog ((laidWorld os).forCall (fun _ _ => 0) ⟨#[], #[.slice none 0 0, .agg #[.string ⟨#[]⟩, .int .i64 0, .int .i64 0, .string ⟨#[]⟩, .string ⟨#[]⟩, .int .i64 0, .int .i64 0], .agg #[.string ⟨#[]⟩, .int .i64 0, .int .i64 0, .string ⟨#[]⟩, .string ⟨#[]⟩, .int .i64 0, .int .i64 0]], []⟩).memory Tryd.f3.params.toList Rows.connectTimesSpec.vars false (#[.slice none 0 0, .agg #[.string ⟨#[]⟩, .int .i64 0, .int .i64 0, .string ⟨#[]⟩, .string ⟨#[]⟩, .int .i64 0, .int .i64 0], .agg #[.string ⟨#[]⟩, .int .i64 0, .int .i64 0, .string ⟨#[]⟩, .string ⟨#[]⟩, .int .i64 0, .int .i64 0]] : Array Value).toList 8 = some ([.nil, .agg [.lit (.string []), .lit (.int .i64 0), .lit (.int .i64 0), .lit (.string []), .lit (.string []), .lit (.int .i64 0), .lit (.int .i64 0)], .agg [.lit (.string []), .lit (.int .i64 0), .lit (.int .i64 0), .lit (.string []), .lit (.string []), .lit (.int .i64 0), .lit (.int .i64 0)]], [], places) :=
  ⟨[], by kernel_rfl⟩
set_option maxRecDepth 100000 in
theorem connectTimes_lifted (os : Os) (started : os.Started) (H : Type) (enc : TypeId × Value → H) (F : Stop.Interp) :
    ReturnsInHanded {} Tryd.checked os 3 .any ((OpenSpec.ofChange Rows.connectTimesSpec).preRow enc Tryd.prog Tryd.f3 Rows.connectTimesRow.domain false Rows.connectTimesRow.laid) (((OpenSpec.ofChange Rows.connectTimesSpec).at F).post enc Tryd.prog Tryd.f3 false true false false) := by
  obtain ⟨places, hx⟩ := connectTimes_reads os enc
  refine returnsInHanded_of_row (C := Tryd.checked) (s := (OpenSpec.ofChange Rows.connectTimesSpec)) own started (by kernel_rfl) Tryd.func3
    (witness_row_atRef (enc := enc) (C := Tryd.checked) false (laidWorld os) #[.slice none 0 0, .agg #[.string ⟨#[]⟩, .int .i64 0, .int .i64 0, .string ⟨#[]⟩, .string ⟨#[]⟩, .int .i64 0, .int .i64 0], .agg #[.string ⟨#[]⟩, .int .i64 0, .int .i64 0, .string ⟨#[]⟩, .string ⟨#[]⟩, .int .i64 0, .int .i64 0]] rfl (by kernel_rfl) (by kernel_rfl) (by kernel_rfl)
      (OpenSpec.preRow_of_cond 8 hx (by kernel_rfl) (fun k hk => by cases hk) (by kernel_rfl) (laidWorld_met os _))) ?_
  intro W base args ds gs before hval hW _ _ hsz hL _ _
  exact connectTimes_contract H enc W base args ds gs before hval hW hsz hL
theorem connectTimes_said : Rows.ConnectTimesSaid :=
  OpenClaim.holds_of_cond 3 Tryd.f3 rfl rfl rfl rfl rfl rfl rfl ⟨rfl, rfl, rfl, rfl, rfl⟩ rfl rfl rfl rfl rfl (by kernel_rfl) Tryd.func3 (by kernel_rfl)
    (of_decide_eq_true (by kernel_rfl)) (by unfold Func.isWrapper; first | (rw [if_pos (by decide +kernel)]; kernel_rfl) | (rw [if_neg (by decide +kernel)]; exact ⟨rfl, rfl⟩))
    (fun os started H enc _ F => by rw [OpenClaim.pre_eq_preRow]; exact connectTimes_lifted os started H enc F)
theorem connectTimes_plain (f : FuncId) (fn : Func) (hf : Tryd.pinned.checked.prog.funcNamed "airline/airlinelaw11.ConnectTimes" = some f) (hfn : Tryd.pinned.checked.prog.funcs[f]? = some fn) :
    false = Tryd.pinned.checked.prog.looks [] ∧ ∀ (j : Nat) t, fn.params[j]? = some t → Tryd.pinned.checked.prog.wantsStandIn t = false := by
  obtain rfl : f = 3 := Option.some.inj ((show Tryd.prog.funcNamed "airline/airlinelaw11.ConnectTimes" = some 3 by kernel_rfl).symm.trans hf) |>.symm
  obtain rfl : fn = Tryd.f3 := (Option.some.inj (Tryd.func3.symm.trans hfn)).symm
  refine ⟨by kernel_rfl, fun j t ht => ?_⟩
  rw [connectTimes_params] at ht
  have h := Array.mem_of_getElem? ht
  simp only [List.mem_toArray, List.mem_cons, List.not_mem_nil, or_false] at h
  rcases h with rfl | rfl | rfl
  · exact (show Tryd.prog.wantsStandIn 22 = false by kernel_rfl)
  · exact (show Tryd.prog.wantsStandIn 24 = false by kernel_rfl)
  · exact (show Tryd.prog.wantsStandIn 24 = false by kernel_rfl)
/-- the card -/
theorem connectTimes_card : Rows.ConnectTimesCardSaid :=
  Claim7.holds_tied_plain_at .later [] _ _ _ _ connectTimes_said (fun _ h => by cases h) (by kernel_rfl) (fun _ h => by cases h) connectTimes_row_tie rfl ⟨rfl, rfl⟩ (by kernel_rfl) rfl connectTimes_plain (by kernel_rfl)

end Go.Proofs.YtimemdakmppcnaaDoor
