/- Words and walks that the laws below ask: ShrD, PthA, PthB. -/
import Derived.Shelf.Abstract
import Derived.Deep.LoopGhost
import Derived.Test.YtdpcjafkahhecaaGreatDoorPk9
import Derived.Test.YtdpcjafkahhecaaGreatDoorPk19
import Derived.Test.YtdpcjafkahhecaaGreatDoorPk20
/- A segment that is sold: the program's Find and the reference's. -/
namespace Go.Proofs.YtdpcjafkahhecaaGreatDoor
open Go.RowKit Go.Shelf
set_option linter.unusedSimpArgs false
set_option linter.unusedVariables false

/-- the error and the segment -/
def soldF (L : List Air) (fs : List FV) (sh : List Sh) (car : ByteArray) (num day : Int) (fr tt : ByteArray) : Int × Sg :=
  if (segF L fs (operF sh ⟨car, num, day, fr, tt, 0, 0⟩).car (operF sh ⟨car, num, day, fr, tt, 0, 0⟩).num day fr tt).1 != 0 then ((segF L fs (operF sh ⟨car, num, day, fr, tt, 0, 0⟩).car (operF sh ⟨car, num, day, fr, tt, 0, 0⟩).num day fr tt).1, sgZ)
  else (0, ⟨car, num, (segF L fs (operF sh ⟨car, num, day, fr, tt, 0, 0⟩).car (operF sh ⟨car, num, day, fr, tt, 0, 0⟩).num day fr tt).2.day, (segF L fs (operF sh ⟨car, num, day, fr, tt, 0, 0⟩).car (operF sh ⟨car, num, day, fr, tt, 0, 0⟩).num day fr tt).2.f, (segF L fs (operF sh ⟨car, num, day, fr, tt, 0, 0⟩).car (operF sh ⟨car, num, day, fr, tt, 0, 0⟩).num day fr tt).2.t, (segF L fs (operF sh ⟨car, num, day, fr, tt, 0, 0⟩).car (operF sh ⟨car, num, day, fr, tt, 0, 0⟩).num day fr tt).2.dep, (segF L fs (operF sh ⟨car, num, day, fr, tt, 0, 0⟩).car (operF sh ⟨car, num, day, fr, tt, 0, 0⟩).num day fr tt).2.arr⟩)
theorem two_new2 (w : World) (X Z : Array Value) (t u : TypeId) : ((w.alloc (.cells X t)).alloc (.cells Z u)).heap[w.heap.size]? = some (.cells X t (0, 0)) ∧ ((w.alloc (.cells X t)).alloc (.cells Z u)).heap[w.heap.size + 1]? = some (.cells Z u (0, 0)) ∧ Below w.heap.size w ((w.alloc (.cells X t)).alloc (.cells Z u)) := by
  have hb0 := bel_alloc w (.cells X t)
  have hb1 := bel_alloc (w.alloc (.cells X t)) (.cells Z u)
  have hN := heap_alloc_new w (.cells X t)
  have hM := heap_alloc_new (w.alloc (.cells X t)) (.cells Z u)
  have hs : (w.alloc (.cells X t)).heap.size = w.heap.size + 1 := by show (w.heap.push _).size = _; exact Array.size_push _
  have hlt : w.heap.size < (w.alloc (.cells X t)).heap.size := by omega
  rw [hs] at hM
  exact ⟨(Below.block hb1 _ hlt).trans hN, hM, hb0.trans (hb1.mono hb0.size)⟩
set_option maxRecDepth 100000 in
set_option maxHeartbeats 8000000 in
theorem cfind_any (p : PV) (v : Value) (fs : List FV) (A : Option Addr) (c : Nat) (sh : List Sh) (car : ByteArray) (num day : Int) (fr tt : ByteArray) (w : World) (op : fs ≠ [] → OkPl p) (ot : OkT fs) (hL : AirL w p.A p.l) (hv : TblL w v fs) (hl : sh.length ≤ 100000) (hs : RowL 9 encSh9 w (.slice A sh.length c) sh) (h0 : -9223372036854775808 ≤ day) (h1 : day ≤ 9223372036854775807) :
    Calls Tryz.prog 13 #[encP p, v, .slice A sh.length c, .string car, .int .i64 num, .int .i64 day, .string fr, .string tt] w fun e w' => e = .returned (.tuple #[encS7 (soldF p.l fs sh car num day fr tt).2, .int .i64 (soldF p.l fs sh car num day fr tt).1]) ∧ Below w.heap.size w w' := by
  obtain ⟨hN, hM, hb0⟩ := two_new2 w #[.slice p.A p.l.length p.ca, .slice p.D p.ds.length p.cd] #[.string noB, .int .i64 0, .int .i64 0, .string noB, .string noB, .int .i64 0, .int .i64 0] placesT segT
  have HFD : Hid (∀ (o s : Sg) (er : Int), operF sh ⟨car, num, day, fr, tt, 0, 0⟩ = o → segF p.l fs o.car o.num day fr tt = (er, s) → soldF p.l fs sh car num day fr tt = if er != 0 then (er, sgZ) else (0, ⟨car, num, s.day, s.f, s.t, s.dep, s.arr⟩)) := Lib.hid (fun o s er h1 h2 => by unfold soldF; rw [h1, h2])
  go_enter Tryz.func13, Tryz.ntmps13
  go_upto_region 1 with fail
  generalize hw5 : ((w.alloc (.cells #[.slice p.A p.l.length p.ca, .slice p.D p.ds.length p.cd] placesT)).alloc (.cells #[.string noB, .int .i64 0, .int .i64 0, .string noB, .string noB, .int .i64 0, .int .i64 0] segT)) = w5 at *
  clear hw5
  have HB0 := Lib.hid hb0
  have HM := Lib.hid hM
  have HLM : Hid (w.heap.size + 1 < w5.heap.size) := Lib.hid (lt_of_cell2 hM)
  have F0 := Lib.hid (bel_get ((cell_of_row _ _ 0 _ _ (0, 0) hN).trans (show _ = some (Value.slice p.A p.l.length p.ca) from rfl)))
  have F1 := Lib.hid (bel_get ((cell_of_row _ _ 1 _ _ (0, 0) hN).trans (show _ = some (Value.slice p.D p.ds.length p.cd) from rfl)))
  have HV := Lib.hid (hv.more hb0)
  have HL := Lib.hid (hL.more hb0)
  have HS := Lib.hid (hs.more hb0)
  have KO : Hid (∀ W, SW w5 W → Calls Tryz.prog 15 #[.slice A sh.length c, .agg #[.string car, .int .i64 num, .int .i64 day, .string fr, .string tt, .int .i64 0, .int .i64 0]] W fun e w' => e = .returned (encS7 (operF sh ⟨car, num, day, fr, tt, 0, 0⟩)) ∧ SW w5 w') := Lib.hid (SW.call (fun W h => operating_any A c sh ⟨car, num, day, fr, tt, 0, 0⟩ W hl (HS.out.more h) ⟨h0, h1⟩))
  have KS : Hid (∀ (o : Sg) W, SW w5 W → Calls Tryz.prog 43 #[encP p, v, .string o.car, .int .i64 o.num, .int .i64 day, .string fr, .string tt] W fun e w' => e = .returned (.tuple #[encS7 (segF p.l fs o.car o.num day fr tt).2, .int .i64 (segF p.l fs o.car o.num day fr tt).1]) ∧ SW w5 w') := Lib.hid (fun o => SW.call (fun W h => seg_any p v fs o.car o.num day fr tt W op ot (HL.out.more h) (HV.out.more h) h0 h1))
  clear hN hM hb0 hv hL hs op ot
  have HO : Hid (∃ o, operF sh ⟨car, num, day, fr, tt, 0, 0⟩ = o) := Lib.hid ⟨_, rfl⟩
  obtain ⟨o, ho0⟩ := HO.out
  clear HO
  have HFD2 := Lib.hid (fun s er => HFD.out o s er ho0)
  rw [ho0] at KO
  clear ho0 HFD
  have KS := Lib.hid (KS.out o)
  have HT : Hid (∃ er s, segF p.l fs o.car o.num day fr tt = (er, s)) := Lib.hid ⟨_, _, rfl⟩
  obtain ⟨er, s, hsg⟩ := HT.out
  clear HT
  have HFD3 := Lib.hid (HFD2.out s er hsg)
  rw [hsg] at KS
  dsimp only at KS
  clear hsg HFD2
  have hS : SW w5 w5 := Below.refl _ _
  go_upto_region 2 with (go_at_call 15; with_reducible refine (KO.out _ hS).mono ?_; rintro e w3 ⟨rfl, hS⟩)
  have hb3 := bel_alloc w3 (.cells #[.string o.car, .int .i64 o.num, .int .i64 o.day, .string o.f, .string o.t, .int .i64 o.dep, .int .i64 o.arr] segT)
  have hS : SW w5 (w3.alloc (.cells #[.string o.car, .int .i64 o.num, .int .i64 o.day, .string o.f, .string o.t, .int .i64 o.dep, .int .i64 o.arr] segT)) := Below.trans hS (Below.mono hb3 hS.size)
  have q0 := (cells_new w3 #[.string o.car, .int .i64 o.num, .int .i64 o.day, .string o.f, .string o.t, .int .i64 o.dep, .int .i64 o.arr] segT 0).trans (show _ = some (Value.string o.car) from rfl)
  have q1 := (cells_new w3 #[.string o.car, .int .i64 o.num, .int .i64 o.day, .string o.f, .string o.t, .int .i64 o.dep, .int .i64 o.arr] segT 1).trans (show _ = some (Value.int .i64 o.num) from rfl)
  generalize hw4 : w3.alloc (.cells #[.string o.car, .int .i64 o.num, .int .i64 o.day, .string o.f, .string o.t, .int .i64 o.dep, .int .i64 o.arr] segT) = w4 at *
  clear hw4 hb3
  have f0 := F0.out _ hS
  have f1 := F1.out _ hS
  go_upto_region 3 with (go_at_call 43; with_reducible refine (KS.out _ hS).mono ?_; rintro e w6 ⟨rfl, hS⟩)
  clear q0 q1 f0 f1
  have hb6 := bel_alloc w6 (.cells #[.string s.car, .int .i64 s.num, .int .i64 s.day, .string s.f, .string s.t, .int .i64 s.dep, .int .i64 s.arr] segT)
  have hS : SW w5 (w6.alloc (.cells #[.string s.car, .int .i64 s.num, .int .i64 s.day, .string s.f, .string s.t, .int .i64 s.dep, .int .i64 s.arr] segT)) := Below.trans hS (Below.mono hb6 hS.size)
  have hx := heap_alloc_new w6 (.cells #[.string s.car, .int .i64 s.num, .int .i64 s.day, .string s.f, .string s.t, .int .i64 s.dep, .int .i64 s.arr] segT)
  have h65 : w5.heap.size ≤ w6.heap.size := by have h := (show SW w5 w6 from by assumption); exact h.size
  generalize hw7 : w6.alloc (.cells #[.string s.car, .int .i64 s.num, .int .i64 s.day, .string s.f, .string s.t, .int .i64 s.dep, .int .i64 s.arr] segT) = w7 at *
  clear hw7 hb6
  have hm := (Below.block hS _ HLM.out).trans HM.out
  have hwb := HB0.out.trans (Below.mono hS HB0.out.size)
  cases q : (er != 0) with
  | true =>
    rw [q, if_pos rfl] at HFD3
    clear hx
    have n0 := (cell_of_row _ _ 0 _ _ (0, 0) hm).trans (show _ = some _ from rfl)
    have n1 := (cell_of_row _ _ 1 _ _ (0, 0) hm).trans (show _ = some _ from rfl)
    have n2 := (cell_of_row _ _ 2 _ _ (0, 0) hm).trans (show _ = some _ from rfl)
    have n3 := (cell_of_row _ _ 3 _ _ (0, 0) hm).trans (show _ = some _ from rfl)
    have n4 := (cell_of_row _ _ 4 _ _ (0, 0) hm).trans (show _ = some _ from rfl)
    have n5 := (cell_of_row _ _ 5 _ _ (0, 0) hm).trans (show _ = some _ from rfl)
    have n6 := (cell_of_row _ _ 6 _ _ (0, 0) hm).trans (show _ = some _ from rfl)
    have z0 := frozen_of_row _ _ 0 _ _ hm
    have z1 := frozen_of_row _ _ 1 _ _ hm
    have z2 := frozen_of_row _ _ 2 _ _ hm
    have z3 := frozen_of_row _ _ 3 _ _ hm
    have z4 := frozen_of_row _ _ 4 _ _ hm
    have z5 := frozen_of_row _ _ 5 _ _ hm
    have z6 := frozen_of_row _ _ 6 _ _ hm
    have HX2 : Hid (∀ U, U = S7 w7 (w.heap.size + 1) (.string noB) (.int .i64 0) (.int .i64 0) (.string noB) (.string noB) (.int .i64 0) (.int .i64 0) → U.heap[w.heap.size + 1]? = some (.cells #[.string noB, .int .i64 0, .int .i64 0, .string noB, .string noB, .int .i64 0, .int .i64 0] segT (0, 0)) ∧ Below w.heap.size w U) := Lib.hid (fun U h => by rw [h]; exact ⟨S7.heap hm _ _ _ _ _ _ _, hwb.trans ((S7.but _ _ _ _ _ _ _ _ _).below hwb.size (fun k hk => by omega))⟩)
    clear hm hwb
    go_wp2
    obtain ⟨hxx, hbb⟩ := HX2.out _ rfl
    unfold S7 at hxx hbb
    clear HX2
    generalize hWW : (((((((w7.setCell ⟨w.heap.size + 1, 0, none⟩ (.string noB)).setCell ⟨w.heap.size + 1, 1, none⟩ (.int .i64 0)).setCell ⟨w.heap.size + 1, 2, none⟩ (.int .i64 0)).setCell ⟨w.heap.size + 1, 3, none⟩ (.string noB)).setCell ⟨w.heap.size + 1, 4, none⟩ (.string noB)).setCell ⟨w.heap.size + 1, 5, none⟩ (.int .i64 0)).setCell ⟨w.heap.size + 1, 6, none⟩ (.int .i64 0)) = WW at *
    clear hWW n0 z0 n1 z1 n2 z2 n3 z3 n4 z4 n5 z5 n6 z6
    have e0 := (cell_of_row WW _ 0 _ _ (0, 0) hxx).trans (show _ = some _ from rfl)
    have e1 := (cell_of_row WW _ 1 _ _ (0, 0) hxx).trans (show _ = some _ from rfl)
    have e2 := (cell_of_row WW _ 2 _ _ (0, 0) hxx).trans (show _ = some _ from rfl)
    have e3 := (cell_of_row WW _ 3 _ _ (0, 0) hxx).trans (show _ = some _ from rfl)
    have e4 := (cell_of_row WW _ 4 _ _ (0, 0) hxx).trans (show _ = some _ from rfl)
    have e5 := (cell_of_row WW _ 5 _ _ (0, 0) hxx).trans (show _ = some _ from rfl)
    have e6 := (cell_of_row WW _ 6 _ _ (0, 0) hxx).trans (show _ = some _ from rfl)
    rw [HFD3.out]
    refine bodyPost_ret (v := .tuple #[encS7 sgZ, .int .i64 er]) ?_ rfl ⟨rfl, hbb⟩
    simp [results, Tryz.results13, go_sem, e0, e1, e2, e3, e4, e5, e6, sgZ]
  | false =>
    rw [q, if_neg (by simp)] at HFD3
    have n0 := (cell_of_row _ _ 0 _ _ (0, 0) hx).trans (show _ = some _ from rfl)
    have n1 := (cell_of_row _ _ 1 _ _ (0, 0) hx).trans (show _ = some _ from rfl)
    have z0 := frozen_of_row _ _ 0 _ _ hx
    have z1 := frozen_of_row _ _ 1 _ _ hx
    obtain ⟨W7, hW7⟩ : ∃ W, W = (w7.setCell ⟨w6.heap.size, 0, none⟩ (.string car)).setCell ⟨w6.heap.size, 1, none⟩ (.int .i64 num) := ⟨_, rfl⟩
    have hx7 : W7.heap[w6.heap.size]? = some (.cells #[.string car, .int .i64 num, .int .i64 s.day, .string s.f, .string s.t, .int .i64 s.dep, .int .i64 s.arr] segT (0, 0)) := by
      rw [hW7]
      have e1 : (w7.setCell ⟨w6.heap.size, 0, none⟩ (.string car)).heap[w6.heap.size]? = some (.cells #[.string car, .int .i64 s.num, .int .i64 s.day, .string s.f, .string s.t, .int .i64 s.dep, .int .i64 s.arr] segT (0, 0)) := heap_setCell_same w7 w6.heap.size 0 _ segT (.string car) hx
      exact heap_setCell_same (w7.setCell ⟨w6.heap.size, 0, none⟩ (.string car)) w6.heap.size 1 _ segT (.int .i64 num) e1
    have hbt : But w7 W7 (fun k => k = w6.heap.size) := by rw [hW7]; exact (But.setCell w7 w6.heap.size 0 _).trans (But.setCell _ w6.heap.size 1 _) (fun _ _ h => h)
    have hlm := HLM.out
    have hm7 : W7.heap[w.heap.size + 1]? = some (.cells #[.string noB, .int .i64 0, .int .i64 0, .string noB, .string noB, .int .i64 0, .int .i64 0] segT (0, 0)) := (hbt.block _ (lt_of_cell2 hm) (fun h => absurd (show w.heap.size + 1 = w6.heap.size from h) (by omega))).trans hm
    have HX7 : Hid (W7.heap[w6.heap.size]? = some (.cells #[.string car, .int .i64 num, .int .i64 s.day, .string s.f, .string s.t, .int .i64 s.dep, .int .i64 s.arr] segT (0, 0))) := Lib.hid hx7
    have HM7 : Hid (W7.heap[w.heap.size + 1]? = some (.cells #[.string noB, .int .i64 0, .int .i64 0, .string noB, .string noB, .int .i64 0, .int .i64 0] segT (0, 0))) := Lib.hid hm7
    have HWB7 : Hid (Below w.heap.size w W7) := Lib.hid (hwb.trans (hbt.below hwb.size (fun k hk => by omega)))
    have HW7 := Lib.hid hW7
    clear hx hm hwb hW7 hx7 hm7 hbt hS hlm h65
    go_upto_region 6 with fail
    clear n0 n1 z0 z1
    have hq : (w7.setCell ⟨w6.heap.size, 0, none⟩ (.string car)).setCell ⟨w6.heap.size, 1, none⟩ (.int .i64 num) = W7 := HW7.out.symm
    rw [hq]
    clear hq
    have hx := HX7.out
    have hm := HM7.out
    have hwb := HWB7.out
    clear HX7 HM7 HWB7 HW7
    have c0 := (cell_of_row _ _ 0 _ _ (0, 0) hx).trans (show _ = some _ from rfl)
    have c1 := (cell_of_row _ _ 1 _ _ (0, 0) hx).trans (show _ = some _ from rfl)
    have c2 := (cell_of_row _ _ 2 _ _ (0, 0) hx).trans (show _ = some _ from rfl)
    have c3 := (cell_of_row _ _ 3 _ _ (0, 0) hx).trans (show _ = some _ from rfl)
    have c4 := (cell_of_row _ _ 4 _ _ (0, 0) hx).trans (show _ = some _ from rfl)
    have c5 := (cell_of_row _ _ 5 _ _ (0, 0) hx).trans (show _ = some _ from rfl)
    have c6 := (cell_of_row _ _ 6 _ _ (0, 0) hx).trans (show _ = some _ from rfl)
    have n0 := (cell_of_row _ _ 0 _ _ (0, 0) hm).trans (show _ = some _ from rfl)
    have n1 := (cell_of_row _ _ 1 _ _ (0, 0) hm).trans (show _ = some _ from rfl)
    have n2 := (cell_of_row _ _ 2 _ _ (0, 0) hm).trans (show _ = some _ from rfl)
    have n3 := (cell_of_row _ _ 3 _ _ (0, 0) hm).trans (show _ = some _ from rfl)
    have n4 := (cell_of_row _ _ 4 _ _ (0, 0) hm).trans (show _ = some _ from rfl)
    have n5 := (cell_of_row _ _ 5 _ _ (0, 0) hm).trans (show _ = some _ from rfl)
    have n6 := (cell_of_row _ _ 6 _ _ (0, 0) hm).trans (show _ = some _ from rfl)
    have z0 := frozen_of_row _ _ 0 _ _ hm
    have z1 := frozen_of_row _ _ 1 _ _ hm
    have z2 := frozen_of_row _ _ 2 _ _ hm
    have z3 := frozen_of_row _ _ 3 _ _ hm
    have z4 := frozen_of_row _ _ 4 _ _ hm
    have z5 := frozen_of_row _ _ 5 _ _ hm
    have z6 := frozen_of_row _ _ 6 _ _ hm
    have HX2 : Hid (∀ U, U = S7 W7 (w.heap.size + 1) (.string car) (.int .i64 num) (.int .i64 s.day) (.string s.f) (.string s.t) (.int .i64 s.dep) (.int .i64 s.arr) → U.heap[w.heap.size + 1]? = some (.cells #[.string car, .int .i64 num, .int .i64 s.day, .string s.f, .string s.t, .int .i64 s.dep, .int .i64 s.arr] segT (0, 0)) ∧ Below w.heap.size w U) := Lib.hid (fun U h => by rw [h]; exact ⟨S7.heap hm _ _ _ _ _ _ _, hwb.trans ((S7.but _ _ _ _ _ _ _ _ _).below hwb.size (fun k hk => by omega))⟩)
    clear hx hm hwb
    go_wp2
    obtain ⟨hxx, hbb⟩ := HX2.out _ rfl
    unfold S7 at hxx hbb
    clear HX2
    generalize hWW : (((((((W7.setCell ⟨w.heap.size + 1, 0, none⟩ (.string car)).setCell ⟨w.heap.size + 1, 1, none⟩ (.int .i64 num)).setCell ⟨w.heap.size + 1, 2, none⟩ (.int .i64 s.day)).setCell ⟨w.heap.size + 1, 3, none⟩ (.string s.f)).setCell ⟨w.heap.size + 1, 4, none⟩ (.string s.t)).setCell ⟨w.heap.size + 1, 5, none⟩ (.int .i64 s.dep)).setCell ⟨w.heap.size + 1, 6, none⟩ (.int .i64 s.arr)) = WW at *
    clear hWW c0 n0 z0 c1 n1 z1 c2 n2 z2 c3 n3 z3 c4 n4 z4 c5 n5 z5 c6 n6 z6
    have e0 := (cell_of_row WW _ 0 _ _ (0, 0) hxx).trans (show _ = some _ from rfl)
    have e1 := (cell_of_row WW _ 1 _ _ (0, 0) hxx).trans (show _ = some _ from rfl)
    have e2 := (cell_of_row WW _ 2 _ _ (0, 0) hxx).trans (show _ = some _ from rfl)
    have e3 := (cell_of_row WW _ 3 _ _ (0, 0) hxx).trans (show _ = some _ from rfl)
    have e4 := (cell_of_row WW _ 4 _ _ (0, 0) hxx).trans (show _ = some _ from rfl)
    have e5 := (cell_of_row WW _ 5 _ _ (0, 0) hxx).trans (show _ = some _ from rfl)
    have e6 := (cell_of_row WW _ 6 _ _ (0, 0) hxx).trans (show _ = some _ from rfl)
    rw [HFD3.out]
    refine bodyPost_ret (v := .tuple #[.agg #[.string car, .int .i64 num, .int .i64 s.day, .string s.f, .string s.t, .int .i64 s.dep, .int .i64 s.arr], .int .i64 0]) ?_ rfl ⟨rfl, hbb⟩
    simp [results, Tryz.results13, go_sem, e0, e1, e2, e3, e4, e5, e6]
set_option maxRecDepth 100000 in
set_option maxHeartbeats 8000000 in
theorem rcfind_any (p : PV) (v : Value) (fs : List FV) (A : Option Addr) (c : Nat) (sh : List Sh) (car : ByteArray) (num day : Int) (fr tt : ByteArray) (w : World) (op : fs ≠ [] → OkPl p) (ot : OkT fs) (hL : AirL w p.A p.l) (hv : TblL w v fs) (hl : sh.length ≤ 100000) (hs : RowL 9 encSh9 w (.slice A sh.length c) sh) (h0 : -9223372036854775808 ≤ day) (h1 : day ≤ 9223372036854775807) :
    Calls Tryz.prog 14 #[encP p, v, .slice A sh.length c, .string car, .int .i64 num, .int .i64 day, .string fr, .string tt] w fun e w' => e = .returned (.tuple #[encS7 (soldF p.l fs sh car num day fr tt).2, .int .i64 (soldF p.l fs sh car num day fr tt).1]) ∧ Below w.heap.size w w' := by
  obtain ⟨hN, hM, hb0⟩ := two_new2 w #[.slice p.A p.l.length p.ca, .slice p.D p.ds.length p.cd] #[.string noB, .int .i64 0, .int .i64 0, .string noB, .string noB, .int .i64 0, .int .i64 0] placesT segT
  have HFD : Hid (∀ (o s : Sg) (er : Int), operF sh ⟨car, num, day, fr, tt, 0, 0⟩ = o → segF p.l fs o.car o.num day fr tt = (er, s) → soldF p.l fs sh car num day fr tt = if er != 0 then (er, sgZ) else (0, ⟨car, num, s.day, s.f, s.t, s.dep, s.arr⟩)) := Lib.hid (fun o s er h1 h2 => by unfold soldF; rw [h1, h2])
  go_enter Tryz.func14, Tryz.ntmps14
  go_upto_region 1 with fail
  generalize hw5 : ((w.alloc (.cells #[.slice p.A p.l.length p.ca, .slice p.D p.ds.length p.cd] placesT)).alloc (.cells #[.string noB, .int .i64 0, .int .i64 0, .string noB, .string noB, .int .i64 0, .int .i64 0] segT)) = w5 at *
  clear hw5
  have HB0 := Lib.hid hb0
  have HM := Lib.hid hM
  have HLM : Hid (w.heap.size + 1 < w5.heap.size) := Lib.hid (lt_of_cell2 hM)
  have F0 := Lib.hid (bel_get ((cell_of_row _ _ 0 _ _ (0, 0) hN).trans (show _ = some (Value.slice p.A p.l.length p.ca) from rfl)))
  have F1 := Lib.hid (bel_get ((cell_of_row _ _ 1 _ _ (0, 0) hN).trans (show _ = some (Value.slice p.D p.ds.length p.cd) from rfl)))
  have HV := Lib.hid (hv.more hb0)
  have HL := Lib.hid (hL.more hb0)
  have HS := Lib.hid (hs.more hb0)
  have KO : Hid (∀ W, SW w5 W → Calls Tryz.prog 22 #[.slice A sh.length c, .agg #[.string car, .int .i64 num, .int .i64 day, .string fr, .string tt, .int .i64 0, .int .i64 0]] W fun e w' => e = .returned (encS7 (operF sh ⟨car, num, day, fr, tt, 0, 0⟩)) ∧ SW w5 w') := Lib.hid (SW.call (fun W h => roperating_any A c sh ⟨car, num, day, fr, tt, 0, 0⟩ W hl (HS.out.more h) ⟨h0, h1⟩))
  have KS : Hid (∀ (o : Sg) W, SW w5 W → Calls Tryz.prog 16 #[encP p, v, .string o.car, .int .i64 o.num, .int .i64 day, .string fr, .string tt] W fun e w' => e = .returned (.tuple #[encS7 (segF p.l fs o.car o.num day fr tt).2, .int .i64 (segF p.l fs o.car o.num day fr tt).1]) ∧ SW w5 w') := Lib.hid (fun o => SW.call (fun W h => rseg8_any p v fs o.car o.num day fr tt W op ot (HL.out.more h) (HV.out.more h) h0 h1))
  clear hN hM hb0 hv hL hs op ot
  have HO : Hid (∃ o, operF sh ⟨car, num, day, fr, tt, 0, 0⟩ = o) := Lib.hid ⟨_, rfl⟩
  obtain ⟨o, ho0⟩ := HO.out
  clear HO
  have HFD2 := Lib.hid (fun s er => HFD.out o s er ho0)
  rw [ho0] at KO
  clear ho0 HFD
  have KS := Lib.hid (KS.out o)
  have HT : Hid (∃ er s, segF p.l fs o.car o.num day fr tt = (er, s)) := Lib.hid ⟨_, _, rfl⟩
  obtain ⟨er, s, hsg⟩ := HT.out
  clear HT
  have HFD3 := Lib.hid (HFD2.out s er hsg)
  rw [hsg] at KS
  dsimp only at KS
  clear hsg HFD2
  have hS : SW w5 w5 := Below.refl _ _
  go_upto_region 2 with (go_at_call 22; with_reducible refine (KO.out _ hS).mono ?_; rintro e w3 ⟨rfl, hS⟩)
  have hb3 := bel_alloc w3 (.cells #[.string o.car, .int .i64 o.num, .int .i64 o.day, .string o.f, .string o.t, .int .i64 o.dep, .int .i64 o.arr] segT)
  have hS : SW w5 (w3.alloc (.cells #[.string o.car, .int .i64 o.num, .int .i64 o.day, .string o.f, .string o.t, .int .i64 o.dep, .int .i64 o.arr] segT)) := Below.trans hS (Below.mono hb3 hS.size)
  have q0 := (cells_new w3 #[.string o.car, .int .i64 o.num, .int .i64 o.day, .string o.f, .string o.t, .int .i64 o.dep, .int .i64 o.arr] segT 0).trans (show _ = some (Value.string o.car) from rfl)
  have q1 := (cells_new w3 #[.string o.car, .int .i64 o.num, .int .i64 o.day, .string o.f, .string o.t, .int .i64 o.dep, .int .i64 o.arr] segT 1).trans (show _ = some (Value.int .i64 o.num) from rfl)
  generalize hw4 : w3.alloc (.cells #[.string o.car, .int .i64 o.num, .int .i64 o.day, .string o.f, .string o.t, .int .i64 o.dep, .int .i64 o.arr] segT) = w4 at *
  clear hw4 hb3
  have f0 := F0.out _ hS
  have f1 := F1.out _ hS
  go_upto_region 3 with (go_at_call 16; with_reducible refine (KS.out _ hS).mono ?_; rintro e w6 ⟨rfl, hS⟩)
  clear q0 q1 f0 f1
  have hb6 := bel_alloc w6 (.cells #[.string s.car, .int .i64 s.num, .int .i64 s.day, .string s.f, .string s.t, .int .i64 s.dep, .int .i64 s.arr] segT)
  have hS : SW w5 (w6.alloc (.cells #[.string s.car, .int .i64 s.num, .int .i64 s.day, .string s.f, .string s.t, .int .i64 s.dep, .int .i64 s.arr] segT)) := Below.trans hS (Below.mono hb6 hS.size)
  have hx := heap_alloc_new w6 (.cells #[.string s.car, .int .i64 s.num, .int .i64 s.day, .string s.f, .string s.t, .int .i64 s.dep, .int .i64 s.arr] segT)
  have h65 : w5.heap.size ≤ w6.heap.size := by have h := (show SW w5 w6 from by assumption); exact h.size
  generalize hw7 : w6.alloc (.cells #[.string s.car, .int .i64 s.num, .int .i64 s.day, .string s.f, .string s.t, .int .i64 s.dep, .int .i64 s.arr] segT) = w7 at *
  clear hw7 hb6
  have hm := (Below.block hS _ HLM.out).trans HM.out
  have hwb := HB0.out.trans (Below.mono hS HB0.out.size)
  cases q : (er != 0) with
  | true =>
    rw [q, if_pos rfl] at HFD3
    clear hx
    have n0 := (cell_of_row _ _ 0 _ _ (0, 0) hm).trans (show _ = some _ from rfl)
    have n1 := (cell_of_row _ _ 1 _ _ (0, 0) hm).trans (show _ = some _ from rfl)
    have n2 := (cell_of_row _ _ 2 _ _ (0, 0) hm).trans (show _ = some _ from rfl)
    have n3 := (cell_of_row _ _ 3 _ _ (0, 0) hm).trans (show _ = some _ from rfl)
    have n4 := (cell_of_row _ _ 4 _ _ (0, 0) hm).trans (show _ = some _ from rfl)
    have n5 := (cell_of_row _ _ 5 _ _ (0, 0) hm).trans (show _ = some _ from rfl)
    have n6 := (cell_of_row _ _ 6 _ _ (0, 0) hm).trans (show _ = some _ from rfl)
    have z0 := frozen_of_row _ _ 0 _ _ hm
    have z1 := frozen_of_row _ _ 1 _ _ hm
    have z2 := frozen_of_row _ _ 2 _ _ hm
    have z3 := frozen_of_row _ _ 3 _ _ hm
    have z4 := frozen_of_row _ _ 4 _ _ hm
    have z5 := frozen_of_row _ _ 5 _ _ hm
    have z6 := frozen_of_row _ _ 6 _ _ hm
    have HX2 : Hid (∀ U, U = S7 w7 (w.heap.size + 1) (.string noB) (.int .i64 0) (.int .i64 0) (.string noB) (.string noB) (.int .i64 0) (.int .i64 0) → U.heap[w.heap.size + 1]? = some (.cells #[.string noB, .int .i64 0, .int .i64 0, .string noB, .string noB, .int .i64 0, .int .i64 0] segT (0, 0)) ∧ Below w.heap.size w U) := Lib.hid (fun U h => by rw [h]; exact ⟨S7.heap hm _ _ _ _ _ _ _, hwb.trans ((S7.but _ _ _ _ _ _ _ _ _).below hwb.size (fun k hk => by omega))⟩)
    clear hm hwb
    go_wp2
    obtain ⟨hxx, hbb⟩ := HX2.out _ rfl
    unfold S7 at hxx hbb
    clear HX2
    generalize hWW : (((((((w7.setCell ⟨w.heap.size + 1, 0, none⟩ (.string noB)).setCell ⟨w.heap.size + 1, 1, none⟩ (.int .i64 0)).setCell ⟨w.heap.size + 1, 2, none⟩ (.int .i64 0)).setCell ⟨w.heap.size + 1, 3, none⟩ (.string noB)).setCell ⟨w.heap.size + 1, 4, none⟩ (.string noB)).setCell ⟨w.heap.size + 1, 5, none⟩ (.int .i64 0)).setCell ⟨w.heap.size + 1, 6, none⟩ (.int .i64 0)) = WW at *
    clear hWW n0 z0 n1 z1 n2 z2 n3 z3 n4 z4 n5 z5 n6 z6
    have e0 := (cell_of_row WW _ 0 _ _ (0, 0) hxx).trans (show _ = some _ from rfl)
    have e1 := (cell_of_row WW _ 1 _ _ (0, 0) hxx).trans (show _ = some _ from rfl)
    have e2 := (cell_of_row WW _ 2 _ _ (0, 0) hxx).trans (show _ = some _ from rfl)
    have e3 := (cell_of_row WW _ 3 _ _ (0, 0) hxx).trans (show _ = some _ from rfl)
    have e4 := (cell_of_row WW _ 4 _ _ (0, 0) hxx).trans (show _ = some _ from rfl)
    have e5 := (cell_of_row WW _ 5 _ _ (0, 0) hxx).trans (show _ = some _ from rfl)
    have e6 := (cell_of_row WW _ 6 _ _ (0, 0) hxx).trans (show _ = some _ from rfl)
    rw [HFD3.out]
    refine bodyPost_ret (v := .tuple #[encS7 sgZ, .int .i64 er]) ?_ rfl ⟨rfl, hbb⟩
    simp [results, Tryz.results14, go_sem, e0, e1, e2, e3, e4, e5, e6, sgZ]
  | false =>
    rw [q, if_neg (by simp)] at HFD3
    have n0 := (cell_of_row _ _ 0 _ _ (0, 0) hx).trans (show _ = some _ from rfl)
    have n1 := (cell_of_row _ _ 1 _ _ (0, 0) hx).trans (show _ = some _ from rfl)
    have z0 := frozen_of_row _ _ 0 _ _ hx
    have z1 := frozen_of_row _ _ 1 _ _ hx
    obtain ⟨W7, hW7⟩ : ∃ W, W = (w7.setCell ⟨w6.heap.size, 0, none⟩ (.string car)).setCell ⟨w6.heap.size, 1, none⟩ (.int .i64 num) := ⟨_, rfl⟩
    have hx7 : W7.heap[w6.heap.size]? = some (.cells #[.string car, .int .i64 num, .int .i64 s.day, .string s.f, .string s.t, .int .i64 s.dep, .int .i64 s.arr] segT (0, 0)) := by
      rw [hW7]
      have e1 : (w7.setCell ⟨w6.heap.size, 0, none⟩ (.string car)).heap[w6.heap.size]? = some (.cells #[.string car, .int .i64 s.num, .int .i64 s.day, .string s.f, .string s.t, .int .i64 s.dep, .int .i64 s.arr] segT (0, 0)) := heap_setCell_same w7 w6.heap.size 0 _ segT (.string car) hx
      exact heap_setCell_same (w7.setCell ⟨w6.heap.size, 0, none⟩ (.string car)) w6.heap.size 1 _ segT (.int .i64 num) e1
    have hbt : But w7 W7 (fun k => k = w6.heap.size) := by rw [hW7]; exact (But.setCell w7 w6.heap.size 0 _).trans (But.setCell _ w6.heap.size 1 _) (fun _ _ h => h)
    have hlm := HLM.out
    have hm7 : W7.heap[w.heap.size + 1]? = some (.cells #[.string noB, .int .i64 0, .int .i64 0, .string noB, .string noB, .int .i64 0, .int .i64 0] segT (0, 0)) := (hbt.block _ (lt_of_cell2 hm) (fun h => absurd (show w.heap.size + 1 = w6.heap.size from h) (by omega))).trans hm
    have HX7 : Hid (W7.heap[w6.heap.size]? = some (.cells #[.string car, .int .i64 num, .int .i64 s.day, .string s.f, .string s.t, .int .i64 s.dep, .int .i64 s.arr] segT (0, 0))) := Lib.hid hx7
    have HM7 : Hid (W7.heap[w.heap.size + 1]? = some (.cells #[.string noB, .int .i64 0, .int .i64 0, .string noB, .string noB, .int .i64 0, .int .i64 0] segT (0, 0))) := Lib.hid hm7
    have HWB7 : Hid (Below w.heap.size w W7) := Lib.hid (hwb.trans (hbt.below hwb.size (fun k hk => by omega)))
    have HW7 := Lib.hid hW7
    clear hx hm hwb hW7 hx7 hm7 hbt hS hlm h65
    go_upto_region 6 with fail
    clear n0 n1 z0 z1
    have hq : (w7.setCell ⟨w6.heap.size, 0, none⟩ (.string car)).setCell ⟨w6.heap.size, 1, none⟩ (.int .i64 num) = W7 := HW7.out.symm
    rw [hq]
    clear hq
    have hx := HX7.out
    have hm := HM7.out
    have hwb := HWB7.out
    clear HX7 HM7 HWB7 HW7
    have c0 := (cell_of_row _ _ 0 _ _ (0, 0) hx).trans (show _ = some _ from rfl)
    have c1 := (cell_of_row _ _ 1 _ _ (0, 0) hx).trans (show _ = some _ from rfl)
    have c2 := (cell_of_row _ _ 2 _ _ (0, 0) hx).trans (show _ = some _ from rfl)
    have c3 := (cell_of_row _ _ 3 _ _ (0, 0) hx).trans (show _ = some _ from rfl)
    have c4 := (cell_of_row _ _ 4 _ _ (0, 0) hx).trans (show _ = some _ from rfl)
    have c5 := (cell_of_row _ _ 5 _ _ (0, 0) hx).trans (show _ = some _ from rfl)
    have c6 := (cell_of_row _ _ 6 _ _ (0, 0) hx).trans (show _ = some _ from rfl)
    have n0 := (cell_of_row _ _ 0 _ _ (0, 0) hm).trans (show _ = some _ from rfl)
    have n1 := (cell_of_row _ _ 1 _ _ (0, 0) hm).trans (show _ = some _ from rfl)
    have n2 := (cell_of_row _ _ 2 _ _ (0, 0) hm).trans (show _ = some _ from rfl)
    have n3 := (cell_of_row _ _ 3 _ _ (0, 0) hm).trans (show _ = some _ from rfl)
    have n4 := (cell_of_row _ _ 4 _ _ (0, 0) hm).trans (show _ = some _ from rfl)
    have n5 := (cell_of_row _ _ 5 _ _ (0, 0) hm).trans (show _ = some _ from rfl)
    have n6 := (cell_of_row _ _ 6 _ _ (0, 0) hm).trans (show _ = some _ from rfl)
    have z0 := frozen_of_row _ _ 0 _ _ hm
    have z1 := frozen_of_row _ _ 1 _ _ hm
    have z2 := frozen_of_row _ _ 2 _ _ hm
    have z3 := frozen_of_row _ _ 3 _ _ hm
    have z4 := frozen_of_row _ _ 4 _ _ hm
    have z5 := frozen_of_row _ _ 5 _ _ hm
    have z6 := frozen_of_row _ _ 6 _ _ hm
    have HX2 : Hid (∀ U, U = S7 W7 (w.heap.size + 1) (.string car) (.int .i64 num) (.int .i64 s.day) (.string s.f) (.string s.t) (.int .i64 s.dep) (.int .i64 s.arr) → U.heap[w.heap.size + 1]? = some (.cells #[.string car, .int .i64 num, .int .i64 s.day, .string s.f, .string s.t, .int .i64 s.dep, .int .i64 s.arr] segT (0, 0)) ∧ Below w.heap.size w U) := Lib.hid (fun U h => by rw [h]; exact ⟨S7.heap hm _ _ _ _ _ _ _, hwb.trans ((S7.but _ _ _ _ _ _ _ _ _).below hwb.size (fun k hk => by omega))⟩)
    clear hx hm hwb
    go_wp2
    obtain ⟨hxx, hbb⟩ := HX2.out _ rfl
    unfold S7 at hxx hbb
    clear HX2
    generalize hWW : (((((((W7.setCell ⟨w.heap.size + 1, 0, none⟩ (.string car)).setCell ⟨w.heap.size + 1, 1, none⟩ (.int .i64 num)).setCell ⟨w.heap.size + 1, 2, none⟩ (.int .i64 s.day)).setCell ⟨w.heap.size + 1, 3, none⟩ (.string s.f)).setCell ⟨w.heap.size + 1, 4, none⟩ (.string s.t)).setCell ⟨w.heap.size + 1, 5, none⟩ (.int .i64 s.dep)).setCell ⟨w.heap.size + 1, 6, none⟩ (.int .i64 s.arr)) = WW at *
    clear hWW c0 n0 z0 c1 n1 z1 c2 n2 z2 c3 n3 z3 c4 n4 z4 c5 n5 z5 c6 n6 z6
    have e0 := (cell_of_row WW _ 0 _ _ (0, 0) hxx).trans (show _ = some _ from rfl)
    have e1 := (cell_of_row WW _ 1 _ _ (0, 0) hxx).trans (show _ = some _ from rfl)
    have e2 := (cell_of_row WW _ 2 _ _ (0, 0) hxx).trans (show _ = some _ from rfl)
    have e3 := (cell_of_row WW _ 3 _ _ (0, 0) hxx).trans (show _ = some _ from rfl)
    have e4 := (cell_of_row WW _ 4 _ _ (0, 0) hxx).trans (show _ = some _ from rfl)
    have e5 := (cell_of_row WW _ 5 _ _ (0, 0) hxx).trans (show _ = some _ from rfl)
    have e6 := (cell_of_row WW _ 6 _ _ (0, 0) hxx).trans (show _ = some _ from rfl)
    rw [HFD3.out]
    refine bodyPost_ret (v := .tuple #[.agg #[.string car, .int .i64 num, .int .i64 s.day, .string s.f, .string s.t, .int .i64 s.dep, .int .i64 s.arr], .int .i64 0]) ?_ rfl ⟨rfl, hbb⟩
    simp [results, Tryz.results14, go_sem, e0, e1, e2, e3, e4, e5, e6]

end Go.Proofs.YtdpcjafkahhecaaGreatDoor

/- Walks of slices.IndexFunc over legs on a day, and of covered. -/
namespace Go.Proofs.YtdpcjafkahhecaaGreatDoor
open Go.RowKit Go.Shelf
set_option linter.unusedSimpArgs false
set_option linter.unusedVariables false

abbrev encD8 (d : Dt) : Value := .agg #[.string d.car, .int .i64 d.num, .int .i64 d.day, .string d.f, .string d.t, .int .i64 d.dep, .int .i64 d.arr, .string d.eq]
/-- r is the first place at which p is true, or -1 -/
def IdxR (p : Dt → Bool) (L : List Dt) (r : Int) : Prop := (r = -1 ∧ ∀ x ∈ L, p x = false) ∨ (∃ (k : Nat) (y : Dt), r = (k : Int) ∧ L[k]? = some y ∧ p y = true ∧ ∀ (j : Nat) (z : Dt), j < k → L[j]? = some z → p z = false)
set_option maxHeartbeats 4000000 in
set_option maxRecDepth 100000 in
theorem indexD_any (g : Nat) (cb : Array Value) (b o c n : Nat) (L : List Dt) (p : Dt → Bool) (w : World) (eg : ∀ args w, (callFunc g args).run Tryz.prog w = .ok (.enter g args) w) (hl : L.length ≤ 1000) (hnL : n = L.length)
    (hc : b < w.heap.size ∧ ∀ (k : Nat) (y : Dt) j u, L[k]? = some y → (encDt y)[j]? = some u → w.cell? ⟨b, o + k * 8 + j, none⟩ = some u)
    (hf : ∀ (a : Dt) (W : World), a ∈ L → Below w.heap.size w W → Calls Tryz.prog g (#[encD8 a] ++ cb) W fun e w' => e = .returned (.bool (p a)) ∧ Below W.heap.size W w') :
    Calls Tryz.prog 115 #[.slice (some ⟨b, o, none⟩) n c, .func (.func g) #[] cb] w fun e w' => ∃ r : Int, e = .returned (.int .i64 r) ∧ Hid (IdxR p L r) ∧ Below w.heap.size w w' := by
  have HF := Lib.hid hf
  have HC := Lib.hid hc
  subst hnL
  clear hf hc
  go_enter Tryz.func115, Tryz.ntmps115
  go_wp2
  go_loopw [8] (fun vi wr => ∃ k : Nat, k ≤ L.length ∧ vi = .int .i64 k ∧ Hid (∀ (j : Nat) (z : Dt), j < k → L[j]? = some z → p z = false) ∧ Below w.heap.size w wr) (fun vi _ => L.length - (intOf vi).toNat)
  case atStart => exact ⟨0, Nat.zero_le _, rfl, Lib.hid (fun j z h => by omega), Below.refl _ _⟩
  case round =>
    obtain ⟨k, hk, rfl, HK, hb⟩ := hrel
    by_cases hlt : k < L.length
    · obtain ⟨y, hy⟩ : ∃ y, L[k]? = some y := ⟨_, List.getElem?_eq_getElem hlt⟩
      have hcc := fun j u hu => (hb.cell (p := ⟨b, o + k * 8 + j, none⟩) HC.out.1).trans (HC.out.2 k y j u hy hu)
      have z0 := hcc 0 _ rfl
      have z1 := hcc 1 _ rfl
      have z2 := hcc 2 _ rfl
      have z3 := hcc 3 _ rfl
      have z4 := hcc 4 _ rfl
      have z5 := hcc 5 _ rfl
      have z6 := hcc 6 _ rfl
      have z7 := hcc 7 _ rfl
      rw [Nat.add_zero] at z0
      have i2 : (k : Int) < (L.length : Int) := by omega
      have hcl := HF.out y wr (List.mem_of_getElem? hy) hb
      have HY := Lib.hid hy
      clear hcc hy
      cases hp : p y <;> rw [hp] at hcl
      · have HK2 : Hid (∀ (j : Nat) (z : Dt), j < k + 1 → L[j]? = some z → p z = false) := Lib.hid (fun j z hj hz => by
          by_cases e : j = k
          · subst e; rw [HY.out] at hz; cases hz; exact hp
          · exact HK.out j z (by omega) hz)
        clear hp
        go_wp2_with (refine hcl.mono ?_; rintro e w' ⟨rfl, hb'⟩)
        go_roundw
        case rel => exact ⟨k + 1, by omega, by go_num, HK2, hb.trans (hb'.mono hb.size)⟩
        case measure => simp [intOf]; omega
      · have HR : Hid (IdxR p L (k : Int)) := Lib.hid (.inr ⟨k, y, rfl, HY.out, hp, HK.out⟩)
        clear hp
        go_wp2_with (refine hcl.mono ?_; rintro e w' ⟨rfl, hb'⟩)
        go_ret
        exact ⟨_, rfl, HR, hb.trans (hb'.mono hb.size)⟩
    · have HR : Hid (IdxR p L (-1)) := Lib.hid (.inl ⟨rfl, fun x hx => by
        obtain ⟨j, hj⟩ := List.getElem?_of_mem hx
        exact HK.out j x (by have := (List.getElem?_eq_some_iff.1 hj).1; omega) hj⟩)
      go_wp2
      go_ret
      exact ⟨-1, rfl, HR, hb⟩

set_option maxHeartbeats 400000 in
theorem cov1_any (d : Dt) (s : ByteArray) (B : Nat) (W : World) (z : W.cell? ⟨B, 0, none⟩ = some (.string s)) :
    Calls Tryz.prog 116 #[encD8 d, .pointer (some ⟨B, 0, none⟩)] W fun e w' => e = .returned (.bool (d.f.toList == s.toList)) ∧ Below W.heap.size W w' := by
  have hlt := World.block_lt_of_cell? _ _ z
  have z' := (Below.cell (bel_alloc W (.cells #[.string d.car, .int .i64 d.num, .int .i64 d.day, .string d.f, .string d.t, .int .i64 d.dep, .int .i64 d.arr, .string d.eq] datT)) (p := ⟨B, 0, none⟩) hlt).trans z
  go_enter Tryz.func116, Tryz.ntmps116
  go_wp2
  go_ret
  exact ⟨rfl, bel_alloc _ _⟩
set_option maxHeartbeats 400000 in
theorem cov2_any (d : Dt) (s : ByteArray) (B : Nat) (W : World) (z : W.cell? ⟨B, 0, none⟩ = some (.string s)) :
    Calls Tryz.prog 117 #[encD8 d, .pointer (some ⟨B, 0, none⟩)] W fun e w' => e = .returned (.bool (d.t.toList == s.toList)) ∧ Below W.heap.size W w' := by
  have hlt := World.block_lt_of_cell? _ _ z
  have z' := (Below.cell (bel_alloc W (.cells #[.string d.car, .int .i64 d.num, .int .i64 d.day, .string d.f, .string d.t, .int .i64 d.dep, .int .i64 d.arr, .string d.eq] datT)) (p := ⟨B, 0, none⟩) hlt).trans z
  go_enter Tryz.func117, Tryz.ntmps117
  go_wp2
  go_ret
  exact ⟨rfl, bel_alloc _ _⟩
theorem eg_cov1 : ∀ args w, (callFunc 116 args).run Tryz.prog w = .ok (.enter 116 args) w := enters_of Tryz.func116 (by kernel_rfl) rfl
theorem eg_cov2 : ∀ args w, (callFunc 117 args).run Tryz.prog w = .ok (.enter 117 args) w := enters_of Tryz.func117 (by kernel_rfl) rfl

/-- R are the legs from the first that departs at fr on, up to the first of them that arrives at tt; none if there is none -/
def CovR (L : List Dt) (fr tt : ByteArray) (R : List Dt) : Prop :=
  (R = [] ∧ ((∀ x ∈ L, (x.f.toList == fr.toList) = false) ∨ ∃ (i : Nat) (a : Dt), L[i]? = some a ∧ (a.f.toList == fr.toList) = true ∧ (∀ (j : Nat) (z : Dt), j < i → L[j]? = some z → (z.f.toList == fr.toList) = false) ∧ ∀ x ∈ L.drop i, (x.t.toList == tt.toList) = false))
  ∨ ∃ (i k : Nat) (a y : Dt), L[i]? = some a ∧ (a.f.toList == fr.toList) = true ∧ (∀ (j : Nat) (z : Dt), j < i → L[j]? = some z → (z.f.toList == fr.toList) = false) ∧ (L.drop i)[k]? = some y ∧ (y.t.toList == tt.toList) = true ∧ (∀ (j : Nat) (z : Dt), j < k → (L.drop i)[j]? = some z → (z.t.toList == tt.toList) = false) ∧ R = (L.drop i).take (k + 1)

end Go.Proofs.YtdpcjafkahhecaaGreatDoor

/- Walk of covered. -/
namespace Go.Proofs.YtdpcjafkahhecaaGreatDoor
open Go.RowKit Go.Shelf
set_option linter.unusedSimpArgs false
set_option linter.unusedVariables false

theorem RowL.dropL {w : World} {b o c n i m c' : Nat} {L : List Dt} (h : RowL 8 encDt w (.slice (some ⟨b, o, none⟩) n c) L) (hi : i < L.length) (hm : m = (L.drop i).length) : RowL 8 encDt w (.slice (some ⟨b, o + i * 8, none⟩) m c') (L.drop i) := by
  subst hm
  refine ⟨_, c', rfl, .inr ⟨b, o + i * 8, rfl, ?_, fun k y j u hk hu => ?_⟩⟩
  · obtain ⟨b', o', e, hb, _⟩ := RowL.at8 h (List.getElem?_eq_getElem hi)
    cases e
    exact hb
  · exact RowL.dropAt h i hk j u hu
theorem RowL.takeL {w : World} {b o c n m c' : Nat} {L : List Dt} (h : RowL 8 encDt w (.slice (some ⟨b, o, none⟩) n c) L) (k : Nat) (hk : m = (L.take k).length) : RowL 8 encDt w (.slice (some ⟨b, o, none⟩) m c') (L.take k) := by
  subst hk
  obtain ⟨A, c1, e, h⟩ := h
  cases e
  refine ⟨_, c', rfl, ?_⟩
  rcases h with h | ⟨b', o', e, hlt, hc⟩
  · exact .inl (by simp [h])
  · cases e
    refine .inr ⟨b, o, rfl, hlt, fun i x j u hi hu => hc i x j u ?_ hu⟩
    rw [List.getElem?_take] at hi
    split at hi
    · exact hi
    · cases hi

set_option maxRecDepth 100000 in
set_option maxHeartbeats 8000000 in
theorem covered_any (b o c : Nat) (L : List Dt) (fr tt : ByteArray) (w : World) (hl : L.length ≤ 1000) (hcap : L.length ≤ c) (hv : RowL 8 encDt w (.slice (some ⟨b, o, none⟩) L.length c) L) (hb : b < w.heap.size) :
    Calls Tryz.prog 82 #[.slice (some ⟨b, o, none⟩) L.length c, .string fr, .string tt] w fun e w' => ∃ v R, e = .returned v ∧ RowL 8 encDt w' v R ∧ Hid (CovR L fr tt R) ∧ Below w.heap.size w w' := by
  have hb1 := bel_alloc w (.cells #[.string fr] 9)
  have hb2 := bel_alloc (w.alloc (.cells #[.string fr] 9)) (.cells #[.string tt] 9)
  have hb0 := hb1.trans (hb2.mono hb1.size)
  have p0 := bel_cell hb2 ((cells_new w #[.string fr] 9 0).trans (show _ = some (Value.string fr) from rfl))
  have q0 := (cells_new (w.alloc (.cells #[.string fr] 9)) #[.string tt] 9 0).trans (show _ = some (Value.string tt) from rfl)
  rw [World.size_alloc] at q0
  have HV := Lib.hid (hv.more hb0)
  have hbl : b < ((w.alloc (.cells #[.string fr] 9)).alloc (.cells #[.string tt] 9)).heap.size := Nat.lt_of_lt_of_le hb hb0.size
  clear hv hb
  go_enter Tryz.func82, Tryz.ntmps82
  go_upto_region 1 with (fail)
  generalize hw5 : (w.alloc (.cells #[.string fr] 9)).alloc (.cells #[.string tt] 9) = w5 at *
  clear hw5 hb1 hb2
  have f0 := bel_get p0
  have g0 := bel_get q0
  have K1 := Lib.hid (indexD_any 116 #[.pointer (some ⟨w.heap.size, 0, none⟩)] b o c L.length L (fun d => d.f.toList == fr.toList) w5 eg_cov1 hl rfl ⟨hbl, fun k y j u hk hu => by
    obtain ⟨b', o', e, _, hc⟩ := RowL.at8 HV.out hk
    cases e
    exact hc j u hu⟩ (fun a W ha hW => cov1_any a fr _ W (f0 W hW)))
  clear p0 q0
  go_upto_region 2 with (go_at_call 115; refine K1.out.mono ?_; rintro e w1 ⟨r, rfl, hr, hS⟩)
  have hS : SW w5 w1 := hS
  rcases hr.out with ⟨hr1, hno⟩ | ⟨i, a, hri, hia, hpa, hfst⟩
  · subst hr1
    have HR : Hid (CovR L fr tt []) := Lib.hid (.inl ⟨rfl, .inl hno⟩)
    clear hno hr
    go_wp2
    go_ret
    exact ⟨_, [], rfl, ⟨none, 0, rfl, .inl rfl⟩, HR, hb0.trans (Below.mono hS hb0.size)⟩
  · subst hri
    have hil := (List.getElem?_eq_some_iff.1 hia).1
    have i1 : ¬ (i : Int) < 0 := by omega
    have i2 : (i : Int) < (L.length : Int) := by omega
    have i3 : (i : Int) ≤ (c : Int) := by omega
    have i4 : (L.length : Int) ≤ (c : Int) := by omega
    have i5 : (i : Int) ≤ (L.length : Int) := by omega
    have i6 : i < c := by omega
    have i7 : (i : Int) < (c : Int) := by omega
    have i8 : ¬ (c : Int) = (i : Int) := by omega
    have i9 : ¬ c = i := by omega
    have ib : i ≤ 1000 := by omega
    have HA := Lib.hid (And.intro hia (And.intro hpa hfst))
    have HVD : Hid (∀ m c' W, SW w5 W → m = (L.drop i).length → RowL 8 encDt W (.slice (some ⟨b, o + i * 8, none⟩) m c') (L.drop i)) := Lib.hid (fun m c' W h hm => RowL.dropL (HV.out.more h) hil hm)
    have HDL : Hid ((L.drop i).length = L.length - i) := Lib.hid (by rw [List.length_drop])
    have K2 := Lib.hid (fun c' => indexD_any 117 #[.pointer (some ⟨w.heap.size + 1, 0, none⟩)] b (o + i * 8) c' (L.length - i) (L.drop i) (fun d => d.t.toList == tt.toList) w1 eg_cov2 (by rw [List.length_drop]; omega) HDL.out.symm ⟨Nat.lt_of_lt_of_le hbl hS.size, fun k y j u hk hu => RowL.dropAt (HV.out.more hS) i hk j u hu⟩ (fun a W ha hW => cov2_any a tt _ W (g0 W (Below.trans hS (Below.mono hW hS.size)))))
    clear hia hpa hfst hr
    go_upto_region 6 with (go_at_call 115; refine (K2.out _).mono ?_; rintro e w2 ⟨r2, rfl, hr2, hS2⟩)
    have hS3 : SW w5 w2 := Below.trans hS (Below.mono hS2 hS.size)
    rcases hr2.out with ⟨hr1, hno⟩ | ⟨k, y, hrk, hky, hpy, hfk⟩
    · subst hr1
      have HR : Hid (CovR L fr tt []) := Lib.hid (.inl ⟨rfl, .inr ⟨i, a, HA.out.1, HA.out.2.1, HA.out.2.2, hno⟩⟩)
      clear hno hr2
      go_wp2
      go_ret
      exact ⟨_, [], rfl, ⟨_, _, rfl, .inl rfl⟩, HR, hb0.trans (Below.mono hS3 hb0.size)⟩
    · subst hrk
      have hkl := (List.getElem?_eq_some_iff.1 hky).1
      have HR : Hid (CovR L fr tt ((L.drop i).take (k + 1))) := Lib.hid (.inr ⟨i, k, a, y, HA.out.1, HA.out.2.1, HA.out.2.2, hky, hpy, hfk, rfl⟩)
      have hkl2 : k < L.length - i := by rw [← HDL.out]; exact hkl
      have HTL : Hid (k + 1 = ((L.drop i).take (k + 1)).length) := Lib.hid (by rw [List.length_take, HDL.out]; omega)
      have j1 : (k : Int) + 1 ≤ ((c - i : Nat) : Int) := by omega
      have j2 : (0 : Int) ≤ (k : Int) + 1 := by omega
      have j3 : k + 1 ≤ c - i := by omega
      have kb : k ≤ 1000 := by omega
      clear hky hpy hfk hr2 hkl
      go_wp2
      go_ret
      exact ⟨_, _, rfl, RowL.takeL (HVD.out (L.length - i) (c - i) _ hS3 HDL.out.symm) (k + 1) HTL.out, HR, hb0.trans (Below.mono hS3 hb0.size)⟩

end Go.Proofs.YtdpcjafkahhecaaGreatDoor
