/- Words and walks that the laws below ask: SchD, SchF, SchI, SchG, SchQ, FliH, FliK, PlainA. -/
import Derived.Test.YtldillnjnjkkgaaGreatDoorPk2
import Derived.Test.YtldillnjnjkkgaaGreatDoorPk3
import Derived.Test.YtldillnjnjkkgaaGreatDoorPk4
import Derived.Test.YtldillnjnjkkgaaGreatDoorPk5
import Derived.Test.YtldillnjnjkkgaaGreatDoorPk9
/- Walks of what Seg asks of a segment and of find at segments. -/
namespace Go.Proofs.YtldillnjnjkkgaaGreatDoor
open Go.RowKit Go.Shelf
set_option linter.unusedSimpArgs false
set_option linter.unusedVariables false

/-- no segment -/
def sgZ : Sg := ⟨noB, 0, 0, noB, noB, 0, 0⟩
def ftB (fr tt : ByteArray) (s : Sg) : Bool := (s.f.toList == fr.toList) && (s.t.toList == tt.toList)
set_option maxRecDepth 100000 in
set_option maxHeartbeats 4000000 in
theorem seg1_any (s : Sg) (fr tt : ByteArray) (B1 B2 : Nat) (W : World) (z1 : W.cell? ⟨B1, 0, none⟩ = some (.string fr)) (z2 : W.cell? ⟨B2, 0, none⟩ = some (.string tt)) :
    Calls Tryz.prog 89 #[encS7 s, .pointer (some ⟨B1, 0, none⟩), .pointer (some ⟨B2, 0, none⟩)] W fun e w' => e = .returned (.bool (ftB fr tt s)) ∧ Below W.heap.size W w' := by
  have hb0 := bel_alloc W (.cells #[.string s.car, .int .i64 s.num, .int .i64 s.day, .string s.f, .string s.t, .int .i64 s.dep, .int .i64 s.arr] segT)
  have y1 := bel_cell hb0 z1
  have y2 := bel_cell hb0 z2
  have q3 := (cells_new W #[.string s.car, .int .i64 s.num, .int .i64 s.day, .string s.f, .string s.t, .int .i64 s.dep, .int .i64 s.arr] segT 3).trans (show _ = some (.string s.f) from rfl)
  have q4 := (cells_new W #[.string s.car, .int .i64 s.num, .int .i64 s.day, .string s.f, .string s.t, .int .i64 s.dep, .int .i64 s.arr] segT 4).trans (show _ = some (.string s.t) from rfl)
  clear z1 z2
  unfold ftB
  cases h1 : (s.f.toList == fr.toList) <;> cases h2 : (s.t.toList == tt.toList)
  all_goals
    go_enter Tryz.func89, Tryz.ntmps89
    go_wp2
    go_ret
    exact ⟨rfl, hb0⟩
theorem eg_seg1 : ∀ args w, (callFunc 89 args).run Tryz.prog w = .ok (.enter 89 args) w := enters_of Tryz.func89 (by kernel_rfl) rfl

theorem IdxS.find {p : Sg → Bool} {L : List Sg} {r : Int} (h : IdxS p L r) : (r = -1 ∧ L.find? p = none) ∨ ∃ (k : Nat) (y : Sg), r = (k : Int) ∧ L[k]? = some y ∧ L.find? p = some y := by
  rcases h with ⟨h1, h2⟩ | ⟨k, y, h1, h2, h3, h4⟩
  · exact .inl ⟨h1, List.find?_eq_none.2 (fun x hx => by rw [h2 x hx]; simp)⟩
  · refine .inr ⟨k, y, h1, h2, ?_⟩
    obtain ⟨hlt, rfl⟩ := List.getElem?_eq_some_iff.1 h2
    rw [List.find?_eq_some_iff_getElem]
    refine ⟨h3, k, hlt, rfl, fun j hj => ?_⟩
    rw [h4 j _ hj (List.getElem?_eq_getElem (by omega))]
    rfl
set_option maxRecDepth 100000 in
set_option maxHeartbeats 8000000 in
theorem findS_any (g : Nat) (cb : Array Value) (A : Option Addr) (c : Nat) (L : List Sg) (p : Sg → Bool) (w : World) (eg : ∀ args w, (callFunc g args).run Tryz.prog w = .ok (.enter g args) w) (hl : L.length ≤ 100000)
    (hv : RowL 7 encSg w (.slice A L.length c) L)
    (hf : ∀ (a : Sg) (W : World), a ∈ L → Below w.heap.size w W → Calls Tryz.prog g (#[encS7 a] ++ cb) W fun e w' => e = .returned (.bool (p a)) ∧ Below W.heap.size W w') :
    Calls Tryz.prog 88 #[.slice A L.length c, .func (.func g) #[] cb] w fun e w' => e = .returned (.tuple #[encS7 ((L.find? p).getD sgZ), .bool (L.find? p).isSome]) ∧ Below w.heap.size w w' := by
  have hb0 := bel_alloc w (.cells #[.string noB, .int .i64 0, .int .i64 0, .string noB, .string noB, .int .i64 0, .int .i64 0] segT)
  have hN := heap_alloc_new w (.cells #[.string noB, .int .i64 0, .int .i64 0, .string noB, .string noB, .int .i64 0, .int .i64 0] segT)
  have KI := Lib.hid (indexS_any g cb A c L p (w.alloc (.cells #[.string noB, .int .i64 0, .int .i64 0, .string noB, .string noB, .int .i64 0, .int .i64 0] segT)) eg hl (hv.more hb0) (fun a W ha hb => hf a W ha (hb0.trans (hb.mono hb0.size))))
  have HV := Lib.hid (hv.more hb0)
  have HB0 := Lib.hid hb0
  clear hv hf hb0
  go_enter Tryz.func88, Tryz.ntmps88
  go_upto_region 1 with fail
  generalize hw5 : w.alloc (.cells #[.string noB, .int .i64 0, .int .i64 0, .string noB, .string noB, .int .i64 0, .int .i64 0] segT) = w5 at *
  clear hw5
  have HN := Lib.hid hN
  have HLT5 : Hid (w.heap.size < w5.heap.size) := Lib.hid (lt_of_cell2 hN)
  clear hN
  go_wp2_with (go_at_call 168; refine KI.out.mono ?_; rintro e w1 ⟨r, rfl, hr, hb1⟩; refine Hid.out ?_)
  have hS : SW w5 w1 := hb1
  rcases hr.out.find with ⟨rfl, hfd⟩ | ⟨k, y, rfl, hk, hfd⟩
  · refine Lib.hid ?_
    have HFD := Lib.hid hfd
    clear hfd hr
    go_upto_region 4 with fail
    have hbz := bel_alloc w1 (.cells #[.string noB, .int .i64 0, .int .i64 0, .string noB, .string noB, .int .i64 0, .int .i64 0] segT)
    have hnz := heap_alloc_new w1 (.cells #[.string noB, .int .i64 0, .int .i64 0, .string noB, .string noB, .int .i64 0, .int .i64 0] segT)
    generalize hw6 : w1.alloc (.cells #[.string noB, .int .i64 0, .int .i64 0, .string noB, .string noB, .int .i64 0, .int .i64 0] segT) = w6 at *
    clear hw6
    have l0 := (cell_of_row w6 _ 0 _ _ (0, 0) hnz).trans (show _ = some _ from rfl)
    have l1 := (cell_of_row w6 _ 1 _ _ (0, 0) hnz).trans (show _ = some _ from rfl)
    have l2 := (cell_of_row w6 _ 2 _ _ (0, 0) hnz).trans (show _ = some _ from rfl)
    have l3 := (cell_of_row w6 _ 3 _ _ (0, 0) hnz).trans (show _ = some _ from rfl)
    have l4 := (cell_of_row w6 _ 4 _ _ (0, 0) hnz).trans (show _ = some _ from rfl)
    have l5 := (cell_of_row w6 _ 5 _ _ (0, 0) hnz).trans (show _ = some _ from rfl)
    have l6 := (cell_of_row w6 _ 6 _ _ (0, 0) hnz).trans (show _ = some _ from rfl)
    have hS6 := Below.trans hS (Below.mono hbz hS.size)
    have hx := (Below.block hS6 _ HLT5.out).trans HN.out
    have hwb := HB0.out.trans (Below.mono hS6 HB0.out.size)
    clear hS hS6 hbz hnz hb1
    have n0 := (cell_of_row _ _ 0 _ _ (0, 0) hx).trans (show _ = some _ from rfl)
    have n1 := (cell_of_row _ _ 1 _ _ (0, 0) hx).trans (show _ = some _ from rfl)
    have n2 := (cell_of_row _ _ 2 _ _ (0, 0) hx).trans (show _ = some _ from rfl)
    have n3 := (cell_of_row _ _ 3 _ _ (0, 0) hx).trans (show _ = some _ from rfl)
    have n4 := (cell_of_row _ _ 4 _ _ (0, 0) hx).trans (show _ = some _ from rfl)
    have n5 := (cell_of_row _ _ 5 _ _ (0, 0) hx).trans (show _ = some _ from rfl)
    have n6 := (cell_of_row _ _ 6 _ _ (0, 0) hx).trans (show _ = some _ from rfl)
    have z0 := frozen_of_row _ _ 0 _ _ hx
    have z1 := frozen_of_row _ _ 1 _ _ hx
    have z2 := frozen_of_row _ _ 2 _ _ hx
    have z3 := frozen_of_row _ _ 3 _ _ hx
    have z4 := frozen_of_row _ _ 4 _ _ hx
    have z5 := frozen_of_row _ _ 5 _ _ hx
    have z6 := frozen_of_row _ _ 6 _ _ hx
    have HX2 : Hid (∀ W, W = S7 w6 w.heap.size (.string noB) (.int .i64 0) (.int .i64 0) (.string noB) (.string noB) (.int .i64 0) (.int .i64 0) → W.heap[w.heap.size]? = some (.cells #[.string noB, .int .i64 0, .int .i64 0, .string noB, .string noB, .int .i64 0, .int .i64 0] segT (0, 0)) ∧ Below w.heap.size w W ∧ But w6 W (fun k => k = w.heap.size)) := Lib.hid (fun W h => by rw [h]; exact ⟨S7.heap hx _ _ _ _ _ _ _, hwb.trans ((S7.but _ _ _ _ _ _ _ _ _).below (hwb).size (fun k hk => by omega)), S7.but _ _ _ _ _ _ _ _ _⟩)
    clear hx hwb
    go_wp2
    obtain ⟨hxx, hbb, hbu⟩ := HX2.out _ rfl
    unfold S7 at hxx hbb hbu
    clear HX2
    generalize hWW : ((((((w6.setCell ⟨w.heap.size, 0, none⟩ (.string noB)).setCell ⟨w.heap.size, 1, none⟩ (.int .i64 0)).setCell ⟨w.heap.size, 2, none⟩ (.int .i64 0)).setCell ⟨w.heap.size, 3, none⟩ (.string noB)).setCell ⟨w.heap.size, 4, none⟩ (.string noB)).setCell ⟨w.heap.size, 5, none⟩ (.int .i64 0)).setCell ⟨w.heap.size, 6, none⟩ (.int .i64 0) = WW at *
    clear hWW n0 n1 n2 n3 n4 n5 n6 z0 z1 z2 z3 z4 z5 z6
    have c0 := (cell_of_row WW _ 0 _ _ (0, 0) hxx).trans (show _ = some _ from rfl)
    have c1 := (cell_of_row WW _ 1 _ _ (0, 0) hxx).trans (show _ = some _ from rfl)
    have c2 := (cell_of_row WW _ 2 _ _ (0, 0) hxx).trans (show _ = some _ from rfl)
    have c3 := (cell_of_row WW _ 3 _ _ (0, 0) hxx).trans (show _ = some _ from rfl)
    have c4 := (cell_of_row WW _ 4 _ _ (0, 0) hxx).trans (show _ = some _ from rfl)
    have c5 := (cell_of_row WW _ 5 _ _ (0, 0) hxx).trans (show _ = some _ from rfl)
    have c6 := (cell_of_row WW _ 6 _ _ (0, 0) hxx).trans (show _ = some _ from rfl)
    rw [HFD.out]
    refine bodyPost_ret (v := .tuple #[encS7 sgZ, .bool false]) ?_ rfl ⟨rfl, hbb⟩
    simp [results, Tryz.results88, go_sem, c0, c1, c2, c3, c4, c5, c6, sgZ]
  · refine Lib.hid ?_
    have HFD := Lib.hid hfd
    have hi2 : (k : Int) < (L.length : Int) := by have := (List.getElem?_eq_some_iff.1 hk).1; omega
    obtain ⟨b, o, e1, hbl, hcc⟩ := RowL.at7 (HV.out.more hS) hk
    cases e1
    have d0 := hcc 0 _ rfl
    have d1 := hcc 1 _ rfl
    have d2 := hcc 2 _ rfl
    have d3 := hcc 3 _ rfl
    have d4 := hcc 4 _ rfl
    have d5 := hcc 5 _ rfl
    have d6 := hcc 6 _ rfl
    rw [Nat.add_zero] at d0
    clear hfd hcc hk hbl hr
    go_upto_region 5 with fail
    have hx := (Below.block hS _ HLT5.out).trans HN.out
    have hwb := HB0.out.trans (Below.mono hS HB0.out.size)
    clear hS hb1
    have n0 := (cell_of_row _ _ 0 _ _ (0, 0) hx).trans (show _ = some _ from rfl)
    have n1 := (cell_of_row _ _ 1 _ _ (0, 0) hx).trans (show _ = some _ from rfl)
    have n2 := (cell_of_row _ _ 2 _ _ (0, 0) hx).trans (show _ = some _ from rfl)
    have n3 := (cell_of_row _ _ 3 _ _ (0, 0) hx).trans (show _ = some _ from rfl)
    have n4 := (cell_of_row _ _ 4 _ _ (0, 0) hx).trans (show _ = some _ from rfl)
    have n5 := (cell_of_row _ _ 5 _ _ (0, 0) hx).trans (show _ = some _ from rfl)
    have n6 := (cell_of_row _ _ 6 _ _ (0, 0) hx).trans (show _ = some _ from rfl)
    have z0 := frozen_of_row _ _ 0 _ _ hx
    have z1 := frozen_of_row _ _ 1 _ _ hx
    have z2 := frozen_of_row _ _ 2 _ _ hx
    have z3 := frozen_of_row _ _ 3 _ _ hx
    have z4 := frozen_of_row _ _ 4 _ _ hx
    have z5 := frozen_of_row _ _ 5 _ _ hx
    have z6 := frozen_of_row _ _ 6 _ _ hx
    have HX2 : Hid (∀ W, W = S7 w1 w.heap.size (.string y.car) (.int .i64 y.num) (.int .i64 y.day) (.string y.f) (.string y.t) (.int .i64 y.dep) (.int .i64 y.arr) → W.heap[w.heap.size]? = some (.cells #[.string y.car, .int .i64 y.num, .int .i64 y.day, .string y.f, .string y.t, .int .i64 y.dep, .int .i64 y.arr] segT (0, 0)) ∧ Below w.heap.size w W ∧ But w1 W (fun k => k = w.heap.size)) := Lib.hid (fun W h => by rw [h]; exact ⟨S7.heap hx _ _ _ _ _ _ _, hwb.trans ((S7.but _ _ _ _ _ _ _ _ _).below (hwb).size (fun k hk => by omega)), S7.but _ _ _ _ _ _ _ _ _⟩)
    clear hx hwb
    go_wp2
    obtain ⟨hxx, hbb, hbu⟩ := HX2.out _ rfl
    unfold S7 at hxx hbb hbu
    clear HX2
    generalize hWW : ((((((w1.setCell ⟨w.heap.size, 0, none⟩ (.string y.car)).setCell ⟨w.heap.size, 1, none⟩ (.int .i64 y.num)).setCell ⟨w.heap.size, 2, none⟩ (.int .i64 y.day)).setCell ⟨w.heap.size, 3, none⟩ (.string y.f)).setCell ⟨w.heap.size, 4, none⟩ (.string y.t)).setCell ⟨w.heap.size, 5, none⟩ (.int .i64 y.dep)).setCell ⟨w.heap.size, 6, none⟩ (.int .i64 y.arr) = WW at *
    clear hWW n0 n1 n2 n3 n4 n5 n6 z0 z1 z2 z3 z4 z5 z6
    have c0 := (cell_of_row WW _ 0 _ _ (0, 0) hxx).trans (show _ = some _ from rfl)
    have c1 := (cell_of_row WW _ 1 _ _ (0, 0) hxx).trans (show _ = some _ from rfl)
    have c2 := (cell_of_row WW _ 2 _ _ (0, 0) hxx).trans (show _ = some _ from rfl)
    have c3 := (cell_of_row WW _ 3 _ _ (0, 0) hxx).trans (show _ = some _ from rfl)
    have c4 := (cell_of_row WW _ 4 _ _ (0, 0) hxx).trans (show _ = some _ from rfl)
    have c5 := (cell_of_row WW _ 5 _ _ (0, 0) hxx).trans (show _ = some _ from rfl)
    have c6 := (cell_of_row WW _ 6 _ _ (0, 0) hxx).trans (show _ = some _ from rfl)
    rw [HFD.out]
    refine bodyPost_ret (v := .tuple #[encS7 y, .bool true]) ?_ rfl ⟨rfl, hbb⟩
    simp [results, Tryz.results88, go_sem, c0, c1, c2, c3, c4, c5, c6]

end Go.Proofs.YtldillnjnjkkgaaGreatDoor

/- Walk of Seg of a timetable. -/
namespace Go.Proofs.YtldillnjnjkkgaaGreatDoor
open Go.RowKit Go.Shelf
set_option linter.unusedSimpArgs false
set_option linter.unusedVariables false

/-- places of limited size, with time zones that are right -/
structure OkPl (p : PV) : Prop where
  la : p.l.length ≤ 40
  sh : ∀ a ∈ p.l, a.shs.length ≤ 300
  oz : ∀ a ∈ p.l, OkZ a.off a.shs
/-- flights of limited size -/
structure OkT (fs : List FV) : Prop where
  len : fs.length ≤ 1000
  lg : ∀ f ∈ fs, f.lg.length ≤ 100
  hm : ∀ f ∈ fs, ∀ x ∈ f.lg, (-1000000 ≤ x.dep ∧ x.dep ≤ 1000000) ∧ -1000000 ≤ x.arr ∧ x.arr ≤ 1000000
/-- a segment, or the error -/
def segF (L : List Air) (fs : List FV) (car : ByteArray) (num day : Int) (fr tt : ByteArray) : Int × Sg := match onF fs car num day with
  | none => (7, sgZ)
  | some f => match (segsL (legF L f day)).find? (ftB fr tt) with
    | none => (14, sgZ)
    | some s => (0, s)
theorem segF_none {L : List Air} {fs : List FV} {car : ByteArray} {num day : Int} {fr tt : ByteArray} (h : onF fs car num day = none) : segF L fs car num day fr tt = (7, sgZ) := by unfold segF; rw [h]
theorem segF_miss {L : List Air} {fs : List FV} {car : ByteArray} {num day : Int} {fr tt : ByteArray} {f : FV} (h : onF fs car num day = some f) (h2 : (segsL (legF L f day)).find? (ftB fr tt) = none) : segF L fs car num day fr tt = (14, sgZ) := by unfold segF; rw [h]; simp only [h2]
theorem segF_hit {L : List Air} {fs : List FV} {car : ByteArray} {num day : Int} {fr tt : ByteArray} {f : FV} {s : Sg} (h : onF fs car num day = some f) (h2 : (segsL (legF L f day)).find? (ftB fr tt) = some s) : segF L fs car num day fr tt = (0, s) := by unfold segF; rw [h]; simp only [h2]
theorem segs_len (L : List Air) (f : FV) (day : Int) (h : f.lg.length ≤ 100) : (segsL (legF L f day)).length ≤ 10000 := by
  have h1 := segsI_le (legF L f day) (legF L f day).length
  have h2 : (legF L f day).length ≤ 100 := by
    unfold legF
    split
    · rw [List.length_map]; exact h
    · simp
  have h3 : (legF L f day).length * (legF L f day).length ≤ 100 * 100 := Nat.mul_le_mul h2 h2
  show (segsI (legF L f day) (legF L f day).length).length ≤ 10000
  omega
set_option maxRecDepth 100000 in
set_option maxHeartbeats 8000000 in
theorem seg_any (p : PV) (v : Value) (fs : List FV) (car : ByteArray) (num day : Int) (fr tt : ByteArray) (w : World) (op : fs ≠ [] → OkPl p) (ot : OkT fs) (hL : AirL w p.A p.l) (hv : TblL w v fs) (h0 : -9223372036854775808 ≤ day) (h1 : day ≤ 9223372036854775807) :
    Calls Tryz.prog 28 #[encP p, v, .string car, .int .i64 num, .int .i64 day, .string fr, .string tt] w fun e w' => e = .returned (.tuple #[encS7 (segF p.l fs car num day fr tt).2, .int .i64 (segF p.l fs car num day fr tt).1]) ∧ Below w.heap.size w w' := by
  have hb1 := bel_alloc (w) (.cells #[.slice p.A p.l.length p.ca, .slice p.D p.ds.length p.cd] placesT)
  have hb2 := bel_alloc ((w).alloc (.cells #[.slice p.A p.l.length p.ca, .slice p.D p.ds.length p.cd] placesT)) (.cells #[.string fr] 9)
  have hb3 := bel_alloc (((w).alloc (.cells #[.slice p.A p.l.length p.ca, .slice p.D p.ds.length p.cd] placesT)).alloc (.cells #[.string fr] 9)) (.cells #[.string tt] 9)
  have hb4 := bel_alloc ((((w).alloc (.cells #[.slice p.A p.l.length p.ca, .slice p.D p.ds.length p.cd] placesT)).alloc (.cells #[.string fr] 9)).alloc (.cells #[.string tt] 9)) (.cells #[.string noB, .int .i64 0, .int .i64 0, .string noB, .string noB, .int .i64 0, .int .i64 0] segT)
  have hs4 := hb4
  have hs3 := hb3.trans (hs4.mono hb3.size)
  have hs2 := hb2.trans (hs3.mono hb2.size)
  have hs1 := hb1.trans (hs2.mono hb1.size)
  have p0 := bel_cell hs2 ((cells_new w #[.slice p.A p.l.length p.ca, .slice p.D p.ds.length p.cd] placesT 0).trans (show _ = some (Value.slice p.A p.l.length p.ca) from rfl))
  have p1 := bel_cell hs2 ((cells_new w #[.slice p.A p.l.length p.ca, .slice p.D p.ds.length p.cd] placesT 1).trans (show _ = some (Value.slice p.D p.ds.length p.cd) from rfl))
  have zf := bel_cell hs3 ((cells_new ((w).alloc (.cells #[.slice p.A p.l.length p.ca, .slice p.D p.ds.length p.cd] placesT)) #[.string fr] 9 0).trans (show _ = some (Value.string fr) from rfl))
  have zt := bel_cell hs4 ((cells_new (((w).alloc (.cells #[.slice p.A p.l.length p.ca, .slice p.D p.ds.length p.cd] placesT)).alloc (.cells #[.string fr] 9)) #[.string tt] 9 0).trans (show _ = some (Value.string tt) from rfl))
  have hN := heap_alloc_new ((((w).alloc (.cells #[.slice p.A p.l.length p.ca, .slice p.D p.ds.length p.cd] placesT)).alloc (.cells #[.string fr] 9)).alloc (.cells #[.string tt] 9)) (.cells #[.string noB, .int .i64 0, .int .i64 0, .string noB, .string noB, .int .i64 0, .int .i64 0] segT)
  simp only [World.size_alloc] at zf zt hN
  have HV := Lib.hid (hv.more hs1)
  have HL := Lib.hid (hL.more hs1)
  have HB0 := Lib.hid hs1
  have HOT := Lib.hid ot
  have HOP := Lib.hid op
  have KO := Lib.hid (fun W (h : TblL W v fs) => on_x v fs car num day W h ot.len (fun f hf => Nat.le_trans (ot.lg f hf) (by omega)) h0 h1)
  have KS := Lib.hid (fun (gm : fs ≠ []) (f : FV) W (g1 : AirL W p.A p.l) (g2 : LegL W (.slice f.A f.lg.length f.c) f.lg) (g3 : f.lg.length ≤ 100) (g4 : ∀ x ∈ f.lg, (-1000000 ≤ x.dep ∧ x.dep ≤ 1000000) ∧ -1000000 ≤ x.arr ∧ x.arr ≤ 1000000) => segs_any p f day W (op gm).la g1 (op gm).sh (op gm).oz g2 g3 g4 h0 h1)
  clear hv hL ot op hb1 hb2 hb3 hb4
  go_enter Tryz.func28, Tryz.ntmps28
  go_upto_region 1 with fail
  generalize hw5 : (((((w).alloc (.cells #[.slice p.A p.l.length p.ca, .slice p.D p.ds.length p.cd] placesT)).alloc (.cells #[.string fr] 9)).alloc (.cells #[.string tt] 9)).alloc (.cells #[.string noB, .int .i64 0, .int .i64 0, .string noB, .string noB, .int .i64 0, .int .i64 0] segT)) = w5 at *
  clear hw5
  have f0 := bel_get p0
  have f1 := bel_get p1
  have ff := bel_get zf
  have ft := bel_get zt
  have HN := Lib.hid hN
  have HLT5 : Hid ((w.heap.size + 1 + 1 + 1) < w5.heap.size) := Lib.hid (lt_of_cell2 hN)
  clear p0 p1 hN zf zt hs1 hs2 hs3
  cases ho : onF fs car num day with
  | none =>
    have HX := Lib.hid ho
    rw [ho] at KO
    change Hid (∀ W, TblL W v fs → Calls Tryz.prog 26 _ W (OnX fliZ false W)) at KO
    clear ho
    go_upto_region 2 with (go_at_call 26; refine (KO.out _ HV.out).mono ?_; rintro e w3 ⟨X1, A3, c3, rfl, hX1, hL1, hb3⟩; have hst1 := store_fli hX1 w3; have hsz1 : X1.size = 6 := by rw [hX1.out]; rfl)
    clear hst1 hsz1
    have hb4 := bel_alloc w3 (.cells X1 fliT)
    have hS4 : SW w5 (w3.alloc (.cells X1 fliT)) := hb3.trans (hb4.mono hb3.size)
    generalize hw4 : w3.alloc (.cells X1 fliT) = w4 at *
    clear hw4
    have hx := (Below.block hS4 _ HLT5.out).trans HN.out
    have hwb := HB0.out.trans (Below.mono hS4 HB0.out.size)
    clear hb3 hb4 hS4 hL1
    have n0 := (cell_of_row _ _ 0 _ _ (0, 0) hx).trans (show _ = some _ from rfl)
    have n1 := (cell_of_row _ _ 1 _ _ (0, 0) hx).trans (show _ = some _ from rfl)
    have n2 := (cell_of_row _ _ 2 _ _ (0, 0) hx).trans (show _ = some _ from rfl)
    have n3 := (cell_of_row _ _ 3 _ _ (0, 0) hx).trans (show _ = some _ from rfl)
    have n4 := (cell_of_row _ _ 4 _ _ (0, 0) hx).trans (show _ = some _ from rfl)
    have n5 := (cell_of_row _ _ 5 _ _ (0, 0) hx).trans (show _ = some _ from rfl)
    have n6 := (cell_of_row _ _ 6 _ _ (0, 0) hx).trans (show _ = some _ from rfl)
    have z0 := frozen_of_row _ _ 0 _ _ hx
    have z1 := frozen_of_row _ _ 1 _ _ hx
    have z2 := frozen_of_row _ _ 2 _ _ hx
    have z3 := frozen_of_row _ _ 3 _ _ hx
    have z4 := frozen_of_row _ _ 4 _ _ hx
    have z5 := frozen_of_row _ _ 5 _ _ hx
    have z6 := frozen_of_row _ _ 6 _ _ hx
    have HX2 : Hid (∀ W, W = S7 w4 (w.heap.size + 1 + 1 + 1) (.string noB) (.int .i64 0) (.int .i64 0) (.string noB) (.string noB) (.int .i64 0) (.int .i64 0) → W.heap[(w.heap.size + 1 + 1 + 1)]? = some (.cells #[.string noB, .int .i64 0, .int .i64 0, .string noB, .string noB, .int .i64 0, .int .i64 0] segT (0, 0)) ∧ Below w.heap.size w W ∧ But w4 W (fun k => k = (w.heap.size + 1 + 1 + 1))) := Lib.hid (fun W h => by rw [h]; exact ⟨S7.heap hx _ _ _ _ _ _ _, hwb.trans ((S7.but _ _ _ _ _ _ _ _ _).below (hwb).size (fun k hk => by omega)), S7.but _ _ _ _ _ _ _ _ _⟩)
    clear hx hwb
    go_wp2
    obtain ⟨hxx, hbb, hbu⟩ := HX2.out _ rfl
    unfold S7 at hxx hbb hbu
    clear HX2
    generalize hWW : ((((((w4.setCell ⟨(w.heap.size + 1 + 1 + 1), 0, none⟩ (.string noB)).setCell ⟨(w.heap.size + 1 + 1 + 1), 1, none⟩ (.int .i64 0)).setCell ⟨(w.heap.size + 1 + 1 + 1), 2, none⟩ (.int .i64 0)).setCell ⟨(w.heap.size + 1 + 1 + 1), 3, none⟩ (.string noB)).setCell ⟨(w.heap.size + 1 + 1 + 1), 4, none⟩ (.string noB)).setCell ⟨(w.heap.size + 1 + 1 + 1), 5, none⟩ (.int .i64 0)).setCell ⟨(w.heap.size + 1 + 1 + 1), 6, none⟩ (.int .i64 0) = WW at *
    clear hWW n0 n1 n2 n3 n4 n5 n6 z0 z1 z2 z3 z4 z5 z6
    have c0 := (cell_of_row WW _ 0 _ _ (0, 0) hxx).trans (show _ = some _ from rfl)
    have c1 := (cell_of_row WW _ 1 _ _ (0, 0) hxx).trans (show _ = some _ from rfl)
    have c2 := (cell_of_row WW _ 2 _ _ (0, 0) hxx).trans (show _ = some _ from rfl)
    have c3 := (cell_of_row WW _ 3 _ _ (0, 0) hxx).trans (show _ = some _ from rfl)
    have c4 := (cell_of_row WW _ 4 _ _ (0, 0) hxx).trans (show _ = some _ from rfl)
    have c5 := (cell_of_row WW _ 5 _ _ (0, 0) hxx).trans (show _ = some _ from rfl)
    have c6 := (cell_of_row WW _ 6 _ _ (0, 0) hxx).trans (show _ = some _ from rfl)
    rw [segF_none HX.out]
    refine bodyPost_ret (v := .tuple #[encS7 sgZ, .int .i64 7]) ?_ rfl ⟨rfl, hbb⟩
    simp [results, Tryz.results28, go_sem, c0, c1, c2, c3, c4, c5, c6, sgZ]
  | some f =>
    have hfm := List.mem_of_find?_eq_some ho
    have HFM := Lib.hid hfm
    clear hfm
    have HX := Lib.hid ho
    rw [ho] at KO
    change Hid (∀ W, TblL W v fs → Calls Tryz.prog 26 _ W (OnX f true W)) at KO
    clear ho
    go_upto_region 2 with (go_at_call 26; refine (KO.out _ HV.out).mono ?_; rintro e w3 ⟨X1, A3, c3, rfl, hX1, hL1, hb3⟩; have hst1 := store_fli hX1 w3; have hsz1 : X1.size = 6 := by rw [hX1.out]; rfl)
    clear hst1 hsz1
    have hb4 := bel_alloc w3 (.cells X1 fliT)
    have hS4 : SW w5 (w3.alloc (.cells X1 fliT)) := hb3.trans (hb4.mono hb3.size)
    have n0 := (cells_new w3 X1 fliT 0).trans (show X1[0]? = some (Value.string f.car) by rw [hX1.out]; rfl)
    have n1 := (cells_new w3 X1 fliT 1).trans (show X1[1]? = some (Value.int .i64 f.num) by rw [hX1.out]; rfl)
    have n2 := (cells_new w3 X1 fliT 2).trans (show X1[2]? = some (Value.int .i64 f.pf) by rw [hX1.out]; rfl)
    have n3 := (cells_new w3 X1 fliT 3).trans (show X1[3]? = some (Value.int .i64 f.pt) by rw [hX1.out]; rfl)
    have n4 := (cells_new w3 X1 fliT 4).trans (show X1[4]? = some (Value.int .i64 f.pd) by rw [hX1.out]; rfl)
    have n5 := (cells_new w3 X1 fliT 5).trans (show X1[5]? = some (Value.slice A3 f.lg.length c3) by rw [hX1.out]; rfl)
    have HL4 := Lib.hid (hL1.more hb4)
    generalize hw4 : w3.alloc (.cells X1 fliT) = w4 at *
    clear hw4 hb3 hb4 hL1
    have y0 := f0 _ hS4
    have y1 := f1 _ hS4
    have KS2 := Lib.hid (KS.out (List.ne_nil_of_mem HFM.out) (f.re A3 c3) w4 (HL.out.more hS4) HL4.out (HOT.out.lg f HFM.out) (HOT.out.hm f HFM.out))
    change Hid (Calls Tryz.prog _ _ w4 (fun e w' => ∃ v, e = .returned (.tuple #[v, .int .i64 (legE f day)]) ∧ ROwn segT 7 encSg w4.heap.size w' v (segsL (legF p.l f day)) ∧ Below w4.heap.size w4 w')) at KS2
    obtain ⟨L, hLs⟩ : ∃ L, L = segsL (legF p.l f day) := ⟨_, rfl⟩
    have HLs := Lib.hid hLs
    have hLn : L.length ≤ 10000 := by rw [hLs]; exact segs_len _ _ _ (HOT.out.lg f HFM.out)
    rw [← hLs] at KS2
    clear hLs KO KS
    generalize legE f day = le0 at KS2
    go_upto_region 5 with (go_at_call 34; refine KS2.out.mono ?_; rintro e w6 ⟨v6, rfl, hO6, hb6⟩)
    have hS6 : SW w5 w6 := Below.trans hS4 (Below.mono hb6 hS4.size)
    obtain ⟨A6, c6, rfl, hV6'⟩ := hO6.rowL rtG.len
    have hV6 : RowL 7 encSg w6 (.slice A6 L.length c6) L := ⟨A6, c6, rfl, hV6'⟩
    have HV6 := Lib.hid hV6
    clear n0 n1 n2 n3 n4 n5 y0 y1 hV6' hV6 hO6 hb6 KS2
    obtain ⟨s0, hs0⟩ : ∃ s, s = (L.find? (ftB fr tt)).getD sgZ := ⟨_, rfl⟩
    obtain ⟨b0, hb0⟩ : ∃ s, s = (L.find? (ftB fr tt)).isSome := ⟨_, rfl⟩
    have HR : Hid ((b0 = false → segF p.l fs car num day fr tt = (14, sgZ)) ∧ (b0 = true → segF p.l fs car num day fr tt = (0, s0))) := Lib.hid (by
      cases hfd : L.find? (ftB fr tt) with
      | none => rw [hfd] at hb0; exact ⟨fun _ => segF_miss HX.out (by rw [← HLs.out]; exact hfd), fun h => (by rw [hb0] at h; cases h)⟩
      | some s => rw [hfd] at hs0 hb0; rw [hs0]; exact ⟨fun h => (by rw [hb0] at h; cases h), fun _ => segF_hit HX.out (by rw [← HLs.out]; exact hfd)⟩)
    have KF := Lib.hid (findS_any 89 #[.pointer (some ⟨w.heap.size + 1, 0, none⟩), .pointer (some ⟨w.heap.size + 1 + 1, 0, none⟩)] A6 c6 L (ftB fr tt) w6 eg_seg1 (by omega) HV6.out (fun a W ha hb => seg1_any a fr tt _ _ W (ff W (Below.trans hS6 (Below.mono hb hS6.size))) (ft W (Below.trans hS6 (Below.mono hb hS6.size)))))
    rw [← hs0, ← hb0] at KF
    clear hs0 hb0
    go_upto_region 6 with (go_at_call 88; refine KF.out.mono ?_; rintro e w7 ⟨rfl, hb7⟩)
    have hS7 : SW w5 w7 := Below.trans hS6 (Below.mono hb7 hS6.size)
    have hb8 := bel_alloc w7 (.cells #[.string s0.car, .int .i64 s0.num, .int .i64 s0.day, .string s0.f, .string s0.t, .int .i64 s0.dep, .int .i64 s0.arr] segT)
    have hx8 := heap_alloc_new w7 (.cells #[.string s0.car, .int .i64 s0.num, .int .i64 s0.day, .string s0.f, .string s0.t, .int .i64 s0.dep, .int .i64 s0.arr] segT)
    generalize hw8 : w7.alloc (.cells #[.string s0.car, .int .i64 s0.num, .int .i64 s0.day, .string s0.f, .string s0.t, .int .i64 s0.dep, .int .i64 s0.arr] segT) = w8 at *
    clear hw8
    have e0 := (cell_of_row w8 _ 0 _ _ (0, 0) hx8).trans (show _ = some (Value.string s0.car) from rfl)
    have e1 := (cell_of_row w8 _ 1 _ _ (0, 0) hx8).trans (show _ = some (Value.int .i64 s0.num) from rfl)
    have e2 := (cell_of_row w8 _ 2 _ _ (0, 0) hx8).trans (show _ = some (Value.int .i64 s0.day) from rfl)
    have e3 := (cell_of_row w8 _ 3 _ _ (0, 0) hx8).trans (show _ = some (Value.string s0.f) from rfl)
    have e4 := (cell_of_row w8 _ 4 _ _ (0, 0) hx8).trans (show _ = some (Value.string s0.t) from rfl)
    have e5 := (cell_of_row w8 _ 5 _ _ (0, 0) hx8).trans (show _ = some (Value.int .i64 s0.dep) from rfl)
    have e6 := (cell_of_row w8 _ 6 _ _ (0, 0) hx8).trans (show _ = some (Value.int .i64 s0.arr) from rfl)
    have hS8 : SW w5 w8 := Below.trans hS7 (Below.mono hb8 hS7.size)
    have hx := (Below.block hS8 _ HLT5.out).trans HN.out
    have hwb := HB0.out.trans (Below.mono hS8 HB0.out.size)
    clear hb7 hb8 hx8 hS6 hS7 hS8 KF
    cases b0 with
    | false =>
      have HR2 := HR.out.1 rfl
      have HR3 := Lib.hid HR2
      clear HR HR2
      have n0 := (cell_of_row _ _ 0 _ _ (0, 0) hx).trans (show _ = some _ from rfl)
      have n1 := (cell_of_row _ _ 1 _ _ (0, 0) hx).trans (show _ = some _ from rfl)
      have n2 := (cell_of_row _ _ 2 _ _ (0, 0) hx).trans (show _ = some _ from rfl)
      have n3 := (cell_of_row _ _ 3 _ _ (0, 0) hx).trans (show _ = some _ from rfl)
      have n4 := (cell_of_row _ _ 4 _ _ (0, 0) hx).trans (show _ = some _ from rfl)
      have n5 := (cell_of_row _ _ 5 _ _ (0, 0) hx).trans (show _ = some _ from rfl)
      have n6 := (cell_of_row _ _ 6 _ _ (0, 0) hx).trans (show _ = some _ from rfl)
      have z0 := frozen_of_row _ _ 0 _ _ hx
      have z1 := frozen_of_row _ _ 1 _ _ hx
      have z2 := frozen_of_row _ _ 2 _ _ hx
      have z3 := frozen_of_row _ _ 3 _ _ hx
      have z4 := frozen_of_row _ _ 4 _ _ hx
      have z5 := frozen_of_row _ _ 5 _ _ hx
      have z6 := frozen_of_row _ _ 6 _ _ hx
      have HX2 : Hid (∀ W, W = S7 w8 (w.heap.size + 1 + 1 + 1) (.string noB) (.int .i64 0) (.int .i64 0) (.string noB) (.string noB) (.int .i64 0) (.int .i64 0) → W.heap[(w.heap.size + 1 + 1 + 1)]? = some (.cells #[.string noB, .int .i64 0, .int .i64 0, .string noB, .string noB, .int .i64 0, .int .i64 0] segT (0, 0)) ∧ Below w.heap.size w W ∧ But w8 W (fun k => k = (w.heap.size + 1 + 1 + 1))) := Lib.hid (fun W h => by rw [h]; exact ⟨S7.heap hx _ _ _ _ _ _ _, hwb.trans ((S7.but _ _ _ _ _ _ _ _ _).below (hwb).size (fun k hk => by omega)), S7.but _ _ _ _ _ _ _ _ _⟩)
      clear hx hwb
      go_wp2
      obtain ⟨hxx, hbb, hbu⟩ := HX2.out _ rfl
      unfold S7 at hxx hbb hbu
      clear HX2
      generalize hWW : ((((((w8.setCell ⟨(w.heap.size + 1 + 1 + 1), 0, none⟩ (.string noB)).setCell ⟨(w.heap.size + 1 + 1 + 1), 1, none⟩ (.int .i64 0)).setCell ⟨(w.heap.size + 1 + 1 + 1), 2, none⟩ (.int .i64 0)).setCell ⟨(w.heap.size + 1 + 1 + 1), 3, none⟩ (.string noB)).setCell ⟨(w.heap.size + 1 + 1 + 1), 4, none⟩ (.string noB)).setCell ⟨(w.heap.size + 1 + 1 + 1), 5, none⟩ (.int .i64 0)).setCell ⟨(w.heap.size + 1 + 1 + 1), 6, none⟩ (.int .i64 0) = WW at *
      clear hWW n0 n1 n2 n3 n4 n5 n6 z0 z1 z2 z3 z4 z5 z6
      have c0 := (cell_of_row WW _ 0 _ _ (0, 0) hxx).trans (show _ = some _ from rfl)
      have c1 := (cell_of_row WW _ 1 _ _ (0, 0) hxx).trans (show _ = some _ from rfl)
      have c2 := (cell_of_row WW _ 2 _ _ (0, 0) hxx).trans (show _ = some _ from rfl)
      have c3 := (cell_of_row WW _ 3 _ _ (0, 0) hxx).trans (show _ = some _ from rfl)
      have c4 := (cell_of_row WW _ 4 _ _ (0, 0) hxx).trans (show _ = some _ from rfl)
      have c5 := (cell_of_row WW _ 5 _ _ (0, 0) hxx).trans (show _ = some _ from rfl)
      have c6 := (cell_of_row WW _ 6 _ _ (0, 0) hxx).trans (show _ = some _ from rfl)
      rw [HR3.out]
      refine bodyPost_ret (v := .tuple #[encS7 sgZ, .int .i64 14]) ?_ rfl ⟨rfl, hbb⟩
      simp [results, Tryz.results28, go_sem, c0, c1, c2, c3, c4, c5, c6, sgZ]
    | true =>
      have HR2 := HR.out.2 rfl
      have HR3 := Lib.hid HR2
      clear HR HR2
      have n0 := (cell_of_row _ _ 0 _ _ (0, 0) hx).trans (show _ = some _ from rfl)
      have n1 := (cell_of_row _ _ 1 _ _ (0, 0) hx).trans (show _ = some _ from rfl)
      have n2 := (cell_of_row _ _ 2 _ _ (0, 0) hx).trans (show _ = some _ from rfl)
      have n3 := (cell_of_row _ _ 3 _ _ (0, 0) hx).trans (show _ = some _ from rfl)
      have n4 := (cell_of_row _ _ 4 _ _ (0, 0) hx).trans (show _ = some _ from rfl)
      have n5 := (cell_of_row _ _ 5 _ _ (0, 0) hx).trans (show _ = some _ from rfl)
      have n6 := (cell_of_row _ _ 6 _ _ (0, 0) hx).trans (show _ = some _ from rfl)
      have z0 := frozen_of_row _ _ 0 _ _ hx
      have z1 := frozen_of_row _ _ 1 _ _ hx
      have z2 := frozen_of_row _ _ 2 _ _ hx
      have z3 := frozen_of_row _ _ 3 _ _ hx
      have z4 := frozen_of_row _ _ 4 _ _ hx
      have z5 := frozen_of_row _ _ 5 _ _ hx
      have z6 := frozen_of_row _ _ 6 _ _ hx
      have HX2 : Hid (∀ W, W = S7 w8 (w.heap.size + 1 + 1 + 1) (.string s0.car) (.int .i64 s0.num) (.int .i64 s0.day) (.string s0.f) (.string s0.t) (.int .i64 s0.dep) (.int .i64 s0.arr) → W.heap[(w.heap.size + 1 + 1 + 1)]? = some (.cells #[.string s0.car, .int .i64 s0.num, .int .i64 s0.day, .string s0.f, .string s0.t, .int .i64 s0.dep, .int .i64 s0.arr] segT (0, 0)) ∧ Below w.heap.size w W ∧ But w8 W (fun k => k = (w.heap.size + 1 + 1 + 1))) := Lib.hid (fun W h => by rw [h]; exact ⟨S7.heap hx _ _ _ _ _ _ _, hwb.trans ((S7.but _ _ _ _ _ _ _ _ _).below (hwb).size (fun k hk => by omega)), S7.but _ _ _ _ _ _ _ _ _⟩)
      clear hx hwb
      go_wp2
      obtain ⟨hxx, hbb, hbu⟩ := HX2.out _ rfl
      unfold S7 at hxx hbb hbu
      clear HX2
      generalize hWW : ((((((w8.setCell ⟨(w.heap.size + 1 + 1 + 1), 0, none⟩ (.string s0.car)).setCell ⟨(w.heap.size + 1 + 1 + 1), 1, none⟩ (.int .i64 s0.num)).setCell ⟨(w.heap.size + 1 + 1 + 1), 2, none⟩ (.int .i64 s0.day)).setCell ⟨(w.heap.size + 1 + 1 + 1), 3, none⟩ (.string s0.f)).setCell ⟨(w.heap.size + 1 + 1 + 1), 4, none⟩ (.string s0.t)).setCell ⟨(w.heap.size + 1 + 1 + 1), 5, none⟩ (.int .i64 s0.dep)).setCell ⟨(w.heap.size + 1 + 1 + 1), 6, none⟩ (.int .i64 s0.arr) = WW at *
      clear hWW n0 n1 n2 n3 n4 n5 n6 z0 z1 z2 z3 z4 z5 z6
      have c0 := (cell_of_row WW _ 0 _ _ (0, 0) hxx).trans (show _ = some _ from rfl)
      have c1 := (cell_of_row WW _ 1 _ _ (0, 0) hxx).trans (show _ = some _ from rfl)
      have c2 := (cell_of_row WW _ 2 _ _ (0, 0) hxx).trans (show _ = some _ from rfl)
      have c3 := (cell_of_row WW _ 3 _ _ (0, 0) hxx).trans (show _ = some _ from rfl)
      have c4 := (cell_of_row WW _ 4 _ _ (0, 0) hxx).trans (show _ = some _ from rfl)
      have c5 := (cell_of_row WW _ 5 _ _ (0, 0) hxx).trans (show _ = some _ from rfl)
      have c6 := (cell_of_row WW _ 6 _ _ (0, 0) hxx).trans (show _ = some _ from rfl)
      rw [HR3.out]
      refine bodyPost_ret (v := .tuple #[encS7 s0, .int .i64 0]) ?_ rfl ⟨rfl, hbb⟩
      simp [results, Tryz.results28, go_sem, c0, c1, c2, c3, c4, c5, c6]

end Go.Proofs.YtldillnjnjkkgaaGreatDoor

/- Walk of Check of a timetable. -/
namespace Go.Proofs.YtldillnjnjkkgaaGreatDoor
open Go.RowKit Go.Shelf Go.Maps
set_option linter.unusedSimpArgs false
set_option linter.unusedVariables false

theorem own_cells {α : Type} {enc : α → List Value} {e : TypeId} {sz B : Nat} {w : World} {v : Value} {l : List α} (h : ROwn e sz enc B w v l) {k : Nat} (hk : v.ownBlock = some k) : ∃ cs, w.heap[k]? = some (.cells cs e (0, 0)) := by
  rcases h.own.2 with ⟨rfl, _⟩ | ⟨g, cap, cur, rfl, _, hg, _⟩
  · cases hk
  · cases hk
    exact ⟨cur, hg⟩
theorem ROwn.but {α : Type} {enc : α → List Value} {e : TypeId} {sz B : Nat} {w w' : World} {X : Nat → Prop} {v : Value} {l : List α} (h : ROwn e sz enc B w v l) (hB : But w w' X) (hx : ∀ k, v.ownBlock = some k → ¬ X k) : ROwn e sz enc B w' v l := by
  obtain ⟨⟨h1, h2⟩, h3⟩ := h
  refine ⟨⟨h1, ?_⟩, Nat.le_trans h3 hB.size⟩
  rcases h2 with ⟨rfl, hn⟩ | ⟨g, cap, cur, rfl, hb, hg, hr⟩
  · exact .inl ⟨rfl, hn⟩
  · exact .inr ⟨g, cap, cur, rfl, hb, (hB.block g (Array.getElem?_eq_some_iff.1 hg).1 (hx g rfl)).trans hg, hr⟩
theorem ROwn.not_map {α : Type} {enc : α → List Value} {e : TypeId} {sz B lo : Nat} {w : World} {v : Value} {l : List α} (h : ROwn e sz enc B w v l) : ∀ k, v.ownBlock = some k → ¬ MapX w lo k := by
  rintro k hk ⟨_, es, cl, h1⟩
  obtain ⟨cs, h2⟩ := own_cells h hk
  rw [h2] at h1
  cases h1
theorem TM.but {w w' : World} {X : Nat → Prop} {b lo n : Nat} {g : ByteArray × Int → Option Value} {T : ByteArray × Int → Int → Bool} (h : TM w b lo n g T) (hB : But w w' X) (hx : ∀ k, MapX w lo k → ¬ X k) : TM w' b lo n g T := by
  have same : ∀ k, k < w.heap.size → MapX w lo k → w'.heap[k]? = w.heap[k]? := fun k hk hm => hB.block k hk (hx k hm)
  exact ⟨h.map.same (same _ h.map.lt (h.map.isX h.hlo)), h.hlo, fun c v hc => by
    obtain ⟨b', m, e, h1, h2, h3, h4⟩ := h.inn c v hc
    exact ⟨b', m, e, h1, h2, h3, h4.same (same _ h4.lt (h4.isX h1))⟩, h.out, h.inj⟩
theorem TM.chg {α : Type} {enc : α → List Value} {e : TypeId} {sz B : Nat} {w w' : World} {b lo n : Nat} {g : ByteArray × Int → Option Value} {T : ByteArray × Int → Int → Bool} {v v' : Value} {l : List α} (h : TM w b lo n g T) (hO : ROwn e sz enc B w v l) (hC : Chg w w' v v') : TM w' b lo n g T :=
  h.but hC.but (fun k hm hk => hO.not_map k hk hm)
theorem tk_next (fs : List FV) {k : Nat} {f : FV} (h : fs[k]? = some f) : tkP (tkn (fs.take k)) f = tkn (fs.take (k + 1)) := by
  obtain ⟨hk, rfl⟩ := List.getElem?_eq_some_iff.1 h
  funext c d
  rw [show fs.take (k + 1) = fs.take k ++ [fs[k]] from (List.take_append_getElem hk).symm, tkn_snoc]
  unfold tkP
  congr 1
  rw [Bool.eq_iff_iff]
  simp only [Bool.and_eq_true, decide_eq_true_eq, Per.daysQ_mem]
  obtain ⟨c1, c2⟩ := c
  simp only [Prod.mk.injEq]
  constructor
  · rintro ⟨⟨rfl, rfl⟩, h⟩
    exact ⟨⟨rfl, rfl⟩, h⟩
  · rintro ⟨⟨h1, h2⟩, h⟩
    exact ⟨⟨h1.symm, h2.symm⟩, h⟩
theorem itoa_small (k : Nat) (h : k < 100) (w : World) : Calls Tryz.prog 75 #[.int .i64 (k : Int)] w fun e w' => e = .returned (.string (decA k)) ∧ w = w' := by
  have h := Tryz.strconv_Itoa_small k h w
  rw [← itoa_nat] at h
  exact h.mono (by rintro e w' ⟨rfl, rfl⟩; exact ⟨rfl, rfl⟩)
theorem preF_take (at_ : ByteArray) (l : List Flt) {j : Nat} {x : Flt} (h : l[j]? = some x) : preF at_ (l.take (j + 1)) = preF at_ (l.take j) ++ [(x.1, (at_ ++ spW) ++ x.2)] := by
  obtain ⟨hk, rfl⟩ := List.getElem?_eq_some_iff.1 h
  unfold preF
  rw [show l.take (j + 1) = l.take j ++ [l[j]] from (List.take_append_getElem hk).symm, List.map_append]
  rfl
theorem preF_len (at_ : ByteArray) (l : List Flt) : (preF at_ l).length = l.length := by simp [preF]
theorem schF_le (l : List Air) (fs : List FV) (hc : ∀ f ∈ fs, (chF l f).length ≤ 1000) : ∀ k, (schF l fs k).length ≤ 1001 * k
  | 0 => by simp [schF_zero]
  | k + 1 => by
    have ih := schF_le l fs hc k
    cases h : fs[k]? with
    | none =>
      have e : schF l fs (k + 1) = schF l fs k := by simp [schF, List.range_succ, h]
      rw [e]; omega
    | some f =>
      rw [schF_succ l fs k f h]
      have h1 := hc f (List.mem_of_getElem? h)
      have h2 := pick_le (fliW ++ decA k) [wh (twcB (fs.take k) f) 6]
      simp only [List.length_append, preF_len, List.length_cons, List.length_nil] at *
      omega
abbrev errnT' : TypeId := 33
theorem err_new (w : World) (x : Int) : ∀ k (h : k < [x].length), (w.alloc (.cells #[.int .i64 x] errnT')).cell? ⟨w.heap.size, k, none⟩ = some (.int .i64 [x][k]) := by
  intro k h
  have hk : k = 0 := by simpa using h
  subst hk
  exact (cells_new w #[.int .i64 x] errnT' 0).trans (show _ = some (Value.int .i64 x) from rfl)
set_option maxRecDepth 100000 in
set_option maxHeartbeats 8000000 in
theorem scheck_any (p : PV) (v : Value) (fs : List FV) (w : World) (hL : AirL w p.A p.l) (hv : TblL w v fs) (hlen : fs.length ≤ 90)
    (hok : ∀ f ∈ fs, f.car.size ≤ maxLen ∧ (Lit.int .i64 f.num).wf = true ∧ (chF p.l f).length ≤ 1000 ∧ ∀ x ∈ chF p.l f, x.2.size ≤ 1000 ∧ x.1 ≠ 0)
    (KC : ∀ f ∈ fs, ∀ W, Below w.heap.size w W → Calls Tryz.prog 54 #[encP p, encFl f] W fun e w' => ∃ v, e = .returned v ∧ FOwn W.heap.size w' v (chF p.l f) ∧ Below W.heap.size W w') :
    Calls Tryz.prog 23 #[encP p, v] w fun e w' => ∃ r, e = .returned r ∧ FOwn w.heap.size w' r (schF p.l fs fs.length) ∧ Below w.heap.size w w' := by
  obtain ⟨A, c, rfl, _⟩ := id hv.row
  have hmm := @run_makeMap Tryz.prog
  have hb1 := bel_alloc w (.cells #[.slice p.A p.l.length p.ca, .slice p.D p.ds.length p.cd] placesT)
  have p0 := (cells_new w #[.slice p.A p.l.length p.ca, .slice p.D p.ds.length p.cd] placesT 0).trans (show _ = some (Value.slice p.A p.l.length p.ca) from rfl)
  have p1 := (cells_new w #[.slice p.A p.l.length p.ca, .slice p.D p.ds.length p.cd] placesT 1).trans (show _ = some (Value.slice p.D p.ds.length p.cd) from rfl)
  have hsz1 : (w.alloc (.cells #[.slice p.A p.l.length p.ca, .slice p.D p.ds.length p.cd] placesT)).heap.size = w.heap.size + 1 := by simp
  have HV := Lib.hid (hv.more hb1)
  have HB1 := Lib.hid hb1
  have HOK := Lib.hid hok
  have HKC := Lib.hid KC
  have HSF := Lib.hid (schF_le p.l fs (fun f hf => (hok f hf).2.2.1))
  clear hv hok KC hb1
  go_enter Tryz.func23, Tryz.ntmps23
  go_upto_region 1 with fail
  generalize hw1 : w.alloc (.cells #[.slice p.A p.l.length p.ca, .slice p.D p.ds.length p.cd] placesT) = w1 at *
  clear hw1
  have HS1 := Lib.hid hsz1
  have f0 := bel_get p0
  have f1 := bel_get p1
  clear p0 p1
  have htm := TM.made w1 w1.heap.size (Nat.le_refl _)
  have hbm := bel_alloc w1 (.map #[] 0)
  go_upto_region 3 with fail
  obtain ⟨bm, hbm2⟩ : ∃ b, b = w1.heap.size := ⟨_, rfl⟩
  have HBM := Lib.hid hbm2
  rw [← hbm2] at htm
  rw [hsz1] at hbm2
  try rw [← hbm2]
  try rw [← HBM.out]
  generalize hw5 : w1.alloc (.map #[] 0) = w5 at *
  clear hw5 hbm2
  have HTM := Lib.hid htm
  have HBW := Lib.hid hbm
  clear htm hbm hsz1
  go_wp2
  go_loopw [5, 15] (fun s0 vi wr => ∃ k : Nat, k ≤ fs.length ∧ vi = .int .i64 k ∧ Hid (FOwn w1.heap.size wr s0 (schF p.l fs k) ∧ (∃ g, TM wr bm bm k g (tkn (fs.take k))) ∧ Below w1.heap.size w1 wr)) (fun _ vi _ => fs.length - (intOf vi).toNat)
  case atStart => exact ⟨0, Nat.zero_le _, rfl, Lib.hid ⟨ROwn.nil HBW.out.size, ⟨_, HTM.out⟩, HBW.out⟩⟩
  case round =>
    obtain ⟨s0, hs0⟩ : ∃ s, s = u5 := ⟨_, rfl⟩
    subst hs0
    obtain ⟨k, hk, rfl, HK⟩ := hrel
    obtain ⟨hO, ⟨g, htm⟩, hbk⟩ := HK.out
    by_cases hlt : k < fs.length
    · obtain ⟨f, hf⟩ : ∃ f, fs[k]? = some f := ⟨_, List.getElem?_eq_getElem hlt⟩
      have hfm := List.mem_of_getElem? hf
      obtain ⟨b, o, e1, hbl, hc⟩ := RowL.at6 (HV.out.row.more hbk) hf
      cases e1
      have i2 : (k : Int) < (fs.length : Int) := by omega
      have d0 := hc 0 _ rfl
      have d1 := hc 1 _ rfl
      have d2 := hc 2 _ rfl
      have d3 := hc 3 _ rfl
      have d4 := hc 4 _ rfl
      have d5 := hc 5 _ rfl
      rw [Nat.add_zero] at d0
      have HTK := Lib.hid (tk_next fs hf)
      have HSU := Lib.hid (schF_succ p.l fs k f hf)
      have HFM := Lib.hid hfm
      have HTW : Hid ((Per.daysQ (f.pf, f.pt, f.pd)).any (tkn (fs.take k) (f.car, f.num)) = twcB (fs.take k) f) := Lib.hid rfl
      have KI := Lib.hid (itoa_small k (by omega))
      have hadd : ∀ W : World, (Op.stringOp .add ⟨#[102, 108, 105, 103, 104, 116, 32]⟩ (decA k)).run Tryz.prog W = .ok (.string (fliW ++ decA k)) W := fun W => run_string_add_sum W _ _ (by have := decA_size k (by omega); have e : (⟨#[102, 108, 105, 103, 104, 116, 32]⟩ : ByteArray).size = 7 := rfl; omega)
      obtain ⟨tx, htx⟩ : ∃ t, t = fliW ++ decA k := ⟨_, rfl⟩
      have htz : tx.size ≤ 28 := by
        rw [htx, ByteArray.size_append]
        have := decA_size k (by omega)
        have e : fliW.size = 7 := rfl
        omega
      rw [← htx] at hadd HSU
      clear htx hc hbl hf hfm HK
      generalize decA k = sk at *
      have hb8 := bel_alloc wr (.cells #[.string f.car, .int .i64 f.num, .int .i64 f.pf, .int .i64 f.pt, .int .i64 f.pd, .slice f.A f.lg.length f.c] fliT)
      have n0 := (cells_new wr #[.string f.car, .int .i64 f.num, .int .i64 f.pf, .int .i64 f.pt, .int .i64 f.pd, .slice f.A f.lg.length f.c] fliT 0).trans (show _ = some (Value.string f.car) from rfl)
      have n1 := (cells_new wr #[.string f.car, .int .i64 f.num, .int .i64 f.pf, .int .i64 f.pt, .int .i64 f.pd, .slice f.A f.lg.length f.c] fliT 1).trans (show _ = some (Value.int .i64 f.num) from rfl)
      have n2 := (cells_new wr #[.string f.car, .int .i64 f.num, .int .i64 f.pf, .int .i64 f.pt, .int .i64 f.pd, .slice f.A f.lg.length f.c] fliT 2).trans (show _ = some (Value.int .i64 f.pf) from rfl)
      have n3 := (cells_new wr #[.string f.car, .int .i64 f.num, .int .i64 f.pf, .int .i64 f.pt, .int .i64 f.pd, .slice f.A f.lg.length f.c] fliT 3).trans (show _ = some (Value.int .i64 f.pt) from rfl)
      have n4 := (cells_new wr #[.string f.car, .int .i64 f.num, .int .i64 f.pf, .int .i64 f.pt, .int .i64 f.pd, .slice f.A f.lg.length f.c] fliT 4).trans (show _ = some (Value.int .i64 f.pd) from rfl)
      have n5 := (cells_new wr #[.string f.car, .int .i64 f.num, .int .i64 f.pf, .int .i64 f.pt, .int .i64 f.pd, .slice f.A f.lg.length f.c] fliT 5).trans (show _ = some (Value.slice f.A f.lg.length f.c) from rfl)
      have HLO : Hid (∀ q, s0.ownBlock = some q → q < wr.heap.size) := Lib.hid (fun q hq => (hO.low hq).2)
      have hO := hO.more hb8
      have htm := htm.more hb8
      have hbk := hbk.trans (hb8.mono hbk.size)
      go_upto_region 6 with fail
      generalize hw8 : wr.alloc (.cells #[.string f.car, .int .i64 f.num, .int .i64 f.pf, .int .i64 f.pt, .int .i64 f.pd, .slice f.A f.lg.length f.c] fliT) = w8 at *
      clear hw8 d0 d1 d2 d3 d4 d5
      have hnb : wr.heap.size < w8.heap.size := World.block_lt_of_cell? _ _ n0
      have HN0 := Lib.hid (fun (W : World) (h : ∀ j v, w8.cell? ⟨wr.heap.size, j, none⟩ = some v → W.cell? ⟨wr.heap.size, j, none⟩ = some v) => (⟨h _ _ n0, h _ _ n1, h _ _ n2, h _ _ n3, h _ _ n4, h _ _ n5⟩ : W.cell? ⟨wr.heap.size, 0, none⟩ = some (Value.string f.car) ∧ W.cell? ⟨wr.heap.size, 1, none⟩ = some (Value.int .i64 f.num) ∧ W.cell? ⟨wr.heap.size, 2, none⟩ = some (Value.int .i64 f.pf) ∧ W.cell? ⟨wr.heap.size, 3, none⟩ = some (Value.int .i64 f.pt) ∧ W.cell? ⟨wr.heap.size, 4, none⟩ = some (Value.int .i64 f.pd) ∧ W.cell? ⟨wr.heap.size, 5, none⟩ = some (Value.slice f.A f.lg.length f.c)))
      have y0 := f0 _ hbk
      have y1 := f1 _ hbk
      have KC2 := Lib.hid (HKC.out f HFM.out w8 (HB1.out.trans (hbk.mono HB1.out.size)))
      have HO8 := Lib.hid hO
      have HTM8 := Lib.hid htm
      have HBK8 := Lib.hid hbk
      have hchl := (HOK.out f HFM.out).2.2.1
      obtain ⟨C, hC⟩ : ∃ C, C = chF p.l f := ⟨_, rfl⟩
      have HCM : Hid (∀ x ∈ C, x.2.size ≤ 1000 ∧ x.1 ≠ 0) := Lib.hid (by rw [hC]; exact (HOK.out f HFM.out).2.2.2)
      rw [← hC] at KC2 HSU hchl
      clear hC hO htm hbk hb8
      go_upto_region 7 with (go_at_call 75; refine (KI.out _).mono ?_; rintro e w' ⟨rfl, rfl⟩)
      go_wp2_with (go_at_call 54; refine KC2.out.mono ?_; rintro e w9 ⟨v9, rfl, hO9, hb9⟩; obtain ⟨A9, c9, rfl, _⟩ := id (hO9.rowL rtF.len))
      have HR9 := Lib.hid (hO9.rowL rtF.len)
      have HO9 := Lib.hid (HO8.out.more hb9)
      have HTM9 := Lib.hid (HTM8.out.more hb9)
      have HBK9 := Lib.hid (HBK8.out.trans (hb9.mono HBK8.out.size))
      have HN9 := Lib.hid (HN0.out w9 (fun j v h => bel_cell hb9 h))
      have hnb9 : wr.heap.size < w9.heap.size := Nat.lt_of_lt_of_le hnb hb9.size
      have HLOW : Hid (∀ b2 o2, A9 = some ⟨b2, o2, none⟩ → C ≠ [] → w8.heap.size ≤ b2) := Lib.hid (fun b2 o2 e hne => by
        obtain ⟨g2, c2, e2, h2, _⟩ := ROwn.formG hO9 hne
        cases e2
        cases e
        exact h2)
      clear y0 y1 n0 n1 n2 n3 n4 n5 hO9 hb9 KC2 KI
      generalize wr.heap.size = N at *
      have hadd1 : ∀ W : World, (Op.stringOp .add tx ⟨#[32]⟩).run Tryz.prog W = .ok (.string (tx ++ spW)) W := fun W => run_string_add_sum W _ _ (by have e : (⟨#[32]⟩ : ByteArray).size = 1 := rfl; omega)
      have HSL : Hid ((schF p.l fs k).length ≤ 100000) := Lib.hid (by have := HSF.out k; omega)
      clear hadd
      go_loopw [5, 27] (fun s1 vj wq => ∃ j : Nat, j ≤ C.length ∧ vj = .int .i64 j ∧ Hid (FOwn w1.heap.size wq s1 (schF p.l fs k ++ preF tx (C.take j)) ∧ Chg w9 wq s0 s1)) (fun _ vj _ => C.length - (intOf vj).toNat)
      case atStart => exact ⟨0, Nat.zero_le _, rfl, Lib.hid ⟨by simpa [preF] using HO9.out, Chg.refl _ _⟩⟩
      case round =>
        obtain ⟨j, hj, rfl, HJ⟩ := hrel
        obtain ⟨hO, hchg⟩ := HJ.out
        by_cases hltj : j < C.length
        · obtain ⟨x, hx⟩ : ∃ x, C[j]? = some x := ⟨_, List.getElem?_eq_getElem hltj⟩
          have hne : C ≠ [] := by intro h; rw [h] at hltj; simp at hltj
          obtain ⟨b9, o9, rfl, hb9, hc9⟩ := RowL.at0 HR9.out hne
          have hnb9' : s0.ownBlock ≠ some b9 := fun h => by
            have h1 := (HO8.out.low h).2
            have h2 := HLOW.out b9 o9 rfl hne
            omega
          have x0 := hchg.cell (hc9 j x 0 _ hx rfl) hnb9'
          have x1 := hchg.cell (hc9 j x 1 _ hx rfl) hnb9'
          rw [Nat.add_zero] at x0
          have j2 : (j : Int) < (C.length : Int) := by omega
          obtain ⟨xs, xe⟩ := HCM.out x (List.mem_of_getElem? hx)
          have HPT := Lib.hid (preF_take tx C hx)
          have hadd2 : ∀ W : World, (Op.stringOp .add (tx ++ spW) x.2).run Tryz.prog W = .ok (.string ((tx ++ spW) ++ x.2)) W := fun W => run_string_add_sum W _ _ (by rw [ByteArray.size_append]; have e : spW.size = 1 := rfl; omega)
          have HPK : Hid (pick ((tx ++ spW) ++ x.2) [x.1] = [(x.1, (tx ++ spW) ++ x.2)]) := Lib.hid (pick_one _ _ xe)
          have HLb : Hid ((schF p.l fs k ++ preF tx (C.take j)).length ≤ 1000000) := Lib.hid (by rw [List.length_append, preF_len, List.length_take]; have := HSL.out; omega)
          obtain ⟨e1, t1⟩ := x
          dsimp only at *
          have hbA := bel_alloc wr (.cells #[.int .i64 e1, .string t1] fltT)
          have m0 := (cells_new wr #[.int .i64 e1, .string t1] fltT 0).trans (show _ = some (Value.int .i64 e1) from rfl)
          have m1 := (cells_new wr #[.int .i64 e1, .string t1] fltT 1).trans (show _ = some (Value.string t1) from rfl)
          have hO10 := hO.more hbA
          have HC10 := Lib.hid (hchg.trans (Chg.of_below hbA))
          clear hx hc9 HJ hO hchg hbA
          go_upto_region 10 with fail
          generalize hw10 : wr.alloc (.cells #[.int .i64 e1, .string t1] fltT) = w10 at *
          clear hw10 x0 x1
          have hne10 : _ ≠ some w10.heap.size := fun h => Nat.lt_irrefl _ (hO10.low h).2
          go_wp2_with (go_at_call 76; refine (fadd_any w1.heap.size _ _ ((tx ++ spW) ++ t1) w10.heap.size 1 1 [e1] _ (hO10.alloc _) rfl (by omega) (err_new w10 e1) hne10 HLb.out).mono ?_; rintro e w11 ⟨v11, rfl, hO11, hC11⟩)
          go_roundw
          case rel => exact ⟨j + 1, by omega, by go_num, Lib.hid ⟨by rw [HPT.out, ← List.append_assoc, ← HPK.out]; exact hO11, HC10.out.trans ((Chg.of_below (bel_alloc _ _)).trans hC11)⟩⟩
          case measure => simp [intOf]; omega
        · have hj' : j = C.length := by omega
          have j2 : ¬ (j : Int) < (C.length : Int) := by omega
          rw [hj', List.take_length] at hO
          have hNs : s0.ownBlock ≠ some N := fun h => Nat.lt_irrefl _ (HLO.out N h)
          obtain ⟨z0, z1, z2, z3, z4, z5⟩ := HN9.out
          have z0 := hchg.cell z0 hNs
          have z1 := hchg.cell z1 hNs
          have z2 := hchg.cell z2 hNs
          have z3 := hchg.cell z3 hNs
          have z4 := hchg.cell z4 hNs
          have z5 := hchg.cell z5 hNs
          have htm := HTM9.out.chg HO9.out hchg
          have hbk := HBK9.out.trans (hchg.below HO9.out)
          have KT := Lib.hid (take_any bm bm k g (tkn (fs.take k)) f wr htm (by omega) (by have := htm.map.lt; omega) (HOK.out f HFM.out).1 (HOK.out f HFM.out).2.1)
          rw [HTW.out, HTK.out] at KT
          obtain ⟨tb, htb⟩ : ∃ t, t = twcB (fs.take k) f := ⟨_, rfl⟩
          obtain ⟨e6, he6⟩ : ∃ e, e = wh tb 6 := ⟨_, rfl⟩
          have KW : Hid (∀ W, Calls Tryz.prog 77 #[.bool tb, .int .i64 6] W fun r w' => r = .returned (.int .i64 e6) ∧ W = w') := Lib.hid (fun W => by rw [he6]; exact fwh_any tb 6 W)
          rw [← htb] at KT HSU
          rw [← he6] at HSU
          have HLb : Hid ((schF p.l fs k ++ preF tx C).length ≤ 1000000) := Lib.hid (by rw [List.length_append, preF_len]; have := HSL.out; omega)
          have HOq := Lib.hid hO
          have HBq := Lib.hid hbk
          have HW1 : Hid (∀ q, q < w1.heap.size → ¬ MapX wr bm q) := Lib.hid (fun q hq h => by have := h.1; have := HBM.out; omega)
          clear htb he6 HJ hO hchg htm hbk hj'
          go_wp2_with (first
            | (go_at_call 76; refine (fadd_any w1.heap.size _ _ tx w12.heap.size 1 1 [e6] _ (hO12.alloc _) rfl (by omega) (err_new w12 e6) hne12 HLb.out).mono ?_; rintro e w13 ⟨v13, rfl, hO13, hC13⟩)
            | (go_at_call 77; refine (KW.out _).mono ?_; rintro e w' ⟨rfl, rfl⟩)
            | (go_at_call 78; refine KT.out.mono ?_; rintro e w12 ⟨g', rfl, htm12, hbu12⟩; have hO12 := HOq.out.but hbu12 HOq.out.not_map; have hne12 : _ ≠ some w12.heap.size := fun h => Nat.lt_irrefl _ (hO12.low h).2))
          go_roundw
          case rel =>
            have hba := bel_alloc w12 (.cells #[.int .i64 e6] errnT')
            refine ⟨k + 1, by omega, by go_num, Lib.hid ⟨by rw [HSU.out, ← List.append_assoc]; exact hO13, ⟨g', (htm12.more hba).chg (hO12.alloc _) hC13⟩, ?_⟩⟩
            exact HBq.out.trans ((hbu12.below HOq.out.base HW1.out).trans ((hba.mono hO12.base).trans (hC13.below (hO12.alloc _))))
          case measure => simp [intOf]; omega
    · have hk' : k = fs.length := by omega
      have i2 : ¬ (k : Int) < (fs.length : Int) := by omega
      rw [hk'] at hO
      clear htm hk'
      go_wp2
      go_ret
      exact ⟨_, rfl, ⟨hO.own.mono (by have := HS1.out; omega), Nat.le_trans (by have := HS1.out; omega) hO.base⟩, HB1.out.trans (hbk.mono HB1.out.size)⟩

end Go.Proofs.YtldillnjnjkkgaaGreatDoor

/- Walk of Operated. -/
namespace Go.Proofs.YtldillnjnjkkgaaGreatDoor
open Go.RowKit Go.Shelf
set_option linter.unusedSimpArgs false
set_option linter.unusedVariables false

def eqSg (a b : Sg) : Bool := (a.car.toList == b.car.toList) && ((a.num == b.num) && ((a.day == b.day) && ((a.f.toList == b.f.toList) && ((a.t.toList == b.t.toList) && ((a.dep == b.dep) && (a.arr == b.arr))))))
/-- whether a segment is operated as it says -/
def operB (L : List Air) (fs : List FV) (s : Sg) : Bool := ((segF L fs s.car s.num s.day s.f s.t).1 == 0) && eqSg (segF L fs s.car s.num s.day s.f s.t).2 s
set_option maxRecDepth 100000 in
set_option maxHeartbeats 8000000 in
theorem operated_any (p : PV) (v : Value) (fs : List FV) (s : Sg) (w : World) (op : fs ≠ [] → OkPl p) (ot : OkT fs) (hL : AirL w p.A p.l) (hv : TblL w v fs) (h0 : -9223372036854775808 ≤ s.day) (h1 : s.day ≤ 9223372036854775807) :
    Calls Tryz.prog 33 #[encP p, v, encS7 s] w fun e w' => e = .returned (.bool (operB p.l fs s)) ∧ Below w.heap.size w w' := by
  have hb1 := bel_alloc w (.cells #[.slice p.A p.l.length p.ca, .slice p.D p.ds.length p.cd] placesT)
  have hb2 := bel_alloc (w.alloc (.cells #[.slice p.A p.l.length p.ca, .slice p.D p.ds.length p.cd] placesT)) (.cells #[.string s.car, .int .i64 s.num, .int .i64 s.day, .string s.f, .string s.t, .int .i64 s.dep, .int .i64 s.arr] segT)
  have hs1 := hb1.trans (hb2.mono hb1.size)
  have p0 := bel_cell hb2 ((cells_new w #[.slice p.A p.l.length p.ca, .slice p.D p.ds.length p.cd] placesT 0).trans (show _ = some (Value.slice p.A p.l.length p.ca) from rfl))
  have p1 := bel_cell hb2 ((cells_new w #[.slice p.A p.l.length p.ca, .slice p.D p.ds.length p.cd] placesT 1).trans (show _ = some (Value.slice p.D p.ds.length p.cd) from rfl))
  have q0 := (cells_new (w.alloc (.cells #[.slice p.A p.l.length p.ca, .slice p.D p.ds.length p.cd] placesT)) #[.string s.car, .int .i64 s.num, .int .i64 s.day, .string s.f, .string s.t, .int .i64 s.dep, .int .i64 s.arr] segT 0).trans (show _ = some (Value.string s.car) from rfl)
  have q1 := (cells_new (w.alloc (.cells #[.slice p.A p.l.length p.ca, .slice p.D p.ds.length p.cd] placesT)) #[.string s.car, .int .i64 s.num, .int .i64 s.day, .string s.f, .string s.t, .int .i64 s.dep, .int .i64 s.arr] segT 1).trans (show _ = some (Value.int .i64 s.num) from rfl)
  have q2 := (cells_new (w.alloc (.cells #[.slice p.A p.l.length p.ca, .slice p.D p.ds.length p.cd] placesT)) #[.string s.car, .int .i64 s.num, .int .i64 s.day, .string s.f, .string s.t, .int .i64 s.dep, .int .i64 s.arr] segT 2).trans (show _ = some (Value.int .i64 s.day) from rfl)
  have q3 := (cells_new (w.alloc (.cells #[.slice p.A p.l.length p.ca, .slice p.D p.ds.length p.cd] placesT)) #[.string s.car, .int .i64 s.num, .int .i64 s.day, .string s.f, .string s.t, .int .i64 s.dep, .int .i64 s.arr] segT 3).trans (show _ = some (Value.string s.f) from rfl)
  have q4 := (cells_new (w.alloc (.cells #[.slice p.A p.l.length p.ca, .slice p.D p.ds.length p.cd] placesT)) #[.string s.car, .int .i64 s.num, .int .i64 s.day, .string s.f, .string s.t, .int .i64 s.dep, .int .i64 s.arr] segT 4).trans (show _ = some (Value.string s.t) from rfl)
  have q5 := (cells_new (w.alloc (.cells #[.slice p.A p.l.length p.ca, .slice p.D p.ds.length p.cd] placesT)) #[.string s.car, .int .i64 s.num, .int .i64 s.day, .string s.f, .string s.t, .int .i64 s.dep, .int .i64 s.arr] segT 5).trans (show _ = some (Value.int .i64 s.dep) from rfl)
  have q6 := (cells_new (w.alloc (.cells #[.slice p.A p.l.length p.ca, .slice p.D p.ds.length p.cd] placesT)) #[.string s.car, .int .i64 s.num, .int .i64 s.day, .string s.f, .string s.t, .int .i64 s.dep, .int .i64 s.arr] segT 6).trans (show _ = some (Value.int .i64 s.arr) from rfl)
  rw [World.size_alloc] at q0 q1 q2 q3 q4 q5 q6
  have KS := Lib.hid (seg_any p v fs s.car s.num s.day s.f s.t ((w.alloc (.cells #[.slice p.A p.l.length p.ca, .slice p.D p.ds.length p.cd] placesT)).alloc (.cells #[.string s.car, .int .i64 s.num, .int .i64 s.day, .string s.f, .string s.t, .int .i64 s.dep, .int .i64 s.arr] segT)) op ot (hL.more hs1) (hv.more hs1) h0 h1)
  obtain ⟨y, hy⟩ : ∃ y, y = (segF p.l fs s.car s.num s.day s.f s.t).2 := ⟨_, rfl⟩
  obtain ⟨er, her⟩ : ∃ e, e = (segF p.l fs s.car s.num s.day s.f s.t).1 := ⟨_, rfl⟩
  have HR : Hid (operB p.l fs s = ((er == 0) && eqSg y s)) := Lib.hid (by rw [hy, her]; rfl)
  rw [← hy, ← her] at KS
  have HB0 := Lib.hid hs1
  obtain ⟨car, num, day, f, t, dep, arr⟩ := s
  dsimp only at *
  clear hy her hb1 hb2 hL hv ot op hs1
  go_enter Tryz.func33, Tryz.ntmps33
  go_upto_region 1 with fail
  generalize hw5 : ((w.alloc (.cells #[.slice p.A p.l.length p.ca, .slice p.D p.ds.length p.cd] placesT)).alloc (.cells #[.string car, .int .i64 num, .int .i64 day, .string f, .string t, .int .i64 dep, .int .i64 arr] segT)) = w5 at *
  clear hw5
  go_upto_region 2 with (go_at_call 28; refine KS.out.mono ?_; rintro e w7 ⟨rfl, hb7⟩)
  have hb8 := bel_alloc w7 (.cells #[.string y.car, .int .i64 y.num, .int .i64 y.day, .string y.f, .string y.t, .int .i64 y.dep, .int .i64 y.arr] segT)
  have hx8 := heap_alloc_new w7 (.cells #[.string y.car, .int .i64 y.num, .int .i64 y.day, .string y.f, .string y.t, .int .i64 y.dep, .int .i64 y.arr] segT)
  have hb78 := hb7.trans (hb8.mono hb7.size)
  have r0 := bel_cell hb78 q0
  have r1 := bel_cell hb78 q1
  have r2 := bel_cell hb78 q2
  have r3 := bel_cell hb78 q3
  have r4 := bel_cell hb78 q4
  have r5 := bel_cell hb78 q5
  have r6 := bel_cell hb78 q6
  generalize hw8 : w7.alloc (.cells #[.string y.car, .int .i64 y.num, .int .i64 y.day, .string y.f, .string y.t, .int .i64 y.dep, .int .i64 y.arr] segT) = w8 at *
  clear hw8
  have e0 := (cell_of_row w8 _ 0 _ _ (0, 0) hx8).trans (show _ = some (Value.string y.car) from rfl)
  have e1 := (cell_of_row w8 _ 1 _ _ (0, 0) hx8).trans (show _ = some (Value.int .i64 y.num) from rfl)
  have e2 := (cell_of_row w8 _ 2 _ _ (0, 0) hx8).trans (show _ = some (Value.int .i64 y.day) from rfl)
  have e3 := (cell_of_row w8 _ 3 _ _ (0, 0) hx8).trans (show _ = some (Value.string y.f) from rfl)
  have e4 := (cell_of_row w8 _ 4 _ _ (0, 0) hx8).trans (show _ = some (Value.string y.t) from rfl)
  have e5 := (cell_of_row w8 _ 5 _ _ (0, 0) hx8).trans (show _ = some (Value.int .i64 y.dep) from rfl)
  have e6 := (cell_of_row w8 _ 6 _ _ (0, 0) hx8).trans (show _ = some (Value.int .i64 y.arr) from rfl)
  have HB8 := Lib.hid (HB0.out.trans (hb78.mono HB0.out.size))
  clear hb7 hb8 hb78 hx8 KS p0 p1 q0 q1 q2 q3 q4 q5 q6
  cases h0 : (er == 0) with
  | false =>
    have HR2 : Hid (false = operB p.l fs ⟨car, num, day, f, t, dep, arr⟩) := Lib.hid (by rw [HR.out, h0]; rfl)
    go_wp2
    go_ret
    exact ⟨ret_bool HR2.out, HB8.out⟩
  | true =>
  cases h1 : (y.car.toList == car.toList) with
  | false =>
    have HR2 : Hid (false = operB p.l fs ⟨car, num, day, f, t, dep, arr⟩) := Lib.hid (by rw [HR.out, h0]; unfold eqSg; simp only [h1]; rfl)
    go_wp2
    go_ret
    exact ⟨ret_bool HR2.out, HB8.out⟩
  | true =>
  cases h2 : (y.num == num) with
  | false =>
    have HR2 : Hid (false = operB p.l fs ⟨car, num, day, f, t, dep, arr⟩) := Lib.hid (by rw [HR.out, h0]; unfold eqSg; simp only [h1, h2]; rfl)
    go_wp2
    go_ret
    exact ⟨ret_bool HR2.out, HB8.out⟩
  | true =>
  cases h3 : (y.day == day) with
  | false =>
    have HR2 : Hid (false = operB p.l fs ⟨car, num, day, f, t, dep, arr⟩) := Lib.hid (by rw [HR.out, h0]; unfold eqSg; simp only [h1, h2, h3]; rfl)
    go_wp2
    go_ret
    exact ⟨ret_bool HR2.out, HB8.out⟩
  | true =>
  cases h4 : (y.f.toList == f.toList) with
  | false =>
    have HR2 : Hid (false = operB p.l fs ⟨car, num, day, f, t, dep, arr⟩) := Lib.hid (by rw [HR.out, h0]; unfold eqSg; simp only [h1, h2, h3, h4]; rfl)
    go_wp2
    go_ret
    exact ⟨ret_bool HR2.out, HB8.out⟩
  | true =>
  cases h5 : (y.t.toList == t.toList) with
  | false =>
    have HR2 : Hid (false = operB p.l fs ⟨car, num, day, f, t, dep, arr⟩) := Lib.hid (by rw [HR.out, h0]; unfold eqSg; simp only [h1, h2, h3, h4, h5]; rfl)
    go_wp2
    go_ret
    exact ⟨ret_bool HR2.out, HB8.out⟩
  | true =>
  cases h6 : (y.dep == dep) with
  | false =>
    have HR2 : Hid (false = operB p.l fs ⟨car, num, day, f, t, dep, arr⟩) := Lib.hid (by rw [HR.out, h0]; unfold eqSg; simp only [h1, h2, h3, h4, h5, h6]; rfl)
    go_wp2
    go_ret
    exact ⟨ret_bool HR2.out, HB8.out⟩
  | true =>
  cases h7 : (y.arr == arr) with
  | false =>
    have HR2 : Hid (false = operB p.l fs ⟨car, num, day, f, t, dep, arr⟩) := Lib.hid (by rw [HR.out, h0]; unfold eqSg; simp only [h1, h2, h3, h4, h5, h6, h7]; rfl)
    go_wp2
    go_ret
    exact ⟨ret_bool HR2.out, HB8.out⟩
  | true =>
  have HR2 : Hid (true = operB p.l fs ⟨car, num, day, f, t, dep, arr⟩) := Lib.hid (by rw [HR.out, h0]; unfold eqSg; simp only [h1, h2, h3, h4, h5, h6, h7]; rfl)
  go_wp2
  go_ret
  exact ⟨ret_bool HR2.out, HB8.out⟩

end Go.Proofs.YtldillnjnjkkgaaGreatDoor

/- Plain words for the laws of timetables: days that differ, texts of violations. -/
namespace Go.Proofs.YtldillnjnjkkgaaGreatDoor
open Go.RowKit Go.Shelf
set_option linter.unusedSimpArgs false
set_option linter.unusedVariables false

theorem beq_commL (a b : List UInt8) : (a == b) = (b == a) := by
  rw [Bool.eq_iff_iff, beq_iff_eq, beq_iff_eq]; exact ⟨Eq.symm, Eq.symm⟩
theorem eqLg_comm (x y : Lg) : eqLg x y = eqLg y x := by
  unfold eqLg
  rw [beq_commL x.f.toList, beq_commL x.t.toList, beq_commL x.eq.toList, show decide (x.dep = y.dep) = decide (y.dep = x.dep) from decide_eq_decide.2 ⟨Eq.symm, Eq.symm⟩, show decide (x.arr = y.arr) = decide (y.arr = x.arr) from decide_eq_decide.2 ⟨Eq.symm, Eq.symm⟩]
theorem sameL_comm : ∀ l m : List Lg, sameL l m = sameL m l
  | [], [] => rfl
  | [], _ :: _ => rfl
  | _ :: _, [] => rfl
  | x :: l, y :: m => by simp only [sameL]; rw [eqLg_comm, sameL_comm l m]
theorem difB_comm (a b : List FV) (car : ByteArray) (num d : Int) : difB a b car num d = difB b a car num d := by
  unfold difB
  rw [sameL_comm]
  cases (onF a car num d).isSome <;> cases (onF b car num d).isSome <;> rfl
theorem difL_comm (a b : List FV) (car : ByteArray) (num : Int) (D : List Int) : difL a b car num D = difL b a car num D := by
  unfold difL
  rw [show difB a b car num = difB b a car num from funext (difB_comm a b car num)]
theorem difL_self (a : List FV) (car : ByteArray) (num : Int) (D : List Int) : difL a a car num D = [] := by
  unfold difL
  rw [List.filter_eq_nil_iff]
  intro d _
  unfold difB
  rw [sameL_refl]
  cases (onF a car num d).isSome <;> simp

theorem pick_mem {s : ByteArray} {es : List Int} {x : Flt} (h : x ∈ pick s es) : x.2 = s ∧ x.1 ≠ 0 := by
  unfold pick okE at h
  obtain ⟨e, h1, rfl⟩ := List.mem_map.1 h
  have h2 := (List.mem_filter.1 h1).2
  exact ⟨rfl, by simpa using h2⟩
theorem printL_len (n : Int) : (printL n).length ≤ 100 := by
  unfold printL
  split
  · simp [dateL, twoL]
  · simp
theorem badD_mem {l : List Air} {lg : List Lg} : ∀ {D : List Int} {x : Flt}, x ∈ badD l lg D → x.2.size ≤ 1000 ∧ x.1 ≠ 0
  | [], x, h => by cases h
  | d :: r, x, h => by
    unfold badD at h
    split at h
    · exact badD_mem h
    · simp only [List.mem_singleton] at h
      subst h
      refine ⟨?_, by show (13 : Int) ≠ 0; omega⟩
      have := printL_len d
      show (dayW ++ ⟨(printL d).toArray⟩ : ByteArray).size ≤ 1000
      rw [ByteArray.size_append]
      show 4 + (printL d).toArray.size ≤ 1000
      simp; omega
theorem chF_mem {l : List Air} {f : FV} (hn : f.lg.length ≤ 90) {x : Flt} (h : x ∈ chF l f) : x.2.size ≤ 1000 ∧ x.1 ≠ 0 := by
  have hd : ∀ x ∈ hdF f, x.2.size ≤ 1000 ∧ x.1 ≠ 0 := fun x hx => by
    unfold hdF at hx
    rcases List.mem_append.1 hx with hx | hx
    · obtain ⟨h1, h2⟩ := pick_mem hx; rw [h1]; exact ⟨by decide, h2⟩
    rcases List.mem_append.1 hx with hx | hx
    · obtain ⟨h1, h2⟩ := pick_mem hx; rw [h1]; exact ⟨by decide, h2⟩
    · obtain ⟨h1, h2⟩ := pick_mem hx; rw [h1]; exact ⟨by decide, h2⟩
  have lg : ∀ x ∈ lgsF l f.lg f.lg.length, x.2.size ≤ 1000 ∧ x.1 ≠ 0 := fun x hx => by
    unfold lgsF at hx
    obtain ⟨i, hi, hx⟩ := List.mem_flatMap.1 hx
    have hi := List.mem_range.1 hi
    rw [List.getElem?_eq_getElem hi] at hx
    obtain ⟨h1, h2⟩ := pick_mem hx
    rw [h1]
    refine ⟨?_, h2⟩
    have := decA_size i (by omega)
    rw [ByteArray.size_append]
    show 4 + (decA i).size ≤ 1000
    omega
  unfold chF at h
  split at h
  · split at h
    · exact badD_mem h
    · rcases List.mem_append.1 h with h | h
      · exact hd _ h
      · exact lg _ h
  · rcases List.mem_append.1 h with h | h
    · exact hd _ h
    · obtain ⟨h1, h2⟩ := pick_mem h; rw [h1]; exact ⟨by decide, h2⟩

end Go.Proofs.YtldillnjnjkkgaaGreatDoor

/- Walk of the reference's Big. -/
namespace Go.Proofs.YtldillnjnjkkgaaGreatDoor
open Go.RowKit Go.Shelf
set_option linter.unusedSimpArgs false
set_option linter.unusedVariables false

set_option maxRecDepth 100000 in
set_option maxHeartbeats 4000000 in
/-- what is not big has few legs, airports and distances -/
theorem big_any (p : PV) (f : FV) (w : World) (hG : LegL w (.slice f.A f.lg.length f.c) f.lg) (h0 : f.lg.length < 9223372036854775808) (h1 : p.l.length < 9223372036854775808) (h2 : p.ds.length < 9223372036854775808) :
    Calls Tryz.prog 14 #[encP p, encFl f] w fun e w' => ∃ v : Value, e = .returned v ∧ Hid (v = .bool true ∨ (v = .bool false ∧ f.lg.length ≤ 12 ∧ p.l.length ≤ 20 ∧ p.ds.length ≤ 40)) ∧ Below w.heap.size w w' := by
  obtain ⟨A, ca, l, D, cd, ds⟩ := p
  obtain ⟨car, num, pf, pt, pd, G, gc, lg⟩ := f
  dsimp only at *
  have hb1 := bel_alloc w (.cells #[.slice A l.length ca, .slice D ds.length cd] placesT)
  have hb2 := bel_alloc (w.alloc (.cells #[.slice A l.length ca, .slice D ds.length cd] placesT)) (.cells #[.string car, .int .i64 num, .int .i64 pf, .int .i64 pt, .int .i64 pd, .slice G lg.length gc] fliT)
  have hb0 := hb1.trans (hb2.mono hb1.size)
  have p0 := bel_cell hb2 ((cells_new w #[.slice A l.length ca, .slice D ds.length cd] placesT 0).trans (show _ = some _ from rfl))
  have p1 := bel_cell hb2 ((cells_new w #[.slice A l.length ca, .slice D ds.length cd] placesT 1).trans (show _ = some _ from rfl))
  have q0 := (cells_new (w.alloc (.cells #[.slice A l.length ca, .slice D ds.length cd] placesT)) #[.string car, .int .i64 num, .int .i64 pf, .int .i64 pt, .int .i64 pd, .slice G lg.length gc] fliT 0).trans (show _ = some _ from rfl)
  have q5 := (cells_new (w.alloc (.cells #[.slice A l.length ca, .slice D ds.length cd] placesT)) #[.string car, .int .i64 num, .int .i64 pf, .int .i64 pt, .int .i64 pd, .slice G lg.length gc] fliT 5).trans (show _ = some _ from rfl)
  rw [World.size_alloc] at q0 q5
  have hG5 := hG.more hb0
  clear hG
  go_enter Tryz.func14, Tryz.ntmps14
  go_wp2
  generalize (w.alloc (.cells #[.slice A l.length ca, .slice D ds.length cd] placesT)).alloc (.cells #[.string car, .int .i64 num, .int .i64 pf, .int .i64 pt, .int .i64 pd, .slice G lg.length gc] fliT) = w5 at *
  go_loopw [5, 6] (fun vn vi wr => ∃ (k : Nat) (N : Int), k ≤ lg.length ∧ k ≤ 20 ∧ vn = .int .i64 N ∧ vi = .int .i64 k ∧ SW w5 wr) (fun _ vi _ => lg.length - (intOf vi).toNat)
  case atStart => exact ⟨0, _, Nat.zero_le _, by omega, rfl, rfl, Below.refl _ _⟩
  case round =>
    obtain ⟨k, N, hk, hk20, rfl, rfl, hS⟩ := hrel
    have t0 := bel_cell hS p0
    have t1 := bel_cell hS p1
    have t5 := bel_cell hS q5
    by_cases hlt : k < lg.length
    · have i1 : (k : Int) < (lg.length : Int) := by omega
      by_cases h20 : k < 20
      · obtain ⟨b, o, x, rfl, _, hx, c0, c1, c2, c3, c4⟩ := LegL.get (hG5.more hS) hlt
        have i2 : (k : Int) < 20 := by omega
        have f0 := SW.cell c0
        have f1 := SW.cell c1
        have f4 := SW.cell c4
        have f5 := SW.cell t5
        clear hx c0 c1 c2 c3 c4
        go_wp2
        have hNe : Nonempty (Wd (SW wr)) := ⟨⟨_, SW.drew _⟩⟩
        refine quietS (S := SW wr) (by kernel_rfl) (by kernel_rfl) (SW.drew _) ?_
        repeat (first | go_big_quiet_skip | (go_big_quiet_want; go_big_quiet_op; first | go_big_quiet_on | go_big_quiet_call ((fail))))
        refine wpQuiet_nil ?_
        rintro W ⟨⟨_, hW⟩, rfl⟩
        go_wp2
        go_roundw
        case rel => exact ⟨k + 1, _, by omega, by omega, rfl, by go_num, Below.trans hS (Below.mono hW hS.size)⟩
        case measure => simp [intOf]; omega
      · have i2 : ¬ (k : Int) < 20 := by omega
        have g1 : (12 : Int) < (lg.length : Int) := by omega
        by_cases g0 : (400 : Int) < N
        · go_wp2
          go_ret
          exact ⟨.bool true, rfl, Lib.hid (Or.inl rfl), hb0.trans (Below.mono hS hb0.size)⟩
        · go_wp2
          go_ret
          exact ⟨.bool true, rfl, Lib.hid (Or.inl rfl), hb0.trans (Below.mono hS hb0.size)⟩
    · have i1 : ¬ (k : Int) < (lg.length : Int) := by omega
      by_cases g0 : (400 : Int) < N
      · go_wp2
        go_ret
        exact ⟨.bool true, rfl, Lib.hid (Or.inl rfl), hb0.trans (Below.mono hS hb0.size)⟩
      · skip
        by_cases g1 : (12 : Int) < (lg.length : Int)
        · go_wp2
          go_ret
          exact ⟨.bool true, rfl, Lib.hid (Or.inl rfl), hb0.trans (Below.mono hS hb0.size)⟩
        · skip
          by_cases g2 : (20 : Int) < (l.length : Int)
          · go_wp2
            go_ret
            exact ⟨.bool true, rfl, Lib.hid (Or.inl rfl), hb0.trans (Below.mono hS hb0.size)⟩
          · skip
            by_cases g3 : (40 : Int) < (ds.length : Int)
            · go_wp2
              go_ret
              exact ⟨.bool true, rfl, Lib.hid (Or.inl rfl), hb0.trans (Below.mono hS hb0.size)⟩
            · skip
              go_wp2
              go_ret
              exact ⟨.bool false, rfl, Lib.hid (Or.inr ⟨rfl, by omega, by omega, by omega⟩), hb0.trans (Below.mono hS hb0.size)⟩

end Go.Proofs.YtldillnjnjkkgaaGreatDoor

/- Walk of checkPrint. -/
namespace Go.Proofs.YtldillnjnjkkgaaGreatDoor
open Go.RowKit Go.Shelf
set_option linter.unusedSimpArgs false
set_option linter.unusedVariables false

def namB (x : Lg) : Bool := capsB x.f 3 && (capsB x.t 3 && codeB x.eq 3 3)
def timB (x : Lg) : Bool := minB x.dep && minB x.arr
def lgE : List Lg → Int
  | [] => 0
  | x :: r => if namB x = true then (if timB x = true then lgE r else 2) else 5
def prE (f : FV) : Int := if carB f.car = true then (if numB f.num = true then (if Per.errQ (f.pf, f.pt, f.pd) = 0 then (if cntB f.lg.length = true then lgE f.lg else 4) else Per.errQ (f.pf, f.pt, f.pd)) else 2) else 5
theorem lgE_at {l : List Lg} {k : Nat} {x : Lg} (h : l[k]? = some x) : lgE (l.drop k) = if namB x = true then (if timB x = true then lgE (l.drop (k + 1)) else 2) else 5 := by
  obtain ⟨hlt, rfl⟩ := List.getElem?_eq_some_iff.1 h
  rw [List.drop_eq_getElem_cons hlt]
  rfl

set_option maxRecDepth 100000 in
set_option maxHeartbeats 8000000 in
theorem checkPrint_any (f : FV) (w : World) (hG : LegL w (.slice f.A f.lg.length f.c) f.lg) (hc0 : f.car.size ≤ maxLen) (ho : ∀ x ∈ f.lg, OkG x) (hn : f.lg.length ≤ 1000000) :
    Calls Tryz.prog 55 #[encFl f] w fun e w' => e = .returned (.int .i64 (prE f)) ∧ Below w.heap.size w w' := by
  obtain ⟨car, num, pf, pt, pd, A, c, lg⟩ := f
  dsimp only at *
  obtain ⟨E0, hE0⟩ : ∃ E0, E0 = prE ⟨car, num, pf, pt, pd, A, c, lg⟩ := ⟨_, rfl⟩
  have HE := Lib.hid hE0
  rw [← hE0]
  clear hE0
  have hb0 := bel_alloc w (.cells #[.string car, .int .i64 num, .int .i64 pf, .int .i64 pt, .int .i64 pd, .slice A lg.length c] fliT)
  have q5 := (cells_new w #[.string car, .int .i64 num, .int .i64 pf, .int .i64 pt, .int .i64 pd, .slice A lg.length c] fliT 5).trans (show _ = some (Value.slice A lg.length c) from rfl)
  have hG5 := hG.more hb0
  have HO := Lib.hid ho
  have KC := Lib.hid (fun w => carrier_any car w hc0)
  have KN := Lib.hid (isNumber7_any num)
  have KP := Lib.hid (Per.check_any pf pt pd)
  have KL := Lib.hid (isLegCount_any lg.length)
  clear hG ho
  cases h1 : carB car with
  | false =>
    rw [h1] at KC
    have HR : Hid (E0 = 5) := Lib.hid (by rw [HE.out]; unfold prE; dsimp only; rw [if_neg (by rw [h1]; simp)])
    clear h1
    go_enter Tryz.func55, Tryz.ntmps55
    go_wp2_with (go_at_call 108; refine (KC.out _).mono ?_; rintro e w1 ⟨rfl, rfl⟩)
    go_ret
    exact ⟨by rw [HR.out]; rfl, hb0⟩
  | true =>
  rw [h1] at KC
  cases h2 : numB num with
  | false =>
    rw [h2] at KN
    have HR : Hid (E0 = 2) := Lib.hid (by rw [HE.out]; unfold prE; dsimp only; rw [if_pos h1, if_neg (by rw [h2]; simp)])
    clear h1 h2
    go_enter Tryz.func55, Tryz.ntmps55
    go_wp2_with (first | (go_at_call 120; refine (KN.out _).mono ?_; rintro e w2 ⟨rfl, rfl⟩) | (go_at_call 108; refine (KC.out _).mono ?_; rintro e w1 ⟨rfl, rfl⟩))
    go_ret
    exact ⟨by rw [HR.out]; rfl, hb0⟩
  | true =>
  rw [h2] at KN
  obtain ⟨eq, hq⟩ : ∃ eq, eq = Per.errQ (pf, pt, pd) := ⟨_, rfl⟩
  rw [← hq] at KP
  cases h3 : (eq != 0) with
  | true =>
    have HR : Hid (E0 = eq) := Lib.hid (by rw [HE.out]; unfold prE; dsimp only; rw [if_pos h1, if_pos h2, ← hq, if_neg (by simpa using h3)])
    clear h1 h2 hq
    go_enter Tryz.func55, Tryz.ntmps55
    go_wp2_with (first | (go_at_call 110; refine (KP.out _).mono ?_; rintro e w3 ⟨rfl, hb3⟩) | (go_at_call 120; refine (KN.out _).mono ?_; rintro e w2 ⟨rfl, rfl⟩) | (go_at_call 108; refine (KC.out _).mono ?_; rintro e w1 ⟨rfl, rfl⟩))
    go_ret
    exact ⟨by rw [HR.out]; rfl, hb0.trans (Below.mono hb3 hb0.size)⟩
  | false =>
  have h3' : eq = 0 := by simpa using h3
  cases h4 : cntB lg.length with
  | false =>
    rw [h4] at KL
    have HR : Hid (E0 = 4) := Lib.hid (by rw [HE.out]; unfold prE; dsimp only; rw [if_pos h1, if_pos h2, ← hq, if_pos h3', if_neg (by rw [h4]; simp)])
    clear h1 h2 hq h3' h4
    go_enter Tryz.func55, Tryz.ntmps55
    go_wp2_with (first | (go_at_call 121; refine (KL.out _).mono ?_; rintro e w4 ⟨rfl, rfl⟩) | (go_at_call 110; refine (KP.out _).mono ?_; rintro e w3 ⟨rfl, hb3⟩; have r5 := bel_cell hb3 q5) | (go_at_call 120; refine (KN.out _).mono ?_; rintro e w2 ⟨rfl, rfl⟩) | (go_at_call 108; refine (KC.out _).mono ?_; rintro e w1 ⟨rfl, rfl⟩))
    go_ret
    exact ⟨by rw [HR.out]; rfl, hb0.trans (Below.mono hb3 hb0.size)⟩
  | true =>
  rw [h4] at KL
  have HT : Hid (E0 = lgE lg) := Lib.hid (by rw [HE.out]; unfold prE; dsimp only; rw [if_pos h1, if_pos h2, ← hq, if_pos h3', if_pos h4])
  clear h1 h2 hq h3' h4
  have HQ := Lib.hid hG5
  clear hG5
  go_enter Tryz.func55, Tryz.ntmps55
  go_wp2_with (first | (go_at_call 121; refine (KL.out _).mono ?_; rintro e w4 ⟨rfl, rfl⟩) | (go_at_call 110; refine (KP.out _).mono ?_; rintro e w3 ⟨rfl, hb3⟩; have r5 := bel_cell hb3 q5) | (go_at_call 120; refine (KN.out _).mono ?_; rintro e w2 ⟨rfl, rfl⟩) | (go_at_call 108; refine (KC.out _).mono ?_; rintro e w1 ⟨rfl, rfl⟩))
  have hS0 : Below w.heap.size w w3 := hb0.trans (Below.mono hb3 hb0.size)
  have HG3 := Lib.hid (HQ.out.more hb3)
  clear HE
  go_loopw [28] (fun vi wr => ∃ k : Nat, k ≤ lg.length ∧ vi = .int .i64 k ∧ Hid (E0 = lgE (lg.drop k)) ∧ SW w3 wr) (fun vi _ => lg.length - (intOf vi).toNat)
  case atStart => exact ⟨0, Nat.zero_le _, rfl, HT, Below.refl _ _⟩
  case round =>
    obtain ⟨k, hk, rfl, HK, hS⟩ := hrel
    have hSw : Below w.heap.size w wr := hS0.trans (Below.mono hS hS0.size)
    by_cases hlt : k < lg.length
    · obtain ⟨b, o, x, rfl, _, hx, c0, c1, c2, c3, c4⟩ := LegL.get (HG3.out.more hS) hlt
      have hox := HO.out x (List.mem_of_getElem? hx)
      have HK2 := Lib.hid (HK.out.trans (lgE_at hx))
      have i2 : (k : Int) < (lg.length : Int) := by omega
      have hb6 := bel_alloc wr (.cells #[.string x.f, .string x.t, .int .i64 x.dep, .int .i64 x.arr, .string x.eq] legT)
      have hSx : Below w.heap.size w (wr.alloc (.cells #[.string x.f, .string x.t, .int .i64 x.dep, .int .i64 x.arr, .string x.eq] legT)) := hSw.trans (hb6.mono hSw.size)
      have hSy : SW w3 (wr.alloc (.cells #[.string x.f, .string x.t, .int .i64 x.dep, .int .i64 x.arr, .string x.eq] legT)) := Below.trans hS (hb6.mono hS.size)
      have K1 := Lib.hid (fun w => airp_any x.f w hox.f)
      have K2 := Lib.hid (fun w => airp_any x.t w hox.t)
      have K3 := Lib.hid (fun w => isEquip_any x.eq w hox.eq)
      have K4 := Lib.hid (isMinute_any x.dep)
      have K5 := Lib.hid (isMinute_any x.arr)
      clear hx hox
      cases b1 : capsB x.f 3 with
      | false =>
        rw [b1] at K1
        have HR : Hid (E0 = 5) := Lib.hid (by rw [HK2.out]; unfold namB timB; simp [b1])
        clear HK2 HK b1
        go_wp2_with (first | (go_at_call 127; with_reducible refine (K1.out _).mono ?_; rintro e w' ⟨rfl, rfl⟩))
        go_ret
        exact ⟨by rw [HR.out]; rfl, hSx⟩
      | true =>
        rw [b1] at K1
        cases b2 : capsB x.t 3 with
        | false =>
          rw [b2] at K2
          have HR : Hid (E0 = 5) := Lib.hid (by rw [HK2.out]; unfold namB timB; simp [b1, b2])
          clear HK2 HK b1 b2
          go_wp2_with (first | (go_at_call 127; with_reducible refine (K1.out _).mono ?_; rintro e w' ⟨rfl, rfl⟩) | (go_at_call 127; with_reducible refine (K2.out _).mono ?_; rintro e w' ⟨rfl, rfl⟩))
          go_ret
          exact ⟨by rw [HR.out]; rfl, hSx⟩
        | true =>
          rw [b2] at K2
          cases b3 : codeB x.eq 3 3 with
          | false =>
            rw [b3] at K3
            have HR : Hid (E0 = 5) := Lib.hid (by rw [HK2.out]; unfold namB timB; simp [b1, b2, b3])
            clear HK2 HK b1 b2 b3
            go_wp2_with (first | (go_at_call 127; with_reducible refine (K1.out _).mono ?_; rintro e w' ⟨rfl, rfl⟩) | (go_at_call 127; with_reducible refine (K2.out _).mono ?_; rintro e w' ⟨rfl, rfl⟩) | (go_at_call 122; refine (K3.out _).mono ?_; rintro e w' ⟨rfl, rfl⟩))
            go_ret
            exact ⟨by rw [HR.out]; rfl, hSx⟩
          | true =>
            rw [b3] at K3
            cases b4 : minB x.dep with
            | false =>
              rw [b4] at K4
              have HR : Hid (E0 = 2) := Lib.hid (by rw [HK2.out]; unfold namB timB; simp [b1, b2, b3, b4])
              clear HK2 HK b1 b2 b3 b4
              go_wp2_with (first | (go_at_call 127; with_reducible refine (K1.out _).mono ?_; rintro e w' ⟨rfl, rfl⟩) | (go_at_call 127; with_reducible refine (K2.out _).mono ?_; rintro e w' ⟨rfl, rfl⟩) | (go_at_call 122; refine (K3.out _).mono ?_; rintro e w' ⟨rfl, rfl⟩) | (go_at_call 125; with_reducible refine (K4.out _).mono ?_; rintro e w' ⟨rfl, rfl⟩))
              go_ret
              exact ⟨by rw [HR.out]; rfl, hSx⟩
            | true =>
              rw [b4] at K4
              cases b5 : minB x.arr with
              | false =>
                rw [b5] at K5
                have HR : Hid (E0 = 2) := Lib.hid (by rw [HK2.out]; unfold namB timB; simp [b1, b2, b3, b4, b5])
                clear HK2 HK b1 b2 b3 b4 b5
                go_wp2_with (first | (go_at_call 127; with_reducible refine (K1.out _).mono ?_; rintro e w' ⟨rfl, rfl⟩) | (go_at_call 127; with_reducible refine (K2.out _).mono ?_; rintro e w' ⟨rfl, rfl⟩) | (go_at_call 122; refine (K3.out _).mono ?_; rintro e w' ⟨rfl, rfl⟩) | (go_at_call 125; with_reducible refine (K4.out _).mono ?_; rintro e w' ⟨rfl, rfl⟩) | (go_at_call 125; with_reducible refine (K5.out _).mono ?_; rintro e w' ⟨rfl, rfl⟩))
                go_ret
                exact ⟨by rw [HR.out]; rfl, hSx⟩
              | true =>
                rw [b5] at K5
                have HR : Hid (E0 = lgE (lg.drop (k + 1))) := Lib.hid (by rw [HK2.out]; unfold namB timB; simp [b1, b2, b3, b4, b5])
                clear HK2 HK b1 b2 b3 b4 b5
                go_wp2_with (first | (go_at_call 127; with_reducible refine (K1.out _).mono ?_; rintro e w' ⟨rfl, rfl⟩) | (go_at_call 127; with_reducible refine (K2.out _).mono ?_; rintro e w' ⟨rfl, rfl⟩) | (go_at_call 122; refine (K3.out _).mono ?_; rintro e w' ⟨rfl, rfl⟩) | (go_at_call 125; with_reducible refine (K4.out _).mono ?_; rintro e w' ⟨rfl, rfl⟩) | (go_at_call 125; with_reducible refine (K5.out _).mono ?_; rintro e w' ⟨rfl, rfl⟩))
                go_roundw
                case rel => exact ⟨k + 1, by omega, by go_num, HR, hSy⟩
                case measure => simp [intOf]; omega
    · have HR : Hid (E0 = 0) := Lib.hid (by rw [HK.out, List.drop_of_length_le (by omega)]; rfl)
      go_wp2
      go_ret
      exact ⟨by rw [HR.out]; rfl, hSw⟩

end Go.Proofs.YtldillnjnjkkgaaGreatDoor

/- Plain facts on quoted texts and lines: lists of bytes alone; nothing of the program. -/
namespace Go.Proofs.YtldillnjnjkkgaaGreatDoor

/-- a byte that is written in hexadecimal digits, one that is written behind a backslash -/
def hxB (c : UInt8) : Bool := decide ((c.toNat : Int) < 32 ∨ 126 < (c.toNat : Int))
def bsB (c : UInt8) : Bool := decide (c.toNat = 34 ∨ c.toNat = 92)
def hexD : List UInt8 := [48, 49, 50, 51, 52, 53, 54, 55, 56, 57, 97, 98, 99, 100, 101, 102]
def hexd (n : Nat) : UInt8 := hexD.getD n 0
/-- how one byte is quoted -/
def qb (c : UInt8) : List UInt8 := if hxB c then [92, 120, hexd (c.toNat / 16), hexd (c.toNat % 16)] else if bsB c then [92, c] else [c]
def quoteL (l : List UInt8) : List UInt8 := 34 :: (l.flatMap qb ++ [34])
theorem qb_le (c : UInt8) : (qb c).length ≤ 4 := by
  unfold qb
  split
  · simp
  · split <;> simp
theorem flatMap_qb_le : ∀ l : List UInt8, (l.flatMap qb).length ≤ 4 * l.length
  | [] => by simp
  | c :: r => by have := qb_le c; have := flatMap_qb_le r; simp only [List.flatMap_cons, List.length_append, List.length_cons]; omega
/-- the value of a hexadecimal digit, or -1 -/
def hexV (c : UInt8) : Int := if 48 ≤ c.toNat ∧ c.toNat ≤ 57 then (c.toNat : Int) - 48 else if 97 ≤ c.toNat ∧ c.toNat ≤ 102 then (c.toNat : Int) - 87 else -1
/-- the byte that two hexadecimal digits say, and its width: 0 if Quote doesn't write it so -/
def hexB (a b : UInt8) : UInt8 := UInt8.ofNat (16 * hexV a + hexV b).toNat
def hb2 (a b : UInt8) : UInt8 × Nat := if hexV a < 0 ∨ hexV b < 0 then (0, 0) else if hxB (hexB a b) then (hexB a b, 4) else (0, 0)
theorem bytes_drop (s : ByteArray) (k : Nat) (h : k < s.size) : s.data.toList.drop k = s[k] :: s.data.toList.drop (k + 1) := by
  rw [List.drop_eq_getElem_cons (by simpa using h)]; rfl
/-! ### lines -/
def okB (c : UInt8) : Bool := decide (33 ≤ c.toNat ∧ c.toNat ≤ 126 ∧ c.toNat ≠ 34)
def plainL (l : List UInt8) : Bool := !l.isEmpty && l.all okB
/-- how a word is written -/
def encW (l : List UInt8) : List UInt8 := if plainL l then l else quoteL l
def joinL : List (List UInt8) → List UInt8
  | [] => []
  | w :: r => encW w ++ r.flatMap fun x => 32 :: encW x
theorem joinL_snoc (l : List (List UInt8)) (w : List UInt8) (h : l ≠ []) : joinL (l ++ [w]) = joinL l ++ 32 :: encW w := by
  cases l with
  | nil => exact absurd rfl h
  | cons x r => simp [joinL]
theorem encW_le (w : List UInt8) : (encW w).length ≤ 4 * w.length + 2 := by
  unfold encW
  split
  · omega
  · have := flatMap_qb_le w
    simp only [quoteL, List.length_cons, List.length_append, List.length_nil]
    omega
theorem joinL_le (l : List (List UInt8)) : (joinL l).length ≤ 4 * (l.map List.length).sum + 3 * l.length := by
  have h : ∀ r : List (List UInt8), (r.flatMap fun x => 32 :: encW x).length ≤ 4 * (r.map List.length).sum + 3 * r.length := by
    intro r
    induction r with
    | nil => simp
    | cons x r ih =>
      have := encW_le x
      simp only [List.flatMap_cons, List.length_append, List.length_cons, List.map_cons, List.sum_cons]
      omega
  cases l with
  | nil => simp [joinL]
  | cons x r =>
    have := encW_le x
    have := h r
    simp only [joinL, List.length_append, List.map_cons, List.sum_cons, List.length_cons]
    omega
theorem sum_take_le : ∀ (l : List (List UInt8)) (k : Nat), ((l.take k).map List.length).sum ≤ (l.map List.length).sum
  | [], k => by simp
  | x :: r, 0 => by simp
  | x :: r, k + 1 => by have := sum_take_le r k; simp only [List.take_succ_cons, List.map_cons, List.sum_cons]; omega
theorem len_le_sum : ∀ (l : List (List UInt8)) (x : List UInt8), x ∈ l → x.length ≤ (l.map List.length).sum
  | y :: r, x, h => by
    rcases List.mem_cons.1 h with rfl | h
    · simp
    · have := len_le_sum r x h
      simp only [List.map_cons, List.sum_cons]; omega

end Go.Proofs.YtldillnjnjkkgaaGreatDoor
