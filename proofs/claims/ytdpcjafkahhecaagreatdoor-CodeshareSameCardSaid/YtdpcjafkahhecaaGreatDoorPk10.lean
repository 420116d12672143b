/- Words and walks that the laws below ask: SchC2, SchC3, SchE, SchD, SchF. -/
import Derived.Deep.WholeRow
import Derived.Test.YtdpcjafkahhecaaGreatDoorPk9
/- Walks of what On asks of a flight, of find at flights, and of On. -/
namespace Go.Proofs.YtdpcjafkahhecaaGreatDoor
open Go.RowKit Go.Shelf
set_option linter.unusedSimpArgs false
set_option linter.unusedVariables false

set_option maxRecDepth 100000 in
set_option maxHeartbeats 4000000 in
theorem on1_any (f : FV) (car : ByteArray) (num day : Int) (B1 B2 B3 : Nat) (W : World) (h0 : -9223372036854775808 ≤ day) (h1 : day ≤ 9223372036854775807)
    (z1 : W.cell? ⟨B1, 0, none⟩ = some (.string car)) (z2 : W.cell? ⟨B2, 0, none⟩ = some (.int .i64 num)) (z3 : W.cell? ⟨B3, 0, none⟩ = some (.int .i64 day)) :
    Calls Tryz.prog 80 #[encFl f, .pointer (some ⟨B1, 0, none⟩), .pointer (some ⟨B2, 0, none⟩), .pointer (some ⟨B3, 0, none⟩)] W fun e w' => e = .returned (.bool (onB car num day f)) ∧ Below W.heap.size W w' := by
  have hb0 := bel_alloc W (.cells #[.string f.car, .int .i64 f.num, .int .i64 f.pf, .int .i64 f.pt, .int .i64 f.pd, .slice f.A f.lg.length f.c] fliT)
  have y1 := bel_cell hb0 z1
  have y2 := bel_cell hb0 z2
  have y3 := bel_cell hb0 z3
  have q0 := (cells_new W #[.string f.car, .int .i64 f.num, .int .i64 f.pf, .int .i64 f.pt, .int .i64 f.pd, .slice f.A f.lg.length f.c] fliT 0).trans (show _ = some (.string f.car) from rfl)
  have q1 := (cells_new W #[.string f.car, .int .i64 f.num, .int .i64 f.pf, .int .i64 f.pt, .int .i64 f.pd, .slice f.A f.lg.length f.c] fliT 1).trans (show _ = some (.int .i64 f.num) from rfl)
  have q2 := (cells_new W #[.string f.car, .int .i64 f.num, .int .i64 f.pf, .int .i64 f.pt, .int .i64 f.pd, .slice f.A f.lg.length f.c] fliT 2).trans (show _ = some (.int .i64 f.pf) from rfl)
  have q3 := (cells_new W #[.string f.car, .int .i64 f.num, .int .i64 f.pf, .int .i64 f.pt, .int .i64 f.pd, .slice f.A f.lg.length f.c] fliT 3).trans (show _ = some (.int .i64 f.pt) from rfl)
  have q4 := (cells_new W #[.string f.car, .int .i64 f.num, .int .i64 f.pf, .int .i64 f.pt, .int .i64 f.pd, .slice f.A f.lg.length f.c] fliT 4).trans (show _ = some (.int .i64 f.pd) from rfl)
  have HH := Lib.hid (fun (q : Int × Int × Int) W => Per.has_any q.1 q.2.1 q.2.2 day W h0 h1)
  have HQ := Lib.hid (HH.out (f.pf, f.pt, f.pd))
  dsimp only at HQ
  clear z1 z2 z3 HH
  cases h1 : (f.car.toList == car.toList) with
  | false =>
    have HR : Hid (onB car num day f = false) := Lib.hid (by unfold onB; rw [h1]; rfl)
    go_enter Tryz.func80, Tryz.ntmps80
    go_wp2
    go_ret
    exact ⟨ret_bool HR.out.symm, hb0⟩
  | true =>
  cases h2 : (f.num == num) with
  | false =>
    have HR : Hid (onB car num day f = false) := Lib.hid (by unfold onB; rw [h1, h2]; rfl)
    go_enter Tryz.func80, Tryz.ntmps80
    go_wp2
    go_ret
    exact ⟨ret_bool HR.out.symm, hb0⟩
  | true =>
    have HR : Hid (onB car num day f = Per.hasQ (f.pf, f.pt, f.pd) day) := Lib.hid (by unfold onB; rw [h1, h2]; rfl)
    go_enter Tryz.func80, Tryz.ntmps80
    go_wp2_with (go_at_call 50; refine (HQ.out _).mono ?_; rintro e w1 ⟨rfl, hb1⟩)
    go_ret
    exact ⟨ret_bool HR.out.symm, hb0.trans (hb1.mono hb0.size)⟩
theorem eg_on1 : ∀ args w, (callFunc 80 args).run Tryz.prog w = .ok (.enter 80 args) w := enters_of Tryz.func80 (by kernel_rfl) rfl

theorem IdxF.find {p : FV → Bool} {L : List FV} {r : Int} (h : IdxF p L r) : (r = -1 ∧ L.find? p = none) ∨ ∃ (k : Nat) (y : FV), r = (k : Int) ∧ L[k]? = some y ∧ L.find? p = some y := by
  rcases h with ⟨h1, h2⟩ | ⟨k, y, h1, h2, h3, h4⟩
  · exact .inl ⟨h1, List.find?_eq_none.2 (fun x hx => by rw [h2 x hx]; simp)⟩
  · refine .inr ⟨k, y, h1, h2, ?_⟩
    obtain ⟨hlt, rfl⟩ := List.getElem?_eq_some_iff.1 h2
    rw [List.find?_eq_some_iff_getElem]
    refine ⟨h3, k, hlt, rfl, fun j hj => ?_⟩
    rw [h4 j _ hj (List.getElem?_eq_getElem (by omega))]
    rfl
set_option maxRecDepth 100000 in
set_option maxHeartbeats 8000000 in
theorem findF_any (g : Nat) (cb : Array Value) (A : Option Addr) (c : Nat) (L : List FV) (p : FV → Bool) (w : World) (eg : ∀ args w, (callFunc g args).run Tryz.prog w = .ok (.enter g args) w) (hl : L.length ≤ 100000)
    (hv : RowL 6 encF6 w (.slice A L.length c) L)
    (hf : ∀ (a : FV) (W : World), a ∈ L → Below w.heap.size w W → Calls Tryz.prog g (#[encFl a] ++ cb) W fun e w' => e = .returned (.bool (p a)) ∧ Below W.heap.size W w') :
    Calls Tryz.prog 79 #[.slice A L.length c, .func (.func g) #[] cb] w fun e w' => e = .returned (.tuple #[encFl ((L.find? p).getD fliZ), .bool (L.find? p).isSome]) ∧ Below w.heap.size w w' := by
  have hb0 := bel_alloc w (.cells #[.string noB, .int .i64 0, .int .i64 0, .int .i64 0, .int .i64 0, .slice none 0 0] fliT)
  have hN := heap_alloc_new w (.cells #[.string noB, .int .i64 0, .int .i64 0, .int .i64 0, .int .i64 0, .slice none 0 0] fliT)
  have KI := Lib.hid (indexF_any g cb A c L p (w.alloc (.cells #[.string noB, .int .i64 0, .int .i64 0, .int .i64 0, .int .i64 0, .slice none 0 0] fliT)) eg hl (hv.more hb0) (fun a W ha hb => hf a W ha (hb0.trans (hb.mono hb0.size))))
  have HV := Lib.hid (hv.more hb0)
  have HB0 := Lib.hid hb0
  clear hv hf hb0
  go_enter Tryz.func79, Tryz.ntmps79
  go_upto_region 1 with fail
  generalize hw5 : w.alloc (.cells #[.string noB, .int .i64 0, .int .i64 0, .int .i64 0, .int .i64 0, .slice none 0 0] fliT) = w5 at *
  clear hw5
  have HN := Lib.hid hN
  have HLT5 : Hid (w.heap.size < w5.heap.size) := Lib.hid (lt_of_cell2 hN)
  clear hN
  go_wp2_with (go_at_call 114; refine KI.out.mono ?_; rintro e w1 ⟨r, rfl, hr, hb1⟩; refine Hid.out ?_)
  have hS : SW w5 w1 := hb1
  rcases hr.out.find with ⟨rfl, hfd⟩ | ⟨k, y, rfl, hk, hfd⟩
  · refine Lib.hid ?_
    have HFD := Lib.hid hfd
    clear hfd hr
    go_upto_region 4 with fail
    have hbz := bel_alloc w1 (.cells #[.string noB, .int .i64 0, .int .i64 0, .int .i64 0, .int .i64 0, .slice none 0 0] fliT)
    have hnz := heap_alloc_new w1 (.cells #[.string noB, .int .i64 0, .int .i64 0, .int .i64 0, .int .i64 0, .slice none 0 0] fliT)
    generalize hw6 : w1.alloc (.cells #[.string noB, .int .i64 0, .int .i64 0, .int .i64 0, .int .i64 0, .slice none 0 0] fliT) = w6 at *
    clear hw6
    have l0 := (cell_of_row w6 _ 0 _ _ (0, 0) hnz).trans (show _ = some _ from rfl)
    have l1 := (cell_of_row w6 _ 1 _ _ (0, 0) hnz).trans (show _ = some _ from rfl)
    have l2 := (cell_of_row w6 _ 2 _ _ (0, 0) hnz).trans (show _ = some _ from rfl)
    have l3 := (cell_of_row w6 _ 3 _ _ (0, 0) hnz).trans (show _ = some _ from rfl)
    have l4 := (cell_of_row w6 _ 4 _ _ (0, 0) hnz).trans (show _ = some _ from rfl)
    have l5 := (cell_of_row w6 _ 5 _ _ (0, 0) hnz).trans (show _ = some _ from rfl)
    have hS6 := Below.trans hS (Below.mono hbz hS.size)
    have hx := (Below.block hS6 _ HLT5.out).trans HN.out
    have hwb := HB0.out.trans (Below.mono hS6 HB0.out.size)
    clear hS hS6 hbz hnz hb1
    have n0 := (cell_of_row _ _ 0 _ _ (0, 0) hx).trans (show _ = some _ from rfl)
    have n1 := (cell_of_row _ _ 1 _ _ (0, 0) hx).trans (show _ = some _ from rfl)
    have n2 := (cell_of_row _ _ 2 _ _ (0, 0) hx).trans (show _ = some _ from rfl)
    have n3 := (cell_of_row _ _ 3 _ _ (0, 0) hx).trans (show _ = some _ from rfl)
    have n4 := (cell_of_row _ _ 4 _ _ (0, 0) hx).trans (show _ = some _ from rfl)
    have n5 := (cell_of_row _ _ 5 _ _ (0, 0) hx).trans (show _ = some _ from rfl)
    have z0 := frozen_of_row _ _ 0 _ _ hx
    have z1 := frozen_of_row _ _ 1 _ _ hx
    have z2 := frozen_of_row _ _ 2 _ _ hx
    have z3 := frozen_of_row _ _ 3 _ _ hx
    have z4 := frozen_of_row _ _ 4 _ _ hx
    have z5 := frozen_of_row _ _ 5 _ _ hx
    have HX2 : Hid (∀ W, W = S6 w6 w.heap.size (.string noB) (.int .i64 0) (.int .i64 0) (.int .i64 0) (.int .i64 0) (.slice none 0 0) → W.heap[w.heap.size]? = some (.cells #[.string noB, .int .i64 0, .int .i64 0, .int .i64 0, .int .i64 0, .slice none 0 0] fliT (0, 0)) ∧ Below w.heap.size w W ∧ But w6 W (fun k => k = w.heap.size)) := Lib.hid (fun W h => by rw [h]; exact ⟨S6.heap hx _ _ _ _ _ _, hwb.trans ((S6.but _ _ _ _ _ _ _ _).below (hwb).size (fun k hk => by omega)), S6.but _ _ _ _ _ _ _ _⟩)
    clear hx hwb
    go_wp2
    obtain ⟨hxx, hbb, hbu⟩ := HX2.out _ rfl
    unfold S6 at hxx hbb hbu
    clear HX2
    generalize hWW : (((((w6.setCell ⟨w.heap.size, 0, none⟩ (.string noB)).setCell ⟨w.heap.size, 1, none⟩ (.int .i64 0)).setCell ⟨w.heap.size, 2, none⟩ (.int .i64 0)).setCell ⟨w.heap.size, 3, none⟩ (.int .i64 0)).setCell ⟨w.heap.size, 4, none⟩ (.int .i64 0)).setCell ⟨w.heap.size, 5, none⟩ (.slice none 0 0) = WW at *
    clear hWW n0 n1 n2 n3 n4 n5 z0 z1 z2 z3 z4 z5
    have c0 := (cell_of_row WW _ 0 _ _ (0, 0) hxx).trans (show _ = some _ from rfl)
    have c1 := (cell_of_row WW _ 1 _ _ (0, 0) hxx).trans (show _ = some _ from rfl)
    have c2 := (cell_of_row WW _ 2 _ _ (0, 0) hxx).trans (show _ = some _ from rfl)
    have c3 := (cell_of_row WW _ 3 _ _ (0, 0) hxx).trans (show _ = some _ from rfl)
    have c4 := (cell_of_row WW _ 4 _ _ (0, 0) hxx).trans (show _ = some _ from rfl)
    have c5 := (cell_of_row WW _ 5 _ _ (0, 0) hxx).trans (show _ = some _ from rfl)
    rw [HFD.out]
    refine bodyPost_ret (v := .tuple #[encFl fliZ, .bool false]) ?_ rfl ⟨rfl, hbb⟩
    simp [results, Tryz.results79, go_sem, c0, c1, c2, c3, c4, c5, fliZ]
  · refine Lib.hid ?_
    have HFD := Lib.hid hfd
    have hi2 : (k : Int) < (L.length : Int) := by have := (List.getElem?_eq_some_iff.1 hk).1; omega
    obtain ⟨b, o, e1, hbl, hcc⟩ := RowL.at6 (HV.out.more hS) hk
    cases e1
    have d0 := hcc 0 _ rfl
    have d1 := hcc 1 _ rfl
    have d2 := hcc 2 _ rfl
    have d3 := hcc 3 _ rfl
    have d4 := hcc 4 _ rfl
    have d5 := hcc 5 _ rfl
    rw [Nat.add_zero] at d0
    clear hfd hcc hk hbl hr
    go_upto_region 5 with fail
    have hx := (Below.block hS _ HLT5.out).trans HN.out
    have hwb := HB0.out.trans (Below.mono hS HB0.out.size)
    clear hS hb1
    have n0 := (cell_of_row _ _ 0 _ _ (0, 0) hx).trans (show _ = some _ from rfl)
    have n1 := (cell_of_row _ _ 1 _ _ (0, 0) hx).trans (show _ = some _ from rfl)
    have n2 := (cell_of_row _ _ 2 _ _ (0, 0) hx).trans (show _ = some _ from rfl)
    have n3 := (cell_of_row _ _ 3 _ _ (0, 0) hx).trans (show _ = some _ from rfl)
    have n4 := (cell_of_row _ _ 4 _ _ (0, 0) hx).trans (show _ = some _ from rfl)
    have n5 := (cell_of_row _ _ 5 _ _ (0, 0) hx).trans (show _ = some _ from rfl)
    have z0 := frozen_of_row _ _ 0 _ _ hx
    have z1 := frozen_of_row _ _ 1 _ _ hx
    have z2 := frozen_of_row _ _ 2 _ _ hx
    have z3 := frozen_of_row _ _ 3 _ _ hx
    have z4 := frozen_of_row _ _ 4 _ _ hx
    have z5 := frozen_of_row _ _ 5 _ _ hx
    have HX2 : Hid (∀ W, W = S6 w1 w.heap.size (.string y.car) (.int .i64 y.num) (.int .i64 y.pf) (.int .i64 y.pt) (.int .i64 y.pd) (.slice y.A y.lg.length y.c) → W.heap[w.heap.size]? = some (.cells #[.string y.car, .int .i64 y.num, .int .i64 y.pf, .int .i64 y.pt, .int .i64 y.pd, .slice y.A y.lg.length y.c] fliT (0, 0)) ∧ Below w.heap.size w W ∧ But w1 W (fun k => k = w.heap.size)) := Lib.hid (fun W h => by rw [h]; exact ⟨S6.heap hx _ _ _ _ _ _, hwb.trans ((S6.but _ _ _ _ _ _ _ _).below (hwb).size (fun k hk => by omega)), S6.but _ _ _ _ _ _ _ _⟩)
    clear hx hwb
    go_wp2
    obtain ⟨hxx, hbb, hbu⟩ := HX2.out _ rfl
    unfold S6 at hxx hbb hbu
    clear HX2
    generalize hWW : (((((w1.setCell ⟨w.heap.size, 0, none⟩ (.string y.car)).setCell ⟨w.heap.size, 1, none⟩ (.int .i64 y.num)).setCell ⟨w.heap.size, 2, none⟩ (.int .i64 y.pf)).setCell ⟨w.heap.size, 3, none⟩ (.int .i64 y.pt)).setCell ⟨w.heap.size, 4, none⟩ (.int .i64 y.pd)).setCell ⟨w.heap.size, 5, none⟩ (.slice y.A y.lg.length y.c) = WW at *
    clear hWW n0 n1 n2 n3 n4 n5 z0 z1 z2 z3 z4 z5
    have c0 := (cell_of_row WW _ 0 _ _ (0, 0) hxx).trans (show _ = some _ from rfl)
    have c1 := (cell_of_row WW _ 1 _ _ (0, 0) hxx).trans (show _ = some _ from rfl)
    have c2 := (cell_of_row WW _ 2 _ _ (0, 0) hxx).trans (show _ = some _ from rfl)
    have c3 := (cell_of_row WW _ 3 _ _ (0, 0) hxx).trans (show _ = some _ from rfl)
    have c4 := (cell_of_row WW _ 4 _ _ (0, 0) hxx).trans (show _ = some _ from rfl)
    have c5 := (cell_of_row WW _ 5 _ _ (0, 0) hxx).trans (show _ = some _ from rfl)
    rw [HFD.out]
    refine bodyPost_ret (v := .tuple #[encFl y, .bool true]) ?_ rfl ⟨rfl, hbb⟩
    simp [results, Tryz.results79, go_sem, c0, c1, c2, c3, c4, c5]

end Go.Proofs.YtdpcjafkahhecaaGreatDoor

/- Walk of On. -/
namespace Go.Proofs.YtdpcjafkahhecaaGreatDoor
open Go.RowKit Go.Shelf
set_option linter.unusedSimpArgs false
set_option linter.unusedVariables false

/-- a flight whose legs lie elsewhere -/
def FV.re (f : FV) (A : Option Addr) (c : Nat) : FV := { f with A := A, c := c }
set_option maxRecDepth 100000 in
set_option maxHeartbeats 8000000 in
theorem on_any (v : Value) (l : List FV) (car : ByteArray) (num day : Int) (w : World) (hv : TblL w v l) (hn : l.length ≤ 1000) (hn2 : ∀ f ∈ l, f.lg.length ≤ 1000) (h0 : -9223372036854775808 ≤ day) (h1 : day ≤ 9223372036854775807) :
    Calls Tryz.prog 52 #[v, .string car, .int .i64 num, .int .i64 day] w fun e w' => ∃ A c, e = .returned (.tuple #[encFl (((onF l car num day).getD fliZ).re A c), .bool (onF l car num day).isSome]) ∧ LegL w' (.slice A ((onF l car num day).getD fliZ).lg.length c) ((onF l car num day).getD fliZ).lg ∧ ((onF l car num day).getD fliZ).lg.length ≤ c ∧ Below w.heap.size w w' := by
  obtain ⟨A, c, rfl, hvc⟩ := id hv.row
  have hb1 := bel_alloc w (.cells #[.string car] 9)
  have hb2 := bel_alloc (w.alloc (.cells #[.string car] 9)) (.cells #[.int .i64 num] 3)
  have hb3 := bel_alloc ((w.alloc (.cells #[.string car] 9)).alloc (.cells #[.int .i64 num] 3)) (.cells #[.int .i64 day] 3)
  have hb4 := bel_alloc (((w.alloc (.cells #[.string car] 9)).alloc (.cells #[.int .i64 num] 3)).alloc (.cells #[.int .i64 day] 3)) (.cells #[.string noB, .int .i64 0, .int .i64 0, .int .i64 0, .int .i64 0, .slice none 0 0] fliT)
  have hb34 := hb3.trans (hb4.mono hb3.size)
  have hb24 := hb2.trans (hb34.mono hb2.size)
  have hb0 := hb1.trans (hb24.mono hb1.size)
  have q1 := bel_cell hb24 ((cells_new w #[.string car] 9 0).trans (show _ = some (Value.string car) from rfl))
  have q2 := bel_cell hb34 ((cells_new (w.alloc (.cells #[.string car] 9)) #[.int .i64 num] 3 0).trans (show _ = some (Value.int .i64 num) from rfl))
  have q3 := bel_cell hb4 ((cells_new ((w.alloc (.cells #[.string car] 9)).alloc (.cells #[.int .i64 num] 3)) #[.int .i64 day] 3 0).trans (show _ = some (Value.int .i64 day) from rfl))
  have hN := heap_alloc_new (((w.alloc (.cells #[.string car] 9)).alloc (.cells #[.int .i64 num] 3)).alloc (.cells #[.int .i64 day] 3)) (.cells #[.string noB, .int .i64 0, .int .i64 0, .int .i64 0, .int .i64 0, .slice none 0 0] fliT)
  simp only [World.size_alloc] at q1 q2 q3 hN
  have HV := Lib.hid (hv.more hb0)
  have HB0 := Lib.hid hb0
  obtain ⟨g, hg⟩ : ∃ g, g = (onF l car num day).getD fliZ := ⟨_, rfl⟩
  obtain ⟨s, hs⟩ : ∃ s, s = (onF l car num day).isSome := ⟨_, rfl⟩
  have HG := Lib.hid hg
  have HLG : Hid (∀ W, TblL W (.slice A l.length c) l → LegL W (.slice g.A g.lg.length g.c) g.lg) := Lib.hid (fun W h => by
    rw [hg]
    cases ho : onF l car num day with
    | none => exact ⟨none, 0, rfl, .inl rfl⟩
    | some f => exact h.legs f (List.mem_of_find?_eq_some ho))
  have HLN : Hid (g.lg.length ≤ 1000000) := Lib.hid (by
    rw [hg]
    cases ho : onF l car num day with
    | none => exact Nat.zero_le _
    | some f => exact Nat.le_trans (hn2 f (List.mem_of_find?_eq_some ho)) (by omega))
  rw [← hg, ← hs]
  clear hvc hv hb1 hb2 hb3 hb4 hb34 hb24
  go_enter Tryz.func52, Tryz.ntmps52
  go_upto_region 1 with fail
  generalize hw5 : ((((w.alloc (.cells #[.string car] 9)).alloc (.cells #[.int .i64 num] 3)).alloc (.cells #[.int .i64 day] 3)).alloc (.cells #[.string noB, .int .i64 0, .int .i64 0, .int .i64 0, .int .i64 0, .slice none 0 0] fliT)) = w5 at *
  clear hw5
  have KF := Lib.hid (findF_any 80 #[.pointer (some ⟨w.heap.size, 0, none⟩), .pointer (some ⟨w.heap.size + 1, 0, none⟩), .pointer (some ⟨w.heap.size + 1 + 1, 0, none⟩)] A c l (onB car num day) w5 eg_on1 (by omega) HV.out.row (fun a W ha hb => on1_any a car num day _ _ _ W h0 h1 (bel_cell hb q1) (bel_cell hb q2) (bel_cell hb q3)))
  change Hid (Calls _ _ _ _ (fun e w' => e = .returned (.tuple #[encFl ((onF l car num day).getD fliZ), .bool (onF l car num day).isSome]) ∧ Below w5.heap.size w5 w')) at KF
  rw [← hg, ← hs] at KF
  have HN := Lib.hid hN
  have HLT5 : Hid (w.heap.size + 1 + 1 + 1 < w5.heap.size) := Lib.hid (lt_of_cell2 hN)
  clear hN hg hs q1 q2 q3 hb0
  go_wp2_with (go_at_call 79; refine KF.out.mono ?_; rintro e w1 ⟨rfl, hbf⟩; refine Hid.out ?_)
  refine Lib.hid ?_
  obtain ⟨car', num', pf, pt, pd, A1, cp1, lg⟩ := g
  dsimp only at *
  have hS1 : SW w5 w1 := hbf
  have HW1 := Lib.hid (HB0.out.trans (Below.mono hS1 HB0.out.size))
  have hx7 := heap_alloc_new w1 (.cells #[.string car', .int .i64 num', .int .i64 pf, .int .i64 pt, .int .i64 pd, .slice A1 lg.length cp1] fliT)
  have hb7 := bel_alloc w1 (.cells #[.string car', .int .i64 num', .int .i64 pf, .int .i64 pt, .int .i64 pd, .slice A1 lg.length cp1] fliT)
  go_upto_region 2 with fail
  generalize hw7 : w1.alloc (.cells #[.string car', .int .i64 num', .int .i64 pf, .int .i64 pt, .int .i64 pd, .slice A1 lg.length cp1] fliT) = w7 at *
  clear hw7
  have c5 := (cell_of_row w7 _ 5 _ _ (0, 0) hx7).trans (show _ = some (Value.slice A1 lg.length cp1) from rfl)
  have HX7 := Lib.hid hx7
  have HB7 := Lib.hid hb7
  have HW7 := Lib.hid (HW1.out.trans (hb7.mono HW1.out.size))
  have hsz1 : w.heap.size ≤ w1.heap.size := HW1.out.size
  have h17 : w1.heap.size < w7.heap.size := lt_of_cell2 hx7
  have hnr : w.heap.size + 1 + 1 + 1 < w1.heap.size := Nat.lt_of_lt_of_le HLT5.out hbf.size
  have KC := Lib.hid (cloneL_any A1 cp1 lg w7 HLN.out (HLG.out w7 (HV.out.more (Below.trans hS1 (Below.mono hb7 hS1.size)))))
  have HXR := Lib.hid ((hb7.block _ hnr).trans ((hbf.block _ HLT5.out).trans HN.out))
  clear hx7 hb7 hbf hS1
  go_wp2_with (go_at_call 81; refine KC.out.mono ?_; rintro e w8 ⟨A2, k2, rfl, hL8, hk2, hnew, hb8⟩; refine Hid.out ?_)
  refine Lib.hid ?_
  have hx8 := (hb8.block _ h17).trans HX7.out
  have d5 := (cell_of_row w8 _ 5 _ _ (0, 0) hx8).trans (show _ = some _ from rfl)
  have fz5 := frozen_of_row w8 _ 5 _ _ hx8
  have hx9 := heap_setCell_same w8 w1.heap.size 5 _ fliT (.slice A2 lg.length k2) hx8
  have HL8 := Lib.hid hL8
  have HNW := Lib.hid hnew
  have HXR8 := Lib.hid ((hb8.block _ (Nat.lt_trans hnr h17)).trans HXR.out)
  have hx9r := (show (w8.setCell ⟨w1.heap.size, 5, none⟩ (.slice A2 lg.length k2)).heap[w.heap.size + 1 + 1 + 1]? = _ from ((But.setCell w8 w1.heap.size 5 (.slice A2 lg.length k2)).block _ (lt_of_cell2 HXR8.out) (by omega)).trans HXR8.out)
  have HX9 := Lib.hid hx9
  have HX9R := Lib.hid hx9r
  have HB9 := Lib.hid (HW7.out.trans (((hb8.mono HW7.out.size)).trans ((But.setCell w8 w1.heap.size 5 (.slice A2 lg.length k2)).below (Nat.le_trans HW7.out.size hb8.size) (fun k hk => by omega))))
  have HBT := Lib.hid (But.setCell w8 w1.heap.size 5 (.slice A2 lg.length k2))
  clear hx8 hL8 hnew hx9 hx9r hb8
  go_upto_region 3 with fail
  generalize hw9 : w8.setCell ⟨w1.heap.size, 5, none⟩ (.slice A2 lg.length k2) = w9 at *
  clear hw9 d5 fz5
  have g0 := (cell_of_row w9 _ 0 _ _ (0, 0) HX9.out).trans (show _ = some (.string car') from rfl)
  have g1 := (cell_of_row w9 _ 1 _ _ (0, 0) HX9.out).trans (show _ = some (.int .i64 num') from rfl)
  have g2 := (cell_of_row w9 _ 2 _ _ (0, 0) HX9.out).trans (show _ = some (.int .i64 pf) from rfl)
  have g3 := (cell_of_row w9 _ 3 _ _ (0, 0) HX9.out).trans (show _ = some (.int .i64 pt) from rfl)
  have g4 := (cell_of_row w9 _ 4 _ _ (0, 0) HX9.out).trans (show _ = some (.int .i64 pd) from rfl)
  have g5 := (cell_of_row w9 _ 5 _ _ (0, 0) HX9.out).trans (show _ = some (.slice A2 lg.length k2) from rfl)
  have hx := HX9R.out
  have hwb := HB9.out
  have n0 := (cell_of_row _ _ 0 _ _ (0, 0) hx).trans (show _ = some _ from rfl)
  have n1 := (cell_of_row _ _ 1 _ _ (0, 0) hx).trans (show _ = some _ from rfl)
  have n2 := (cell_of_row _ _ 2 _ _ (0, 0) hx).trans (show _ = some _ from rfl)
  have n3 := (cell_of_row _ _ 3 _ _ (0, 0) hx).trans (show _ = some _ from rfl)
  have n4 := (cell_of_row _ _ 4 _ _ (0, 0) hx).trans (show _ = some _ from rfl)
  have n5 := (cell_of_row _ _ 5 _ _ (0, 0) hx).trans (show _ = some _ from rfl)
  have z0 := frozen_of_row _ _ 0 _ _ hx
  have z1 := frozen_of_row _ _ 1 _ _ hx
  have z2 := frozen_of_row _ _ 2 _ _ hx
  have z3 := frozen_of_row _ _ 3 _ _ hx
  have z4 := frozen_of_row _ _ 4 _ _ hx
  have z5 := frozen_of_row _ _ 5 _ _ hx
  have HX2 : Hid (∀ W, W = S6 w9 (w.heap.size + 1 + 1 + 1) (.string car') (.int .i64 num') (.int .i64 pf) (.int .i64 pt) (.int .i64 pd) (.slice A2 lg.length k2) → W.heap[(w.heap.size + 1 + 1 + 1)]? = some (.cells #[.string car', .int .i64 num', .int .i64 pf, .int .i64 pt, .int .i64 pd, .slice A2 lg.length k2] fliT (0, 0)) ∧ Below w.heap.size w W ∧ But w9 W (fun k => k = (w.heap.size + 1 + 1 + 1))) := Lib.hid (fun W h => by rw [h]; exact ⟨S6.heap hx _ _ _ _ _ _, hwb.trans ((S6.but _ _ _ _ _ _ _ _).below (hwb).size (fun k hk => by omega)), S6.but _ _ _ _ _ _ _ _⟩)
  clear hx hwb
  go_wp2
  obtain ⟨hxx, hbb, hbu⟩ := HX2.out _ rfl
  unfold S6 at hxx hbb hbu
  clear HX2
  generalize hWW : (((((w9.setCell ⟨(w.heap.size + 1 + 1 + 1), 0, none⟩ (.string car')).setCell ⟨(w.heap.size + 1 + 1 + 1), 1, none⟩ (.int .i64 num')).setCell ⟨(w.heap.size + 1 + 1 + 1), 2, none⟩ (.int .i64 pf)).setCell ⟨(w.heap.size + 1 + 1 + 1), 3, none⟩ (.int .i64 pt)).setCell ⟨(w.heap.size + 1 + 1 + 1), 4, none⟩ (.int .i64 pd)).setCell ⟨(w.heap.size + 1 + 1 + 1), 5, none⟩ (.slice A2 lg.length k2) = w10 at *
  clear hWW n0 n1 n2 n3 n4 n5 z0 z1 z2 z3 z4 z5
  have c0 := (cell_of_row w10 _ 0 _ _ (0, 0) hxx).trans (show _ = some _ from rfl)
  have c1 := (cell_of_row w10 _ 1 _ _ (0, 0) hxx).trans (show _ = some _ from rfl)
  have c2 := (cell_of_row w10 _ 2 _ _ (0, 0) hxx).trans (show _ = some _ from rfl)
  have c3 := (cell_of_row w10 _ 3 _ _ (0, 0) hxx).trans (show _ = some _ from rfl)
  have c4 := (cell_of_row w10 _ 4 _ _ (0, 0) hxx).trans (show _ = some _ from rfl)
  have c5 := (cell_of_row w10 _ 5 _ _ (0, 0) hxx).trans (show _ = some _ from rfl)
  have hLL : LegL w10 (.slice A2 lg.length k2) lg := by
    refine (HL8.out.but2 HBT.out ?_).but2 hbu ?_
    · rintro b o rfl
      rcases HNW.out with h | ⟨g', h, hg'⟩
      · cases h
      · cases h; omega
    · rintro b o rfl
      rcases HNW.out with h | ⟨g', h, hg'⟩
      · cases h
      · cases h; omega
  refine bodyPost_ret (v := .tuple #[encFl (FV.re ⟨car', num', pf, pt, pd, A1, cp1, lg⟩ A2 k2), .bool s]) ?_ rfl ⟨A2, k2, rfl, hLL, hk2, hbb⟩
  simp [results, Tryz.results52, go_sem, c0, c1, c2, c3, c4, c5, FV.re]


end Go.Proofs.YtdpcjafkahhecaaGreatDoor

/- On, told with the flight as one value; walks of Differ. -/
namespace Go.Proofs.YtdpcjafkahhecaaGreatDoor
open Go.RowKit Go.Shelf
set_option linter.unusedSimpArgs false
set_option linter.unusedVariables false

abbrev intT : TypeId := 3
def encI1 (n : Int) : List Value := [.int .i64 n]
theorem rtI1 : RT Tryz.prog 110 intT 1 encI1 where
  ht := Tryz.underlying110
  info := ⟨.int .i64 0, 8, by kernel_rfl, rfl, by omega⟩
  len x := rfl
  one x u hu := by simp [encI1] at hu; rcases hu with rfl; rfl
  pos := by omega
/-- the cells of a flight -/
abbrev fliX (g : FV) (A : Option Addr) (c : Nat) : Array Value := #[.string g.car, .int .i64 g.num, .int .i64 g.pf, .int .i64 g.pt, .int .i64 g.pd, .slice A g.lg.length c]
def OnX (g : FV) (s : Bool) (w : World) (e : Ending) (w' : World) : Prop := ∃ X A c, e = .returned (.tuple #[.agg X, .bool s]) ∧ Hid (X = fliX g A c) ∧ LegL w' (.slice A g.lg.length c) g.lg ∧ Below w.heap.size w w'
theorem info_fli : (Tryz.prog.info? fliT).map (·.size) = some 6 := by kernel_rfl
theorem store_fli {g : FV} {A : Option Addr} {c : Nat} {X : Array Value} (hX : Hid (X = fliX g A c)) (w : World) :
    (storeCells ⟨w.heap.size, 0, none⟩ X.toList 0).run Tryz.prog (w.alloc (.cells #[.string noB, .int .i64 0, .int .i64 0, .int .i64 0, .int .i64 0, .slice none 0 0] fliT)) = .ok () (w.alloc (.cells X fliT)) := by
  have e := hX.out
  subst e
  exact run_storeCells_new w fliT _ _ info_fli rfl (by simp [Value.oneCell'])
theorem on_x (v : Value) (l : List FV) (car : ByteArray) (num day : Int) (w : World) (hv : TblL w v l) (hn : l.length ≤ 1000) (hn2 : ∀ f ∈ l, f.lg.length ≤ 1000) (h0 : -9223372036854775808 ≤ day) (h1 : day ≤ 9223372036854775807) :
    Calls Tryz.prog 52 #[v, .string car, .int .i64 num, .int .i64 day] w (OnX ((onF l car num day).getD fliZ) (onF l car num day).isSome w) :=
  (on_any v l car num day w hv hn hn2 h0 h1).mono (by rintro e w' ⟨A, c, rfl, hL, _, hb⟩; exact ⟨_, A, c, rfl, Lib.hid rfl, hL, hb⟩)
theorem ron_x (v : Value) (l : List FV) (car : ByteArray) (num day : Int) (w : World) (hv : TblL w v l) (hn : l.length ≤ 1000) (hn2 : ∀ f ∈ l, f.lg.length ≤ 1000) (h0 : -9223372036854775808 ≤ day) (h1 : day ≤ 9223372036854775807) :
    Calls Tryz.prog 47 #[v, .string car, .int .i64 num, .int .i64 day] w (OnX ((onF l car num day).getD fliZ) (onF l car num day).isSome w) :=
  (ron_any v l car num day w hv.row hn h0 h1).mono (by
    rintro e w' ⟨rfl, hb⟩
    refine ⟨_, _, _, rfl, Lib.hid rfl, ?_, hb⟩
    cases ho : onF l car num day with
    | none => exact ⟨none, 0, rfl, .inl rfl⟩
    | some f => exact (hv.legs f (List.mem_of_find?_eq_some ho)).more hb)
theorem on_lg {l : List FV} {car : ByteArray} {num day : Int} (hn2 : ∀ f ∈ l, f.lg.length ≤ 1000) : ((onF l car num day).getD fliZ).lg.length ≤ 1000 := by
  cases ho : onF l car num day with
  | none => exact Nat.zero_le _
  | some f => exact hn2 f (List.mem_of_find?_eq_some ho)
theorem difL_take (a b : List FV) (car : ByteArray) (num : Int) (D : List Int) {k : Nat} {d : Int} (h : D[k]? = some d) : difL a b car num (D.take (k + 1)) = if difB a b car num d then difL a b car num (D.take k) ++ [d] else difL a b car num (D.take k) := by
  obtain ⟨hk, rfl⟩ := List.getElem?_eq_some_iff.1 h
  rw [← List.take_append_getElem hk]
  unfold difL
  rw [List.filter_append]
  by_cases hd : difB a b car num D[k] = true
  · rw [if_pos hd, List.filter_cons_of_pos hd]; rfl
  · rw [if_neg hd, List.filter_cons_of_neg hd]; simp
theorem difL_le (a b : List FV) (car : ByteArray) (num : Int) (D : List Int) : (difL a b car num D).length ≤ D.length := List.length_filter_le _ _

end Go.Proofs.YtdpcjafkahhecaaGreatDoor

/- Walks of what Seg asks of a segment and of find at segments. -/
namespace Go.Proofs.YtdpcjafkahhecaaGreatDoor
open Go.RowKit Go.Shelf
set_option linter.unusedSimpArgs false
set_option linter.unusedVariables false

/-- no segment -/
def sgZ : Sg := ⟨noB, 0, 0, noB, noB, 0, 0⟩
def ftB (fr tt : ByteArray) (s : Sg) : Bool := (s.f.toList == fr.toList) && (s.t.toList == tt.toList)
set_option maxRecDepth 100000 in
set_option maxHeartbeats 4000000 in
theorem seg1_any (s : Sg) (fr tt : ByteArray) (B1 B2 : Nat) (W : World) (z1 : W.cell? ⟨B1, 0, none⟩ = some (.string fr)) (z2 : W.cell? ⟨B2, 0, none⟩ = some (.string tt)) :
    Calls Tryz.prog 71 #[encS7 s, .pointer (some ⟨B1, 0, none⟩), .pointer (some ⟨B2, 0, none⟩)] W fun e w' => e = .returned (.bool (ftB fr tt s)) ∧ Below W.heap.size W w' := by
  have hb0 := bel_alloc W (.cells #[.string s.car, .int .i64 s.num, .int .i64 s.day, .string s.f, .string s.t, .int .i64 s.dep, .int .i64 s.arr] segT)
  have y1 := bel_cell hb0 z1
  have y2 := bel_cell hb0 z2
  have q3 := (cells_new W #[.string s.car, .int .i64 s.num, .int .i64 s.day, .string s.f, .string s.t, .int .i64 s.dep, .int .i64 s.arr] segT 3).trans (show _ = some (.string s.f) from rfl)
  have q4 := (cells_new W #[.string s.car, .int .i64 s.num, .int .i64 s.day, .string s.f, .string s.t, .int .i64 s.dep, .int .i64 s.arr] segT 4).trans (show _ = some (.string s.t) from rfl)
  clear z1 z2
  unfold ftB
  cases h1 : (s.f.toList == fr.toList) <;> cases h2 : (s.t.toList == tt.toList)
  all_goals
    go_enter Tryz.func71, Tryz.ntmps71
    go_wp2
    go_ret
    exact ⟨rfl, hb0⟩
theorem eg_seg1 : ∀ args w, (callFunc 71 args).run Tryz.prog w = .ok (.enter 71 args) w := enters_of Tryz.func71 (by kernel_rfl) rfl

theorem IdxS.find {p : Sg → Bool} {L : List Sg} {r : Int} (h : IdxS p L r) : (r = -1 ∧ L.find? p = none) ∨ ∃ (k : Nat) (y : Sg), r = (k : Int) ∧ L[k]? = some y ∧ L.find? p = some y := by
  rcases h with ⟨h1, h2⟩ | ⟨k, y, h1, h2, h3, h4⟩
  · exact .inl ⟨h1, List.find?_eq_none.2 (fun x hx => by rw [h2 x hx]; simp)⟩
  · refine .inr ⟨k, y, h1, h2, ?_⟩
    obtain ⟨hlt, rfl⟩ := List.getElem?_eq_some_iff.1 h2
    rw [List.find?_eq_some_iff_getElem]
    refine ⟨h3, k, hlt, rfl, fun j hj => ?_⟩
    rw [h4 j _ hj (List.getElem?_eq_getElem (by omega))]
    rfl
set_option maxRecDepth 100000 in
set_option maxHeartbeats 8000000 in
theorem findS_any (g : Nat) (cb : Array Value) (A : Option Addr) (c : Nat) (L : List Sg) (p : Sg → Bool) (w : World) (eg : ∀ args w, (callFunc g args).run Tryz.prog w = .ok (.enter g args) w) (hl : L.length ≤ 100000)
    (hv : RowL 7 encSg w (.slice A L.length c) L)
    (hf : ∀ (a : Sg) (W : World), a ∈ L → Below w.heap.size w W → Calls Tryz.prog g (#[encS7 a] ++ cb) W fun e w' => e = .returned (.bool (p a)) ∧ Below W.heap.size W w') :
    Calls Tryz.prog 70 #[.slice A L.length c, .func (.func g) #[] cb] w fun e w' => e = .returned (.tuple #[encS7 ((L.find? p).getD sgZ), .bool (L.find? p).isSome]) ∧ Below w.heap.size w w' := by
  have hb0 := bel_alloc w (.cells #[.string noB, .int .i64 0, .int .i64 0, .string noB, .string noB, .int .i64 0, .int .i64 0] segT)
  have hN := heap_alloc_new w (.cells #[.string noB, .int .i64 0, .int .i64 0, .string noB, .string noB, .int .i64 0, .int .i64 0] segT)
  have KI := Lib.hid (indexS_any g cb A c L p (w.alloc (.cells #[.string noB, .int .i64 0, .int .i64 0, .string noB, .string noB, .int .i64 0, .int .i64 0] segT)) eg hl (hv.more hb0) (fun a W ha hb => hf a W ha (hb0.trans (hb.mono hb0.size))))
  have HV := Lib.hid (hv.more hb0)
  have HB0 := Lib.hid hb0
  clear hv hf hb0
  go_enter Tryz.func70, Tryz.ntmps70
  go_upto_region 1 with fail
  generalize hw5 : w.alloc (.cells #[.string noB, .int .i64 0, .int .i64 0, .string noB, .string noB, .int .i64 0, .int .i64 0] segT) = w5 at *
  clear hw5
  have HN := Lib.hid hN
  have HLT5 : Hid (w.heap.size < w5.heap.size) := Lib.hid (lt_of_cell2 hN)
  clear hN
  go_wp2_with (go_at_call 108; refine KI.out.mono ?_; rintro e w1 ⟨r, rfl, hr, hb1⟩; refine Hid.out ?_)
  have hS : SW w5 w1 := hb1
  rcases hr.out.find with ⟨rfl, hfd⟩ | ⟨k, y, rfl, hk, hfd⟩
  · refine Lib.hid ?_
    have HFD := Lib.hid hfd
    clear hfd hr
    go_upto_region 4 with fail
    have hbz := bel_alloc w1 (.cells #[.string noB, .int .i64 0, .int .i64 0, .string noB, .string noB, .int .i64 0, .int .i64 0] segT)
    have hnz := heap_alloc_new w1 (.cells #[.string noB, .int .i64 0, .int .i64 0, .string noB, .string noB, .int .i64 0, .int .i64 0] segT)
    generalize hw6 : w1.alloc (.cells #[.string noB, .int .i64 0, .int .i64 0, .string noB, .string noB, .int .i64 0, .int .i64 0] segT) = w6 at *
    clear hw6
    have l0 := (cell_of_row w6 _ 0 _ _ (0, 0) hnz).trans (show _ = some _ from rfl)
    have l1 := (cell_of_row w6 _ 1 _ _ (0, 0) hnz).trans (show _ = some _ from rfl)
    have l2 := (cell_of_row w6 _ 2 _ _ (0, 0) hnz).trans (show _ = some _ from rfl)
    have l3 := (cell_of_row w6 _ 3 _ _ (0, 0) hnz).trans (show _ = some _ from rfl)
    have l4 := (cell_of_row w6 _ 4 _ _ (0, 0) hnz).trans (show _ = some _ from rfl)
    have l5 := (cell_of_row w6 _ 5 _ _ (0, 0) hnz).trans (show _ = some _ from rfl)
    have l6 := (cell_of_row w6 _ 6 _ _ (0, 0) hnz).trans (show _ = some _ from rfl)
    have hS6 := Below.trans hS (Below.mono hbz hS.size)
    have hx := (Below.block hS6 _ HLT5.out).trans HN.out
    have hwb := HB0.out.trans (Below.mono hS6 HB0.out.size)
    clear hS hS6 hbz hnz hb1
    have n0 := (cell_of_row _ _ 0 _ _ (0, 0) hx).trans (show _ = some _ from rfl)
    have n1 := (cell_of_row _ _ 1 _ _ (0, 0) hx).trans (show _ = some _ from rfl)
    have n2 := (cell_of_row _ _ 2 _ _ (0, 0) hx).trans (show _ = some _ from rfl)
    have n3 := (cell_of_row _ _ 3 _ _ (0, 0) hx).trans (show _ = some _ from rfl)
    have n4 := (cell_of_row _ _ 4 _ _ (0, 0) hx).trans (show _ = some _ from rfl)
    have n5 := (cell_of_row _ _ 5 _ _ (0, 0) hx).trans (show _ = some _ from rfl)
    have n6 := (cell_of_row _ _ 6 _ _ (0, 0) hx).trans (show _ = some _ from rfl)
    have z0 := frozen_of_row _ _ 0 _ _ hx
    have z1 := frozen_of_row _ _ 1 _ _ hx
    have z2 := frozen_of_row _ _ 2 _ _ hx
    have z3 := frozen_of_row _ _ 3 _ _ hx
    have z4 := frozen_of_row _ _ 4 _ _ hx
    have z5 := frozen_of_row _ _ 5 _ _ hx
    have z6 := frozen_of_row _ _ 6 _ _ hx
    have HX2 : Hid (∀ W, W = S7 w6 w.heap.size (.string noB) (.int .i64 0) (.int .i64 0) (.string noB) (.string noB) (.int .i64 0) (.int .i64 0) → W.heap[w.heap.size]? = some (.cells #[.string noB, .int .i64 0, .int .i64 0, .string noB, .string noB, .int .i64 0, .int .i64 0] segT (0, 0)) ∧ Below w.heap.size w W ∧ But w6 W (fun k => k = w.heap.size)) := Lib.hid (fun W h => by rw [h]; exact ⟨S7.heap hx _ _ _ _ _ _ _, hwb.trans ((S7.but _ _ _ _ _ _ _ _ _).below (hwb).size (fun k hk => by omega)), S7.but _ _ _ _ _ _ _ _ _⟩)
    clear hx hwb
    go_wp2
    obtain ⟨hxx, hbb, hbu⟩ := HX2.out _ rfl
    unfold S7 at hxx hbb hbu
    clear HX2
    generalize hWW : ((((((w6.setCell ⟨w.heap.size, 0, none⟩ (.string noB)).setCell ⟨w.heap.size, 1, none⟩ (.int .i64 0)).setCell ⟨w.heap.size, 2, none⟩ (.int .i64 0)).setCell ⟨w.heap.size, 3, none⟩ (.string noB)).setCell ⟨w.heap.size, 4, none⟩ (.string noB)).setCell ⟨w.heap.size, 5, none⟩ (.int .i64 0)).setCell ⟨w.heap.size, 6, none⟩ (.int .i64 0) = WW at *
    clear hWW n0 n1 n2 n3 n4 n5 n6 z0 z1 z2 z3 z4 z5 z6
    have c0 := (cell_of_row WW _ 0 _ _ (0, 0) hxx).trans (show _ = some _ from rfl)
    have c1 := (cell_of_row WW _ 1 _ _ (0, 0) hxx).trans (show _ = some _ from rfl)
    have c2 := (cell_of_row WW _ 2 _ _ (0, 0) hxx).trans (show _ = some _ from rfl)
    have c3 := (cell_of_row WW _ 3 _ _ (0, 0) hxx).trans (show _ = some _ from rfl)
    have c4 := (cell_of_row WW _ 4 _ _ (0, 0) hxx).trans (show _ = some _ from rfl)
    have c5 := (cell_of_row WW _ 5 _ _ (0, 0) hxx).trans (show _ = some _ from rfl)
    have c6 := (cell_of_row WW _ 6 _ _ (0, 0) hxx).trans (show _ = some _ from rfl)
    rw [HFD.out]
    refine bodyPost_ret (v := .tuple #[encS7 sgZ, .bool false]) ?_ rfl ⟨rfl, hbb⟩
    simp [results, Tryz.results70, go_sem, c0, c1, c2, c3, c4, c5, c6, sgZ]
  · refine Lib.hid ?_
    have HFD := Lib.hid hfd
    have hi2 : (k : Int) < (L.length : Int) := by have := (List.getElem?_eq_some_iff.1 hk).1; omega
    obtain ⟨b, o, e1, hbl, hcc⟩ := RowL.at7 (HV.out.more hS) hk
    cases e1
    have d0 := hcc 0 _ rfl
    have d1 := hcc 1 _ rfl
    have d2 := hcc 2 _ rfl
    have d3 := hcc 3 _ rfl
    have d4 := hcc 4 _ rfl
    have d5 := hcc 5 _ rfl
    have d6 := hcc 6 _ rfl
    rw [Nat.add_zero] at d0
    clear hfd hcc hk hbl hr
    go_upto_region 5 with fail
    have hx := (Below.block hS _ HLT5.out).trans HN.out
    have hwb := HB0.out.trans (Below.mono hS HB0.out.size)
    clear hS hb1
    have n0 := (cell_of_row _ _ 0 _ _ (0, 0) hx).trans (show _ = some _ from rfl)
    have n1 := (cell_of_row _ _ 1 _ _ (0, 0) hx).trans (show _ = some _ from rfl)
    have n2 := (cell_of_row _ _ 2 _ _ (0, 0) hx).trans (show _ = some _ from rfl)
    have n3 := (cell_of_row _ _ 3 _ _ (0, 0) hx).trans (show _ = some _ from rfl)
    have n4 := (cell_of_row _ _ 4 _ _ (0, 0) hx).trans (show _ = some _ from rfl)
    have n5 := (cell_of_row _ _ 5 _ _ (0, 0) hx).trans (show _ = some _ from rfl)
    have n6 := (cell_of_row _ _ 6 _ _ (0, 0) hx).trans (show _ = some _ from rfl)
    have z0 := frozen_of_row _ _ 0 _ _ hx
    have z1 := frozen_of_row _ _ 1 _ _ hx
    have z2 := frozen_of_row _ _ 2 _ _ hx
    have z3 := frozen_of_row _ _ 3 _ _ hx
    have z4 := frozen_of_row _ _ 4 _ _ hx
    have z5 := frozen_of_row _ _ 5 _ _ hx
    have z6 := frozen_of_row _ _ 6 _ _ hx
    have HX2 : Hid (∀ W, W = S7 w1 w.heap.size (.string y.car) (.int .i64 y.num) (.int .i64 y.day) (.string y.f) (.string y.t) (.int .i64 y.dep) (.int .i64 y.arr) → W.heap[w.heap.size]? = some (.cells #[.string y.car, .int .i64 y.num, .int .i64 y.day, .string y.f, .string y.t, .int .i64 y.dep, .int .i64 y.arr] segT (0, 0)) ∧ Below w.heap.size w W ∧ But w1 W (fun k => k = w.heap.size)) := Lib.hid (fun W h => by rw [h]; exact ⟨S7.heap hx _ _ _ _ _ _ _, hwb.trans ((S7.but _ _ _ _ _ _ _ _ _).below (hwb).size (fun k hk => by omega)), S7.but _ _ _ _ _ _ _ _ _⟩)
    clear hx hwb
    go_wp2
    obtain ⟨hxx, hbb, hbu⟩ := HX2.out _ rfl
    unfold S7 at hxx hbb hbu
    clear HX2
    generalize hWW : ((((((w1.setCell ⟨w.heap.size, 0, none⟩ (.string y.car)).setCell ⟨w.heap.size, 1, none⟩ (.int .i64 y.num)).setCell ⟨w.heap.size, 2, none⟩ (.int .i64 y.day)).setCell ⟨w.heap.size, 3, none⟩ (.string y.f)).setCell ⟨w.heap.size, 4, none⟩ (.string y.t)).setCell ⟨w.heap.size, 5, none⟩ (.int .i64 y.dep)).setCell ⟨w.heap.size, 6, none⟩ (.int .i64 y.arr) = WW at *
    clear hWW n0 n1 n2 n3 n4 n5 n6 z0 z1 z2 z3 z4 z5 z6
    have c0 := (cell_of_row WW _ 0 _ _ (0, 0) hxx).trans (show _ = some _ from rfl)
    have c1 := (cell_of_row WW _ 1 _ _ (0, 0) hxx).trans (show _ = some _ from rfl)
    have c2 := (cell_of_row WW _ 2 _ _ (0, 0) hxx).trans (show _ = some _ from rfl)
    have c3 := (cell_of_row WW _ 3 _ _ (0, 0) hxx).trans (show _ = some _ from rfl)
    have c4 := (cell_of_row WW _ 4 _ _ (0, 0) hxx).trans (show _ = some _ from rfl)
    have c5 := (cell_of_row WW _ 5 _ _ (0, 0) hxx).trans (show _ = some _ from rfl)
    have c6 := (cell_of_row WW _ 6 _ _ (0, 0) hxx).trans (show _ = some _ from rfl)
    rw [HFD.out]
    refine bodyPost_ret (v := .tuple #[encS7 y, .bool true]) ?_ rfl ⟨rfl, hbb⟩
    simp [results, Tryz.results70, go_sem, c0, c1, c2, c3, c4, c5, c6]

end Go.Proofs.YtdpcjafkahhecaaGreatDoor

/- Walk of Seg of a timetable. -/
namespace Go.Proofs.YtdpcjafkahhecaaGreatDoor
open Go.RowKit Go.Shelf
set_option linter.unusedSimpArgs false
set_option linter.unusedVariables false

/-- places of limited size, with time zones that are right -/
structure OkPl (p : PV) : Prop where
  la : p.l.length ≤ 40
  sh : ∀ a ∈ p.l, a.shs.length ≤ 300
  oz : ∀ a ∈ p.l, OkZ a.off a.shs
/-- flights of limited size -/
structure OkT (fs : List FV) : Prop where
  len : fs.length ≤ 1000
  lg : ∀ f ∈ fs, f.lg.length ≤ 100
  hm : ∀ f ∈ fs, ∀ x ∈ f.lg, (-1000000 ≤ x.dep ∧ x.dep ≤ 1000000) ∧ -1000000 ≤ x.arr ∧ x.arr ≤ 1000000
/-- a segment, or the error -/
def segF (L : List Air) (fs : List FV) (car : ByteArray) (num day : Int) (fr tt : ByteArray) : Int × Sg := match onF fs car num day with
  | none => (7, sgZ)
  | some f => match (segsL (legF L f day)).find? (ftB fr tt) with
    | none => (14, sgZ)
    | some s => (0, s)
theorem segF_none {L : List Air} {fs : List FV} {car : ByteArray} {num day : Int} {fr tt : ByteArray} (h : onF fs car num day = none) : segF L fs car num day fr tt = (7, sgZ) := by unfold segF; rw [h]
theorem segF_miss {L : List Air} {fs : List FV} {car : ByteArray} {num day : Int} {fr tt : ByteArray} {f : FV} (h : onF fs car num day = some f) (h2 : (segsL (legF L f day)).find? (ftB fr tt) = none) : segF L fs car num day fr tt = (14, sgZ) := by unfold segF; rw [h]; simp only [h2]
theorem segF_hit {L : List Air} {fs : List FV} {car : ByteArray} {num day : Int} {fr tt : ByteArray} {f : FV} {s : Sg} (h : onF fs car num day = some f) (h2 : (segsL (legF L f day)).find? (ftB fr tt) = some s) : segF L fs car num day fr tt = (0, s) := by unfold segF; rw [h]; simp only [h2]
theorem segs_len (L : List Air) (f : FV) (day : Int) (h : f.lg.length ≤ 100) : (segsL (legF L f day)).length ≤ 10000 := by
  have h1 := segsI_le (legF L f day) (legF L f day).length
  have h2 : (legF L f day).length ≤ 100 := by
    unfold legF
    split
    · rw [List.length_map]; exact h
    · simp
  have h3 : (legF L f day).length * (legF L f day).length ≤ 100 * 100 := Nat.mul_le_mul h2 h2
  show (segsI (legF L f day) (legF L f day).length).length ≤ 10000
  omega
theorem FV.re_self (f : FV) (A : Option Addr) (c : Nat) : (f.re A c).lg = f.lg := rfl

set_option maxRecDepth 100000 in
set_option maxHeartbeats 8000000 in
theorem seg_any (p : PV) (v : Value) (fs : List FV) (car : ByteArray) (num day : Int) (fr tt : ByteArray) (w : World) (op : fs ≠ [] → OkPl p) (ot : OkT fs) (hL : AirL w p.A p.l) (hv : TblL w v fs) (h0 : -9223372036854775808 ≤ day) (h1 : day ≤ 9223372036854775807) :
    Calls Tryz.prog 43 #[encP p, v, .string car, .int .i64 num, .int .i64 day, .string fr, .string tt] w fun e w' => e = .returned (.tuple #[encS7 (segF p.l fs car num day fr tt).2, .int .i64 (segF p.l fs car num day fr tt).1]) ∧ Below w.heap.size w w' := by
  have hb1 := bel_alloc (w) (.cells #[.slice p.A p.l.length p.ca, .slice p.D p.ds.length p.cd] placesT)
  have hb2 := bel_alloc ((w).alloc (.cells #[.slice p.A p.l.length p.ca, .slice p.D p.ds.length p.cd] placesT)) (.cells #[.string fr] 9)
  have hb3 := bel_alloc (((w).alloc (.cells #[.slice p.A p.l.length p.ca, .slice p.D p.ds.length p.cd] placesT)).alloc (.cells #[.string fr] 9)) (.cells #[.string tt] 9)
  have hb4 := bel_alloc ((((w).alloc (.cells #[.slice p.A p.l.length p.ca, .slice p.D p.ds.length p.cd] placesT)).alloc (.cells #[.string fr] 9)).alloc (.cells #[.string tt] 9)) (.cells #[.string noB, .int .i64 0, .int .i64 0, .string noB, .string noB, .int .i64 0, .int .i64 0] segT)
  have hs4 := hb4
  have hs3 := hb3.trans (hs4.mono hb3.size)
  have hs2 := hb2.trans (hs3.mono hb2.size)
  have hs1 := hb1.trans (hs2.mono hb1.size)
  have p0 := bel_cell hs2 ((cells_new w #[.slice p.A p.l.length p.ca, .slice p.D p.ds.length p.cd] placesT 0).trans (show _ = some (Value.slice p.A p.l.length p.ca) from rfl))
  have p1 := bel_cell hs2 ((cells_new w #[.slice p.A p.l.length p.ca, .slice p.D p.ds.length p.cd] placesT 1).trans (show _ = some (Value.slice p.D p.ds.length p.cd) from rfl))
  have zf := bel_cell hs3 ((cells_new ((w).alloc (.cells #[.slice p.A p.l.length p.ca, .slice p.D p.ds.length p.cd] placesT)) #[.string fr] 9 0).trans (show _ = some (Value.string fr) from rfl))
  have zt := bel_cell hs4 ((cells_new (((w).alloc (.cells #[.slice p.A p.l.length p.ca, .slice p.D p.ds.length p.cd] placesT)).alloc (.cells #[.string fr] 9)) #[.string tt] 9 0).trans (show _ = some (Value.string tt) from rfl))
  have hN := heap_alloc_new ((((w).alloc (.cells #[.slice p.A p.l.length p.ca, .slice p.D p.ds.length p.cd] placesT)).alloc (.cells #[.string fr] 9)).alloc (.cells #[.string tt] 9)) (.cells #[.string noB, .int .i64 0, .int .i64 0, .string noB, .string noB, .int .i64 0, .int .i64 0] segT)
  simp only [World.size_alloc] at zf zt hN
  have HV := Lib.hid (hv.more hs1)
  have HL := Lib.hid (hL.more hs1)
  have HB0 := Lib.hid hs1
  have HOT := Lib.hid ot
  have HOP := Lib.hid op
  have KO := Lib.hid (fun W (h : TblL W v fs) => on_x v fs car num day W h ot.len (fun f hf => Nat.le_trans (ot.lg f hf) (by omega)) h0 h1)
  have KS := Lib.hid (fun (gm : fs ≠ []) (f : FV) W (g1 : AirL W p.A p.l) (g2 : LegL W (.slice f.A f.lg.length f.c) f.lg) (g3 : f.lg.length ≤ 100) (g4 : ∀ x ∈ f.lg, (-1000000 ≤ x.dep ∧ x.dep ≤ 1000000) ∧ -1000000 ≤ x.arr ∧ x.arr ≤ 1000000) => segs_any p f day W (op gm).la g1 (op gm).sh (op gm).oz g2 g3 g4 h0 h1)
  clear hv hL ot op hb1 hb2 hb3 hb4
  go_enter Tryz.func43, Tryz.ntmps43
  go_upto_region 1 with fail
  generalize hw5 : (((((w).alloc (.cells #[.slice p.A p.l.length p.ca, .slice p.D p.ds.length p.cd] placesT)).alloc (.cells #[.string fr] 9)).alloc (.cells #[.string tt] 9)).alloc (.cells #[.string noB, .int .i64 0, .int .i64 0, .string noB, .string noB, .int .i64 0, .int .i64 0] segT)) = w5 at *
  clear hw5
  have f0 := bel_get p0
  have f1 := bel_get p1
  have ff := bel_get zf
  have ft := bel_get zt
  have HN := Lib.hid hN
  have HLT5 : Hid ((w.heap.size + 1 + 1 + 1) < w5.heap.size) := Lib.hid (lt_of_cell2 hN)
  clear p0 p1 hN zf zt hs1 hs2 hs3
  cases ho : onF fs car num day with
  | none =>
    have HX := Lib.hid ho
    rw [ho] at KO
    change Hid (∀ W, TblL W v fs → Calls Tryz.prog 52 _ W (OnX fliZ false W)) at KO
    clear ho
    go_upto_region 2 with (go_at_call 52; refine (KO.out _ HV.out).mono ?_; rintro e w3 ⟨X1, A3, c3, rfl, hX1, hL1, hb3⟩; have hst1 := store_fli hX1 w3; have hsz1 : X1.size = 6 := by rw [hX1.out]; rfl)
    clear hst1 hsz1
    have hb4 := bel_alloc w3 (.cells X1 fliT)
    have hS4 : SW w5 (w3.alloc (.cells X1 fliT)) := hb3.trans (hb4.mono hb3.size)
    generalize hw4 : w3.alloc (.cells X1 fliT) = w4 at *
    clear hw4
    have hx := (Below.block hS4 _ HLT5.out).trans HN.out
    have hwb := HB0.out.trans (Below.mono hS4 HB0.out.size)
    clear hb3 hb4 hS4 hL1
    have n0 := (cell_of_row _ _ 0 _ _ (0, 0) hx).trans (show _ = some _ from rfl)
    have n1 := (cell_of_row _ _ 1 _ _ (0, 0) hx).trans (show _ = some _ from rfl)
    have n2 := (cell_of_row _ _ 2 _ _ (0, 0) hx).trans (show _ = some _ from rfl)
    have n3 := (cell_of_row _ _ 3 _ _ (0, 0) hx).trans (show _ = some _ from rfl)
    have n4 := (cell_of_row _ _ 4 _ _ (0, 0) hx).trans (show _ = some _ from rfl)
    have n5 := (cell_of_row _ _ 5 _ _ (0, 0) hx).trans (show _ = some _ from rfl)
    have n6 := (cell_of_row _ _ 6 _ _ (0, 0) hx).trans (show _ = some _ from rfl)
    have z0 := frozen_of_row _ _ 0 _ _ hx
    have z1 := frozen_of_row _ _ 1 _ _ hx
    have z2 := frozen_of_row _ _ 2 _ _ hx
    have z3 := frozen_of_row _ _ 3 _ _ hx
    have z4 := frozen_of_row _ _ 4 _ _ hx
    have z5 := frozen_of_row _ _ 5 _ _ hx
    have z6 := frozen_of_row _ _ 6 _ _ hx
    have HX2 : Hid (∀ W, W = S7 w4 (w.heap.size + 1 + 1 + 1) (.string noB) (.int .i64 0) (.int .i64 0) (.string noB) (.string noB) (.int .i64 0) (.int .i64 0) → W.heap[(w.heap.size + 1 + 1 + 1)]? = some (.cells #[.string noB, .int .i64 0, .int .i64 0, .string noB, .string noB, .int .i64 0, .int .i64 0] segT (0, 0)) ∧ Below w.heap.size w W ∧ But w4 W (fun k => k = (w.heap.size + 1 + 1 + 1))) := Lib.hid (fun W h => by rw [h]; exact ⟨S7.heap hx _ _ _ _ _ _ _, hwb.trans ((S7.but _ _ _ _ _ _ _ _ _).below (hwb).size (fun k hk => by omega)), S7.but _ _ _ _ _ _ _ _ _⟩)
    clear hx hwb
    go_wp2
    obtain ⟨hxx, hbb, hbu⟩ := HX2.out _ rfl
    unfold S7 at hxx hbb hbu
    clear HX2
    generalize hWW : ((((((w4.setCell ⟨(w.heap.size + 1 + 1 + 1), 0, none⟩ (.string noB)).setCell ⟨(w.heap.size + 1 + 1 + 1), 1, none⟩ (.int .i64 0)).setCell ⟨(w.heap.size + 1 + 1 + 1), 2, none⟩ (.int .i64 0)).setCell ⟨(w.heap.size + 1 + 1 + 1), 3, none⟩ (.string noB)).setCell ⟨(w.heap.size + 1 + 1 + 1), 4, none⟩ (.string noB)).setCell ⟨(w.heap.size + 1 + 1 + 1), 5, none⟩ (.int .i64 0)).setCell ⟨(w.heap.size + 1 + 1 + 1), 6, none⟩ (.int .i64 0) = WW at *
    clear hWW n0 n1 n2 n3 n4 n5 n6 z0 z1 z2 z3 z4 z5 z6
    have c0 := (cell_of_row WW _ 0 _ _ (0, 0) hxx).trans (show _ = some _ from rfl)
    have c1 := (cell_of_row WW _ 1 _ _ (0, 0) hxx).trans (show _ = some _ from rfl)
    have c2 := (cell_of_row WW _ 2 _ _ (0, 0) hxx).trans (show _ = some _ from rfl)
    have c3 := (cell_of_row WW _ 3 _ _ (0, 0) hxx).trans (show _ = some _ from rfl)
    have c4 := (cell_of_row WW _ 4 _ _ (0, 0) hxx).trans (show _ = some _ from rfl)
    have c5 := (cell_of_row WW _ 5 _ _ (0, 0) hxx).trans (show _ = some _ from rfl)
    have c6 := (cell_of_row WW _ 6 _ _ (0, 0) hxx).trans (show _ = some _ from rfl)
    rw [segF_none HX.out]
    refine bodyPost_ret (v := .tuple #[encS7 sgZ, .int .i64 7]) ?_ rfl ⟨rfl, hbb⟩
    simp [results, Tryz.results43, go_sem, c0, c1, c2, c3, c4, c5, c6, sgZ]
  | some f =>
    have hfm := List.mem_of_find?_eq_some ho
    have HFM := Lib.hid hfm
    clear hfm
    have HX := Lib.hid ho
    rw [ho] at KO
    change Hid (∀ W, TblL W v fs → Calls Tryz.prog 52 _ W (OnX f true W)) at KO
    clear ho
    go_upto_region 2 with (go_at_call 52; refine (KO.out _ HV.out).mono ?_; rintro e w3 ⟨X1, A3, c3, rfl, hX1, hL1, hb3⟩; have hst1 := store_fli hX1 w3; have hsz1 : X1.size = 6 := by rw [hX1.out]; rfl)
    clear hst1 hsz1
    have hb4 := bel_alloc w3 (.cells X1 fliT)
    have hS4 : SW w5 (w3.alloc (.cells X1 fliT)) := hb3.trans (hb4.mono hb3.size)
    have n0 := (cells_new w3 X1 fliT 0).trans (show X1[0]? = some (Value.string f.car) by rw [hX1.out]; rfl)
    have n1 := (cells_new w3 X1 fliT 1).trans (show X1[1]? = some (Value.int .i64 f.num) by rw [hX1.out]; rfl)
    have n2 := (cells_new w3 X1 fliT 2).trans (show X1[2]? = some (Value.int .i64 f.pf) by rw [hX1.out]; rfl)
    have n3 := (cells_new w3 X1 fliT 3).trans (show X1[3]? = some (Value.int .i64 f.pt) by rw [hX1.out]; rfl)
    have n4 := (cells_new w3 X1 fliT 4).trans (show X1[4]? = some (Value.int .i64 f.pd) by rw [hX1.out]; rfl)
    have n5 := (cells_new w3 X1 fliT 5).trans (show X1[5]? = some (Value.slice A3 f.lg.length c3) by rw [hX1.out]; rfl)
    have HL4 := Lib.hid (hL1.more hb4)
    generalize hw4 : w3.alloc (.cells X1 fliT) = w4 at *
    clear hw4 hb3 hb4 hL1
    have y0 := f0 _ hS4
    have y1 := f1 _ hS4
    have KS2 := Lib.hid (KS.out (List.ne_nil_of_mem HFM.out) (f.re A3 c3) w4 (HL.out.more hS4) HL4.out (HOT.out.lg f HFM.out) (HOT.out.hm f HFM.out))
    change Hid (Calls Tryz.prog _ _ w4 (fun e w' => ∃ v, e = .returned (.tuple #[v, .int .i64 (legE f day)]) ∧ ROwn segT 7 encSg w4.heap.size w' v (segsL (legF p.l f day)) ∧ Below w4.heap.size w4 w')) at KS2
    obtain ⟨L, hLs⟩ : ∃ L, L = segsL (legF p.l f day) := ⟨_, rfl⟩
    have HLs := Lib.hid hLs
    have hLn : L.length ≤ 10000 := by rw [hLs]; exact segs_len _ _ _ (HOT.out.lg f HFM.out)
    rw [← hLs] at KS2
    clear hLs KO KS
    generalize legE f day = le0 at KS2
    go_upto_region 5 with (go_at_call 49; refine KS2.out.mono ?_; rintro e w6 ⟨v6, rfl, hO6, hb6⟩)
    have hS6 : SW w5 w6 := Below.trans hS4 (Below.mono hb6 hS4.size)
    obtain ⟨A6, c6, rfl, hV6'⟩ := hO6.rowL rtG.len
    have hV6 : RowL 7 encSg w6 (.slice A6 L.length c6) L := ⟨A6, c6, rfl, hV6'⟩
    have HV6 := Lib.hid hV6
    clear n0 n1 n2 n3 n4 n5 y0 y1 hV6' hV6 hO6 hb6 KS2
    obtain ⟨s0, hs0⟩ : ∃ s, s = (L.find? (ftB fr tt)).getD sgZ := ⟨_, rfl⟩
    obtain ⟨b0, hb0⟩ : ∃ s, s = (L.find? (ftB fr tt)).isSome := ⟨_, rfl⟩
    have HR : Hid ((b0 = false → segF p.l fs car num day fr tt = (14, sgZ)) ∧ (b0 = true → segF p.l fs car num day fr tt = (0, s0))) := Lib.hid (by
      cases hfd : L.find? (ftB fr tt) with
      | none => rw [hfd] at hb0; exact ⟨fun _ => segF_miss HX.out (by rw [← HLs.out]; exact hfd), fun h => (by rw [hb0] at h; cases h)⟩
      | some s => rw [hfd] at hs0 hb0; rw [hs0]; exact ⟨fun h => (by rw [hb0] at h; cases h), fun _ => segF_hit HX.out (by rw [← HLs.out]; exact hfd)⟩)
    have KF := Lib.hid (findS_any 71 #[.pointer (some ⟨w.heap.size + 1, 0, none⟩), .pointer (some ⟨w.heap.size + 1 + 1, 0, none⟩)] A6 c6 L (ftB fr tt) w6 eg_seg1 (by omega) HV6.out (fun a W ha hb => seg1_any a fr tt _ _ W (ff W (Below.trans hS6 (Below.mono hb hS6.size))) (ft W (Below.trans hS6 (Below.mono hb hS6.size)))))
    rw [← hs0, ← hb0] at KF
    clear hs0 hb0
    go_upto_region 6 with (go_at_call 70; refine KF.out.mono ?_; rintro e w7 ⟨rfl, hb7⟩)
    have hS7 : SW w5 w7 := Below.trans hS6 (Below.mono hb7 hS6.size)
    have hb8 := bel_alloc w7 (.cells #[.string s0.car, .int .i64 s0.num, .int .i64 s0.day, .string s0.f, .string s0.t, .int .i64 s0.dep, .int .i64 s0.arr] segT)
    have hx8 := heap_alloc_new w7 (.cells #[.string s0.car, .int .i64 s0.num, .int .i64 s0.day, .string s0.f, .string s0.t, .int .i64 s0.dep, .int .i64 s0.arr] segT)
    generalize hw8 : w7.alloc (.cells #[.string s0.car, .int .i64 s0.num, .int .i64 s0.day, .string s0.f, .string s0.t, .int .i64 s0.dep, .int .i64 s0.arr] segT) = w8 at *
    clear hw8
    have e0 := (cell_of_row w8 _ 0 _ _ (0, 0) hx8).trans (show _ = some (Value.string s0.car) from rfl)
    have e1 := (cell_of_row w8 _ 1 _ _ (0, 0) hx8).trans (show _ = some (Value.int .i64 s0.num) from rfl)
    have e2 := (cell_of_row w8 _ 2 _ _ (0, 0) hx8).trans (show _ = some (Value.int .i64 s0.day) from rfl)
    have e3 := (cell_of_row w8 _ 3 _ _ (0, 0) hx8).trans (show _ = some (Value.string s0.f) from rfl)
    have e4 := (cell_of_row w8 _ 4 _ _ (0, 0) hx8).trans (show _ = some (Value.string s0.t) from rfl)
    have e5 := (cell_of_row w8 _ 5 _ _ (0, 0) hx8).trans (show _ = some (Value.int .i64 s0.dep) from rfl)
    have e6 := (cell_of_row w8 _ 6 _ _ (0, 0) hx8).trans (show _ = some (Value.int .i64 s0.arr) from rfl)
    have hS8 : SW w5 w8 := Below.trans hS7 (Below.mono hb8 hS7.size)
    have hx := (Below.block hS8 _ HLT5.out).trans HN.out
    have hwb := HB0.out.trans (Below.mono hS8 HB0.out.size)
    clear hb7 hb8 hx8 hS6 hS7 hS8 KF
    cases b0 with
    | false =>
      have HR2 := HR.out.1 rfl
      have HR3 := Lib.hid HR2
      clear HR HR2
      have n0 := (cell_of_row _ _ 0 _ _ (0, 0) hx).trans (show _ = some _ from rfl)
      have n1 := (cell_of_row _ _ 1 _ _ (0, 0) hx).trans (show _ = some _ from rfl)
      have n2 := (cell_of_row _ _ 2 _ _ (0, 0) hx).trans (show _ = some _ from rfl)
      have n3 := (cell_of_row _ _ 3 _ _ (0, 0) hx).trans (show _ = some _ from rfl)
      have n4 := (cell_of_row _ _ 4 _ _ (0, 0) hx).trans (show _ = some _ from rfl)
      have n5 := (cell_of_row _ _ 5 _ _ (0, 0) hx).trans (show _ = some _ from rfl)
      have n6 := (cell_of_row _ _ 6 _ _ (0, 0) hx).trans (show _ = some _ from rfl)
      have z0 := frozen_of_row _ _ 0 _ _ hx
      have z1 := frozen_of_row _ _ 1 _ _ hx
      have z2 := frozen_of_row _ _ 2 _ _ hx
      have z3 := frozen_of_row _ _ 3 _ _ hx
      have z4 := frozen_of_row _ _ 4 _ _ hx
      have z5 := frozen_of_row _ _ 5 _ _ hx
      have z6 := frozen_of_row _ _ 6 _ _ hx
      have HX2 : Hid (∀ W, W = S7 w8 (w.heap.size + 1 + 1 + 1) (.string noB) (.int .i64 0) (.int .i64 0) (.string noB) (.string noB) (.int .i64 0) (.int .i64 0) → W.heap[(w.heap.size + 1 + 1 + 1)]? = some (.cells #[.string noB, .int .i64 0, .int .i64 0, .string noB, .string noB, .int .i64 0, .int .i64 0] segT (0, 0)) ∧ Below w.heap.size w W ∧ But w8 W (fun k => k = (w.heap.size + 1 + 1 + 1))) := Lib.hid (fun W h => by rw [h]; exact ⟨S7.heap hx _ _ _ _ _ _ _, hwb.trans ((S7.but _ _ _ _ _ _ _ _ _).below (hwb).size (fun k hk => by omega)), S7.but _ _ _ _ _ _ _ _ _⟩)
      clear hx hwb
      go_wp2
      obtain ⟨hxx, hbb, hbu⟩ := HX2.out _ rfl
      unfold S7 at hxx hbb hbu
      clear HX2
      generalize hWW : ((((((w8.setCell ⟨(w.heap.size + 1 + 1 + 1), 0, none⟩ (.string noB)).setCell ⟨(w.heap.size + 1 + 1 + 1), 1, none⟩ (.int .i64 0)).setCell ⟨(w.heap.size + 1 + 1 + 1), 2, none⟩ (.int .i64 0)).setCell ⟨(w.heap.size + 1 + 1 + 1), 3, none⟩ (.string noB)).setCell ⟨(w.heap.size + 1 + 1 + 1), 4, none⟩ (.string noB)).setCell ⟨(w.heap.size + 1 + 1 + 1), 5, none⟩ (.int .i64 0)).setCell ⟨(w.heap.size + 1 + 1 + 1), 6, none⟩ (.int .i64 0) = WW at *
      clear hWW n0 n1 n2 n3 n4 n5 n6 z0 z1 z2 z3 z4 z5 z6
      have c0 := (cell_of_row WW _ 0 _ _ (0, 0) hxx).trans (show _ = some _ from rfl)
      have c1 := (cell_of_row WW _ 1 _ _ (0, 0) hxx).trans (show _ = some _ from rfl)
      have c2 := (cell_of_row WW _ 2 _ _ (0, 0) hxx).trans (show _ = some _ from rfl)
      have c3 := (cell_of_row WW _ 3 _ _ (0, 0) hxx).trans (show _ = some _ from rfl)
      have c4 := (cell_of_row WW _ 4 _ _ (0, 0) hxx).trans (show _ = some _ from rfl)
      have c5 := (cell_of_row WW _ 5 _ _ (0, 0) hxx).trans (show _ = some _ from rfl)
      have c6 := (cell_of_row WW _ 6 _ _ (0, 0) hxx).trans (show _ = some _ from rfl)
      rw [HR3.out]
      refine bodyPost_ret (v := .tuple #[encS7 sgZ, .int .i64 14]) ?_ rfl ⟨rfl, hbb⟩
      simp [results, Tryz.results43, go_sem, c0, c1, c2, c3, c4, c5, c6, sgZ]
    | true =>
      have HR2 := HR.out.2 rfl
      have HR3 := Lib.hid HR2
      clear HR HR2
      have n0 := (cell_of_row _ _ 0 _ _ (0, 0) hx).trans (show _ = some _ from rfl)
      have n1 := (cell_of_row _ _ 1 _ _ (0, 0) hx).trans (show _ = some _ from rfl)
      have n2 := (cell_of_row _ _ 2 _ _ (0, 0) hx).trans (show _ = some _ from rfl)
      have n3 := (cell_of_row _ _ 3 _ _ (0, 0) hx).trans (show _ = some _ from rfl)
      have n4 := (cell_of_row _ _ 4 _ _ (0, 0) hx).trans (show _ = some _ from rfl)
      have n5 := (cell_of_row _ _ 5 _ _ (0, 0) hx).trans (show _ = some _ from rfl)
      have n6 := (cell_of_row _ _ 6 _ _ (0, 0) hx).trans (show _ = some _ from rfl)
      have z0 := frozen_of_row _ _ 0 _ _ hx
      have z1 := frozen_of_row _ _ 1 _ _ hx
      have z2 := frozen_of_row _ _ 2 _ _ hx
      have z3 := frozen_of_row _ _ 3 _ _ hx
      have z4 := frozen_of_row _ _ 4 _ _ hx
      have z5 := frozen_of_row _ _ 5 _ _ hx
      have z6 := frozen_of_row _ _ 6 _ _ hx
      have HX2 : Hid (∀ W, W = S7 w8 (w.heap.size + 1 + 1 + 1) (.string s0.car) (.int .i64 s0.num) (.int .i64 s0.day) (.string s0.f) (.string s0.t) (.int .i64 s0.dep) (.int .i64 s0.arr) → W.heap[(w.heap.size + 1 + 1 + 1)]? = some (.cells #[.string s0.car, .int .i64 s0.num, .int .i64 s0.day, .string s0.f, .string s0.t, .int .i64 s0.dep, .int .i64 s0.arr] segT (0, 0)) ∧ Below w.heap.size w W ∧ But w8 W (fun k => k = (w.heap.size + 1 + 1 + 1))) := Lib.hid (fun W h => by rw [h]; exact ⟨S7.heap hx _ _ _ _ _ _ _, hwb.trans ((S7.but _ _ _ _ _ _ _ _ _).below (hwb).size (fun k hk => by omega)), S7.but _ _ _ _ _ _ _ _ _⟩)
      clear hx hwb
      go_wp2
      obtain ⟨hxx, hbb, hbu⟩ := HX2.out _ rfl
      unfold S7 at hxx hbb hbu
      clear HX2
      generalize hWW : ((((((w8.setCell ⟨(w.heap.size + 1 + 1 + 1), 0, none⟩ (.string s0.car)).setCell ⟨(w.heap.size + 1 + 1 + 1), 1, none⟩ (.int .i64 s0.num)).setCell ⟨(w.heap.size + 1 + 1 + 1), 2, none⟩ (.int .i64 s0.day)).setCell ⟨(w.heap.size + 1 + 1 + 1), 3, none⟩ (.string s0.f)).setCell ⟨(w.heap.size + 1 + 1 + 1), 4, none⟩ (.string s0.t)).setCell ⟨(w.heap.size + 1 + 1 + 1), 5, none⟩ (.int .i64 s0.dep)).setCell ⟨(w.heap.size + 1 + 1 + 1), 6, none⟩ (.int .i64 s0.arr) = WW at *
      clear hWW n0 n1 n2 n3 n4 n5 n6 z0 z1 z2 z3 z4 z5 z6
      have c0 := (cell_of_row WW _ 0 _ _ (0, 0) hxx).trans (show _ = some _ from rfl)
      have c1 := (cell_of_row WW _ 1 _ _ (0, 0) hxx).trans (show _ = some _ from rfl)
      have c2 := (cell_of_row WW _ 2 _ _ (0, 0) hxx).trans (show _ = some _ from rfl)
      have c3 := (cell_of_row WW _ 3 _ _ (0, 0) hxx).trans (show _ = some _ from rfl)
      have c4 := (cell_of_row WW _ 4 _ _ (0, 0) hxx).trans (show _ = some _ from rfl)
      have c5 := (cell_of_row WW _ 5 _ _ (0, 0) hxx).trans (show _ = some _ from rfl)
      have c6 := (cell_of_row WW _ 6 _ _ (0, 0) hxx).trans (show _ = some _ from rfl)
      rw [HR3.out]
      refine bodyPost_ret (v := .tuple #[encS7 s0, .int .i64 0]) ?_ rfl ⟨rfl, hbb⟩
      simp [results, Tryz.results43, go_sem, c0, c1, c2, c3, c4, c5, c6]

end Go.Proofs.YtdpcjafkahhecaaGreatDoor
