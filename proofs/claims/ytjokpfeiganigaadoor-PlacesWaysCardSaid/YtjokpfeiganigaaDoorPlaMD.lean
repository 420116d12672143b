/- Walks of the laws PlacesMiles and PlacesWays. -/
import Derived.Test.YtjokpfeiganigaaDoorPlaX
import Derived.Test.YtjokpfeiganigaaDoorPlaMC
namespace Go.Proofs.YtjokpfeiganigaaDoor
open Go.RowKit Go.Shelf
set_option linter.unusedSimpArgs false
set_option linter.unusedVariables false

set_option maxRecDepth 100000 in
set_option maxHeartbeats 8000000 in
theorem placesMiles_walk (p : PV) (sA sB : ByteArray) (w : World) (hL : PlL w p) (hA : ∀ a ∈ p.l, OkA a) (hD : ∀ d ∈ p.ds, OkD d) (h1 : p.l.length < 9223372036854775808) (h2 : p.ds.length < 9223372036854775808) (zA : sA.size ≤ maxLen) (zB : sB.size ≤ maxLen) :
    Calls Tryd.prog 5 #[encP p, .string sA, .string sB] w fun e w' => e = .returned (.bool true) ∧ Below w.heap.size w w' := by
  have hb0 := bel_alloc w (.cells #[.slice p.A p.l.length p.ca, .slice p.D p.ds.length p.cd] placesT)
  have q0 := (cells_new w #[.slice p.A p.l.length p.ca, .slice p.D p.ds.length p.cd] placesT 0).trans (show _ = some _ from rfl)
  have q1 := (cells_new w #[.slice p.A p.l.length p.ca, .slice p.D p.ds.length p.cd] placesT 1).trans (show _ = some _ from rfl)
  have hL5 := hL.more hb0
  have y0 : ∀ W, SW (w.alloc (.cells #[.slice p.A p.l.length p.ca, .slice p.D p.ds.length p.cd] placesT)) W → W.cell? ⟨w.heap.size, 0, none⟩ = some (.slice p.A p.l.length p.ca) := bel_get q0
  have y1 : ∀ W, SW (w.alloc (.cells #[.slice p.A p.l.length p.ca, .slice p.D p.ds.length p.cd] placesT)) W → W.cell? ⟨w.heap.size, 1, none⟩ = some (.slice p.D p.ds.length p.cd) := bel_get q1
  have KS : Hid (∀ W, SW (w.alloc (.cells #[.slice p.A p.l.length p.ca, .slice p.D p.ds.length p.cd] placesT)) W → Calls Tryd.prog 10 #[.agg #[.slice p.A p.l.length p.ca, .slice p.D p.ds.length p.cd]] W fun e w' => e = .returned (.bool (smallB p)) ∧ SW (w.alloc (.cells #[.slice p.A p.l.length p.ca, .slice p.D p.ds.length p.cd] placesT)) w') := Lib.hid (SW.call (w5 := (w.alloc (.cells #[.slice p.A p.l.length p.ca, .slice p.D p.ds.length p.cd] placesT))) (fun W hW => small_any p W (hL5.more hW).air h1 h2 (fun a ha => (hA a ha).len)))
  have KW := Lib.hid (SW.call (w5 := (w.alloc (.cells #[.slice p.A p.l.length p.ca, .slice p.D p.ds.length p.cd] placesT))) (fun W hW => awake_any W))
  have hS : SW (w.alloc (.cells #[.slice p.A p.l.length p.ca, .slice p.D p.ds.length p.cd] placesT)) (w.alloc (.cells #[.slice p.A p.l.length p.ca, .slice p.D p.ds.length p.cd] placesT)) := Below.refl _ _
  cases hs : smallB p
  case false =>
    rw [hs] at KS
    clear hs hL hL5
    go_enter Tryd.func5, Tryd.ntmps5
    go_wp2_with (first
      | (go_at_call 10; with_reducible refine (KS.out _ hS).mono ?_)
      | (go_at_call 11; with_reducible refine (KW.out _ hS).mono ?_)
      | (with_reducible rintro e w' ⟨rfl, hS⟩))
    go_ret
    exact ⟨rfl, hb0.trans (Below.mono hS hb0.size)⟩
  rw [hs] at KS
  simp only [smallB, Bool.and_eq_true, decide_eq_true_eq] at hs
  have ok : OkP p := ⟨hA, hD, hs.1.1, hs.1.2⟩
  have K1 : Hid (∀ W, SW (w.alloc (.cells #[.slice p.A p.l.length p.ca, .slice p.D p.ds.length p.cd] placesT)) W → Calls Tryd.prog 22 #[.agg #[.slice p.A p.l.length p.ca, .slice p.D p.ds.length p.cd], .string sA, .string sB] W fun e w' => e = .returned (.tuple #[.int .i64 (milesP p.l (edgs p.ds) sA sB).1, .int .i64 (milesP p.l (edgs p.ds) sA sB).2]) ∧ SW (w.alloc (.cells #[.slice p.A p.l.length p.ca, .slice p.D p.ds.length p.cd] placesT)) w') :=
    Lib.hid (SW.call (fun W hW => (miles_any p sA sB W ok (hL5.more hW) zA zB).mono (by rintro e w' ⟨rfl, h, _⟩; exact ⟨rfl, h⟩)))
  have K2 : Hid (∀ W, SW (w.alloc (.cells #[.slice p.A p.l.length p.ca, .slice p.D p.ds.length p.cd] placesT)) W → Calls Tryd.prog 23 #[.agg #[.slice p.A p.l.length p.ca, .slice p.D p.ds.length p.cd], .string sA, .string sB] W fun e w' => e = .returned (.tuple #[.int .i64 (milesP p.l (edgs p.ds) sA sB).1, .int .i64 (milesP p.l (edgs p.ds) sA sB).2]) ∧ SW (w.alloc (.cells #[.slice p.A p.l.length p.ca, .slice p.D p.ds.length p.cd] placesT)) w') :=
    Lib.hid (SW.call (fun W hW => rmiles_any p sA sB W ok (hL5.more hW)))
  clear hs hL hL5 h1 h2 hA hD
  generalize (milesP p.l (edgs p.ds) sA sB).1 = n at *
  generalize (milesP p.l (edgs p.ds) sA sB).2 = e0 at *
  go_enter Tryd.func5, Tryd.ntmps5
  go_wp2_with (first
    | (go_at_call 10; with_reducible refine (KS.out _ hS).mono ?_)
    | (go_at_call 11; with_reducible refine (KW.out _ hS).mono ?_)
    | (go_at_call 22; with_reducible refine (K1.out _ hS).mono ?_)
    | (go_at_call 23; with_reducible refine (K2.out _ hS).mono ?_)
    | (with_reducible rintro e w' ⟨rfl, hS⟩; have v0 := y0 _ hS; have v1 := y1 _ hS))
  go_ret
  exact ⟨rfl, hb0.trans (Below.mono hS hb0.size)⟩

set_option maxRecDepth 100000 in
set_option maxHeartbeats 8000000 in
theorem placesWays_walk (p : PV) (v : Value) (ss : List ByteArray) (w : World) (hL : PlL w p) (hA : ∀ a ∈ p.l, OkA a) (hD : ∀ d ∈ p.ds, OkD d) (h1 : p.l.length < 9223372036854775808) (h2 : p.ds.length < 9223372036854775808) (hv : StrL w v ss) (hvs : ∀ s ∈ ss, s.size ≤ maxLen) (h3 : ss.length < 9223372036854775808) :
    Calls Tryd.prog 7 #[encP p, v] w fun e w' => e = .returned (.bool true) ∧ Below w.heap.size w w' := by
  have hv0 := hv
  obtain ⟨Av, cv, rfl, hcells⟩ := hv
  have hb0 := bel_alloc w (.cells #[.slice p.A p.l.length p.ca, .slice p.D p.ds.length p.cd] placesT)
  have q0 := (cells_new w #[.slice p.A p.l.length p.ca, .slice p.D p.ds.length p.cd] placesT 0).trans (show _ = some _ from rfl)
  have q1 := (cells_new w #[.slice p.A p.l.length p.ca, .slice p.D p.ds.length p.cd] placesT 1).trans (show _ = some _ from rfl)
  have hL5 := hL.more hb0
  have hv5 := hv0.more hb0
  have y0 : ∀ W, SW (w.alloc (.cells #[.slice p.A p.l.length p.ca, .slice p.D p.ds.length p.cd] placesT)) W → W.cell? ⟨w.heap.size, 0, none⟩ = some (.slice p.A p.l.length p.ca) := bel_get q0
  have y1 : ∀ W, SW (w.alloc (.cells #[.slice p.A p.l.length p.ca, .slice p.D p.ds.length p.cd] placesT)) W → W.cell? ⟨w.heap.size, 1, none⟩ = some (.slice p.D p.ds.length p.cd) := bel_get q1
  have KS : Hid (∀ W, SW (w.alloc (.cells #[.slice p.A p.l.length p.ca, .slice p.D p.ds.length p.cd] placesT)) W → Calls Tryd.prog 10 #[.agg #[.slice p.A p.l.length p.ca, .slice p.D p.ds.length p.cd]] W fun e w' => e = .returned (.bool (smallB p)) ∧ SW (w.alloc (.cells #[.slice p.A p.l.length p.ca, .slice p.D p.ds.length p.cd] placesT)) w') := Lib.hid (SW.call (w5 := (w.alloc (.cells #[.slice p.A p.l.length p.ca, .slice p.D p.ds.length p.cd] placesT))) (fun W hW => small_any p W (hL5.more hW).air h1 h2 (fun a ha => (hA a ha).len)))
  have KW := Lib.hid (SW.call (w5 := (w.alloc (.cells #[.slice p.A p.l.length p.ca, .slice p.D p.ds.length p.cd] placesT))) (fun W hW => awake_any W))
  have hS : SW (w.alloc (.cells #[.slice p.A p.l.length p.ca, .slice p.D p.ds.length p.cd] placesT)) (w.alloc (.cells #[.slice p.A p.l.length p.ca, .slice p.D p.ds.length p.cd] placesT)) := Below.refl _ _
  cases hs : smallB p
  case false =>
    rw [hs] at KS
    clear hs hL hL5 hv0 hv5 hcells
    go_enter Tryd.func7, Tryd.ntmps7
    go_wp2_with (first
      | (go_at_call 10; with_reducible refine (KS.out _ hS).mono ?_)
      | (go_at_call 11; with_reducible refine (KW.out _ hS).mono ?_)
      | (with_reducible rintro e w' ⟨rfl, hS⟩))
    go_ret
    exact ⟨rfl, hb0.trans (Below.mono hS hb0.size)⟩
  rw [hs] at KS
  by_cases h12 : ss.length ≤ 12
  case neg =>
    have i1 : (12 : Int) < (ss.length : Int) := by omega
    clear hs hL hL5 hv0 hv5 hcells
    go_enter Tryd.func7, Tryd.ntmps7
    go_wp2_with (first
      | (go_at_call 10; with_reducible refine (KS.out _ hS).mono ?_)
      | (go_at_call 11; with_reducible refine (KW.out _ hS).mono ?_)
      | (with_reducible rintro e w' ⟨rfl, hS⟩))
    go_ret
    exact ⟨rfl, hb0.trans (Below.mono hS hb0.size)⟩
  have i1 : ¬ (12 : Int) < (ss.length : Int) := by omega
  simp only [smallB, Bool.and_eq_true, decide_eq_true_eq] at hs
  have ok : OkP p := ⟨hA, hD, hs.1.1, hs.1.2⟩
  have K1 : Hid (∀ W, SW (w.alloc (.cells #[.slice p.A p.l.length p.ca, .slice p.D p.ds.length p.cd] placesT)) W → Calls Tryd.prog 24 #[.agg #[.slice p.A p.l.length p.ca, .slice p.D p.ds.length p.cd], .slice Av ss.length cv] W fun e w' => e = .returned (.tuple #[.int .i64 (wayP (milesP p.l (edgs p.ds)) ss).1, .int .i64 (wayP (milesP p.l (edgs p.ds)) ss).2]) ∧ SW (w.alloc (.cells #[.slice p.A p.l.length p.ca, .slice p.D p.ds.length p.cd] placesT)) w') :=
    Lib.hid (SW.call (fun W hW => way_any p _ ss W ok (hL5.more hW) (hv5.more hW) hvs h12))
  have K2 : Hid (∀ W, SW (w.alloc (.cells #[.slice p.A p.l.length p.ca, .slice p.D p.ds.length p.cd] placesT)) W → Calls Tryd.prog 25 #[.agg #[.slice p.A p.l.length p.ca, .slice p.D p.ds.length p.cd], .slice Av ss.length cv] W fun e w' => e = .returned (.tuple #[.int .i64 (wayP (milesP p.l (edgs p.ds)) ss).1, .int .i64 (wayP (milesP p.l (edgs p.ds)) ss).2]) ∧ SW (w.alloc (.cells #[.slice p.A p.l.length p.ca, .slice p.D p.ds.length p.cd] placesT)) w') :=
    Lib.hid (SW.call (fun W hW => rway_any p _ ss W ok (hL5.more hW) (hv5.more hW) hvs h12))
  by_cases hq : (wayP (milesP p.l (edgs p.ds)) ss).2 = 0 ∧ 2 ≤ ss.length
  case neg =>
    rcases Nat.lt_or_ge ss.length 2 with hlt | hge
    · have i2 : (ss.length : Int) < 2 := by omega
      clear hs hL hL5 h1 h2 hA hD hv0 hv5 hcells hq
      generalize (wayP (milesP p.l (edgs p.ds)) ss).1 = n at *
      generalize (wayP (milesP p.l (edgs p.ds)) ss).2 = e0 at *
      by_cases he : e0 = 0
      · subst he
        go_enter Tryd.func7, Tryd.ntmps7
        go_wp2_with (first
          | (go_at_call 10; with_reducible refine (KS.out _ hS).mono ?_)
          | (go_at_call 11; with_reducible refine (KW.out _ hS).mono ?_)
          | (go_at_call 24; with_reducible refine (K1.out _ hS).mono ?_)
          | (go_at_call 25; with_reducible refine (K2.out _ hS).mono ?_)
          | (with_reducible rintro e w' ⟨rfl, hS⟩; have v0 := y0 _ hS; have v1 := y1 _ hS))
        go_ret
        exact ⟨rfl, hb0.trans (Below.mono hS hb0.size)⟩
      · have hbe : (e0 != 0) = true := by simp [he]
        clear he
        go_enter Tryd.func7, Tryd.ntmps7
        go_wp2_with (first
          | (go_at_call 10; with_reducible refine (KS.out _ hS).mono ?_)
          | (go_at_call 11; with_reducible refine (KW.out _ hS).mono ?_)
          | (go_at_call 24; with_reducible refine (K1.out _ hS).mono ?_)
          | (go_at_call 25; with_reducible refine (K2.out _ hS).mono ?_)
          | (with_reducible rintro e w' ⟨rfl, hS⟩; have v0 := y0 _ hS; have v1 := y1 _ hS))
        go_ret
        exact ⟨rfl, hb0.trans (Below.mono hS hb0.size)⟩
    · have he : (wayP (milesP p.l (edgs p.ds)) ss).2 ≠ 0 := fun h => hq ⟨h, hge⟩
      clear hs hL hL5 h1 h2 hA hD hv0 hv5 hcells hq
      generalize (wayP (milesP p.l (edgs p.ds)) ss).1 = n at *
      generalize (wayP (milesP p.l (edgs p.ds)) ss).2 = e0 at *
      have hbe : (e0 != 0) = true := by simp [he]
      clear he
      go_enter Tryd.func7, Tryd.ntmps7
      go_wp2_with (first
        | (go_at_call 10; with_reducible refine (KS.out _ hS).mono ?_)
        | (go_at_call 11; with_reducible refine (KW.out _ hS).mono ?_)
        | (go_at_call 24; with_reducible refine (K1.out _ hS).mono ?_)
        | (go_at_call 25; with_reducible refine (K2.out _ hS).mono ?_)
        | (with_reducible rintro e w' ⟨rfl, hS⟩; have v0 := y0 _ hS; have v1 := y1 _ hS))
      go_ret
      exact ⟨rfl, hb0.trans (Below.mono hS hb0.size)⟩
  obtain ⟨he, hge⟩ := hq
  obtain ⟨m, hm1, hm2⟩ := way_ends (fun a b => miles_kinds p.l (edgs p.ds) a b) ss (ss.length - 2) 0 0 (wayP (milesP p.l (edgs p.ds)) ss).1 (by
    rw [show ss.length - 2 + 1 = ss.length - 1 by omega]
    have e : wayP (milesP p.l (edgs p.ds)) ss = ((wayP (milesP p.l (edgs p.ds)) ss).1, (wayP (milesP p.l (edgs p.ds)) ss).2) := rfl
    rw [he] at e
    exact e)
  rw [show 0 + (ss.length - 2) + 1 = ss.length - 1 by omega] at hm1
  rcases hcells with h | ⟨b, o, rfl, hbl, hcc⟩
  · rw [h] at hge; simp at hge
  have g0 : ss.getD 0 noB = ss[0] := by rw [List.getD_eq_getElem?_getD, List.getElem?_eq_getElem (by omega)]; rfl
  have g1 : ss.getD (ss.length - 1) noB = ss[ss.length - 1] := by rw [List.getD_eq_getElem?_getD, List.getElem?_eq_getElem (by omega)]; rfl
  have c0 := hcc 0 (by omega)
  have c1 := hcc (ss.length - 1) (by omega)
  rw [← g0] at c0
  rw [← g1] at c1
  have z0 : (ss.getD 0 noB).size ≤ maxLen := by rw [g0]; exact hvs _ (List.getElem_mem _)
  have z1 : (ss.getD (ss.length - 1) noB).size ≤ maxLen := by rw [g1]; exact hvs _ (List.getElem_mem _)
  have K3 : Hid (∀ W, SW (w.alloc (.cells #[.slice p.A p.l.length p.ca, .slice p.D p.ds.length p.cd] placesT)) W → Calls Tryd.prog 22 #[.agg #[.slice p.A p.l.length p.ca, .slice p.D p.ds.length p.cd], .string (ss.getD 0 noB), .string (ss.getD (ss.length - 1) noB)] W fun e w' => e = .returned (.tuple #[.int .i64 (m : Int), .int .i64 0]) ∧ SW (w.alloc (.cells #[.slice p.A p.l.length p.ca, .slice p.D p.ds.length p.cd] placesT)) w') :=
    Lib.hid (SW.call (fun W hW => (miles_any p _ _ W ok (hL5.more hW) z0 z1).mono (by rintro e w' ⟨rfl, h, _⟩; exact ⟨by rw [hm1], h⟩)))
  have i2 : ¬ (ss.length : Int) < 2 := by omega
  have i3 : ((ss.length : Int) - 1) = ((ss.length - 1 : Nat) : Int) := by omega
  have i4 : ((ss.length - 1 : Nat) : Int) < (ss.length : Int) := by omega
  have i5 : (0 : Int) < (ss.length : Int) := by omega
  rw [he] at K1 K2
  have u0 := bel_cell hb0 c0
  have u1 := bel_cell hb0 c1
  rw [Nat.add_zero] at u0
  clear he hm1 g0 g1 hs hL h1 h2 hA hD hv0 hv5 hcc z0 z1 c0 c1 hvs q0 q1 h12 hge
  generalize (wayP (milesP p.l (edgs p.ds)) ss).1 = n at *
  generalize ss.getD 0 noB = s0 at *
  generalize ss.getD (ss.length - 1) noB = s1 at *
  have i6 : (m : Int) ≤ n := by omega
  have u0 := bel_get u0
  have u1 := bel_get u1
  generalize ss.length - 1 = last at *
  have t0 := SW.cell (y0 _ hS)
  have t1 := SW.cell (y1 _ hS)
  have t2 := SW.cell (u0 _ hS)
  have t3 := SW.cell (u1 _ hS)
  go_enter Tryd.func7, Tryd.ntmps7
  go_wp2_with (first
    | (go_at_call 10; with_reducible refine (KS.out _ hS).mono ?_)
    | (go_at_call 11; with_reducible refine (KW.out _ hS).mono ?_)
    | (go_at_call 24; with_reducible refine (K1.out _ hS).mono ?_)
    | (go_at_call 25; with_reducible refine (K2.out _ hS).mono ?_)
    | (with_reducible rintro e w' ⟨rfl, hS⟩; have v0 := y0 _ hS; have v1 := y1 _ hS; have v2 := u0 _ hS; have v3 := u1 _ hS))
  have hNe : Nonempty (Wd (SW (w.alloc (.cells #[.slice p.A p.l.length p.ca, .slice p.D p.ds.length p.cd] placesT)))) := ⟨⟨_, (Below.drew hS)⟩⟩
  refine quietS (S := SW (w.alloc (.cells #[.slice p.A p.l.length p.ca, .slice p.D p.ds.length p.cd] placesT))) (by kernel_rfl) (by kernel_rfl) ((Below.drew hS)) ?_
  repeat (first | go_big_quiet_skip | (go_big_quiet_want; go_big_quiet_op; first | go_big_quiet_on | go_big_quiet_call (((go_at_call 22; (with_reducible exact quiet_S (K3.out _ (Wd.ok _))))))))
  refine wpQuiet_nil ?_
  rintro W ⟨⟨_, hW⟩, rfl⟩
  go_wp2_with (first
    | (go_at_call 11; refine (KW.out _ hW).mono ?_; rintro e w' ⟨rfl, hS⟩))
  go_ret
  exact ⟨rfl, hb0.trans (Below.mono hS hb0.size)⟩

end Go.Proofs.YtjokpfeiganigaaDoor
