/- Words and walks that the laws below ask: Shr4, FrameS, ClosNA, ClosNB, Shr6. -/
import Derived.Test.YtdpcjafkahhecaaGreatDoorPk7
import Derived.Test.YtdpcjafkahhecaaGreatDoorPk14
import Derived.Test.YtdpcjafkahhecaaGreatDoorPk24
import Derived.Test.YtdpcjafkahhecaaGreatDoorPk25
/- The laws CodeshareChecks and CodeshareSold. -/
namespace Go.Proofs.YtdpcjafkahhecaaGreatDoor
open Go.RowKit Go.Shelf
set_option linter.unusedSimpArgs false
set_option linter.unusedVariables false

/-- a share as it is given -/
structure OkSh (s : Sh) : Prop where
  car : s.car.size ≤ maxLen
  num : -9223372036854775808 ≤ s.num ∧ s.num ≤ 9223372036854775807
  pf : -9223372036854775808 ≤ s.pf ∧ s.pf ≤ 9223372036854775807
  op : s.op.size ≤ maxLen
  am : -9223372036854775808 ≤ s.am ∧ s.am ≤ 9223372036854775807
theorem wf9 {n : Int} (h : -9223372036854775808 ≤ n ∧ n ≤ 9223372036854775807) : (Lit.int .i64 n).wf = true := by
  have e1 : IntKind.i64.min = -9223372036854775808 := rfl
  have e2 : IntKind.i64.max = 9223372036854775807 := rfl
  simp only [Lit.wf, e1, e2, Bool.and_eq_true, decide_eq_true_eq]
  omega
theorem soldL_len {p : PV} {fs : List FV} {sh : List Sh} (h : Val9 p fs sh) (day : Int) : (soldL p.l fs sh day).length ≤ 1000000 :=
  sold_len h p.l day _ (fun f hf => segsL_bd p.l f day (by have := h.legs hf; omega)) _ (fun x _ => shSeg_bd p.l fs sh day x)
set_option maxRecDepth 100000 in
set_option maxHeartbeats 8000000 in
theorem codeshareChecks_walk (p : PV) (v : Value) (fs : List FV) (A : Option Addr) (c : Nat) (sh : List Sh) (w : World) (hi : Inp9 p fs sh) (hso : ∀ s ∈ sh, OkSh s) (hP : PlL w p) (hv : TblL w v fs) (hs : RowL 9 encSh9 w (.slice A sh.length c) sh) :
    Calls Tryz.prog 3 #[encP p, v, .slice A sh.length c] w fun e w' => e = .returned (.bool true) ∧ Below w.heap.size w w' := by
  obtain ⟨A0, c0, rfl, _⟩ := id hv.row
  have hb0 := bel_alloc w (.cells #[.slice p.A p.l.length p.ca, .slice p.D p.ds.length p.cd] placesT)
  have p0 := (cells_new w #[.slice p.A p.l.length p.ca, .slice p.D p.ds.length p.cd] placesT 0).trans (show _ = some (Value.slice p.A p.l.length p.ca) from rfl)
  have p1 := (cells_new w #[.slice p.A p.l.length p.ca, .slice p.D p.ds.length p.cd] placesT 1).trans (show _ = some (Value.slice p.D p.ds.length p.cd) from rfl)
  have HP := Lib.hid (hP.more hb0)
  have HV := Lib.hid (hv.more hb0)
  have HSH := Lib.hid (hs.more hb0)
  have HI := Lib.hid hi
  have HSO := Lib.hid hso
  clear hP hv hi hs hso
  go_enter Tryz.func3, Tryz.ntmps3
  go_upto_region 1 with fail
  generalize hw5 : w.alloc (.cells #[.slice p.A p.l.length p.ca, .slice p.D p.ds.length p.cd] placesT) = w5 at *
  clear hw5
  have f0 := bel_get p0
  have f1 := bel_get p1
  clear p0 p1
  have KW : Hid (∀ W, SW w5 W → Calls Tryz.prog 9 #[] W fun e w' => e = .returned (.bool true) ∧ SW w5 w') := Lib.hid (SW.call (fun W h => awake9_any W))
  have KR : Hid (∀ W, SW w5 W → Calls Tryz.prog 8 #[encP p, .slice A0 fs.length c0, .slice A sh.length c] W fun e w' => ∃ b : Bool, e = .returned (.bool b) ∧ (b = true → Val9 p fs sh) ∧ SW w5 w') := Lib.hid (fun W h => (right9_any p _ fs A c sh W HI.out (HP.out.more h) (HV.out.more h)).mono (by rintro e w' ⟨b, rfl, hb, hbl⟩; exact ⟨b, rfl, hb, Below.trans h (Below.mono hbl (Below.size h))⟩))
  have hS : SW w5 w5 := Below.refl _ _
  have z0 := f0 _ hS
  have z1 := f1 _ hS
  go_upto_if 11 with (go_at_call 8; with_reducible refine (KR.out _ hS).mono ?_; rintro e w1 ⟨b, rfl, hV9, hS1⟩)
  clear z0 z1 hS
  cases b with
  | false =>
    clear hV9
    go_wp2_with (go_at_call 9; with_reducible refine (KW.out _ hS1).mono ?_; rintro e w2 ⟨rfl, hS2⟩)
    go_ret
    exact ⟨rfl, hb0.trans (Below.mono hS2 hb0.size)⟩
  | true =>
    have HV9 := Lib.hid (hV9 rfl)
    have HS1 := Lib.hid hS1
    clear hV9
    have K1 : Hid (∀ W, SW w5 W → Calls Tryz.prog 11 #[encP p, .slice A0 fs.length c0, .slice A sh.length c] W fun e w' => ∃ r, e = .returned r ∧ FltL w' r (shrF fs sh sh.length) ∧ SW w5 w') := Lib.hid (fun W h => (callsIn_wide.1 (ccheck_any p A0 c0 fs A c sh W (by have := HV9.out.lf; omega) (HV.out.more h) (by have := HV9.out.ls; omega) (HSH.out.more h) (fun f hf => ⟨⟨(HI.out.ok f hf).car, wf9 (HI.out.ok f hf).num⟩, by have := HV9.out.legs hf; omega, (HI.out.ok f hf).cap⟩) (fun s hs => ⟨⟨(HSO.out s hs).car, wf9 (HSO.out s hs).num⟩, (HSO.out s hs).op, wf9 (HSO.out s hs).am⟩))).mono (by rintro e w' ⟨r, rfl, hO, hb⟩; exact ⟨r, rfl, hO.rowL rtF.len, Below.trans h (Below.mono hb (Below.size h))⟩))
    have K2 : Hid (∀ W, SW w5 W → Calls Tryz.prog 12 #[encP p, .slice A0 fs.length c0, .slice A sh.length c] W fun e w' => ∃ r, e = .returned r ∧ FltL w' r (shrF fs sh sh.length) ∧ SW W w') := Lib.hid (fun W h => (rccheck_any p A0 c0 fs A c sh W (by have := HV9.out.lf; omega) (fun f hf => by have := HV9.out.legs hf; omega) (HV.out.more h) (by have := HV9.out.ls; omega) (HSH.out.more h) (fun s hs => ⟨(HSO.out s hs).pf, (HSO.out s hs).car, (HSO.out s hs).op⟩)).mono (by rintro e w' ⟨r, rfl, hO, hb⟩; exact ⟨r, rfl, hO.rowL rtF.len, hb⟩))
    have KE : Hid (∀ u1 u2 W, FltL W u1 (shrF fs sh sh.length) → FltL W u2 (shrF fs sh sh.length) → SW w5 W → Calls Tryz.prog 10 #[u1, u2] W fun e w' => e = .returned (.bool true) ∧ SW w5 w') := Lib.hid (fun u1 u2 W h1 h2 h => (sameF_any u1 u2 _ W h1 h2 (by have := shrF_le fs sh sh.length; have := HV9.out.ls; omega)).mono (by rintro e w' ⟨rfl, hb⟩; exact ⟨rfl, Below.trans h (Below.mono hb (Below.size h))⟩))
    go_upto_region 3 with fail
    have hS : (SW w5) _ := Below.drew hS1
    refine wp_region_held_drew (S := SW w5) (by kernel_rfl) hS (fun _ => ?_)
    refine wpAnyH_take (i := 0) (v := ?vS0) rfl (by kernel_rfl) (by kernel_rfl) (by kernel_rfl) (fun _ _ _ h => h) (Or.inl ⟨by rfl, ?hyS0⟩) hS ?restS0
    case hyS0 =>
      intro w hSw
      have k0 := f0 w hSw; have k1 := f1 w hSw
      first | (go_simp; done) | (go_simp; with_reducible rfl)
    try simp only [Act.put, List.setIfInBounds_toArray, List.set_cons_zero, List.set_cons_succ]
    refine wpAnyH_take (i := 1) (v := ?vS1) rfl (by kernel_rfl) (by kernel_rfl) (by kernel_rfl) (fun _ _ _ h => h) (Or.inl ⟨by rfl, ?hyS1⟩) hS ?restS1
    case hyS1 =>
      intro w hSw
      first | (go_simp; done) | (go_simp; with_reducible rfl)
    try simp only [Act.put, List.setIfInBounds_toArray, List.set_cons_zero, List.set_cons_succ]
    refine wpAnyH_take (i := 2) (v := ?vS2) rfl (by kernel_rfl) (by kernel_rfl) (by kernel_rfl) (fun _ _ _ h => h) (Or.inl ⟨by rfl, ?hyS2⟩) hS ?restS2
    case hyS2 =>
      intro w hSw
      first | (go_simp; done) | (go_simp; with_reducible rfl)
    try simp only [Act.put, List.setIfInBounds_toArray, List.set_cons_zero, List.set_cons_succ]
    refine wpAnyH_take (i := 4) (v := ?vS4) rfl (by kernel_rfl) (by kernel_rfl) (by kernel_rfl) (fun _ _ _ h => h) (Or.inl ⟨by rfl, ?hyS4⟩) hS ?restS4
    case hyS4 =>
      intro w hSw
      have k0 := f0 w hSw; have k1 := f1 w hSw
      first | (go_simp; done) | (go_simp; with_reducible rfl)
    try simp only [Act.put, List.setIfInBounds_toArray, List.set_cons_zero, List.set_cons_succ]
    refine wpAnyH_take (i := 5) (v := ?vS5) rfl (by kernel_rfl) (by kernel_rfl) (by kernel_rfl) (fun _ _ _ h => h) (Or.inl ⟨by rfl, ?hyS5⟩) hS ?restS5
    case hyS5 =>
      intro w hSw
      first | (go_simp; done) | (go_simp; with_reducible rfl)
    try simp only [Act.put, List.setIfInBounds_toArray, List.set_cons_zero, List.set_cons_succ]
    refine wpAnyH_take (i := 6) (v := ?vS6) rfl (by kernel_rfl) (by kernel_rfl) (by kernel_rfl) (fun _ _ _ h => h) (Or.inl ⟨by rfl, ?hyS6⟩) hS ?restS6
    case hyS6 =>
      intro w hSw
      first | (go_simp; done) | (go_simp; with_reducible rfl)
    try simp only [Act.put, List.setIfInBounds_toArray, List.set_cons_zero, List.set_cons_succ]
    refine wpAnyH_ready (rs := [3]) (by kernel_rfl) (by simp) ?_
    refine AllReadyH.cons rfl (fun K hK => ?_) AllReadyH.nil
    go_simp
    go_wp2_with ((go_at_call 11; with_reducible refine (K1.out _ hS).mono ?_; rintro e w2 ⟨u1, rfl, hF1, hS⟩))
    refine hK.out _ _ hS (fun _ => ?_)
    clear hK K
    refine wpAnyH_ready (rs := [7]) (by kernel_rfl) (by simp) ?_
    refine AllReadyH.cons rfl (fun K hK => ?_) AllReadyH.nil
    go_simp
    go_wp2_with ((go_at_call 12; with_reducible refine (K2.out _ hS).mono ?_; rintro e w3 ⟨u2, rfl, hF2, hb3⟩; have hF1 := hF1.more hb3; have hS : SW w5 w3 := Below.trans hS (Below.mono hb3 (Below.size hS))))
    refine hK.out _ _ hS (fun _ => ?_)
    clear hK K
    refine wpAnyH_ready (rs := [8]) (by kernel_rfl) (by simp) ?_
    refine AllReadyH.cons rfl (fun K hK => ?_) AllReadyH.nil
    go_simp
    go_wp2_with ((go_at_call 10; with_reducible refine (KE.out _ _ _ hF1 hF2 hS).mono ?_; rintro e w4 ⟨rfl, hS⟩))
    refine hK.out _ _ hS (fun _ => ?_)
    clear hK K
    refine wpAnyH_take (i := 9) (v := ?vS9) rfl (by kernel_rfl) (by kernel_rfl) (by kernel_rfl) (fun _ _ _ h => h) (Or.inl ⟨by rfl, ?hyS9⟩) hS ?restS9
    case hyS9 =>
      intro w hSw
      first | (go_simp; done) | (go_simp; with_reducible rfl)
    try simp only [Act.put, List.setIfInBounds_toArray, List.set_cons_zero, List.set_cons_succ]
    refine wpAnyH_ready (rs := [10]) (by kernel_rfl) (by simp) ?_
    refine AllReadyH.cons rfl (fun K hK => ?_) AllReadyH.nil
    go_simp
    go_wp2_with ((go_at_call 9; with_reducible refine (KW.out _ hS).mono ?_; rintro e w9 ⟨rfl, hS⟩))
    refine hK.out _ _ hS (fun _ => ?_)
    clear hK K
    refine wpAnyH_take (i := 11) (v := ?vS11) rfl (by kernel_rfl) (by kernel_rfl) (by kernel_rfl) (fun _ _ _ h => h) (Or.inl ⟨by rfl, ?hyS11⟩) hS ?restS11
    case hyS11 =>
      intro w hSw
      first | (go_simp; done) | (go_simp; with_reducible rfl)
    try simp only [Act.put, List.setIfInBounds_toArray, List.set_cons_zero, List.set_cons_succ]
    refine wpAnyH_take (i := 12) (v := ?vS12) rfl (by kernel_rfl) (by kernel_rfl) (by kernel_rfl) (fun _ _ _ h => h) (Or.inl ⟨by rfl, ?hyS12⟩) hS ?restS12
    case hyS12 =>
      intro w hSw
      first | (go_simp; done) | (go_simp; with_reducible rfl)
    try simp only [Act.put, List.setIfInBounds_toArray, List.set_cons_zero, List.set_cons_succ]
    refine wpAnyH_done (by kernel_rfl) ?_ _
    try simp only [List.getElem_toArray, List.getElem_cons_succ, List.getElem_cons_zero, List.set_cons_zero, List.set_cons_succ]
    go_wp2
    go_ret
    exact ⟨rfl, hb0.trans (Below.mono hS hb0.size)⟩
set_option maxRecDepth 100000 in
set_option maxHeartbeats 8000000 in
theorem codeshareSold_walk (p : PV) (v : Value) (fs : List FV) (A : Option Addr) (c : Nat) (sh : List Sh) (day : Int) (w : World) (hi : Inp9 p fs sh) (hso : ∀ s ∈ sh, OkSh s) (hP : PlL w p) (hv : TblL w v fs) (hs : RowL 9 encSh9 w (.slice A sh.length c) sh) (hd0 : -9223372036854775808 ≤ day) (hd1 : day ≤ 9223372036854775807) :
    Calls Tryz.prog 5 #[encP p, v, .slice A sh.length c, .int .i64 day] w fun e w' => e = .returned (.bool true) ∧ Below w.heap.size w w' := by
  obtain ⟨A0, c0, rfl, _⟩ := id hv.row
  have hb0 := bel_alloc w (.cells #[.slice p.A p.l.length p.ca, .slice p.D p.ds.length p.cd] placesT)
  have p0 := (cells_new w #[.slice p.A p.l.length p.ca, .slice p.D p.ds.length p.cd] placesT 0).trans (show _ = some (Value.slice p.A p.l.length p.ca) from rfl)
  have p1 := (cells_new w #[.slice p.A p.l.length p.ca, .slice p.D p.ds.length p.cd] placesT 1).trans (show _ = some (Value.slice p.D p.ds.length p.cd) from rfl)
  have HP := Lib.hid (hP.more hb0)
  have HV := Lib.hid (hv.more hb0)
  have HSH := Lib.hid (hs.more hb0)
  have HI := Lib.hid hi
  have HSO := Lib.hid hso
  clear hP hv hi hs hso
  go_enter Tryz.func5, Tryz.ntmps5
  go_upto_region 1 with fail
  generalize hw5 : w.alloc (.cells #[.slice p.A p.l.length p.ca, .slice p.D p.ds.length p.cd] placesT) = w5 at *
  clear hw5
  have f0 := bel_get p0
  have f1 := bel_get p1
  clear p0 p1
  have KW : Hid (∀ W, SW w5 W → Calls Tryz.prog 9 #[] W fun e w' => e = .returned (.bool true) ∧ SW w5 w') := Lib.hid (SW.call (fun W h => awake9_any W))
  have KR : Hid (∀ W, SW w5 W → Calls Tryz.prog 8 #[encP p, .slice A0 fs.length c0, .slice A sh.length c] W fun e w' => ∃ b : Bool, e = .returned (.bool b) ∧ (b = true → Val9 p fs sh) ∧ SW w5 w') := Lib.hid (fun W h => (right9_any p _ fs A c sh W HI.out (HP.out.more h) (HV.out.more h)).mono (by rintro e w' ⟨b, rfl, hb, hbl⟩; exact ⟨b, rfl, hb, Below.trans h (Below.mono hbl (Below.size h))⟩))
  have hS : SW w5 w5 := Below.refl _ _
  have z0 := f0 _ hS
  have z1 := f1 _ hS
  go_upto_if 13 with (go_at_call 8; with_reducible refine (KR.out _ hS).mono ?_; rintro e w1 ⟨b, rfl, hV9, hS1⟩)
  clear z0 z1 hS
  cases b with
  | false =>
    clear hV9
    go_wp2_with (go_at_call 9; with_reducible refine (KW.out _ hS1).mono ?_; rintro e w2 ⟨rfl, hS2⟩)
    go_ret
    exact ⟨rfl, hb0.trans (Below.mono hS2 hb0.size)⟩
  | true =>
    have HV9 := Lib.hid (hV9 rfl)
    have HS1 := Lib.hid hS1
    clear hV9
    have K1 : Hid (∀ W, SW w5 W → Calls Tryz.prog 18 #[encP p, .slice A0 fs.length c0, .slice A sh.length c, .int .i64 day] W fun e w' => ∃ r, e = .returned r ∧ RowL 7 encSg w' r (soldL p.l fs sh day) ∧ SW w5 w') := Lib.hid (fun W h => (csold_any p A0 c0 fs A c sh day W (fun _ => HV9.out.okPl) HV9.out.okT (HP.out.more h).air (HV.out.more h) (by have := HV9.out.ls; omega) (HSH.out.more h) hd0 hd1).mono (by rintro e w' ⟨r, rfl, hO, hb⟩; exact ⟨r, rfl, hO, Below.trans h (Below.mono hb (Below.size h))⟩))
    have K2 : Hid (∀ W, SW w5 W → Calls Tryz.prog 19 #[encP p, .slice A0 fs.length c0, .slice A sh.length c, .int .i64 day] W fun e w' => ∃ r, e = .returned r ∧ RowL 7 encSg w' r (soldL p.l fs sh day) ∧ SW W w') := Lib.hid (fun W h => (rcsold_any p A0 c0 fs A c sh day W (fun _ => HV9.out.okPl) HV9.out.okT (HP.out.more h).air (HV.out.more h) (by have := HV9.out.ls; omega) (HSH.out.more h) hd0 hd1).mono (by rintro e w' ⟨r, rfl, hO, hb⟩; exact ⟨r, rfl, hO, hb⟩))
    have KE : Hid (∀ u1 u2 W, RowL 7 encSg W u1 (soldL p.l fs sh day) → RowL 7 encSg W u2 (soldL p.l fs sh day) → SW w5 W → Calls Tryz.prog 17 #[u1, u2] W fun e w' => e = .returned (.bool true) ∧ SW w5 w') := Lib.hid (fun u1 u2 W h1 h2 h => (same9_any u1 u2 _ W (soldL_len HV9.out day) h1 h2).mono (by rintro e w' ⟨rfl, hb⟩; exact ⟨rfl, Below.trans h (Below.mono hb (Below.size h))⟩))
    go_upto_region 3 with fail
    have hS : (SW w5) _ := Below.drew hS1
    refine wp_region_held_drew (S := SW w5) (by kernel_rfl) hS (fun _ => ?_)
    refine wpAnyH_take (i := 0) (v := ?vD0) rfl (by kernel_rfl) (by kernel_rfl) (by kernel_rfl) (fun _ _ _ h => h) (Or.inl ⟨by rfl, ?hyD0⟩) hS ?restD0
    case hyD0 =>
      intro w hSw
      have k0 := f0 w hSw; have k1 := f1 w hSw
      first | (go_simp; done) | (go_simp; with_reducible rfl)
    try simp only [Act.put, List.setIfInBounds_toArray, List.set_cons_zero, List.set_cons_succ]
    refine wpAnyH_take (i := 1) (v := ?vD1) rfl (by kernel_rfl) (by kernel_rfl) (by kernel_rfl) (fun _ _ _ h => h) (Or.inl ⟨by rfl, ?hyD1⟩) hS ?restD1
    case hyD1 =>
      intro w hSw
      first | (go_simp; done) | (go_simp; with_reducible rfl)
    try simp only [Act.put, List.setIfInBounds_toArray, List.set_cons_zero, List.set_cons_succ]
    refine wpAnyH_take (i := 2) (v := ?vD2) rfl (by kernel_rfl) (by kernel_rfl) (by kernel_rfl) (fun _ _ _ h => h) (Or.inl ⟨by rfl, ?hyD2⟩) hS ?restD2
    case hyD2 =>
      intro w hSw
      first | (go_simp; done) | (go_simp; with_reducible rfl)
    try simp only [Act.put, List.setIfInBounds_toArray, List.set_cons_zero, List.set_cons_succ]
    refine wpAnyH_take (i := 3) (v := ?vD3) rfl (by kernel_rfl) (by kernel_rfl) (by kernel_rfl) (fun _ _ _ h => h) (Or.inl ⟨by rfl, ?hyD3⟩) hS ?restD3
    case hyD3 =>
      intro w hSw
      first | (go_simp; done) | (go_simp; with_reducible rfl)
    try simp only [Act.put, List.setIfInBounds_toArray, List.set_cons_zero, List.set_cons_succ]
    refine wpAnyH_take (i := 5) (v := ?vD5) rfl (by kernel_rfl) (by kernel_rfl) (by kernel_rfl) (fun _ _ _ h => h) (Or.inl ⟨by rfl, ?hyD5⟩) hS ?restD5
    case hyD5 =>
      intro w hSw
      have k0 := f0 w hSw; have k1 := f1 w hSw
      first | (go_simp; done) | (go_simp; with_reducible rfl)
    try simp only [Act.put, List.setIfInBounds_toArray, List.set_cons_zero, List.set_cons_succ]
    refine wpAnyH_take (i := 6) (v := ?vD6) rfl (by kernel_rfl) (by kernel_rfl) (by kernel_rfl) (fun _ _ _ h => h) (Or.inl ⟨by rfl, ?hyD6⟩) hS ?restD6
    case hyD6 =>
      intro w hSw
      first | (go_simp; done) | (go_simp; with_reducible rfl)
    try simp only [Act.put, List.setIfInBounds_toArray, List.set_cons_zero, List.set_cons_succ]
    refine wpAnyH_take (i := 7) (v := ?vD7) rfl (by kernel_rfl) (by kernel_rfl) (by kernel_rfl) (fun _ _ _ h => h) (Or.inl ⟨by rfl, ?hyD7⟩) hS ?restD7
    case hyD7 =>
      intro w hSw
      first | (go_simp; done) | (go_simp; with_reducible rfl)
    try simp only [Act.put, List.setIfInBounds_toArray, List.set_cons_zero, List.set_cons_succ]
    refine wpAnyH_take (i := 8) (v := ?vD8) rfl (by kernel_rfl) (by kernel_rfl) (by kernel_rfl) (fun _ _ _ h => h) (Or.inl ⟨by rfl, ?hyD8⟩) hS ?restD8
    case hyD8 =>
      intro w hSw
      first | (go_simp; done) | (go_simp; with_reducible rfl)
    try simp only [Act.put, List.setIfInBounds_toArray, List.set_cons_zero, List.set_cons_succ]
    refine wpAnyH_ready (rs := [4]) (by kernel_rfl) (by simp) ?_
    refine AllReadyH.cons rfl (fun K hK => ?_) AllReadyH.nil
    go_simp
    go_wp2_with ((go_at_call 18; with_reducible refine (K1.out _ hS).mono ?_; rintro e w2 ⟨u1, rfl, hF1, hS⟩))
    refine hK.out _ _ hS (fun _ => ?_)
    clear hK K
    refine wpAnyH_ready (rs := [9]) (by kernel_rfl) (by simp) ?_
    refine AllReadyH.cons rfl (fun K hK => ?_) AllReadyH.nil
    go_simp
    go_wp2_with ((go_at_call 19; with_reducible refine (K2.out _ hS).mono ?_; rintro e w3 ⟨u2, rfl, hF2, hb3⟩; have hF1 := hF1.more hb3; have hS : SW w5 w3 := Below.trans hS (Below.mono hb3 (Below.size hS))))
    refine hK.out _ _ hS (fun _ => ?_)
    clear hK K
    refine wpAnyH_ready (rs := [10]) (by kernel_rfl) (by simp) ?_
    refine AllReadyH.cons rfl (fun K hK => ?_) AllReadyH.nil
    go_simp
    go_wp2_with ((go_at_call 17; with_reducible refine (KE.out _ _ _ hF1 hF2 hS).mono ?_; rintro e w4 ⟨rfl, hS⟩))
    refine hK.out _ _ hS (fun _ => ?_)
    clear hK K
    refine wpAnyH_take (i := 11) (v := ?vD11) rfl (by kernel_rfl) (by kernel_rfl) (by kernel_rfl) (fun _ _ _ h => h) (Or.inl ⟨by rfl, ?hyD11⟩) hS ?restD11
    case hyD11 =>
      intro w hSw
      first | (go_simp; done) | (go_simp; with_reducible rfl)
    try simp only [Act.put, List.setIfInBounds_toArray, List.set_cons_zero, List.set_cons_succ]
    refine wpAnyH_ready (rs := [12]) (by kernel_rfl) (by simp) ?_
    refine AllReadyH.cons rfl (fun K hK => ?_) AllReadyH.nil
    go_simp
    go_wp2_with ((go_at_call 9; with_reducible refine (KW.out _ hS).mono ?_; rintro e w9 ⟨rfl, hS⟩))
    refine hK.out _ _ hS (fun _ => ?_)
    clear hK K
    refine wpAnyH_take (i := 13) (v := ?vD13) rfl (by kernel_rfl) (by kernel_rfl) (by kernel_rfl) (fun _ _ _ h => h) (Or.inl ⟨by rfl, ?hyD13⟩) hS ?restD13
    case hyD13 =>
      intro w hSw
      first | (go_simp; done) | (go_simp; with_reducible rfl)
    try simp only [Act.put, List.setIfInBounds_toArray, List.set_cons_zero, List.set_cons_succ]
    refine wpAnyH_take (i := 14) (v := ?vD14) rfl (by kernel_rfl) (by kernel_rfl) (by kernel_rfl) (fun _ _ _ h => h) (Or.inl ⟨by rfl, ?hyD14⟩) hS ?restD14
    case hyD14 =>
      intro w hSw
      first | (go_simp; done) | (go_simp; with_reducible rfl)
    try simp only [Act.put, List.setIfInBounds_toArray, List.set_cons_zero, List.set_cons_succ]
    refine wpAnyH_done (by kernel_rfl) ?_ _
    try simp only [List.getElem_toArray, List.getElem_cons_succ, List.getElem_cons_zero, List.set_cons_zero, List.set_cons_succ]
    go_wp2
    go_ret
    exact ⟨rfl, hb0.trans (Below.mono hS hb0.size)⟩
end Go.Proofs.YtdpcjafkahhecaaGreatDoor

/- Shares among the arguments, opened. -/
namespace Go.Proofs.YtdpcjafkahhecaaGreatDoor
open Go.ChangeShapes Go.WideShapes Go.ChangeAt Go.RowKit
set_option linter.unusedSimpArgs false
set_option linter.unusedVariables false

theorem list_at9 {α : Type} (f : Nat → α) (n i : Nat) (a : α) (h : ((List.range n).map f)[i]? = some a) : i < n ∧ a = f i := by
  have hi : i < n := by have := (List.getElem?_eq_some_iff.1 h).1; simpa using this
  rw [List.getElem?_map, List.getElem?_range hi] at h
  exact ⟨hi, (Option.some.inj h).symm⟩
set_option maxRecDepth 100000 in
theorem read_row9 {α : Type} [Inhabited α] {sz : Nat} {enc' : α → List Value} {Ok : α → Prop} {H : Type} {enc : TypeId × Value → H} {W : World} {n : Nat} {v : Value} {y : DataW H × List MemPlace} {ts te : TypeId} (hu : Tryz.prog.underlying ts = some (.slice te)) (hce : Tryz.prog.cellsOf te = sz) (h1 : 0 < sz) (he : ∀ x, (enc' x).length = sz)
    (hread : ∀ m cs yy, cs.length = sz → DataW.trod enc Tryz.prog W 0 (fun _ => true) true m te cs = some yy → ∃ x : α, cs = enc' x ∧ Ok x) (h : DataW.trod enc Tryz.prog W 0 (fun _ => true) true n ts [v] = some y) :
    ∃ (A : Option Addr) (c : Nat) (l : List α), v = .slice A l.length c ∧ RowL sz enc' W (.slice A l.length c) l ∧ (∀ f ∈ l, Ok f) ∧ l.length < 9223372036854775808 ∧ l.length ≤ c := by
  have em : maxLen = 9223372036854775807 := by decide
  rcases Deep.open_slice hu h with ⟨hcs, _⟩ | ⟨a, len, cap, m', n, D, Pl, hcs, _, hl, hm, hmm, _, hx⟩
  · simp at hcs
    exact ⟨none, 0, [], hcs, ⟨none, 0, rfl, .inl rfl⟩, fun a ha => by simp at ha, by simp, by simp⟩
  · simp at hcs hmm
    subst hcs hmm
    rcases Nat.eq_zero_or_pos len with h0 | h0
    · exact ⟨some a, m', [], by rw [h0]; rfl, ⟨some a, m', rfl, .inl rfl⟩, fun a ha => by simp at ha, by simp, by simp⟩
    obtain ⟨b, off, spot⟩ := a
    obtain ⟨cs0, hc0, _⟩ := hx 0 (by omega)
    have hspot : spot = none := by
      rw [hce] at hc0
      obtain ⟨_, hl0, hcell⟩ := World.cells?_some hc0
      have h1 := hcell 0 (by omega)
      rw [List.getElem?_eq_getElem (by omega)] at h1
      simpa [Addr.add] using World.cell?_spot h1
    subst hspot
    have hadd : ∀ i, (⟨b, off, none⟩ : Addr).add i = ⟨b, off + i, none⟩ := fun i => by unfold Addr.add; split <;> simp_all
    have each : ∀ i, i < len → ∃ x : α, (∀ j u, (enc' x)[j]? = some u → W.cell? ⟨b, off + i * sz + j, none⟩ = some u) ∧ Ok x := fun i hi => by
      obtain ⟨cs', h1, h2⟩ := hx i (by omega)
      rw [hce, hadd] at h1
      obtain ⟨_, hlen, hcell⟩ := World.cells?_some h1
      obtain ⟨x, e, hok⟩ := hread _ _ _ hlen h2
      rw [e] at hcell
      refine ⟨x, fun j u hu => ?_, hok⟩
      have hj : j < sz := by have := (List.getElem?_eq_some_iff.1 hu).1; rw [he] at this; exact this
      have hadd2 : ∀ i, (⟨b, off + i * sz, none⟩ : Addr).add j = ⟨b, off + i * sz + j, none⟩ := fun i => by unfold Addr.add; split <;> simp_all
      have hc2 := hcell j hj
      rw [hadd2] at hc2
      rw [hc2]
      exact hu
    obtain ⟨f, hf⟩ := Deep.choose_lt each
    have el : ((List.range len).map f).length = len := by simp
    have hlt : b < W.heap.size := by
      have h3 := (hf 0 h0).1 0 ((enc' (f 0))[0]'(by rw [he]; exact h1)) (List.getElem?_eq_getElem _)
      exact World.block_lt_of_cell? _ _ h3
    refine ⟨some ⟨b, off, none⟩, m', (List.range len).map f, by rw [el], ⟨some ⟨b, off, none⟩, m', rfl, .inr ⟨b, off, rfl, hlt, fun i x j u hi hu => ?_⟩⟩, fun a ha => ?_, by rw [el]; omega, by rw [el]; exact hl⟩
    · obtain ⟨h1, rfl⟩ := list_at9 f len i x hi
      exact (hf i h1).1 j u hu
    · obtain ⟨i, hi, rfl⟩ := List.mem_map.1 ha
      exact (hf i (List.mem_range.1 hi)).2

theorem cells_share : Tryz.prog.cellsOf 60 = 9 := by kernel_rfl
theorem len9 {α : Type} : ∀ {l : List α}, l.length = 9 → ∃ a b c d e f g h i, l = [a, b, c, d, e, f, g, h, i]
  | [a, b, c, d, e, f, g, h, i], _ => ⟨a, b, c, d, e, f, g, h, i, rfl⟩
theorem len7s {α : Type} : ∀ {l : List α}, l.length = 7 → ∃ a b c d e f g, l = [a, b, c, d, e, f, g]
  | [a, b, c, d, e, f, g], _ => ⟨a, b, c, d, e, f, g, rfl⟩
theorem len3s {α : Type} : ∀ {l : List α}, l.length = 3 → ∃ a b c, l = [a, b, c]
  | [a, b, c], _ => ⟨a, b, c, rfl⟩
instance : Inhabited Sh := ⟨⟨noB, 0, 0, 0, 0, noB, 0, noB, noB⟩⟩
theorem cells_string9 : Tryz.prog.cellsOf 9 = 1 := by kernel_rfl
theorem cells_int9 : Tryz.prog.cellsOf 3 = 1 := by kernel_rfl
theorem cells_per9 : Tryz.prog.cellsOf 58 = 3 := by kernel_rfl
theorem int_bounds9 {a : Int} (h : (Lit.int .i64 a).wf = true) : -9223372036854775808 ≤ a ∧ a ≤ 9223372036854775807 := by
  have e1 : IntKind.i64.min = -9223372036854775808 := rfl
  have e2 : IntKind.i64.max = 9223372036854775807 := rfl
  simp only [Lit.wf, e1, e2, Bool.and_eq_true, decide_eq_true_eq] at h
  omega
set_option maxRecDepth 100000 in
set_option maxHeartbeats 2000000 in
theorem read_share {H : Type} {enc : TypeId × Value → H} {W : World} {n : Nat} {cs : List Value} {y : DataW H × List MemPlace} (hl : cs.length = 9) (h : DataW.trod enc Tryz.prog W 0 (fun _ => true) true n 60 cs = some y) :
    ∃ x : Sh, cs = encSh9 x ∧ OkSh x := by
  obtain ⟨c0, c1, c2, c3, c4, c5, c6, c7, c8, rfl⟩ := len9 hl
  obtain ⟨xs, k, _, _, _, hxl, hf⟩ := DataW.trod_struct Tryz.underlying60 h
  obtain ⟨y0, y1, y2, y3, y4, y5, y6, rfl⟩ := len7s hxl
  all_goals
    have g0 := hf 0 _ rfl
    have g1 := hf 1 _ rfl
    have g2 := hf 2 _ rfl
    have g3 := hf 3 _ rfl
    have g4 := hf 4 _ rfl
    have g5 := hf 5 _ rfl
    have g6 := hf 6 _ rfl
    simp [cells_string9, cells_int9, cells_per9] at g0 g1 g2 g3 g4 g5 g6
    obtain ⟨s0, e0, _, z0⟩ := DataW.trod_string Tryz.underlying9 g0
    obtain ⟨x1, e1, _, w1⟩ := DataW.trod_int Tryz.underlying3 g1
    obtain ⟨xs2, k2, _, _, _, hxl2, hf2⟩ := DataW.trod_struct Tryz.underlying58 g2
    obtain ⟨q0, q1, q2, rfl⟩ := len3s hxl2
    have p0 := hf2 0 _ rfl
    have p1 := hf2 1 _ rfl
    have p2 := hf2 2 _ rfl
    simp [cells_int9] at p0 p1 p2
    obtain ⟨a0, u0, _, v0⟩ := DataW.trod_int Tryz.underlying3 p0
    obtain ⟨a1, u1, _, v1⟩ := DataW.trod_int Tryz.underlying3 p1
    obtain ⟨a2, u2, _, v2⟩ := DataW.trod_int Tryz.underlying3 p2
    obtain ⟨s3, e3, _, z3⟩ := DataW.trod_string Tryz.underlying9 g3
    obtain ⟨x4, e4, _, w4⟩ := DataW.trod_int Tryz.underlying3 g4
    obtain ⟨s5, e5, _, z5⟩ := DataW.trod_string Tryz.underlying9 g5
    obtain ⟨s6, e6, _, z6⟩ := DataW.trod_string Tryz.underlying9 g6
    simp at e0 e1 e3 e4 e5 e6 u0 u1 u2
    subst e0 e1 e3 e4 e5 e6 u0 u1 u2
    exact ⟨⟨s0, x1, a0, a1, a2, s3, x4, s5, s6⟩, rfl, ⟨z0, int_bounds9 w1, int_bounds9 v0, z3, int_bounds9 w4⟩⟩
set_option maxRecDepth 100000 in
/-- shares, opened -/
theorem open_shares {H : Type} {enc : TypeId × Value → H} {W : World} {b0 : Nat} {v : Value} {d : DataW H} {p : List MemPlace} (hv : Value.okWide Tryz.prog W .any b0 27 v) (h : DataW.Trod enc Tryz.prog W 0 (fun _ => true) true 27 v d p) :
    ∃ (A : Option Addr) (c : Nat) (l : List Sh), v = .slice A l.length c ∧ RowL 9 encSh9 W (.slice A l.length c) l ∧ (∀ x ∈ l, OkSh x) ∧ l.length < 9223372036854775808 := by
  obtain ⟨a, len, cap, rfl⟩ := okWide_slice Tryz.underlying27 hv
  obtain ⟨fuel, hf⟩ := h
  obtain ⟨A, c, l, e, h1, h2, h3, _⟩ := read_row9 (enc' := encSh9) (Ok := OkSh) Tryz.underlying27 cells_share (by omega) (fun _ => rfl) (fun m cs yy hl h => read_share hl h) hf
  exact ⟨A, c, l, e, h1, h2, h3⟩
end Go.Proofs.YtdpcjafkahhecaaGreatDoor

/- Closed facts on the program and its rows: what each law names, whom it follows. -/
namespace Go.Proofs.YtdpcjafkahhecaaGreatDoor

theorem codeshareChecks_c1 : Tryz.pinned.checked.prog.inPlace 3 = Rows.codeshareChecksRow.inPlace := by kernel_rfl
theorem codeshareChecks_c2 : Tryz.pinned.checked.prog.unfollowed 3 = Rows.codeshareChecksRow.unfollowed := by kernel_rfl
theorem codeshareChecks_c3 : Tryz.pinned.checked.prog.recurses 3 = Rows.codeshareChecksRow.recurses := by kernel_rfl
theorem codeshareChecks_c4 : Tryz.pinned.checked.prog.varsNamed 3 = Rows.codeshareChecksRow.named := by kernel_rfl
theorem codeshareSold_c1 : Tryz.pinned.checked.prog.inPlace 5 = Rows.codeshareSoldRow.inPlace := by kernel_rfl
theorem codeshareSold_c2 : Tryz.pinned.checked.prog.unfollowed 5 = Rows.codeshareSoldRow.unfollowed := by kernel_rfl
theorem codeshareSold_c3 : Tryz.pinned.checked.prog.recurses 5 = Rows.codeshareSoldRow.recurses := by kernel_rfl
theorem codeshareSold_c4 : Tryz.pinned.checked.prog.varsNamed 5 = Rows.codeshareSoldRow.named := by kernel_rfl

end Go.Proofs.YtdpcjafkahhecaaGreatDoor

/- Closed facts on the program and its rows: what each law names, whom it follows. -/
namespace Go.Proofs.YtdpcjafkahhecaaGreatDoor

theorem codeshareCovers_c1 : Tryz.pinned.checked.prog.inPlace 6 = Rows.codeshareCoversRow.inPlace := by kernel_rfl
theorem codeshareCovers_c2 : Tryz.pinned.checked.prog.unfollowed 6 = Rows.codeshareCoversRow.unfollowed := by kernel_rfl
theorem codeshareCovers_c3 : Tryz.pinned.checked.prog.recurses 6 = Rows.codeshareCoversRow.recurses := by kernel_rfl
theorem codeshareCovers_c4 : Tryz.pinned.checked.prog.varsNamed 6 = Rows.codeshareCoversRow.named := by kernel_rfl
theorem codeshareFinds_c1 : Tryz.pinned.checked.prog.inPlace 4 = Rows.codeshareFindsRow.inPlace := by kernel_rfl
theorem codeshareFinds_c2 : Tryz.pinned.checked.prog.unfollowed 4 = Rows.codeshareFindsRow.unfollowed := by kernel_rfl
theorem codeshareFinds_c3 : Tryz.pinned.checked.prog.recurses 4 = Rows.codeshareFindsRow.recurses := by kernel_rfl
theorem codeshareFinds_c4 : Tryz.pinned.checked.prog.varsNamed 4 = Rows.codeshareFindsRow.named := by kernel_rfl

end Go.Proofs.YtdpcjafkahhecaaGreatDoor

/- The laws CodeshareCovers and CodeshareFinds. -/
namespace Go.Proofs.YtdpcjafkahhecaaGreatDoor
open Go.RowKit Go.Shelf
set_option linter.unusedSimpArgs false
set_option linter.unusedVariables false

theorem sold_day {L : List Air} {fs : List FV} {sh : List Sh} {car : ByteArray} {num day : Int} {fr tt : ByteArray} (h : (soldF L fs sh car num day fr tt).1 = 0) : (soldF L fs sh car num day fr tt).2.day = day := by
  unfold soldF at h ⊢
  split
  · rename_i hr
    rw [if_pos hr] at h
    simp only at h
    rw [h] at hr
    simp at hr
  · rename_i hr
    exact (segF_ok (by simpa using hr)).2.2.1
theorem seg_box (w : World) (q : Sg) : ∀ j u, (encSg q)[j]? = some u → (w.alloc (.cells #[.string q.car, .int .i64 q.num, .int .i64 q.day, .string q.f, .string q.t, .int .i64 q.dep, .int .i64 q.arr] segT)).cell? ⟨w.heap.size, j, none⟩ = some u := row7 (heap_alloc_new w _)
set_option maxRecDepth 100000 in
set_option maxHeartbeats 8000000 in
theorem codeshareCovers_walk (p : PV) (v : Value) (fs : List FV) (A : Option Addr) (c : Nat) (sh : List Sh) (s : Sg) (w : World) (hi : Inp9 p fs sh) (hso : ∀ s ∈ sh, OkSh s) (hP : PlL w p) (hv : TblL w v fs) (hs : RowL 9 encSh9 w (.slice A sh.length c) sh) (hd : -9223372036854775808 ≤ s.day ∧ s.day ≤ 9223372036854775807) :
    Calls Tryz.prog 6 #[encP p, v, .slice A sh.length c, encS7 s] w fun e w' => e = .returned (.bool true) ∧ Below w.heap.size w w' := by
  obtain ⟨A0, c0, rfl, _⟩ := id hv.row
  obtain ⟨hN, hM, hb0⟩ := two_new2 w #[.slice p.A p.l.length p.ca, .slice p.D p.ds.length p.cd] #[.string s.car, .int .i64 s.num, .int .i64 s.day, .string s.f, .string s.t, .int .i64 s.dep, .int .i64 s.arr] placesT segT
  obtain ⟨B, hB⟩ : ∃ B, B = w.heap.size := ⟨_, rfl⟩
  rw [← hB] at hN hM
  have HP := Lib.hid (hP.more hb0)
  have HV := Lib.hid (hv.more hb0)
  have HSH := Lib.hid (hs.more hb0)
  have HI := Lib.hid hi
  have HSO := Lib.hid hso
  have HD := Lib.hid hd
  clear hP hv hi hs hso hd
  go_enter Tryz.func6, Tryz.ntmps6
  go_upto_region 1 with fail
  rw [← hB]
  have HBX := Lib.hid hB
  clear hB
  generalize hw5 : (w.alloc (.cells #[.slice p.A p.l.length p.ca, .slice p.D p.ds.length p.cd] placesT)).alloc (.cells #[.string s.car, .int .i64 s.num, .int .i64 s.day, .string s.f, .string s.t, .int .i64 s.dep, .int .i64 s.arr] segT) = w5 at *
  clear hw5
  have f0 := bel_get ((cell_of_row _ _ 0 _ _ (0, 0) hN).trans (show _ = some (Value.slice p.A p.l.length p.ca) from rfl))
  have f1 := bel_get ((cell_of_row _ _ 1 _ _ (0, 0) hN).trans (show _ = some (Value.slice p.D p.ds.length p.cd) from rfl))
  have m0 := bel_get ((cell_of_row _ _ 0 _ _ (0, 0) hM).trans (show _ = some (Value.string s.car) from rfl))
  have m1 := bel_get ((cell_of_row _ _ 1 _ _ (0, 0) hM).trans (show _ = some (Value.int .i64 s.num) from rfl))
  have m2 := bel_get ((cell_of_row _ _ 2 _ _ (0, 0) hM).trans (show _ = some (Value.int .i64 s.day) from rfl))
  have m3 := bel_get ((cell_of_row _ _ 3 _ _ (0, 0) hM).trans (show _ = some (Value.string s.f) from rfl))
  have m4 := bel_get ((cell_of_row _ _ 4 _ _ (0, 0) hM).trans (show _ = some (Value.string s.t) from rfl))
  have m5 := bel_get ((cell_of_row _ _ 5 _ _ (0, 0) hM).trans (show _ = some (Value.int .i64 s.dep) from rfl))
  have m6 := bel_get ((cell_of_row _ _ 6 _ _ (0, 0) hM).trans (show _ = some (Value.int .i64 s.arr) from rfl))
  clear hN hM
  have HB0 := Lib.hid hb0
  clear hb0
  have KW : Hid (∀ W, SW w5 W → Calls Tryz.prog 9 #[] W fun e w' => e = .returned (.bool true) ∧ SW w5 w') := Lib.hid (SW.call (fun W h => awake9_any W))
  have KR : Hid (∀ W, SW w5 W → Calls Tryz.prog 8 #[encP p, .slice A0 fs.length c0, .slice A sh.length c] W fun e w' => ∃ b : Bool, e = .returned (.bool b) ∧ (b = true → Val9 p fs sh) ∧ SW w5 w') := Lib.hid (fun W h => (right9_any p _ fs A c sh W HI.out (HP.out.more h) (HV.out.more h)).mono (by rintro e w' ⟨b, rfl, hb, hbl⟩; exact ⟨b, rfl, hb, Below.trans h (Below.mono hbl (Below.size h))⟩))
  have hS : SW w5 w5 := Below.refl _ _
  have z0 := f0 _ hS
  have z1 := f1 _ hS
  go_upto_if 17 with (go_at_call 8; with_reducible refine (KR.out _ hS).mono ?_; rintro e w1 ⟨b, rfl, hV9, hS1⟩)
  clear z0 z1 hS
  cases b with
  | false =>
    clear hV9
    go_wp2_with (go_at_call 9; with_reducible refine (KW.out _ hS1).mono ?_; rintro e w2 ⟨rfl, hS2⟩)
    go_ret
    exact ⟨rfl, HB0.out.trans (Below.mono hS2 HB0.out.size)⟩
  | true =>
    have HV9 := Lib.hid (hV9 rfl)
    clear hV9
    have K1 : Hid (∀ W, SW w5 W → Calls Tryz.prog 20 #[encP p, .slice A0 fs.length c0, .slice A sh.length c, encS7 s] W fun e w' => ∃ v er I, e = .returned (.tuple #[v, .int .i64 er]) ∧ RowL 4 encI w' v I ∧ Hid (CvR (fun f e I => PathR p.l f (operF sh s) e I) fs (operF sh s) er I) ∧ SW w5 w') := Lib.hid (fun W h => (ccover_any p _ fs A c sh s W (fun _ => HV9.out.okPl) HV9.out.okT (fun f hf => (HV9.out.legs hf).1) (HP.out.more h).air (HV.out.more h) (by have := HV9.out.ls; omega) (HSH.out.more h) HD.out).mono (by rintro e w' ⟨v, er, I, rfl, h1, h2, hb⟩; exact ⟨v, er, I, rfl, h1, h2, Below.trans h (Below.mono hb (Below.size h))⟩))
    have K2 : Hid (∀ W, SW w5 W → Calls Tryz.prog 21 #[encP p, .slice A0 fs.length c0, .slice A sh.length c, encS7 s] W fun e w' => ∃ v er I, e = .returned (.tuple #[v, .int .i64 er]) ∧ RowL 4 encI w' v I ∧ Hid (CvR (fun f e I => RPathR p.l f (operF sh s) e I) fs (operF sh s) er I) ∧ SW W w') := Lib.hid (fun W h => (rccover_any p _ fs A c sh s W (fun _ => HV9.out.okPl) HV9.out.okT (fun f hf => (HV9.out.legs hf).1) (HP.out.more h).air (HV.out.more h) (by have := HV9.out.ls; omega) (HSH.out.more h) HD.out).mono (by rintro e w' ⟨v, er, I, rfl, h1, h2, hb⟩; exact ⟨v, er, I, rfl, h1, h2, hb⟩))
    have KEQ : Hid (∀ e e' I I', CvR (fun f e I => PathR p.l f (operF sh s) e I) fs (operF sh s) e I → CvR (fun f e I => RPathR p.l f (operF sh s) e I) fs (operF sh s) e' I' → (e' = e ∧ I' = I) ∧ I.length ≤ 1000) := Lib.hid (fun e e' I I' h1 h2 => ⟨cv_eq (fun f hf => (chF_nil (HV9.out.mem hf)).2.2.1) h1 h2, cv_len (fun f hf => by have := HV9.out.legs hf; omega) h1⟩)
    have KO : Hid (∀ W, SW w5 W → Calls Tryz.prog 15 #[.slice A sh.length c, encS7 s] W fun e w' => e = .returned (encS7 (operF sh s)) ∧ SW W w') := Lib.hid (fun W h => operating_any A c sh s W (by have := HV9.out.ls; omega) (HSH.out.more h) HD.out)
    have KQ : Hid (∀ W, SW w5 W → Calls Tryz.prog 22 #[.slice A sh.length c, encS7 s] W fun e w' => e = .returned (encS7 (operF sh s)) ∧ SW W w') := Lib.hid (fun W h => roperating_any A c sh s W (by have := HV9.out.ls; omega) (HSH.out.more h) HD.out)
    have KI : Hid (∀ u1 u2 I W, RowL 4 encI W u1 I → RowL 4 encI W u2 I → I.length ≤ 1000 → SW w5 W → Calls Tryz.prog 23 #[u1, u2] W fun e w' => e = .returned (.bool true) ∧ SW w5 w') := Lib.hid (fun u1 u2 I W h1 h2 hn h => (sameIds_any u1 u2 I W (by omega) h1 h2).mono (by rintro e w' ⟨rfl, hb⟩; exact ⟨rfl, Below.trans h (Below.mono hb (Below.size h))⟩))
    generalize operF sh s = o at *
    have z0 := f0 _ hS1
    have z1 := f1 _ hS1
    have x0 := m0 _ hS1
    have x1 := m1 _ hS1
    have x2 := m2 _ hS1
    have x3 := m3 _ hS1
    have x4 := m4 _ hS1
    have x5 := m5 _ hS1
    have x6 := m6 _ hS1
    go_upto_region 4 with (go_at_call 20; with_reducible refine (K1.out _ hS1).mono ?_; rintro e w2 ⟨u1, er, I, rfl, hI1, hR1, hS2⟩)
    clear z0 z1 x0 x1 x2 x3 x4 x5 x6
    have z0 := f0 _ hS2
    have z1 := f1 _ hS2
    have x0 := m0 _ hS2
    have x1 := m1 _ hS2
    have x2 := m2 _ hS2
    have x3 := m3 _ hS2
    have x4 := m4 _ hS2
    have x5 := m5 _ hS2
    have x6 := m6 _ hS2
    go_upto_region 5 with (go_at_call 21; with_reducible refine (K2.out _ hS2).mono ?_; rintro e w3 ⟨u2, er2, I2, rfl, hI2, hR2, hb3⟩)
    obtain ⟨⟨rfl, rfl⟩, hlen⟩ := KEQ.out _ _ _ _ hR1.out hR2.out
    have hI1 := hI1.more hb3
    have hS3 : SW w5 w3 := Below.trans hS2 (Below.mono hb3 (Below.size hS2))
    have hI1 := hI1.more (Below.drew (Below.refl w3.heap.size w3))
    have hI2 := hI2.more (Below.drew (Below.refl w3.heap.size w3))
    have HLEN := Lib.hid hlen
    clear z0 z1 x0 x1 x2 x3 x4 x5 x6 hS1 hS2 hb3 hR1 hR2 KEQ K1 K2 hlen
    have hS : (SW w5) _ := Below.drew hS3
    refine wp_region_held_drew (S := SW w5) (by kernel_rfl) hS (fun _ => ?_)
    refine wpAnyH_take (i := 0) (v := ?vC0) rfl (by kernel_rfl) (by kernel_rfl) (by kernel_rfl) (fun _ _ _ h => h) (Or.inl ⟨by rfl, ?hyC0⟩) hS ?restC0
    case hyC0 =>
      intro w hSw
      first | (go_simp; done) | (go_simp; with_reducible rfl)
    try simp only [Act.put, List.setIfInBounds_toArray, List.set_cons_zero, List.set_cons_succ]
    refine wpAnyH_take (i := 1) (v := ?vC1) rfl (by kernel_rfl) (by kernel_rfl) (by kernel_rfl) (fun _ _ _ h => h) (Or.inl ⟨by rfl, ?hyC1⟩) hS ?restC1
    case hyC1 =>
      intro w hSw
      have k0 := m0 w hSw; have k1 := m1 w hSw; have k2 := m2 w hSw; have k3 := m3 w hSw; have k4 := m4 w hSw; have k5 := m5 w hSw; have k6 := m6 w hSw
      first | (go_simp; done) | (go_simp; with_reducible rfl)
    try simp only [Act.put, List.setIfInBounds_toArray, List.set_cons_zero, List.set_cons_succ]
    refine wpAnyH_take (i := 3) (v := ?vC3) rfl (by kernel_rfl) (by kernel_rfl) (by kernel_rfl) (fun _ _ _ h => h) (Or.inl ⟨by rfl, ?hyC3⟩) hS ?restC3
    case hyC3 =>
      intro w hSw
      first | (go_simp; done) | (go_simp; with_reducible rfl)
    try simp only [Act.put, List.setIfInBounds_toArray, List.set_cons_zero, List.set_cons_succ]
    refine wpAnyH_take (i := 4) (v := ?vC4) rfl (by kernel_rfl) (by kernel_rfl) (by kernel_rfl) (fun _ _ _ h => h) (Or.inl ⟨by rfl, ?hyC4⟩) hS ?restC4
    case hyC4 =>
      intro w hSw
      have k0 := m0 w hSw; have k1 := m1 w hSw; have k2 := m2 w hSw; have k3 := m3 w hSw; have k4 := m4 w hSw; have k5 := m5 w hSw; have k6 := m6 w hSw
      first | (go_simp; done) | (go_simp; with_reducible rfl)
    try simp only [Act.put, List.setIfInBounds_toArray, List.set_cons_zero, List.set_cons_succ]
    refine wpAnyH_ready (rs := [2]) (by kernel_rfl) (by simp) ?_
    refine AllReadyH.cons rfl (fun K hK => ?_) AllReadyH.nil
    go_simp
    go_wp2_with ((go_at_call 15; with_reducible refine (KO.out _ hS).mono ?_; rintro e w4 ⟨rfl, hb4⟩; have hI1 := hI1.more hb4; have hI2 := hI2.more hb4; have hS : SW w5 w4 := Below.trans hS (Below.mono hb4 (Below.size hS))))
    refine hK.out _ _ hS (fun _ => ?_)
    clear hK K
    refine wpAnyH_ready (rs := [5]) (by kernel_rfl) (by simp) ?_
    refine AllReadyH.cons rfl (fun K hK => ?_) AllReadyH.nil
    go_simp
    go_wp2_with ((go_at_call 22; with_reducible refine (KQ.out _ hS).mono ?_; rintro e w6 ⟨rfl, hb6⟩; have hI1 := hI1.more hb6; have hI2 := hI2.more hb6; have hS : SW w5 w6 := Below.trans hS (Below.mono hb6 (Below.size hS))))
    refine hK.out _ _ hS (fun _ => ?_)
    clear hK K
    refine wpAnyH_take (i := 6) (v := ?vC6) rfl (by kernel_rfl) (by kernel_rfl) (by kernel_rfl) (fun _ _ _ h => h) (Or.inl ⟨by rfl, ?hyC6⟩) hS ?restC6
    case hyC6 =>
      intro w hSw
      first | (go_simp; done) | (go_simp; with_reducible rfl)
    try simp only [Act.put, List.setIfInBounds_toArray, List.set_cons_zero, List.set_cons_succ]
    refine wpAnyH_take (i := 7) (v := ?vC7) rfl (by kernel_rfl) (by kernel_rfl) (by kernel_rfl) (fun _ _ _ h => h) (Or.inl ⟨by rfl, ?hyC7⟩) hS ?restC7
    case hyC7 =>
      intro w hSw
      first | (go_simp; done) | (go_simp; with_reducible rfl)
    try simp only [Act.put, List.setIfInBounds_toArray, List.set_cons_zero, List.set_cons_succ]
    refine wpAnyH_take (i := 8) (v := ?vC8) rfl (by kernel_rfl) (by kernel_rfl) (by kernel_rfl) (fun _ _ _ h => h) (Or.inl ⟨by kernel_rfl, ?hyC8⟩) hS ?restC8
    case hyC8 =>
      intro w hSw
      first | (go_simp; done) | (go_simp; with_reducible rfl)
    try simp only [Act.put, List.setIfInBounds_toArray, List.set_cons_zero, List.set_cons_succ]
    refine wpAnyH_take (i := 9) (v := ?vC9) rfl (by kernel_rfl) (by kernel_rfl) (by kernel_rfl) (fun _ _ _ h => h) (Or.inl ⟨by kernel_rfl, ?hyC9⟩) hS ?restC9
    case hyC9 =>
      intro w hSw
      first | (go_simp; done) | (go_simp; with_reducible rfl)
    try simp only [Act.put, List.setIfInBounds_toArray, List.set_cons_zero, List.set_cons_succ]
    refine wpAnyH_ready (rs := [10]) (by kernel_rfl) (by simp) ?_
    refine AllReadyH.cons rfl (fun K hK => ?_) AllReadyH.nil
    go_simp
    go_wp2_with ((go_at_call 23; with_reducible refine (KI.out _ _ _ _ hI1 hI2 HLEN.out hS).mono ?_; rintro e w7 ⟨rfl, hS⟩))
    refine hK.out _ _ hS (fun _ => ?_)
    clear hK K
    refine wpAnyH_take (i := 11) (v := ?vC11) rfl (by kernel_rfl) (by kernel_rfl) (by kernel_rfl) (fun _ _ _ h => h) (Or.inl ⟨by rfl, ?hyC11⟩) hS ?restC11
    case hyC11 =>
      intro w hSw
      first | (go_simp; done) | (go_simp; with_reducible rfl)
    try simp only [Act.put, List.setIfInBounds_toArray, List.set_cons_zero, List.set_cons_succ]
    refine wpAnyH_take (i := 12) (v := ?vC12) rfl (by kernel_rfl) (by kernel_rfl) (by kernel_rfl) (fun _ _ _ h => h) (Or.inl ⟨by rfl, ?hyC12⟩) hS ?restC12
    case hyC12 =>
      intro w hSw
      first | (go_simp; done) | (go_simp; with_reducible rfl)
    try simp only [Act.put, List.setIfInBounds_toArray, List.set_cons_zero, List.set_cons_succ]
    refine wpAnyH_take (i := 13) (v := ?vC13) rfl (by kernel_rfl) (by kernel_rfl) (by kernel_rfl) (fun _ _ _ h => h) (Or.inl ⟨by kernel_rfl, ?hyC13⟩) hS ?restC13
    case hyC13 =>
      intro w hSw
      first | (go_simp; done) | (go_simp; with_reducible rfl)
    try simp only [Act.put, List.setIfInBounds_toArray, List.set_cons_zero, List.set_cons_succ]
    refine wpAnyH_take (i := 14) (v := ?vC14) rfl (by kernel_rfl) (by kernel_rfl) (by kernel_rfl) (fun _ _ _ h => h) (Or.inl ⟨by kernel_rfl, ?hyC14⟩) hS ?restC14
    case hyC14 =>
      intro w hSw
      first | (go_simp; done) | (go_simp; with_reducible rfl)
    try simp only [Act.put, List.setIfInBounds_toArray, List.set_cons_zero, List.set_cons_succ]
    refine wpAnyH_take (i := 15) (v := ?vC15) rfl (by kernel_rfl) (by kernel_rfl) (by kernel_rfl) (fun _ _ _ h => h) (Or.inl ⟨by kernel_rfl, ?hyC15⟩) hS ?restC15
    case hyC15 =>
      intro w hSw
      first | (go_simp; done) | (go_simp; with_reducible rfl)
    try simp only [Act.put, List.setIfInBounds_toArray, List.set_cons_zero, List.set_cons_succ]
    refine wpAnyH_take (i := 16) (v := ?vC16) rfl (by kernel_rfl) (by kernel_rfl) (by kernel_rfl) (fun _ _ _ h => h) (Or.inl ⟨by rfl, ?hyC16⟩) hS ?restC16
    case hyC16 =>
      intro w hSw
      first | (go_simp; done) | (go_simp; with_reducible rfl)
    try simp only [Act.put, List.setIfInBounds_toArray, List.set_cons_zero, List.set_cons_succ]
    refine wpAnyH_take (i := 17) (v := ?vC17) rfl (by kernel_rfl) (by kernel_rfl) (by kernel_rfl) (fun _ _ _ h => h) (Or.inl ⟨by rfl, ?hyC17⟩) hS ?restC17
    case hyC17 =>
      intro w hSw
      first | (go_simp; done) | (go_simp; with_reducible rfl)
    try simp only [Act.put, List.setIfInBounds_toArray, List.set_cons_zero, List.set_cons_succ]
    refine wpAnyH_ready (rs := [18]) (by kernel_rfl) (by simp) ?_
    refine AllReadyH.cons rfl (fun K hK => ?_) AllReadyH.nil
    go_simp
    go_wp2_with ((go_at_call 9; with_reducible refine (KW.out _ hS).mono ?_; rintro e w9 ⟨rfl, hS⟩))
    refine hK.out _ _ hS (fun _ => ?_)
    clear hK K
    refine wpAnyH_take (i := 19) (v := ?vC19) rfl (by kernel_rfl) (by kernel_rfl) (by kernel_rfl) (fun _ _ _ h => h) (Or.inl ⟨by rfl, ?hyC19⟩) hS ?restC19
    case hyC19 =>
      intro w hSw
      first | (go_simp; done) | (go_simp; with_reducible rfl)
    try simp only [Act.put, List.setIfInBounds_toArray, List.set_cons_zero, List.set_cons_succ]
    refine wpAnyH_take (i := 20) (v := ?vC20) rfl (by kernel_rfl) (by kernel_rfl) (by kernel_rfl) (fun _ _ _ h => h) (Or.inl ⟨by rfl, ?hyC20⟩) hS ?restC20
    case hyC20 =>
      intro w hSw
      first | (go_simp; done) | (go_simp; with_reducible rfl)
    try simp only [Act.put, List.setIfInBounds_toArray, List.set_cons_zero, List.set_cons_succ]
    refine wpAnyH_done (by kernel_rfl) ?_ _
    try simp only [List.getElem_toArray, List.getElem_cons_succ, List.getElem_cons_zero, List.set_cons_zero, List.set_cons_succ]
    go_wp2
    go_ret
    exact ⟨rfl, HB0.out.trans (Below.mono hS HB0.out.size)⟩
set_option maxRecDepth 100000 in
set_option maxHeartbeats 8000000 in
theorem codeshareFinds_walk (p : PV) (v : Value) (fs : List FV) (A : Option Addr) (c : Nat) (sh : List Sh) (q : Sg) (w : World) (hi : Inp9 p fs sh) (hso : ∀ s ∈ sh, OkSh s) (hP : PlL w p) (hv : TblL w v fs) (hs : RowL 9 encSh9 w (.slice A sh.length c) sh) (hd : -9223372036854775808 ≤ q.day ∧ q.day ≤ 9223372036854775807) :
    Calls Tryz.prog 4 #[encP p, v, .slice A sh.length c, encS7 q] w fun e w' => e = .returned (.bool true) ∧ Below w.heap.size w w' := by
  obtain ⟨A0, c0, rfl, _⟩ := id hv.row
  obtain ⟨hN, hM, hb0⟩ := two_new2 w #[.slice p.A p.l.length p.ca, .slice p.D p.ds.length p.cd] #[.string q.car, .int .i64 q.num, .int .i64 q.day, .string q.f, .string q.t, .int .i64 q.dep, .int .i64 q.arr] placesT segT
  obtain ⟨B, hB⟩ : ∃ B, B = w.heap.size := ⟨_, rfl⟩
  rw [← hB] at hN hM
  have HP := Lib.hid (hP.more hb0)
  have HV := Lib.hid (hv.more hb0)
  have HSH := Lib.hid (hs.more hb0)
  have HI := Lib.hid hi
  have HSO := Lib.hid hso
  have HD := Lib.hid hd
  clear hP hv hi hs hso hd
  go_enter Tryz.func4, Tryz.ntmps4
  go_upto_region 1 with fail
  rw [← hB]
  have HBX := Lib.hid hB
  clear hB
  generalize hw5 : (w.alloc (.cells #[.slice p.A p.l.length p.ca, .slice p.D p.ds.length p.cd] placesT)).alloc (.cells #[.string q.car, .int .i64 q.num, .int .i64 q.day, .string q.f, .string q.t, .int .i64 q.dep, .int .i64 q.arr] segT) = w5 at *
  clear hw5
  have f0 := bel_get ((cell_of_row _ _ 0 _ _ (0, 0) hN).trans (show _ = some (Value.slice p.A p.l.length p.ca) from rfl))
  have f1 := bel_get ((cell_of_row _ _ 1 _ _ (0, 0) hN).trans (show _ = some (Value.slice p.D p.ds.length p.cd) from rfl))
  have m0 := bel_get ((cell_of_row _ _ 0 _ _ (0, 0) hM).trans (show _ = some (Value.string q.car) from rfl))
  have m1 := bel_get ((cell_of_row _ _ 1 _ _ (0, 0) hM).trans (show _ = some (Value.int .i64 q.num) from rfl))
  have m2 := bel_get ((cell_of_row _ _ 2 _ _ (0, 0) hM).trans (show _ = some (Value.int .i64 q.day) from rfl))
  have m3 := bel_get ((cell_of_row _ _ 3 _ _ (0, 0) hM).trans (show _ = some (Value.string q.f) from rfl))
  have m4 := bel_get ((cell_of_row _ _ 4 _ _ (0, 0) hM).trans (show _ = some (Value.string q.t) from rfl))
  have m5 := bel_get ((cell_of_row _ _ 5 _ _ (0, 0) hM).trans (show _ = some (Value.int .i64 q.dep) from rfl))
  have m6 := bel_get ((cell_of_row _ _ 6 _ _ (0, 0) hM).trans (show _ = some (Value.int .i64 q.arr) from rfl))
  clear hN hM
  have HB0 := Lib.hid hb0
  clear hb0
  have KW : Hid (∀ W, SW w5 W → Calls Tryz.prog 9 #[] W fun e w' => e = .returned (.bool true) ∧ SW w5 w') := Lib.hid (SW.call (fun W h => awake9_any W))
  have KR : Hid (∀ W, SW w5 W → Calls Tryz.prog 8 #[encP p, .slice A0 fs.length c0, .slice A sh.length c] W fun e w' => ∃ b : Bool, e = .returned (.bool b) ∧ (b = true → Val9 p fs sh) ∧ SW w5 w') := Lib.hid (fun W h => (right9_any p _ fs A c sh W HI.out (HP.out.more h) (HV.out.more h)).mono (by rintro e w' ⟨b, rfl, hb, hbl⟩; exact ⟨b, rfl, hb, Below.trans h (Below.mono hbl (Below.size h))⟩))
  have hS : SW w5 w5 := Below.refl _ _
  have z0 := f0 _ hS
  have z1 := f1 _ hS
  go_upto_if 20 with (go_at_call 8; with_reducible refine (KR.out _ hS).mono ?_; rintro e w1 ⟨b, rfl, hV9, hS1⟩)
  clear z0 z1 hS
  cases b with
  | false =>
    clear hV9
    go_wp2_with (go_at_call 9; with_reducible refine (KW.out _ hS1).mono ?_; rintro e w2 ⟨rfl, hS2⟩)
    go_ret
    exact ⟨rfl, HB0.out.trans (Below.mono hS2 HB0.out.size)⟩
  | true =>
    have HV9 := Lib.hid (hV9 rfl)
    clear hV9
    have K1 : Hid (∀ W, SW w5 W → Calls Tryz.prog 13 #[encP p, .slice A0 fs.length c0, .slice A sh.length c, .string q.car, .int .i64 q.num, .int .i64 q.day, .string q.f, .string q.t] W fun e w' => e = .returned (.tuple #[encS7 (soldF p.l fs sh q.car q.num q.day q.f q.t).2, .int .i64 (soldF p.l fs sh q.car q.num q.day q.f q.t).1]) ∧ SW w5 w') := Lib.hid (SW.call (fun W h => cfind_any p _ fs A c sh q.car q.num q.day q.f q.t W (fun _ => HV9.out.okPl) HV9.out.okT (HP.out.more h).air (HV.out.more h) (by have := HV9.out.ls; omega) (HSH.out.more h) HD.out.1 HD.out.2))
    have K2 : Hid (∀ W, SW w5 W → Calls Tryz.prog 14 #[encP p, .slice A0 fs.length c0, .slice A sh.length c, .string q.car, .int .i64 q.num, .int .i64 q.day, .string q.f, .string q.t] W fun e w' => e = .returned (.tuple #[encS7 (soldF p.l fs sh q.car q.num q.day q.f q.t).2, .int .i64 (soldF p.l fs sh q.car q.num q.day q.f q.t).1]) ∧ SW W w') := Lib.hid (fun W h => rcfind_any p _ fs A c sh q.car q.num q.day q.f q.t W (fun _ => HV9.out.okPl) HV9.out.okT (HP.out.more h).air (HV.out.more h) (by have := HV9.out.ls; omega) (HSH.out.more h) HD.out.1 HD.out.2)
    have HDY : Hid ((soldF p.l fs sh q.car q.num q.day q.f q.t).1 = 0 → (soldF p.l fs sh q.car q.num q.day q.f q.t).2.day = q.day) := Lib.hid (sold_day (L := p.l))
    have HSO2 : Hid ((soldF p.l fs sh q.car q.num q.day q.f q.t).1 = 0 → segF p.l fs (operF sh (soldF p.l fs sh q.car q.num q.day q.f q.t).2).car (operF sh (soldF p.l fs sh q.car q.num q.day q.f q.t).2).num (operF sh (soldF p.l fs sh q.car q.num q.day q.f q.t).2).day (operF sh (soldF p.l fs sh q.car q.num q.day q.f q.t).2).f (operF sh (soldF p.l fs sh q.car q.num q.day q.f q.t).2).t = (0, operF sh (soldF p.l fs sh q.car q.num q.day q.f q.t).2)) := Lib.hid (sold_oper (L := p.l))
    generalize (soldF p.l fs sh q.car q.num q.day q.f q.t).1 = er at *
    generalize (soldF p.l fs sh q.car q.num q.day q.f q.t).2 = a at *
    have KO : Hid (er = 0 → ∀ W, SW w5 W → Calls Tryz.prog 15 #[.slice A sh.length c, encS7 a] W fun e w' => e = .returned (encS7 (operF sh a)) ∧ SW W w') := Lib.hid (fun he W h => operating_any A c sh a W (by have := HV9.out.ls; omega) (HSH.out.more h) (by rw [HDY.out he]; exact HD.out))
    have KG : Hid (er = 0 → ∀ W, SW w5 W → Calls Tryz.prog 16 #[encP p, .slice A0 fs.length c0, .string (operF sh a).car, .int .i64 (operF sh a).num, .int .i64 (operF sh a).day, .string (operF sh a).f, .string (operF sh a).t] W fun e w' => e = .returned (.tuple #[encS7 (operF sh a), .int .i64 0]) ∧ SW W w') := Lib.hid (fun he W h => by
      have k := rseg8_any p (.slice A0 fs.length c0) fs (operF sh a).car (operF sh a).num (operF sh a).day (operF sh a).f (operF sh a).t W (fun _ => HV9.out.okPl) HV9.out.okT (HP.out.more h).air (HV.out.more h) (by rw [operF_day, HDY.out he]; exact HD.out.1) (by rw [operF_day, HDY.out he]; exact HD.out.2)
      rw [HSO2.out he] at k
      exact k)
    clear HSO2 HDY
    generalize operF sh a = o at *
    have z0 := f0 _ hS1
    have z1 := f1 _ hS1
    have x0 := m0 _ hS1
    have x1 := m1 _ hS1
    have x2 := m2 _ hS1
    have x3 := m3 _ hS1
    have x4 := m4 _ hS1
    go_upto_region 4 with (go_at_call 13; with_reducible refine (K1.out _ hS1).mono ?_; rintro e w2 ⟨rfl, hS2⟩)
    clear z0 z1 x0 x1 x2 x3 x4
    have hbA := bel_alloc w2 (.cells #[.string a.car, .int .i64 a.num, .int .i64 a.day, .string a.f, .string a.t, .int .i64 a.dep, .int .i64 a.arr] segT)
    have a0 := seg_box w2 a 0 _ rfl
    have a1 := seg_box w2 a 1 _ rfl
    have a2 := seg_box w2 a 2 _ rfl
    have a3 := seg_box w2 a 3 _ rfl
    have a4 := seg_box w2 a 4 _ rfl
    have a5 := seg_box w2 a 5 _ rfl
    have a6 := seg_box w2 a 6 _ rfl
    have hS3 : SW w5 (w2.alloc (.cells #[.string a.car, .int .i64 a.num, .int .i64 a.day, .string a.f, .string a.t, .int .i64 a.dep, .int .i64 a.arr] segT)) := Below.trans hS2 (Below.mono hbA (Below.size hS2))
    generalize w2.heap.size = ba at *
    generalize w2.alloc (.cells #[.string a.car, .int .i64 a.num, .int .i64 a.day, .string a.f, .string a.t, .int .i64 a.dep, .int .i64 a.arr] segT) = w3 at *
    clear hbA hS2
    have z0 := f0 _ hS3
    have z1 := f1 _ hS3
    have x0 := m0 _ hS3
    have x1 := m1 _ hS3
    have x2 := m2 _ hS3
    have x3 := m3 _ hS3
    have x4 := m4 _ hS3
    go_upto_region 5 with (go_at_call 14; with_reducible refine (K2.out _ hS3).mono ?_; rintro e w4 ⟨rfl, hb4⟩)
    clear z0 z1 x0 x1 x2 x3 x4
    have hbB := bel_alloc w4 (.cells #[.string a.car, .int .i64 a.num, .int .i64 a.day, .string a.f, .string a.t, .int .i64 a.dep, .int .i64 a.arr] segT)
    have b0 := seg_box w4 a 0 _ rfl
    have b1 := seg_box w4 a 1 _ rfl
    have b2 := seg_box w4 a 2 _ rfl
    have b3 := seg_box w4 a 3 _ rfl
    have b4 := seg_box w4 a 4 _ rfl
    have b5 := seg_box w4 a 5 _ rfl
    have b6 := seg_box w4 a 6 _ rfl
    have hbC := Below.trans hb4 (Below.mono hbB (Below.size hb4))
    have hS5 : SW w5 (w4.alloc (.cells #[.string a.car, .int .i64 a.num, .int .i64 a.day, .string a.f, .string a.t, .int .i64 a.dep, .int .i64 a.arr] segT)) := Below.trans hS3 (Below.mono hbC (Below.size hS3))
    have a0 := bel_cell hbC a0
    have a1 := bel_cell hbC a1
    have a2 := bel_cell hbC a2
    have a3 := bel_cell hbC a3
    have a4 := bel_cell hbC a4
    have a5 := bel_cell hbC a5
    have a6 := bel_cell hbC a6
    generalize w4.heap.size = bb at *
    generalize w4.alloc (.cells #[.string a.car, .int .i64 a.num, .int .i64 a.day, .string a.f, .string a.t, .int .i64 a.dep, .int .i64 a.arr] segT) = w6 at *
    clear hbB hbC hb4 hS3
    by_cases he : er = 0
    rotate_left
    · have g0 : (er != 0) = true := by simp [he]
      clear he
      go_wp2_with (go_at_call 9; with_reducible refine (KW.out _ hS5).mono ?_; rintro e w9 ⟨rfl, hS9⟩)
      go_ret
      exact ⟨rfl, HB0.out.trans (Below.mono hS9 HB0.out.size)⟩
    have KO2 := Lib.hid (KO.out he)
    have KG2 := Lib.hid (KG.out he)
    clear KO KG
    subst he
    go_upto_region 10 with (go_at_call 15; with_reducible refine (KO2.out _ hS5).mono ?_; rintro e w7 ⟨rfl, hb7⟩)
    clear b0 b1 b2 b3 b4 b5 b6 a0 a1 a2 a3 a4 a5 a6
    have hbD := bel_alloc w7 (.cells #[.string o.car, .int .i64 o.num, .int .i64 o.day, .string o.f, .string o.t, .int .i64 o.dep, .int .i64 o.arr] segT)
    have a0 := seg_box w7 o 0 _ rfl
    have a1 := seg_box w7 o 1 _ rfl
    have a2 := seg_box w7 o 2 _ rfl
    have a3 := seg_box w7 o 3 _ rfl
    have a4 := seg_box w7 o 4 _ rfl
    have a5 := seg_box w7 o 5 _ rfl
    have a6 := seg_box w7 o 6 _ rfl
    have hS7 : SW w5 (w7.alloc (.cells #[.string o.car, .int .i64 o.num, .int .i64 o.day, .string o.f, .string o.t, .int .i64 o.dep, .int .i64 o.arr] segT)) := Below.trans (Below.trans hS5 (Below.mono hb7 (Below.size hS5))) (Below.mono hbD (Nat.le_trans (Below.size hS5) (Below.size hb7)))
    generalize w7.heap.size = bo at *
    generalize w7.alloc (.cells #[.string o.car, .int .i64 o.num, .int .i64 o.day, .string o.f, .string o.t, .int .i64 o.dep, .int .i64 o.arr] segT) = w8 at *
    clear hbD hb7 hS5
    have z0 := f0 _ hS7
    have z1 := f1 _ hS7
    go_upto_region 11 with (go_at_call 16; with_reducible refine (KG2.out _ hS7).mono ?_; rintro e w9 ⟨rfl, hb9⟩)
    clear z0 z1
    have hbE := bel_alloc w9 (.cells #[.string o.car, .int .i64 o.num, .int .i64 o.day, .string o.f, .string o.t, .int .i64 o.dep, .int .i64 o.arr] segT)
    have b0 := seg_box w9 o 0 _ rfl
    have b1 := seg_box w9 o 1 _ rfl
    have b2 := seg_box w9 o 2 _ rfl
    have b3 := seg_box w9 o 3 _ rfl
    have b4 := seg_box w9 o 4 _ rfl
    have b5 := seg_box w9 o 5 _ rfl
    have b6 := seg_box w9 o 6 _ rfl
    have hbF := Below.trans hb9 (Below.mono hbE (Below.size hb9))
    have hS9 : SW w5 (w9.alloc (.cells #[.string o.car, .int .i64 o.num, .int .i64 o.day, .string o.f, .string o.t, .int .i64 o.dep, .int .i64 o.arr] segT)) := Below.trans hS7 (Below.mono hbF (Below.size hS7))
    have a0 := bel_cell hbF a0
    have a1 := bel_cell hbF a1
    have a2 := bel_cell hbF a2
    have a3 := bel_cell hbF a3
    have a4 := bel_cell hbF a4
    have a5 := bel_cell hbF a5
    have a6 := bel_cell hbF a6
    generalize w9.heap.size = bg at *
    generalize w9.alloc (.cells #[.string o.car, .int .i64 o.num, .int .i64 o.day, .string o.f, .string o.t, .int .i64 o.dep, .int .i64 o.arr] segT) = w10 at *
    clear hbE hbF hb9 hS7
    go_wp2_with (go_at_call 9; with_reducible refine (KW.out _ hS9).mono ?_; rintro e w11 ⟨rfl, hS11⟩)
    go_ret
    exact ⟨rfl, HB0.out.trans (Below.mono hS11 HB0.out.size)⟩
end Go.Proofs.YtdpcjafkahhecaaGreatDoor
