/- Words and walks that the laws below ask: SchU, SchV. -/
import Derived.Test.YtldillnjnjkkgaaGreatDoorPk7
import Derived.Test.YtldillnjnjkkgaaGreatDoorPk12
import Derived.Test.YtldillnjnjkkgaaGreatDoorPk13
import Derived.Test.YtldillnjnjkkgaaGreatDoorPk16
import Derived.Test.YtldillnjnjkkgaaGreatDoorPk17
import Derived.Test.YtldillnjnjkkgaaGreatDoorPk18
/- Walk of few; what the checks of timetables return. -/
namespace Go.Proofs.YtldillnjnjkkgaaGreatDoor
open Go.RowKit Go.Shelf
set_option linter.unusedSimpArgs false
set_option linter.unusedVariables false

/-- places and flights as they are given -/
structure Inp (p : PV) (fs : List FV) : Prop where
  oA : ∀ a ∈ p.l, OkA a
  oD : ∀ d ∈ p.ds, OkD d
  la : p.l.length ≤ 2000000
  ld : p.ds.length ≤ 2000000
  ok : ∀ f ∈ fs, OkFl f
  len : fs.length < 9223372036854775808
def FewPost (p : PV) (fs : List FV) (w : World) (e : Ending) (w' : World) : Prop := ∃ b : Bool, e = .returned (.bool b) ∧ (b = true → SmallT p fs ∧ chkP p = []) ∧ Below w.heap.size w w'
set_option maxRecDepth 100000 in
set_option maxHeartbeats 4000000 in
theorem few_any (p : PV) (v : Value) (fs : List FV) (w : World) (hi : Inp p fs) (hP : PlL w p) (hv : TblL w v fs) :
    Calls Tryz.prog 21 #[encP p, v] w (FewPost p fs w) := by
  have hb0 := bel_alloc w (.cells #[.slice p.A p.l.length p.ca, .slice p.D p.ds.length p.cd] placesT)
  have p0 := (cells_new w #[.slice p.A p.l.length p.ca, .slice p.D p.ds.length p.cd] placesT 0).trans (show _ = some (Value.slice p.A p.l.length p.ca) from rfl)
  have p1 := (cells_new w #[.slice p.A p.l.length p.ca, .slice p.D p.ds.length p.cd] placesT 1).trans (show _ = some (Value.slice p.D p.ds.length p.cd) from rfl)
  have HP := Lib.hid (hP.more hb0)
  have HV := Lib.hid (hv.more hb0)
  have HI := Lib.hid hi
  clear hP hv hi
  go_enter Tryz.func21, Tryz.ntmps21
  go_upto_region 1 with fail
  generalize hw5 : w.alloc (.cells #[.slice p.A p.l.length p.ca, .slice p.D p.ds.length p.cd] placesT) = w5 at *
  clear hw5
  have y0 := bel_get p0
  have y1 := bel_get p1
  clear p0 p1
  have KB : Hid (∀ W, SW w5 W → Calls Tryz.prog 36 #[encP p, v] W fun e w' => ∃ r : Value, e = .returned r ∧ Hid (r = .bool true ∨ (r = .bool false ∧ SmallT p fs)) ∧ SW w5 w') := Lib.hid (fun W h => (big8_any p v fs W (HV.out.more h) HI.out.len (fun f hf => (HI.out.ok f hf).len) (by have := HI.out.la; omega) (by have := HI.out.ld; omega)).mono (by rintro e w' ⟨v, rfl, hv, hb⟩; exact ⟨v, rfl, hv, Below.trans h (Below.mono hb h.size)⟩))
  have KC : Hid (∀ W, SW w5 W → Calls Tryz.prog 74 #[encP p] W fun e w' => ∃ A c, e = .returned (.slice A (chkP p).length c) ∧ SW w5 w') := Lib.hid (fun W h => (rcheck6_anyB p W ⟨HI.out.oA, HI.out.oD, HI.out.la, HI.out.ld⟩ (HP.out.more h)).mono (by rintro e w' ⟨v, rfl, hO, hb⟩; obtain ⟨A, c, rfl, _⟩ := hO.rowL rtF.len; exact ⟨A, c, rfl, Below.trans h (Below.mono hb h.size)⟩))
  have hS : SW w5 w5 := Below.refl _ _
  have z0 := y0 _ hS
  have z1 := y1 _ hS
  go_wp2_with (go_at_call 36; refine (KB.out _ hS).mono ?_; rintro e w1 ⟨v1, rfl, hv1, hS⟩; refine Hid.out ?_)
  clear z0 z1
  rcases hv1.out with rfl | ⟨rfl, sm⟩
  · refine Lib.hid ?_
    go_wp2
    go_ret
    exact ⟨false, rfl, (fun h => by cases h), hb0.trans (Below.mono hS hb0.size)⟩
  have z0 := y0 _ hS
  have z1 := y1 _ hS
  have HSM := Lib.hid sm
  clear sm hv1
  refine Lib.hid ?_
  by_cases hc0 : chkP p = []
  · have HC0 := Lib.hid hc0
    rw [hc0] at KC
    simp only [List.length_nil] at KC
    clear hc0
    go_wp2_with (go_at_call 74; refine (KC.out _ hS).mono ?_; rintro e w2 ⟨A2, c2, rfl, hS⟩)
    go_ret
    exact ⟨true, rfl, fun _ => ⟨HSM.out, HC0.out⟩, hb0.trans (Below.mono hS hb0.size)⟩
  · have hcl : (((chkP p).length : Int) == 0) = false := by
      rw [beq_eq_false_iff_ne]
      intro h
      exact hc0 (List.eq_nil_of_length_eq_zero (by omega))
    clear hc0
    generalize (chkP p).length = n0 at *
    go_wp2_with (go_at_call 74; refine (KC.out _ hS).mono ?_; rintro e w2 ⟨A2, c2, rfl, hS⟩)
    go_ret
    exact ⟨false, rfl, (fun h => by cases h), hb0.trans (Below.mono hS hb0.size)⟩

theorem wf_of {n : Int} (h : -9223372036854775808 ≤ n ∧ n ≤ 9223372036854775807) : (Lit.int .i64 n).wf = true := by
  have e1 : IntKind.i64.min = -9223372036854775808 := rfl
  have e2 : IntKind.i64.max = 9223372036854775807 := rfl
  simp only [Lit.wf, e1, e2, Bool.and_eq_true, decide_eq_true_eq]
  omega
theorem chF_le8 (l : List Air) (f : FV) (h : f.lg.length ≤ 100) : (chF l f).length ≤ 1000 := by
  have h1 := hdF_le f
  have h2 := lgsF_le l f.lg f.lg.length
  have h3 := pick_le lgsW [4]
  have h4 : ∀ D, (badD l f.lg D).length ≤ 1 := by
    intro D
    induction D with
    | nil => simp [badD]
    | cons d r ih => unfold badD; split; exact ih; simp
  have h5 : (timF l f).length ≤ 1 := h4 _
  unfold chF
  split
  · split
    · omega
    · rw [List.length_append]; omega
  · rw [List.length_append]; simp only [List.length_cons, List.length_nil] at h3; omega
theorem okPl_of {p : PV} {fs : List FV} (sm : SmallT p fs) (hc : chkP p = []) (hne : fs ≠ []) : OkPl p := by
  obtain ⟨f, hf⟩ := List.exists_mem_of_ne_nil _ hne
  exact ⟨by have := (sm.2 f hf).2.1; omega, chk_few hc, chk_okZ hc⟩
/-- schedule.Check of a small timetable and right places -/
theorem scheck_few {p : PV} {v : Value} {fs : List FV} (w : World) (hi : Inp p fs) (hP : PlL w p) (hv : TblL w v fs) (sm : SmallT p fs) (hc : chkP p = []) :
    Calls Tryz.prog 23 #[encP p, v] w fun e w' => ∃ r, e = .returned r ∧ FltL w' r (schF p.l fs fs.length) ∧ Below w.heap.size w w' := by
  refine (scheck_any p v fs w hP.air hv (by have := sm.1; omega) (fun f hf => ?_) (fun f hf W h => ?_)).mono (by rintro e w' ⟨r, rfl, hO, hb⟩; exact ⟨r, rfl, hO.rowL rtF.len, hb⟩)
  · have h1 := (sm.2 f hf).1
    exact ⟨(hi.ok f hf).car, wf_of (hi.ok f hf).num, chF_le8 _ _ (by omega), fun x hx => chF_mem (by omega) hx⟩
  · have h1 := (sm.2 f hf).1
    have op := okPl_of sm hc (List.ne_nil_of_mem hf)
    have of := hi.ok f hf
    have hG := (hv.legs f hf).more h
    exact fcheck_any p f W op.la (hP.air.more h) op.sh op.oz hG (by omega) of.cap of.car of.lg (fun hc h0 W' hW' => checkTimes_any p f W' op.la ((hP.air.more h).more hW') op.sh op.oz (hG.more hW') (by omega) (fun x hx => lgs_times (List.append_eq_nil_iff.1 (List.eq_nil_of_length_eq_zero h0)).2 hx))
/-- the reference's Check of a small timetable and right places -/
theorem rscheck_few {p : PV} {v : Value} {fs : List FV} (w : World) (hi : Inp p fs) (hP : PlL w p) (hv : TblL w v fs) (sm : SmallT p fs) (hc : chkP p = []) :
    Calls Tryz.prog 24 #[encP p, v] w fun e w' => ∃ r, e = .returned r ∧ FltL w' r (schF p.l fs fs.length) ∧ Below w.heap.size w w' := by
  refine (rscheck_any p v fs w hP.air hv (by have := sm.1; omega) (fun f hf => ⟨(hi.ok f hf).pf, (hi.ok f hf).pt, (hi.ok f hf).pd⟩) (fun f hf => ?_) (fun f hf W h => ?_)).mono (by rintro e w' ⟨r, rfl, hO, hb⟩; exact ⟨r, rfl, hO.rowL rtF.len, hb⟩)
  · have h1 := (sm.2 f hf).1
    exact ⟨chF_le8 _ _ (by omega), fun x hx => (chF_mem (by omega) hx).1⟩
  · have h1 := (sm.2 f hf).1
    have op := okPl_of sm hc (List.ne_nil_of_mem hf)
    have of := hi.ok f hf
    exact rfcheck_any p f W op.la (hP.air.more h) op.oz ((hv.legs f hf).more h) (by omega) of.car of.lg of.pf
theorem schF_len {p : PV} {fs : List FV} (sm : SmallT p fs) : (schF p.l fs fs.length).length ≤ 1000000 := by
  have h1 := schF_le p.l fs (fun f hf => chF_le8 _ _ (by have := (sm.2 f hf).1; omega)) fs.length
  have := sm.1
  omega

end Go.Proofs.YtldillnjnjkkgaaGreatDoor

/- Walk of the law ScheduleChecks. -/
namespace Go.Proofs.YtldillnjnjkkgaaGreatDoor
open Go.RowKit Go.Shelf
set_option linter.unusedSimpArgs false
set_option linter.unusedVariables false

set_option maxRecDepth 100000 in
set_option maxHeartbeats 8000000 in
theorem scheduleChecks_walk (p : PV) (v : Value) (fs : List FV) (w : World) (hi : Inp p fs) (hP : PlL w p) (hv : TblL w v fs) :
    Calls Tryz.prog 4 #[encP p, v] w fun e w' => e = .returned (.bool true) ∧ Below w.heap.size w w' := by
  have hb0 := bel_alloc w (.cells #[.slice p.A p.l.length p.ca, .slice p.D p.ds.length p.cd] placesT)
  have p0 := (cells_new w #[.slice p.A p.l.length p.ca, .slice p.D p.ds.length p.cd] placesT 0).trans (show _ = some (Value.slice p.A p.l.length p.ca) from rfl)
  have p1 := (cells_new w #[.slice p.A p.l.length p.ca, .slice p.D p.ds.length p.cd] placesT 1).trans (show _ = some (Value.slice p.D p.ds.length p.cd) from rfl)
  have HP := Lib.hid (hP.more hb0)
  have HV := Lib.hid (hv.more hb0)
  have HI := Lib.hid hi
  clear hP hv hi
  go_enter Tryz.func4, Tryz.ntmps4
  go_upto_region 1 with fail
  generalize hw5 : w.alloc (.cells #[.slice p.A p.l.length p.ca, .slice p.D p.ds.length p.cd] placesT) = w5 at *
  clear hw5
  have y0 := bel_get p0
  have y1 := bel_get p1
  clear p0 p1
  have KW : Hid (∀ W, SW w5 W → Calls Tryz.prog 25 #[] W fun e w' => e = .returned (.bool true) ∧ SW w5 w') := Lib.hid (SW.call (fun W h => knows_any W))
  have KF : Hid (∀ W, SW w5 W → Calls Tryz.prog 21 #[encP p, v] W (FewPost p fs W)) := Lib.hid (fun W h => few_any p v fs W HI.out (HP.out.more h) (HV.out.more h))
  have K1 : Hid (SmallT p fs ∧ chkP p = [] → ∀ W, SW w5 W → Calls Tryz.prog 23 #[encP p, v] W fun e w' => ∃ r, e = .returned r ∧ FltL w' r (schF p.l fs fs.length) ∧ Below W.heap.size W w') := Lib.hid (fun g W h => scheck_few W HI.out (HP.out.more h) (HV.out.more h) g.1 g.2)
  have K2 : Hid (SmallT p fs ∧ chkP p = [] → ∀ W, SW w5 W → Calls Tryz.prog 24 #[encP p, v] W fun e w' => ∃ r, e = .returned r ∧ FltL w' r (schF p.l fs fs.length) ∧ Below W.heap.size W w') := Lib.hid (fun g W h => rscheck_few W HI.out (HP.out.more h) (HV.out.more h) g.1 g.2)
  have KE : Hid (SmallT p fs ∧ chkP p = [] → ∀ u v W, FltL W u (schF p.l fs fs.length) → FltL W v (schF p.l fs fs.length) → SW w5 W → Calls Tryz.prog 22 #[u, v] W fun e w' => e = .returned (.bool true) ∧ SW w5 w') := Lib.hid (fun g u v W hu hv hW => (samF7_any u v _ W hu hv (schF_len g.1)).mono (by rintro e w' ⟨rfl, hb⟩; exact ⟨rfl, Below.trans hW (hb.mono hW.size)⟩))
  have hS : (SW w5) _ := Below.drew (Below.refl _ _)
  refine wp_region_held_drew (S := SW w5) (by kernel_rfl) hS (fun _ => ?_)
  refine wpAnyH_take (i := 0) (v := ?vQ0) rfl (by kernel_rfl) (by kernel_rfl) (by kernel_rfl) (fun _ _ _ h => h) (Or.inl ⟨by rfl, ?hyQ0⟩) hS ?restQ0
  case hyQ0 =>
    intro w hSw
    have k0 := y0 w hSw; have k1 := y1 w hSw
    first | (go_simp; done) | (go_simp; with_reducible rfl)
  try simp only [Act.put, List.setIfInBounds_toArray, List.set_cons_zero, List.set_cons_succ]
  refine wpAnyH_take (i := 1) (v := ?vQ1) rfl (by kernel_rfl) (by kernel_rfl) (by kernel_rfl) (fun _ _ _ h => h) (Or.inl ⟨by rfl, ?hyQ1⟩) hS ?restQ1
  case hyQ1 =>
    intro w hSw
    first | (go_simp; done) | (go_simp; with_reducible rfl)
  try simp only [Act.put, List.setIfInBounds_toArray, List.set_cons_zero, List.set_cons_succ]
  refine wpAnyH_ready (rs := [2]) (by kernel_rfl) (by simp) ?_
  refine AllReadyH.cons rfl (fun K hK => ?_) AllReadyH.nil
  go_simp
  go_wp2_with ((go_at_call 21; refine (KF.out _ hS).mono ?_; rintro e w1 ⟨bF, rfl, hF, hb1⟩; have hS : SW w5 w1 := Below.trans hS (Below.mono hb1 hS.size); have HF := Lib.hid hF; clear hF))
  refine hK.out _ _ hS (fun _ => ?_)
  clear hK K
  refine wpAnyH_take (i := 3) (v := ?vQ3) rfl (by kernel_rfl) (by kernel_rfl) (by kernel_rfl) (fun _ _ _ h => h) (Or.inl ⟨by rfl, ?hyQ3⟩) hS ?restQ3
  case hyQ3 =>
    intro w hSw
    first | (go_simp; done) | (go_simp; with_reducible rfl)
  try simp only [Act.put, List.setIfInBounds_toArray, List.set_cons_zero, List.set_cons_succ]
  refine wpAnyH_take (i := 4) (v := ?vQ4) rfl (by kernel_rfl) (by kernel_rfl) (by kernel_rfl) (fun _ _ _ h => h) (Or.inl ⟨by rfl, ?hyQ4⟩) hS ?restQ4
  case hyQ4 =>
    intro w hSw
    first | (go_simp; done) | (go_simp; with_reducible rfl)
  try simp only [Act.put, List.setIfInBounds_toArray, List.set_cons_zero, List.set_cons_succ]
  cases bF with
  | false =>
    refine wpAnyH_take (i := 5) (v := undef) rfl (by kernel_rfl) (by kernel_rfl) (by kernel_rfl) (fun _ _ _ h => h) (Or.inr ⟨by kernel_rfl, rfl⟩) hS ?_
    try simp only [Act.put, List.setIfInBounds_toArray, List.set_cons_zero, List.set_cons_succ]
    refine wpAnyH_take (i := 6) (v := undef) rfl (by kernel_rfl) (by kernel_rfl) (by kernel_rfl) (fun _ _ _ h => h) (Or.inr ⟨by kernel_rfl, rfl⟩) hS ?_
    try simp only [Act.put, List.setIfInBounds_toArray, List.set_cons_zero, List.set_cons_succ]
    refine wpAnyH_take (i := 7) (v := undef) rfl (by kernel_rfl) (by kernel_rfl) (by kernel_rfl) (fun _ _ _ h => h) (Or.inr ⟨by kernel_rfl, rfl⟩) hS ?_
    try simp only [Act.put, List.setIfInBounds_toArray, List.set_cons_zero, List.set_cons_succ]
    refine wpAnyH_take (i := 8) (v := undef) rfl (by kernel_rfl) (by kernel_rfl) (by kernel_rfl) (fun _ _ _ h => h) (Or.inr ⟨by kernel_rfl, rfl⟩) hS ?_
    try simp only [Act.put, List.setIfInBounds_toArray, List.set_cons_zero, List.set_cons_succ]
    refine wpAnyH_take (i := 9) (v := undef) rfl (by kernel_rfl) (by kernel_rfl) (by kernel_rfl) (fun _ _ _ h => h) (Or.inr ⟨by kernel_rfl, rfl⟩) hS ?_
    try simp only [Act.put, List.setIfInBounds_toArray, List.set_cons_zero, List.set_cons_succ]
    refine wpAnyH_take (i := 10) (v := undef) rfl (by kernel_rfl) (by kernel_rfl) (by kernel_rfl) (fun _ _ _ h => h) (Or.inr ⟨by kernel_rfl, rfl⟩) hS ?_
    try simp only [Act.put, List.setIfInBounds_toArray, List.set_cons_zero, List.set_cons_succ]
    refine wpAnyH_take (i := 11) (v := undef) rfl (by kernel_rfl) (by kernel_rfl) (by kernel_rfl) (fun _ _ _ h => h) (Or.inr ⟨by kernel_rfl, rfl⟩) hS ?_
    try simp only [Act.put, List.setIfInBounds_toArray, List.set_cons_zero, List.set_cons_succ]
    refine wpAnyH_take (i := 12) (v := ?vQf12) rfl (by kernel_rfl) (by kernel_rfl) (by kernel_rfl) (fun _ _ _ h => h) (Or.inl ⟨by rfl, ?hyQf12⟩) hS ?restQf12
    case hyQf12 =>
      intro w hSw
      first | (go_simp; done) | (go_simp; with_reducible rfl)
    try simp only [Act.put, List.setIfInBounds_toArray, List.set_cons_zero, List.set_cons_succ]
    refine wpAnyH_take (i := 13) (v := ?vQf13) rfl (by kernel_rfl) (by kernel_rfl) (by kernel_rfl) (fun _ _ _ h => h) (Or.inl ⟨by rfl, ?hyQf13⟩) hS ?restQf13
    case hyQf13 =>
      intro w hSw
      first | (go_simp; done) | (go_simp; with_reducible rfl)
    try simp only [Act.put, List.setIfInBounds_toArray, List.set_cons_zero, List.set_cons_succ]
    refine wpAnyH_ready (rs := [14]) (by kernel_rfl) (by simp) ?_
    refine AllReadyH.cons rfl (fun K hK => ?_) AllReadyH.nil
    go_simp
    go_wp2_with ((go_at_call 25; refine (KW.out _ hS).mono ?_; rintro e w9 ⟨rfl, hS⟩))
    refine hK.out _ _ hS (fun _ => ?_)
    clear hK K
    refine wpAnyH_take (i := 15) (v := ?vQf15) rfl (by kernel_rfl) (by kernel_rfl) (by kernel_rfl) (fun _ _ _ h => h) (Or.inl ⟨by rfl, ?hyQf15⟩) hS ?restQf15
    case hyQf15 =>
      intro w hSw
      first | (go_simp; done) | (go_simp; with_reducible rfl)
    try simp only [Act.put, List.setIfInBounds_toArray, List.set_cons_zero, List.set_cons_succ]
    refine wpAnyH_take (i := 16) (v := ?vQf16) rfl (by kernel_rfl) (by kernel_rfl) (by kernel_rfl) (fun _ _ _ h => h) (Or.inl ⟨by rfl, ?hyQf16⟩) hS ?restQf16
    case hyQf16 =>
      intro w hSw
      first | (go_simp; done) | (go_simp; with_reducible rfl)
    try simp only [Act.put, List.setIfInBounds_toArray, List.set_cons_zero, List.set_cons_succ]
    refine wpAnyH_done (by kernel_rfl) ?_ _
    try simp only [List.getElem_toArray, List.getElem_cons_succ, List.getElem_cons_zero, List.set_cons_zero, List.set_cons_succ]
    go_wp2
    go_ret
    exact ⟨rfl, hb0.trans (Below.mono hS hb0.size)⟩
  | true =>
    refine wpAnyH_take (i := 5) (v := ?vQt5) rfl (by kernel_rfl) (by kernel_rfl) (by kernel_rfl) (fun _ _ _ h => h) (Or.inl ⟨by kernel_rfl, ?hyQt5⟩) hS ?restQt5
    case hyQt5 =>
      intro w hSw
      have k0 := y0 w hSw; have k1 := y1 w hSw
      first | (go_simp; done) | (go_simp; with_reducible rfl)
    try simp only [Act.put, List.setIfInBounds_toArray, List.set_cons_zero, List.set_cons_succ]
    refine wpAnyH_take (i := 6) (v := ?vQt6) rfl (by kernel_rfl) (by kernel_rfl) (by kernel_rfl) (fun _ _ _ h => h) (Or.inl ⟨by kernel_rfl, ?hyQt6⟩) hS ?restQt6
    case hyQt6 =>
      intro w hSw
      first | (go_simp; done) | (go_simp; with_reducible rfl)
    try simp only [Act.put, List.setIfInBounds_toArray, List.set_cons_zero, List.set_cons_succ]
    refine wpAnyH_take (i := 8) (v := ?vQt8) rfl (by kernel_rfl) (by kernel_rfl) (by kernel_rfl) (fun _ _ _ h => h) (Or.inl ⟨by kernel_rfl, ?hyQt8⟩) hS ?restQt8
    case hyQt8 =>
      intro w hSw
      have k0 := y0 w hSw; have k1 := y1 w hSw
      first | (go_simp; done) | (go_simp; with_reducible rfl)
    try simp only [Act.put, List.setIfInBounds_toArray, List.set_cons_zero, List.set_cons_succ]
    refine wpAnyH_take (i := 9) (v := ?vQt9) rfl (by kernel_rfl) (by kernel_rfl) (by kernel_rfl) (fun _ _ _ h => h) (Or.inl ⟨by kernel_rfl, ?hyQt9⟩) hS ?restQt9
    case hyQt9 =>
      intro w hSw
      first | (go_simp; done) | (go_simp; with_reducible rfl)
    try simp only [Act.put, List.setIfInBounds_toArray, List.set_cons_zero, List.set_cons_succ]
    refine wpAnyH_ready (rs := [7]) (by kernel_rfl) (by simp) ?_
    refine AllReadyH.cons rfl (fun K hK => ?_) AllReadyH.nil
    go_simp
    go_wp2_with ((go_at_call 23; refine (K1.out (HF.out (by first | trivial | rfl)) _ hS).mono ?_; rintro e w2 ⟨u1, rfl, hF1, hb2⟩; have hS : SW w5 w2 := Below.trans hS (Below.mono hb2 hS.size)))
    refine hK.out _ _ hS (fun _ => ?_)
    clear hK K
    refine wpAnyH_ready (rs := [10]) (by kernel_rfl) (by simp) ?_
    refine AllReadyH.cons rfl (fun K hK => ?_) AllReadyH.nil
    go_simp
    go_wp2_with ((go_at_call 24; refine (K2.out (HF.out (by first | trivial | rfl)) _ hS).mono ?_; rintro e w3 ⟨u2, rfl, hF2, hb3⟩; have hF1 := hF1.more hb3; have hS : SW w5 w3 := Below.trans hS (Below.mono hb3 hS.size)))
    refine hK.out _ _ hS (fun _ => ?_)
    clear hK K
    refine wpAnyH_ready (rs := [11]) (by kernel_rfl) (by simp) ?_
    refine AllReadyH.cons rfl (fun K hK => ?_) AllReadyH.nil
    go_simp
    go_wp2_with ((go_at_call 22; refine (KE.out (HF.out (by first | trivial | rfl)) _ _ _ hF1 hF2 hS).mono ?_; rintro e w4 ⟨rfl, hS⟩))
    refine hK.out _ _ hS (fun _ => ?_)
    clear hK K
    refine wpAnyH_take (i := 12) (v := ?vQt12) rfl (by kernel_rfl) (by kernel_rfl) (by kernel_rfl) (fun _ _ _ h => h) (Or.inl ⟨by rfl, ?hyQt12⟩) hS ?restQt12
    case hyQt12 =>
      intro w hSw
      first | (go_simp; done) | (go_simp; with_reducible rfl)
    try simp only [Act.put, List.setIfInBounds_toArray, List.set_cons_zero, List.set_cons_succ]
    refine wpAnyH_take (i := 13) (v := ?vQt13) rfl (by kernel_rfl) (by kernel_rfl) (by kernel_rfl) (fun _ _ _ h => h) (Or.inl ⟨by rfl, ?hyQt13⟩) hS ?restQt13
    case hyQt13 =>
      intro w hSw
      first | (go_simp; done) | (go_simp; with_reducible rfl)
    try simp only [Act.put, List.setIfInBounds_toArray, List.set_cons_zero, List.set_cons_succ]
    refine wpAnyH_ready (rs := [14]) (by kernel_rfl) (by simp) ?_
    refine AllReadyH.cons rfl (fun K hK => ?_) AllReadyH.nil
    go_simp
    go_wp2_with ((go_at_call 25; refine (KW.out _ hS).mono ?_; rintro e w9 ⟨rfl, hS⟩))
    refine hK.out _ _ hS (fun _ => ?_)
    clear hK K
    refine wpAnyH_take (i := 15) (v := ?vQt15) rfl (by kernel_rfl) (by kernel_rfl) (by kernel_rfl) (fun _ _ _ h => h) (Or.inl ⟨by rfl, ?hyQt15⟩) hS ?restQt15
    case hyQt15 =>
      intro w hSw
      first | (go_simp; done) | (go_simp; with_reducible rfl)
    try simp only [Act.put, List.setIfInBounds_toArray, List.set_cons_zero, List.set_cons_succ]
    refine wpAnyH_take (i := 16) (v := ?vQt16) rfl (by kernel_rfl) (by kernel_rfl) (by kernel_rfl) (fun _ _ _ h => h) (Or.inl ⟨by rfl, ?hyQt16⟩) hS ?restQt16
    case hyQt16 =>
      intro w hSw
      first | (go_simp; done) | (go_simp; with_reducible rfl)
    try simp only [Act.put, List.setIfInBounds_toArray, List.set_cons_zero, List.set_cons_succ]
    refine wpAnyH_done (by kernel_rfl) ?_ _
    try simp only [List.getElem_toArray, List.getElem_cons_succ, List.getElem_cons_zero, List.set_cons_zero, List.set_cons_succ]
    go_wp2
    go_ret
    exact ⟨rfl, hb0.trans (Below.mono hS hb0.size)⟩

end Go.Proofs.YtldillnjnjkkgaaGreatDoor
