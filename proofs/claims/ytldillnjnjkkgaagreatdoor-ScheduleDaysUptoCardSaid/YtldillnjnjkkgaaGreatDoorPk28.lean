/- Words and walks that the laws below ask: SchZ. -/
import Derived.Test.YtldillnjnjkkgaaGreatDoorPk25
/- Walk of the law ScheduleDays. -/
namespace Go.Proofs.YtldillnjnjkkgaaGreatDoor
open Go.RowKit Go.Shelf
set_option linter.unusedSimpArgs false
set_option linter.unusedVariables false

/-- a leg of the day, the flight that has it, and where it stands among its legs -/
theorem ValT.own {p : PV} {fs : List FV} (h : ValT p fs) {day : Int} {i : Nat} {d : Dt} (hi : (insAll [] (dayF p.l fs day))[i]? = some d) : ∃ (f : FV) (j : Nat), onF fs d.car d.num day = some f ∧ d.day = day ∧ (legF p.l f day)[j]? = some d ∧ f ∈ fs := by
  have h1 : d ∈ dayF p.l fs day := by
    have := (insAll_perm (dayF p.l fs day) []).mem_iff.1 (List.mem_of_getElem? hi)
    simpa using this
  obtain ⟨f, hf, hd⟩ := List.mem_flatMap.1 h1
  obtain ⟨q, c, n, e⟩ := legF_mem hd
  obtain ⟨k, hk⟩ := List.getElem?_of_mem hf
  obtain ⟨j, hj⟩ := List.getElem?_of_mem hd
  exact ⟨f, j, by rw [c, n]; exact h.on hk q, e, hj, hf⟩
theorem ValT.asc {p : PV} {fs : List FV} (h : ValT p fs) {day : Int} {i : Nat} {d e : Dt} (hi : (insAll [] (dayF p.l fs day))[i]? = some d) (hj : (insAll [] (dayF p.l fs day))[i + 1]? = some e) : ¬ e.dep < d.dep := fun hlt => by
  have h1 : SortedD (insAll [] (dayF p.l fs day)) := insAll_sorted _ _ (sorted_one (by simp))
  have h2 := h1 i (i + 1) d e (by omega) hi hj
  rw [dtLt_dep hlt] at h2
  cases h2
/-- a flight that lies in a block of its own -/
structure FliAt (w : World) (N : Nat) (f : FV) (A : Option Addr) (c : Nat) : Prop where
  c0 : w.cell? ⟨N, 0, none⟩ = some (.string f.car)
  c1 : w.cell? ⟨N, 1, none⟩ = some (.int .i64 f.num)
  c2 : w.cell? ⟨N, 2, none⟩ = some (.int .i64 f.pf)
  c3 : w.cell? ⟨N, 3, none⟩ = some (.int .i64 f.pt)
  c4 : w.cell? ⟨N, 4, none⟩ = some (.int .i64 f.pd)
  c5 : w.cell? ⟨N, 5, none⟩ = some (.slice A f.lg.length c)
theorem fliAt_row {w : World} {N : Nat} {f : FV} {A : Option Addr} {c : Nat} {X : Array Value} (h : w.heap[N]? = some (.cells X fliT (0, 0))) (hX : Hid (X = fliX f A c)) : FliAt w N f A c := by
  have e := hX.out
  subst e
  exact ⟨(cell_of_row w _ 0 _ _ (0, 0) h).trans (show _ = some _ from rfl), (cell_of_row w _ 1 _ _ (0, 0) h).trans (show _ = some _ from rfl), (cell_of_row w _ 2 _ _ (0, 0) h).trans (show _ = some _ from rfl), (cell_of_row w _ 3 _ _ (0, 0) h).trans (show _ = some _ from rfl), (cell_of_row w _ 4 _ _ (0, 0) h).trans (show _ = some _ from rfl), (cell_of_row w _ 5 _ _ (0, 0) h).trans (show _ = some _ from rfl)⟩
/-- legs don't lie where an empty flight does -/
theorem legl_but {w w' : World} {N n c : Nat} {A : Option Addr} {l : List Lg} (hL : LegL w (.slice A n c) l) (h : w.heap[N]? = some (.cells #[.string noB, .int .i64 0, .int .i64 0, .int .i64 0, .int .i64 0, .slice none 0 0] fliT (0, 0))) (hB : But w w' (fun j => j = N)) : LegL w' (.slice A n c) l := by
  by_cases hne : l = []
  · subst hne
    obtain ⟨A', c', e, _⟩ := hL
    cases e
    exact ⟨A, c, rfl, .inl rfl⟩
  refine RowL.but2 hL hB (fun b o e he => ?_)
  obtain ⟨b', o', e2, _, hc⟩ := RowL.at0 hL hne
  rw [e] at e2
  cases e2
  obtain ⟨x, r, rfl⟩ : ∃ x r, l = x :: r := by cases l with | nil => exact absurd rfl hne | cons x r => exact ⟨x, r, rfl⟩
  have h0 := hc 0 x 0 _ rfl rfl
  have h1 := hc 0 x 1 _ rfl rfl
  have hbN : b = N := he
  subst hbN
  rw [cell_of_row w _ _ _ _ (0, 0) h] at h0 h1
  simp only [Nat.zero_mul, Nat.add_zero] at h0 h1
  match o, h0, h1 with
  | 0, h0, h1 => simp at h1
  | 1, h0, h1 => simp at h0
  | 2, h0, h1 => simp at h0
  | 3, h0, h1 => simp at h0
  | 4, h0, h1 => simp at h0
  | 5, h0, h1 => simp at h0
  | o + 6, h0, h1 => simp at h0
theorem legF_re (l : List Air) (f : FV) (A : Option Addr) (c : Nat) (day : Int) : legF l (f.re A c) day = legF l f day := rfl
set_option maxRecDepth 100000 in
set_option maxHeartbeats 4000000 in
theorem scheduleDays_walk (p : PV) (v : Value) (fs : List FV) (day : Int) (bd : -9223372036854775808 ≤ day ∧ day ≤ 9223372036854775807) (w : World) (hi : Inp p fs) (hP : PlL w p) (hv : TblL w v fs) :
    Calls Tryz.prog 7 #[encP p, v, .int .i64 day] w fun e w' => e = .returned (.bool true) ∧ Below w.heap.size w w' := by
  have hb0 := bel_alloc w (.cells #[.slice p.A p.l.length p.ca, .slice p.D p.ds.length p.cd] placesT)
  have p0 := (cells_new w #[.slice p.A p.l.length p.ca, .slice p.D p.ds.length p.cd] placesT 0).trans (show _ = some (Value.slice p.A p.l.length p.ca) from rfl)
  have p1 := (cells_new w #[.slice p.A p.l.length p.ca, .slice p.D p.ds.length p.cd] placesT 1).trans (show _ = some (Value.slice p.D p.ds.length p.cd) from rfl)
  have HP := Lib.hid (hP.more hb0)
  have HV := Lib.hid (hv.more hb0)
  have HI := Lib.hid hi
  have HB0 := Lib.hid hb0
  clear hP hv hi
  go_enter Tryz.func7, Tryz.ntmps7
  go_upto_region 1 with fail
  generalize hw5 : w.alloc (.cells #[.slice p.A p.l.length p.ca, .slice p.D p.ds.length p.cd] placesT) = w5 at *
  clear hw5
  have Fp0 := Lib.hid (bel_get p0)
  have Fp1 := Lib.hid (bel_get p1)
  clear p0 p1
  have KW : Hid (∀ W, SW w5 W → Calls Tryz.prog 25 #[] W fun e w' => e = .returned (.bool true) ∧ SW w5 w') := Lib.hid (SW.call (fun W h => knows_any W))
  have KF : Hid (∀ W, SW w5 W → Calls Tryz.prog 21 #[encP p, v] W (FewPost p fs W)) := Lib.hid (fun W h => few_any p v fs W HI.out (HP.out.more h) (HV.out.more h))
  have hS : SW w5 w5 := Below.refl _ _
  have kp0 := Fp0.out _ hS
  have kp1 := Fp1.out _ hS
  go_wp2_with (go_at_call 21; refine (KF.out _ hS).mono ?_; rintro e w1 ⟨bF, rfl, hF, hb1⟩; have hS : SW w5 w1 := Below.trans hS (Below.mono hb1 hS.size); refine Hid.out ?_)
  clear kp0 kp1 KF hb1
  cases bF with
  | false =>
    refine Lib.hid ?_
    clear hF
    go_wp2_with (go_at_call 25; refine (KW.out _ hS).mono ?_; rintro e w9 ⟨rfl, hS⟩)
    go_ret
    exact ⟨rfl, hb0.trans (Below.mono hS hb0.size)⟩
  | true =>
  obtain ⟨sm, hc⟩ := hF rfl
  clear hF
  have KC : Hid (∀ W, SW w5 W → Calls Tryz.prog 24 #[encP p, v] W fun e w' => ∃ A c, e = .returned (.slice A (schF p.l fs fs.length).length c) ∧ SW w5 w') := Lib.hid (fun W h => (rscheck_few W HI.out (HP.out.more h) (HV.out.more h) sm hc).mono (by rintro e w' ⟨r, rfl, hr, hb⟩; obtain ⟨A, c, rfl, _⟩ := id hr; exact ⟨A, c, rfl, Below.trans h (Below.mono hb h.size)⟩))
  have kp0 := Fp0.out _ hS
  have kp1 := Fp1.out _ hS
  refine Lib.hid ?_
  by_cases hs0 : schF p.l fs fs.length = []
  case neg =>
    have hcl : (0 : Int) < ((schF p.l fs fs.length).length : Int) := by
      have : (schF p.l fs fs.length).length ≠ 0 := fun h => hs0 (List.eq_nil_of_length_eq_zero h)
      omega
    have hcn : 0 < (schF p.l fs fs.length).length := by omega
    clear hs0 sm hc
    generalize (schF p.l fs fs.length).length = n0 at *
    go_wp2_with (first
      | (go_at_call 25; refine (KW.out _ hS).mono ?_; rintro e w9 ⟨rfl, hS⟩)
      | (go_at_call 24; refine (KC.out _ hS).mono ?_; rintro e w2 ⟨A2, c2, rfl, hS⟩))
    go_ret
    exact ⟨rfl, hb0.trans (Below.mono hS hb0.size)⟩
  case pos =>
  have HVT : Hid (ValT p fs) := Lib.hid ⟨sm, hc, hs0⟩
  rw [hs0] at KC
  simp only [List.length_nil] at KC
  clear sm hc hs0
  obtain ⟨A, c, rfl, _⟩ := id HV.out.row
  have l1 : fs.length ≤ 1000 := HVT.out.okT.len
  have na : ∀ f ∈ fs, f.lg.length ≤ 1000 := fun f hf => by have := HVT.out.okT.lg f hf; omega
  obtain ⟨DD, hDD⟩ : ∃ x, x = insAll [] (dayF p.l fs day) := ⟨_, rfl⟩
  have HDl : Hid (DD.length = (dayF p.l fs day).length) := Lib.hid (by rw [hDD, insAll_len]; simp)
  have hdl : DD.length ≤ 160 := by rw [HDl.out]; exact HVT.out.dayLen day
  have KD : Hid (∀ W, SW w5 W → Calls Tryz.prog 31 #[encP p, .slice A fs.length c, .int .i64 day] W fun e w' => ∃ A' c', e = .returned (.slice A' DD.length c') ∧ RowL 8 encDt w' (.slice A' DD.length c') DD ∧ SW w5 w') := Lib.hid (fun W h => by
    have h1 := day_x HVT.out day W (HP.out.more h).air (HV.out.more h) bd.1 bd.2
    rw [← hDD] at h1
    exact h1.mono (by rintro e w' ⟨r, rfl, hr, hb⟩; obtain ⟨A', c', rfl, _⟩ := id hr; exact ⟨A', c', rfl, hr, Below.trans h (Below.mono hb h.size)⟩))
  have HOwn : Hid (∀ (i : Nat) (d : Dt), DD[i]? = some d → ∃ (f : FV) (j : Nat), onF fs d.car d.num day = some f ∧ d.day = day ∧ (legF p.l f day)[j]? = some d ∧ f ∈ fs) := Lib.hid (fun i d h => HVT.out.own (by rw [hDD] at h; exact h))
  have HAsc : Hid (∀ (i : Nat) (d e : Dt), DD[i]? = some d → DD[i + 1]? = some e → d.dep ≤ e.dep) := Lib.hid (fun i d e h g => Int.not_lt.1 (HVT.out.asc (by rw [hDD] at h; exact h) (by rw [hDD] at g; exact g)))
  have KO : Hid (∀ (d : Dt) (f : FV) W, SW w5 W → onF fs d.car d.num day = some f → Calls Tryz.prog 26 #[.slice A fs.length c, .string d.car, .int .i64 d.num, .int .i64 day] W (OnX f true W)) := Lib.hid (fun d f W h ho => by
    have h1 := on_x (.slice A fs.length c) fs d.car d.num day W (HV.out.more h) l1 na bd.1 bd.2
    rw [ho] at h1
    exact h1)
  have KL : Hid (∀ (f : FV) (A1 : Option Addr) (c1 : Nat) W, f ∈ fs → LegL W (.slice A1 f.lg.length c1) f.lg → SW w5 W → Calls Tryz.prog 35 #[encP p, .agg #[.string f.car, .int .i64 f.num, .int .i64 f.pf, .int .i64 f.pt, .int .i64 f.pd, .slice A1 f.lg.length c1], .int .i64 day] W fun e w' => ∃ A' c', e = .returned (.tuple #[.slice A' (legF p.l f day).length c', .int .i64 (legE f day)]) ∧ RowL 8 encDt w' (.slice A' (legF p.l f day).length c') (legF p.l f day) ∧ Below W.heap.size W w') := Lib.hid (fun f A1 c1 W hf hG h => by
    have op := HVT.out.okPl (List.ne_nil_of_mem hf)
    have h1 := legs_any p (f.re A1 c1) day W op.la (HP.out.more h).air op.sh op.oz hG (HVT.out.okT.lg f hf) (HVT.out.okT.hm f hf) bd.1 bd.2
    exact h1.mono (by rintro e w' ⟨r, rfl, hO, hb⟩; have hr := hO.rowL rtD.len; rw [legF_re] at hr; obtain ⟨A', c', rfl, _⟩ := id hr; exact ⟨A', c', rfl, hr, hb⟩))
  have HLe : Hid (∀ f ∈ fs, (legF p.l f day).length ≤ 100) := Lib.hid (fun f hf => legF_le p.l f day (HVT.out.okT.lg f hf))
  have HTk : Hid (∀ (k : Nat) (f : FV), fs[k]? = some f → (dayF p.l (fs.take (k + 1)) day).length = (dayF p.l (fs.take k) day).length + (legF p.l f day).length) := Lib.hid (fun k f h => by rw [dayF_take p.l fs day h, List.length_append])
  have HTm : Hid (∀ k, (dayF p.l (fs.take k) day).length ≤ 100 * k) := Lib.hid (dayF_le p.l fs day HVT.out.okT.lg)
  obtain ⟨SL, hSL⟩ : ∃ S : Nat → Nat, S = fun k => (dayF p.l (fs.take k) day).length := ⟨_, rfl⟩
  have HS0 : Hid (SL 0 = 0) := Lib.hid (by rw [hSL]; rfl)
  have HSk : Hid (∀ (k : Nat) (f : FV), fs[k]? = some f → SL (k + 1) = SL k + (legF p.l f day).length) := Lib.hid (by rw [hSL]; exact HTk.out)
  have HSm : Hid (∀ k, SL k ≤ 100 * k) := Lib.hid (by rw [hSL]; exact HTm.out)
  have HSe : Hid (DD.length = SL fs.length) := Lib.hid (by rw [hSL, HDl.out]; simp only [List.take_length])
  have hn12 : fs.length ≤ 12 := HVT.out.sm.1
  clear hDD hSL HTk HTm HDl na l1 bd
  go_upto_region 4 with (first
    | (go_at_call 31; refine (KD.out _ hS).mono ?_; rintro e w7 ⟨A7, c7, rfl, hR7, hS⟩)
    | (go_at_call 24; refine (KC.out _ hS).mono ?_; rintro e w2 ⟨A2, c2, rfl, hS⟩; have kp0 := Fp0.out _ hS; have kp1 := Fp1.out _ hS))
  have HR7 := Lib.hid hR7
  have HS7 := Lib.hid hS
  clear hR7 hS kp0 kp1
  go_wp2
  go_loopw [8, 9] (fun va vi wr => ∃ (m k : Nat), k ≤ fs.length ∧ va = .int .i64 m ∧ vi = .int .i64 k ∧ Hid (m = SL k) ∧ m ≤ 1200 ∧ SW w7 wr) (fun _ vi _ => fs.length - (intOf vi).toNat)
  case atStart => exact ⟨0, 0, Nat.zero_le _, rfl, rfl, Lib.hid HS0.out.symm, by omega, Below.refl _ _⟩
  case round =>
    obtain ⟨m, k, hk, rfl, rfl, HM, hm, hSr⟩ := hrel
    have hS5 : SW w5 wr := Below.trans HS7.out (Below.mono hSr HS7.out.size)
    by_cases hlt : k < fs.length
    · obtain ⟨f, hf⟩ : ∃ f, fs[k]? = some f := ⟨_, List.getElem?_eq_getElem hlt⟩
      have hfm := List.mem_of_getElem? hf
      have hvk := HV.out.more hS5
      obtain ⟨b, o, e1, hbl, hcc⟩ := RowL.at6 hvk.row hf
      cases e1
      have i2 : (k : Int) < (fs.length : Int) := by omega
      have d0 := hcc 0 _ rfl
      have d1 := hcc 1 _ rfl
      have d2 := hcc 2 _ rfl
      have d3 := hcc 3 _ rfl
      have d4 := hcc 4 _ rfl
      have d5 := hcc 5 _ rfl
      rw [Nat.add_zero] at d0
      have g0 := bel_get d0
      have g1 := bel_get d1
      have g2 := bel_get d2
      have g3 := bel_get d3
      have g4 := bel_get d4
      have g5 := bel_get d5
      have KLf : Hid (∀ W, SW wr W → Calls Tryz.prog 35 #[encP p, encFl f, .int .i64 day] W fun e w' => ∃ A c, e = .returned (.tuple #[.slice A (legF p.l f day).length c, .int .i64 (legE f day)]) ∧ SW wr w') := Lib.hid (fun W h => (KL.out f f.A f.c W hfm ((hvk.legs f hfm).more h) (Below.trans hS5 (Below.mono h hS5.size))).mono (by rintro e w' ⟨A', c', rfl, _, hb⟩; exact ⟨A', c', rfl, Below.trans h (Below.mono hb h.size)⟩))
      have z0 : ∀ W, SW wr W → W.cell? ⟨w.heap.size, 0, none⟩ = some (.slice p.A p.l.length p.ca) := fun W h => Fp0.out W (Below.trans hS5 (Below.mono h hS5.size))
      have z1 : ∀ W, SW wr W → W.cell? ⟨w.heap.size, 1, none⟩ = some (.slice p.D p.ds.length p.cd) := fun W h => Fp1.out W (Below.trans hS5 (Below.mono h hS5.size))
      have hML := HLe.out f hfm
      have HN : Hid (m + (legF p.l f day).length = SL (k + 1)) := Lib.hid (by rw [HSk.out k f hf, HM.out])
      have hN2 : m + (legF p.l f day).length ≤ 1200 := by
        have h1 := HN.out
        have h2 := HSm.out (k + 1)
        omega
      generalize (legF p.l f day).length = ml at *
      generalize legE f day = e0 at *
      have HSr := Lib.hid hSr
      clear hcc d0 d1 d2 d3 d4 d5 hf hfm hbl hvk hS5 hSr
      go_upto_region 8 with fail
      have hS : (SW wr) _ := SW.drew _
      refine wp_region_held_drew (S := SW wr) (by kernel_rfl) hS (fun _ => ?_)
      refine wpAnyH_take (i := 0) (v := ?vE0) rfl (by kernel_rfl) (by kernel_rfl) (by kernel_rfl) (fun _ _ _ h => h) (Or.inl ⟨by rfl, ?hyE0⟩) hS ?restE0
      case hyE0 =>
        intro w hSw
        have k0 := z0 w hSw; have k1 := z1 w hSw; have k2 := g0 w hSw; have k3 := g1 w hSw; have k4 := g2 w hSw; have k5 := g3 w hSw; have k6 := g4 w hSw; have k7 := g5 w hSw
        first | (go_simp; done) | (go_simp; with_reducible rfl)
      try simp only [Act.put, List.setIfInBounds_toArray, List.set_cons_zero, List.set_cons_succ]
      refine wpAnyH_take (i := 1) (v := ?vE1) rfl (by kernel_rfl) (by kernel_rfl) (by kernel_rfl) (fun _ _ _ h => h) (Or.inl ⟨by rfl, ?hyE1⟩) hS ?restE1
      case hyE1 =>
        intro w hSw
        first | (go_simp; done) | (go_simp; with_reducible rfl)
      try simp only [Act.put, List.setIfInBounds_toArray, List.set_cons_zero, List.set_cons_succ]
      refine wpAnyH_take (i := 2) (v := ?vE2) rfl (by kernel_rfl) (by kernel_rfl) (by kernel_rfl) (fun _ _ _ h => h) (Or.inl ⟨by rfl, ?hyE2⟩) hS ?restE2
      case hyE2 =>
        intro w hSw
        first | (go_simp; done) | (go_simp; with_reducible rfl)
      try simp only [Act.put, List.setIfInBounds_toArray, List.set_cons_zero, List.set_cons_succ]
      refine wpAnyH_take (i := 3) (v := ?vE3) rfl (by kernel_rfl) (by kernel_rfl) (by kernel_rfl) (fun _ _ _ h => h) (Or.inl ⟨by rfl, ?hyE3⟩) hS ?restE3
      case hyE3 =>
        intro w hSw
        have k0 := z0 w hSw; have k1 := z1 w hSw; have k2 := g0 w hSw; have k3 := g1 w hSw; have k4 := g2 w hSw; have k5 := g3 w hSw; have k6 := g4 w hSw; have k7 := g5 w hSw
        first | (go_simp; done) | (go_simp; with_reducible rfl)
      try simp only [Act.put, List.setIfInBounds_toArray, List.set_cons_zero, List.set_cons_succ]
      refine wpAnyH_take (i := 4) (v := ?vE4) rfl (by kernel_rfl) (by kernel_rfl) (by kernel_rfl) (fun _ _ _ h => h) (Or.inl ⟨by rfl, ?hyE4⟩) hS ?restE4
      case hyE4 =>
        intro w hSw
        have k0 := z0 w hSw; have k1 := z1 w hSw; have k2 := g0 w hSw; have k3 := g1 w hSw; have k4 := g2 w hSw; have k5 := g3 w hSw; have k6 := g4 w hSw; have k7 := g5 w hSw
        first | (go_simp; done) | (go_simp; with_reducible rfl)
      try simp only [Act.put, List.setIfInBounds_toArray, List.set_cons_zero, List.set_cons_succ]
      refine wpAnyH_take (i := 5) (v := ?vE5) rfl (by kernel_rfl) (by kernel_rfl) (by kernel_rfl) (fun _ _ _ h => h) (Or.inl ⟨by rfl, ?hyE5⟩) hS ?restE5
      case hyE5 =>
        intro w hSw
        first | (go_simp; done) | (go_simp; with_reducible rfl)
      try simp only [Act.put, List.setIfInBounds_toArray, List.set_cons_zero, List.set_cons_succ]
      refine wpAnyH_ready (rs := [6]) (by kernel_rfl) (by simp) ?_
      refine AllReadyH.cons rfl (fun K hK => ?_) AllReadyH.nil
      go_simp
      go_wp2_with ((go_at_call 35; refine (KLf.out _ hS).mono ?_; rintro e w8 ⟨A8, c8, rfl, hS⟩))
      refine hK.out _ _ hS (fun _ => ?_)
      clear hK K
      refine wpAnyH_take (i := 7) (v := ?vE7) rfl (by kernel_rfl) (by kernel_rfl) (by kernel_rfl) (fun _ _ _ h => h) (Or.inl ⟨by rfl, ?hyE7⟩) hS ?restE7
      case hyE7 =>
        intro w hSw
        first | (go_simp; done) | (go_simp; with_reducible rfl)
      try simp only [Act.put, List.setIfInBounds_toArray, List.set_cons_zero, List.set_cons_succ]
      refine wpAnyH_take (i := 8) (v := ?vE8) rfl (by kernel_rfl) (by kernel_rfl) (by kernel_rfl) (fun _ _ _ h => h) (Or.inl ⟨by rfl, ?hyE8⟩) hS ?restE8
      case hyE8 =>
        intro w hSw
        first | (go_simp; done) | (go_simp; with_reducible rfl)
      try simp only [Act.put, List.setIfInBounds_toArray, List.set_cons_zero, List.set_cons_succ]
      refine wpAnyH_take (i := 9) (v := ?vE9) rfl (by kernel_rfl) (by kernel_rfl) (by kernel_rfl) (fun _ _ _ h => h) (Or.inl ⟨by rfl, ?hyE9⟩) hS ?restE9
      case hyE9 =>
        intro w hSw
        first | (go_simp; done) | (go_simp; with_reducible rfl)
      try simp only [Act.put, List.setIfInBounds_toArray, List.set_cons_zero, List.set_cons_succ]
      refine wpAnyH_take (i := 10) (v := ?vE10) rfl (by kernel_rfl) (by kernel_rfl) (by kernel_rfl) (fun _ _ _ h => h) (Or.inl ⟨by rfl, ?hyE10⟩) hS ?restE10
      case hyE10 =>
        intro w hSw
        first | (go_simp; done) | (go_simp; with_reducible rfl)
      try simp only [Act.put, List.setIfInBounds_toArray, List.set_cons_zero, List.set_cons_succ]
      refine wpAnyH_take (i := 11) (v := ?vE11) rfl (by kernel_rfl) (by kernel_rfl) (by kernel_rfl) (fun _ _ _ h => h) (Or.inl ⟨by rfl, ?hyE11⟩) hS ?restE11
      case hyE11 =>
        intro w hSw
        first | (go_simp; done) | (go_simp; with_reducible rfl)
      try simp only [Act.put, List.setIfInBounds_toArray, List.set_cons_zero, List.set_cons_succ]
      refine wpAnyH_done (by kernel_rfl) ?_ _
      simp only [List.getElem_toArray, List.getElem_cons_succ, List.getElem_cons_zero, List.set_cons_zero, List.set_cons_succ]
      try simp only [List.setIfInBounds_toArray, List.set_cons_zero, List.set_cons_succ]
      have hS8 : SW w7 w8 := Below.trans HSr.out (Below.mono hS HSr.out.size)
      clear hS g0 g1 g2 g3 g4 g5 z0 z1 KLf
      go_wp2
      go_roundw
      case rel => exact ⟨m + ml, k + 1, by omega, by go_num, by go_num, HN, hN2, hS8⟩
      case measure => simp [intOf]; omega
    · have hk2 : k = fs.length := by omega
      have i2 : ¬ (k : Int) < (fs.length : Int) := by omega
      have hmm : m = DD.length := by rw [HM.out, HSe.out, hk2]
      have HEQ : Hid (((DD.length : Int) == (m : Int)) = true) := Lib.hid (by rw [hmm]; simp)
      clear hk2 hmm HM
      go_wp2
      go_loopw [12] (fun vi wi => ∃ i : Nat, i ≤ DD.length ∧ vi = .int .i64 i ∧ SW w7 wi) (fun vi _ => DD.length - (intOf vi).toNat)
      case atStart => exact ⟨0, Nat.zero_le _, rfl, hSr⟩
      case round =>
        obtain ⟨i, hi, rfl, hSi⟩ := hrel
        clear hSr
        have hS5 : SW w5 wr := Below.trans HS7.out (Below.mono hSi HS7.out.size)
        by_cases hli : i < DD.length
        · obtain ⟨d, hd⟩ : ∃ d, DD[i]? = some d := ⟨_, List.getElem?_eq_getElem hli⟩
          have i3 : (i : Int) < (DD.length : Int) := by omega
          obtain ⟨f, jx, hon, hday, hjx, hfm⟩ := HOwn.out i d hd
          obtain ⟨b, o, e1, hbl, hcc⟩ := RowL.at8 (HR7.out.more hSi) hd
          cases e1
          have c0 := bel_get (hcc 0 _ rfl)
          have c1 := bel_get (hcc 1 _ rfl)
          have c2 := bel_get (hcc 2 _ rfl)
          have c3 := bel_get (hcc 3 _ rfl)
          have c4 := bel_get (hcc 4 _ rfl)
          have c5 := bel_get (hcc 5 _ rfl)
          have c6 := bel_get (hcc 6 _ rfl)
          have c7 := bel_get (hcc 7 _ rfl)
          rw [Nat.add_zero] at c0
          have HPrev : Hid (∀ j, i = j + 1 → ∃ e, DD[j]? = some e ∧ e.dep ≤ d.dep) := Lib.hid (fun j h => by
            obtain ⟨e, he⟩ : ∃ e, DD[j]? = some e := ⟨_, List.getElem?_eq_getElem (by omega)⟩
            exact ⟨e, he, HAsc.out j e d he (by rw [← h]; exact hd)⟩)
          have KOd : Hid (∀ W, SW wr W → Calls Tryz.prog 26 #[.slice A fs.length c, .string d.car, .int .i64 d.num, .int .i64 day] W (OnX f true W)) := Lib.hid (fun W h => KO.out d f W (Below.trans hS5 (Below.mono h hS5.size)) hon)
          have HJX := Lib.hid hjx
          have HFM := Lib.hid hfm
          have HDAY := Lib.hid hday
          have HSi := Lib.hid hSi
          clear hcc hbl hd hon hjx hfm hday hS5 hSi
          go_upto_region 13 with fail
          go_cut [13, 14] from 61 to 76 (fun v13 v14 wx => ∃ (N : Nat) (A9 : Option Addr) (c9 : Nat), v13 = .pointer (some ⟨N, 0, none⟩) ∧ v14 = .bool true ∧ Hid (FliAt wx N f A9 c9 ∧ LegL wx (.slice A9 f.lg.length c9) f.lg ∧ SW wr wx))
          case first =>
            have hS : (SW wr) _ := SW.drew _
            refine wp_region_held_drew (S := SW wr) (by kernel_rfl) hS (fun _ => ?_)
            refine wpAnyH_take (i := 0) (v := ?vO0) rfl (by kernel_rfl) (by kernel_rfl) (by kernel_rfl) (fun _ _ _ h => h) (Or.inl ⟨by rfl, ?hyO0⟩) hS ?restO0
            case hyO0 =>
              intro w hSw
              first | (go_simp; done) | (go_simp; with_reducible rfl)
            try simp only [Act.put, List.setIfInBounds_toArray, List.set_cons_zero, List.set_cons_succ]
            refine wpAnyH_take (i := 1) (v := ?vO1) rfl (by kernel_rfl) (by kernel_rfl) (by kernel_rfl) (fun _ _ _ h => h) (Or.inl ⟨by rfl, ?hyO1⟩) hS ?restO1
            case hyO1 =>
              intro w hSw
              first | (go_simp; done) | (go_simp; with_reducible rfl)
            try simp only [Act.put, List.setIfInBounds_toArray, List.set_cons_zero, List.set_cons_succ]
            refine wpAnyH_take (i := 2) (v := ?vO2) rfl (by kernel_rfl) (by kernel_rfl) (by kernel_rfl) (fun _ _ _ h => h) (Or.inl ⟨by rfl, ?hyO2⟩) hS ?restO2
            case hyO2 =>
              intro w hSw
              first | (go_simp; done) | (go_simp; with_reducible rfl)
            try simp only [Act.put, List.setIfInBounds_toArray, List.set_cons_zero, List.set_cons_succ]
            refine wpAnyH_take (i := 3) (v := ?vO3) rfl (by kernel_rfl) (by kernel_rfl) (by kernel_rfl) (fun _ _ _ h => h) (Or.inl ⟨by rfl, ?hyO3⟩) hS ?restO3
            case hyO3 =>
              intro w hSw
              have k0 := c0 w hSw; have k1 := c1 w hSw; have k2 := c2 w hSw; have k3 := c3 w hSw; have k4 := c4 w hSw; have k5 := c5 w hSw; have k6 := c6 w hSw; have k7 := c7 w hSw
              first | (go_simp; done) | (go_simp; with_reducible rfl)
            try simp only [Act.put, List.setIfInBounds_toArray, List.set_cons_zero, List.set_cons_succ]
            refine wpAnyH_take (i := 4) (v := ?vO4) rfl (by kernel_rfl) (by kernel_rfl) (by kernel_rfl) (fun _ _ _ h => h) (Or.inl ⟨by rfl, ?hyO4⟩) hS ?restO4
            case hyO4 =>
              intro w hSw
              first | (go_simp; done) | (go_simp; with_reducible rfl)
            try simp only [Act.put, List.setIfInBounds_toArray, List.set_cons_zero, List.set_cons_succ]
            refine wpAnyH_take (i := 5) (v := ?vO5) rfl (by kernel_rfl) (by kernel_rfl) (by kernel_rfl) (fun _ _ _ h => h) (Or.inl ⟨by rfl, ?hyO5⟩) hS ?restO5
            case hyO5 =>
              intro w hSw
              have k0 := c0 w hSw; have k1 := c1 w hSw; have k2 := c2 w hSw; have k3 := c3 w hSw; have k4 := c4 w hSw; have k5 := c5 w hSw; have k6 := c6 w hSw; have k7 := c7 w hSw
              first | (go_simp; done) | (go_simp; with_reducible rfl)
            try simp only [Act.put, List.setIfInBounds_toArray, List.set_cons_zero, List.set_cons_succ]
            refine wpAnyH_take (i := 6) (v := ?vO6) rfl (by kernel_rfl) (by kernel_rfl) (by kernel_rfl) (fun _ _ _ h => h) (Or.inl ⟨by rfl, ?hyO6⟩) hS ?restO6
            case hyO6 =>
              intro w hSw
              first | (go_simp; done) | (go_simp; with_reducible rfl)
            try simp only [Act.put, List.setIfInBounds_toArray, List.set_cons_zero, List.set_cons_succ]
            refine wpAnyH_take (i := 7) (v := ?vO7) rfl (by kernel_rfl) (by kernel_rfl) (by kernel_rfl) (fun _ _ _ h => h) (Or.inl ⟨by rfl, ?hyO7⟩) hS ?restO7
            case hyO7 =>
              intro w hSw
              first | (go_simp; done) | (go_simp; with_reducible rfl)
            try simp only [Act.put, List.setIfInBounds_toArray, List.set_cons_zero, List.set_cons_succ]
            refine wpAnyH_take (i := 8) (v := ?vO8) rfl (by kernel_rfl) (by kernel_rfl) (by kernel_rfl) (fun _ _ _ h => h) (Or.inl ⟨by rfl, ?hyO8⟩) hS ?restO8
            case hyO8 =>
              intro w hSw
              have k0 := c0 w hSw; have k1 := c1 w hSw; have k2 := c2 w hSw; have k3 := c3 w hSw; have k4 := c4 w hSw; have k5 := c5 w hSw; have k6 := c6 w hSw; have k7 := c7 w hSw
              first | (go_simp; done) | (go_simp; with_reducible rfl)
            try simp only [Act.put, List.setIfInBounds_toArray, List.set_cons_zero, List.set_cons_succ]
            refine wpAnyH_take (i := 9) (v := ?vO9) rfl (by kernel_rfl) (by kernel_rfl) (by kernel_rfl) (fun _ _ _ h => h) (Or.inl ⟨by rfl, ?hyO9⟩) hS ?restO9
            case hyO9 =>
              intro w hSw
              first | (go_simp; done) | (go_simp; with_reducible rfl)
            try simp only [Act.put, List.setIfInBounds_toArray, List.set_cons_zero, List.set_cons_succ]
            refine wpAnyH_take (i := 10) (v := ?vO10) rfl (by kernel_rfl) (by kernel_rfl) (by kernel_rfl) (fun _ _ _ h => h) (Or.inl ⟨by rfl, ?hyO10⟩) hS ?restO10
            case hyO10 =>
              intro w hSw
              have k0 := c0 w hSw; have k1 := c1 w hSw; have k2 := c2 w hSw; have k3 := c3 w hSw; have k4 := c4 w hSw; have k5 := c5 w hSw; have k6 := c6 w hSw; have k7 := c7 w hSw
              first | (go_simp; done) | (go_simp; with_reducible rfl)
            try simp only [Act.put, List.setIfInBounds_toArray, List.set_cons_zero, List.set_cons_succ]
            refine wpAnyH_take (i := 11) (v := ?vO11) rfl (by kernel_rfl) (by kernel_rfl) (by kernel_rfl) (fun _ _ _ h => h) (Or.inl ⟨by rfl, ?hyO11⟩) hS ?restO11
            case hyO11 =>
              intro w hSw
              first | (go_simp; done) | (go_simp; with_reducible rfl)
            try simp only [Act.put, List.setIfInBounds_toArray, List.set_cons_zero, List.set_cons_succ]
            refine wpAnyH_ready (rs := [12, 16]) (by kernel_rfl) (by simp) ?_
            refine AllReadyH.cons rfl (fun K hK => ?_) (AllReadyH.cons rfl (fun K hK => ?_) AllReadyH.nil)
            · go_simp
              go_wp2_with ((go_at_call 26; refine (KOd.out _ hS).mono ?_; rintro e w8 ⟨X1, A9, c9, rfl, hX1, hL1, hb8⟩; have hsz1 : X1.size = 6 := (by rw [hX1.out]; rfl); have hS8 : SW wr w8 := Below.trans hS (Below.mono hb8 hS.size); have hS := hS8; have hst1 := store_fli hX1 w8))
              refine hK.out _ _ hS (fun _ => ?_)
              clear hK K
              refine wpAnyH_take (i := 13) (v := ?vOa13) rfl (by kernel_rfl) (by kernel_rfl) (by kernel_rfl) (fun _ _ _ h => h) (Or.inl ⟨by rfl, ?hyOa13⟩) hS ?restOa13
              case hyOa13 =>
                intro w hSw
                first | (go_simp; done) | (go_simp; with_reducible rfl)
              try simp only [Act.put, List.setIfInBounds_toArray, List.set_cons_zero, List.set_cons_succ]
              refine wpAnyH_take (i := 14) (v := ?vOa14) rfl (by kernel_rfl) (by kernel_rfl) (by kernel_rfl) (fun _ _ _ h => h) (Or.inl ⟨by rfl, ?hyOa14⟩) hS ?restOa14
              case hyOa14 =>
                intro w hSw
                first | (go_simp; done) | (go_simp; with_reducible rfl)
              try simp only [Act.put, List.setIfInBounds_toArray, List.set_cons_zero, List.set_cons_succ]
              refine wpAnyH_take (i := 15) (v := ?vOa15) rfl (by kernel_rfl) (by kernel_rfl) (by kernel_rfl) (fun _ _ _ h => h) (Or.inl ⟨by rfl, ?hyOa15⟩) hS ?restOa15
              case hyOa15 =>
                intro w hSw
                first | (go_simp; done) | (go_simp; with_reducible rfl)
              try simp only [Act.put, List.setIfInBounds_toArray, List.set_cons_zero, List.set_cons_succ]
              refine wpAnyH_ready (rs := [16]) (by kernel_rfl) (by simp) ?_
              refine AllReadyH.cons rfl (fun K hK => ?_) AllReadyH.nil
              go_simp
              have hSp := hS
              have hS := Below.trans hSp (Below.mono (bel_alloc _ (.cells #[.string noB, .int .i64 0, .int .i64 0, .int .i64 0, .int .i64 0, .slice none 0 0] fliT)) hSp.size)
              refine hK.out _ _ hS (fun _ => ?_)
              clear hK K
              refine wpAnyH_ready (rs := [17]) (by kernel_rfl) (by simp) ?_
              refine AllReadyH.cons rfl (fun K hK => ?_) AllReadyH.nil
              go_simp
              have hS : SW wr (w8.alloc (.cells X1 fliT)) := Below.trans hS8 (Below.mono (bel_alloc w8 _) hS8.size)
              refine hK.out _ _ hS (fun _ => ?_)
              clear hK K
              refine wpAnyH_take (i := 18) (v := ?vOa18) rfl (by kernel_rfl) (by kernel_rfl) (by kernel_rfl) (fun _ _ _ h => h) (Or.inl ⟨by rfl, ?hyOa18⟩) hS ?restOa18
              case hyOa18 =>
                intro w hSw
                first | (go_simp; done) | (go_simp; with_reducible rfl)
              try simp only [Act.put, List.setIfInBounds_toArray, List.set_cons_zero, List.set_cons_succ]
              refine wpAnyH_done (by kernel_rfl) ?_ _
              simp only [List.getElem_toArray, List.getElem_cons_succ, List.getElem_cons_zero, List.set_cons_zero, List.set_cons_succ]
              try simp only [List.setIfInBounds_toArray, List.set_cons_zero, List.set_cons_succ]
              go_wp2_with fail
              go_meet
              exact ⟨_, A9, c9, rfl, rfl, Lib.hid ⟨fliAt_row (heap_alloc_new w8 (.cells X1 fliT)) hX1, hL1.more (bel_alloc w8 _), hS⟩⟩
            · go_simp
              have hSp := hS
              have hN0 := heap_alloc_new wr.drew (.cells #[.string noB, .int .i64 0, .int .i64 0, .int .i64 0, .int .i64 0, .slice none 0 0] fliT)
              have hS := Below.trans hSp (Below.mono (bel_alloc _ (.cells #[.string noB, .int .i64 0, .int .i64 0, .int .i64 0, .int .i64 0, .slice none 0 0] fliT)) hSp.size)
              refine hK.out _ _ hS (fun _ => ?_)
              clear hK K
              refine wpAnyH_ready (rs := [12]) (by kernel_rfl) (by simp) ?_
              refine AllReadyH.cons rfl (fun K hK => ?_) AllReadyH.nil
              go_simp
              go_wp2_with ((go_at_call 26; refine (KOd.out _ hS).mono ?_; rintro e w8 ⟨X1, A9, c9, rfl, hX1, hL1, hb8⟩; have hsz1 : X1.size = 6 := (by rw [hX1.out]; rfl); have hS8 : SW wr w8 := Below.trans hS (Below.mono hb8 hS.size); have hS := hS8; obtain ⟨wS, hst0, hxS, hbS⟩ := store_blk (X := X1) ((hb8.block _ (lt_of_cell2 hN0)).trans hN0) hsz1 (by rw [hX1.out]; simp [Value.oneCell']); have hst1 : (storeCells ⟨wr.heap.size, 0, none⟩ X1.toList 0).run Tryz.prog w8 = .ok () wS := hst0))
              refine hK.out _ _ hS (fun _ => ?_)
              clear hK K
              refine wpAnyH_take (i := 13) (v := ?vOb13) rfl (by kernel_rfl) (by kernel_rfl) (by kernel_rfl) (fun _ _ _ h => h) (Or.inl ⟨by rfl, ?hyOb13⟩) hS ?restOb13
              case hyOb13 =>
                intro w hSw
                first | (go_simp; done) | (go_simp; with_reducible rfl)
              try simp only [Act.put, List.setIfInBounds_toArray, List.set_cons_zero, List.set_cons_succ]
              refine wpAnyH_take (i := 14) (v := ?vOb14) rfl (by kernel_rfl) (by kernel_rfl) (by kernel_rfl) (fun _ _ _ h => h) (Or.inl ⟨by rfl, ?hyOb14⟩) hS ?restOb14
              case hyOb14 =>
                intro w hSw
                first | (go_simp; done) | (go_simp; with_reducible rfl)
              try simp only [Act.put, List.setIfInBounds_toArray, List.set_cons_zero, List.set_cons_succ]
              refine wpAnyH_take (i := 15) (v := ?vOb15) rfl (by kernel_rfl) (by kernel_rfl) (by kernel_rfl) (fun _ _ _ h => h) (Or.inl ⟨by rfl, ?hyOb15⟩) hS ?restOb15
              case hyOb15 =>
                intro w hSw
                first | (go_simp; done) | (go_simp; with_reducible rfl)
              try simp only [Act.put, List.setIfInBounds_toArray, List.set_cons_zero, List.set_cons_succ]
              refine wpAnyH_ready (rs := [17]) (by kernel_rfl) (by simp) ?_
              refine AllReadyH.cons rfl (fun K hK => ?_) AllReadyH.nil
              go_simp
              have hS : SW wr wS := Below.trans hS8 (hbS.below hS8.size (fun q hq he => by have : q = wr.heap.size := he; omega))
              refine hK.out _ _ hS (fun _ => ?_)
              clear hK K
              refine wpAnyH_take (i := 18) (v := ?vOb18) rfl (by kernel_rfl) (by kernel_rfl) (by kernel_rfl) (fun _ _ _ h => h) (Or.inl ⟨by rfl, ?hyOb18⟩) hS ?restOb18
              case hyOb18 =>
                intro w hSw
                first | (go_simp; done) | (go_simp; with_reducible rfl)
              try simp only [Act.put, List.setIfInBounds_toArray, List.set_cons_zero, List.set_cons_succ]
              refine wpAnyH_done (by kernel_rfl) ?_ _
              simp only [List.getElem_toArray, List.getElem_cons_succ, List.getElem_cons_zero, List.set_cons_zero, List.set_cons_succ]
              try simp only [List.setIfInBounds_toArray, List.set_cons_zero, List.set_cons_succ]
              go_wp2_with fail
              go_meet
              exact ⟨_, A9, c9, rfl, rfl, Lib.hid ⟨fliAt_row hxS hX1, legl_but hL1 ((hb8.block _ (lt_of_cell2 hN0)).trans hN0) hbS, hS⟩⟩
          case rest =>
            obtain ⟨N, A9, c9, rfl, rfl, HC⟩ := hcut
            clear KOd
            generalize wc = w9 at *
            have HS9 := Lib.hid HC.out.2.2
            have jd : (d.day != day) = false := by rw [HDAY.out]; simp
            have hil : i < 1000 := by omega
            go_upto_region 14 with fail
            go_cut [105] from 77 to 105 (fun v wx => v = .bool false ∧ Hid (SW w9 wx))
            case first =>
              have b2 := SW.cell (c2 _ HS9.out)
              have b5 := SW.cell (c5 _ HS9.out)
              by_cases hi0 : i = 0
              · have g0 : decide ((0 : Int) < (i : Int)) = false := decide_eq_false (by omega)
                have g1 : ¬ (0 : Int) < (i : Int) := by omega
                have g2 : decide (0 < i) = false := decide_eq_false (by omega)
                have g3 : ¬ 0 < i := by omega
                clear hi0
                have hNe : Nonempty (Wd (SW w9)) := ⟨⟨_, SW.drew _⟩⟩
                refine quietS (S := SW w9) (by kernel_rfl) (by kernel_rfl) (SW.drew _) ?_
                repeat (first | go_big_quiet_skip | (go_big_quiet_want; go_big_quiet_op; first | go_big_quiet_on | go_big_quiet_call ((fail))))
                refine wpQuiet_nil ?_
                rintro W ⟨⟨_, hW⟩, rfl⟩
                go_wp2_with fail
                go_meet
                exact ⟨rfl, Lib.hid hW⟩
              · obtain ⟨j, hj⟩ : ∃ j, i = j + 1 := ⟨i - 1, by omega⟩
                obtain ⟨e, he, hle⟩ := HPrev.out j hj
                have g0 : decide ((0 : Int) < (i : Int)) = true := decide_eq_true (by omega)
                have g2 : decide (0 < i) = true := decide_eq_true (by omega)
                have g1 : (0 : Int) < (i : Int) := by omega
                have g3 : 0 < i := by omega
                have e1 : (i : Int) - 1 = (j : Int) := by omega
                have e3 : IntKind.i64.wrap (j : Int) = (j : Int) := by rw [IntKind.wrap_i64]; omega
                have e4 : (j : Int) < (DD.length : Int) := by omega
                have g4 : decide (d.dep < e.dep) = false := decide_eq_false (by omega)
                have g5 : ¬ d.dep < e.dep := by omega
                obtain ⟨bq, oq, e5, hbq, hcq⟩ := RowL.at8 (HR7.out.more (Below.trans HSi.out (Below.mono HS9.out HSi.out.size))) he
                cases e5
                have b6 := SW.cell (hcq 5 _ rfl)
                clear hcq hbq he hle hj hi0
                have hNe : Nonempty (Wd (SW w9)) := ⟨⟨_, SW.drew _⟩⟩
                refine quietS (S := SW w9) (by kernel_rfl) (by kernel_rfl) (SW.drew _) ?_
                repeat (first | go_big_quiet_skip | (go_big_quiet_want; go_big_quiet_op; first | go_big_quiet_on | go_big_quiet_call ((fail))))
                refine wpQuiet_nil ?_
                rintro W ⟨⟨_, hW⟩, rfl⟩
                go_wp2_with fail
                go_meet
                exact ⟨rfl, Lib.hid hW⟩
            case rest =>
              obtain ⟨rfl, HC2⟩ := hcut
              generalize wc = w10 at *
              have HS10 : Hid (SW wr w10) := Lib.hid (Below.trans HS9.out (Below.mono HC2.out HS9.out.size))
              have HS5 : Hid (SW w5 w10) := Lib.hid (Below.trans (Below.trans HS7.out (Below.mono HSi.out HS7.out.size)) (Below.mono HS10.out (Below.trans HS7.out (Below.mono HSi.out HS7.out.size)).size))
              have a0 := bel_cell HC2.out HC.out.1.c0
              have a1 := bel_cell HC2.out HC.out.1.c1
              have a2 := bel_cell HC2.out HC.out.1.c2
              have a3 := bel_cell HC2.out HC.out.1.c3
              have a4 := bel_cell HC2.out HC.out.1.c4
              have a5 := bel_cell HC2.out HC.out.1.c5
              have kp0 := Fp0.out _ HS5.out
              have kp1 := Fp1.out _ HS5.out
              have KLf := Lib.hid (KL.out f A9 c9 w10 HFM.out (HC.out.2.1.more HC2.out) HS5.out)
              have hM100 := HLe.out f HFM.out
              obtain ⟨M, hM⟩ : ∃ M, M = legF p.l f day := ⟨_, rfl⟩
              have HJM : Hid (M[jx]? = some d) := Lib.hid (by rw [hM]; exact HJX.out)
              rw [← hM] at KLf hM100
              generalize legE f day = e0 at *
              clear hM
              go_upto_region 17 with (go_at_call 35; refine KLf.out.mono ?_; rintro e w11 ⟨A11, c11, rfl, hR11, hb11⟩)
              clear a0 a1 a2 a3 a4 a5 kp0 kp1 KLf
              have HR11 := Lib.hid hR11
              have HS11 : Hid (SW wr w11) := Lib.hid (Below.trans HS10.out (Below.mono hb11 HS10.out.size))
              clear hR11 hb11
              have HF0 : Hid (jx < 0 → false = true) := Lib.hid (fun h => absurd h (by omega))
              go_wp2
              go_loopw [17, 18] (fun vf vk wq => ∃ (fb : Bool) (q : Nat), q ≤ M.length ∧ vf = .bool fb ∧ vk = .int .i64 q ∧ Hid (jx < q → fb = true) ∧ SW w11 wq) (fun _ vk _ => M.length - (intOf vk).toNat)
              case atStart => exact ⟨false, 0, Nat.zero_le _, rfl, rfl, Lib.hid (fun h => absurd h (by omega)), Below.refl _ _⟩
              case round =>
                obtain ⟨fb, q, hq, rfl, rfl, HF, hSq⟩ := hrel
                by_cases hlq : q < M.length
                · obtain ⟨y, hy⟩ : ∃ y, M[q]? = some y := ⟨_, List.getElem?_eq_getElem hlq⟩
                  have q2 : (q : Int) < (M.length : Int) := by omega
                  obtain ⟨by_, oy, e6, hby, hcy⟩ := RowL.at8 (HR11.out.more hSq) hy
                  cases e6
                  have y0 := hcy 0 _ rfl
                  have y1 := hcy 1 _ rfl
                  have y2 := hcy 2 _ rfl
                  have y3 := hcy 3 _ rfl
                  have y4 := hcy 4 _ rfl
                  have y5 := hcy 5 _ rfl
                  have y6 := hcy 6 _ rfl
                  have y7 := hcy 7 _ rfl
                  rw [Nat.add_zero] at y0
                  have hSd : SW _ wr := Below.trans HS11.out (Below.mono hSq HS11.out.size)
                  have v0 := SW.cell y0
                  have d0 := SW.cell (c0 _ hSd)
                  have v1 := SW.cell y1
                  have d1 := SW.cell (c1 _ hSd)
                  have v2 := SW.cell y2
                  have d2 := SW.cell (c2 _ hSd)
                  have v3 := SW.cell y3
                  have d3 := SW.cell (c3 _ hSd)
                  have v4 := SW.cell y4
                  have d4 := SW.cell (c4 _ hSd)
                  have v5 := SW.cell y5
                  have d5 := SW.cell (c5 _ hSd)
                  have v6 := SW.cell y6
                  have d6 := SW.cell (c6 _ hSd)
                  have v7 := SW.cell y7
                  have d7 := SW.cell (c7 _ hSd)
                  have HQ : Hid (jx = q → y = d) := Lib.hid (fun h => by
                    have h2 := HJM.out
                    rw [h, hy] at h2
                    exact Option.some.inj h2)
                  clear hy hcy hby hSd y0 y1 y2 y3 y4 y5 y6 y7
                  cases fb with
                  | true =>
                    go_wp2
                    have hNe : Nonempty (Wd (SW wr)) := ⟨⟨_, SW.drew _⟩⟩
                    refine quietS (S := SW wr) (by kernel_rfl) (by kernel_rfl) (SW.drew _) ?_
                    repeat (first | go_big_quiet_skip | (go_big_quiet_want; go_big_quiet_op; first | go_big_quiet_on | go_big_quiet_call ((fail))))
                    refine wpQuiet_nil ?_
                    rintro W ⟨⟨_, hW⟩, rfl⟩
                    have hS12 : SW w11 W := Below.trans hSq (Below.mono hW hSq.size)
                    clear v0 d0 v1 d1 v2 d2 v3 d3 v4 d4 v5 d5 v6 d6 v7 d7 hW
                    go_wp2
                    go_roundw
                    case rel => exact ⟨true, q + 1, by omega, rfl, by go_num, Lib.hid (fun _ => rfl), hS12⟩
                    case measure => simp [intOf]; omega
                  | false =>
                    cases t0 : (y.car.toList == d.car.toList) with
                    | false =>
                      have HN : Hid (jx < q + 1 → false = true) := Lib.hid (fun h => by
                        by_cases e : jx = q
                        · have h2 := HQ.out e
                          rw [h2] at t0
                          simp at t0
                        · exact HF.out (by omega))
                      clear HF HQ
                      go_wp2
                      have hNe : Nonempty (Wd (SW wr)) := ⟨⟨_, SW.drew _⟩⟩
                      refine quietS (S := SW wr) (by kernel_rfl) (by kernel_rfl) (SW.drew _) ?_
                      repeat (first | go_big_quiet_skip | (go_big_quiet_want; go_big_quiet_op; first | go_big_quiet_on | go_big_quiet_call ((fail))))
                      refine wpQuiet_nil ?_
                      rintro W ⟨⟨_, hW⟩, rfl⟩
                      have hS12 : SW w11 W := Below.trans hSq (Below.mono hW hSq.size)
                      clear v0 d0 v1 d1 v2 d2 v3 d3 v4 d4 v5 d5 v6 d6 v7 d7 hW
                      go_wp2
                      go_roundw
                      case rel => exact ⟨false, q + 1, by omega, rfl, by go_num, HN, hS12⟩
                      case measure => simp [intOf]; omega
                    | true =>
                    cases t1 : (y.num == d.num) with
                    | false =>
                      have HN : Hid (jx < q + 1 → false = true) := Lib.hid (fun h => by
                        by_cases e : jx = q
                        · have h2 := HQ.out e
                          rw [h2] at t1
                          simp at t1
                        · exact HF.out (by omega))
                      clear HF HQ
                      go_wp2
                      have hNe : Nonempty (Wd (SW wr)) := ⟨⟨_, SW.drew _⟩⟩
                      refine quietS (S := SW wr) (by kernel_rfl) (by kernel_rfl) (SW.drew _) ?_
                      repeat (first | go_big_quiet_skip | (go_big_quiet_want; go_big_quiet_op; first | go_big_quiet_on | go_big_quiet_call ((fail))))
                      refine wpQuiet_nil ?_
                      rintro W ⟨⟨_, hW⟩, rfl⟩
                      have hS12 : SW w11 W := Below.trans hSq (Below.mono hW hSq.size)
                      clear v0 d0 v1 d1 v2 d2 v3 d3 v4 d4 v5 d5 v6 d6 v7 d7 hW
                      go_wp2
                      go_roundw
                      case rel => exact ⟨false, q + 1, by omega, rfl, by go_num, HN, hS12⟩
                      case measure => simp [intOf]; omega
                    | true =>
                    cases t2 : (y.day == d.day) with
                    | false =>
                      have HN : Hid (jx < q + 1 → false = true) := Lib.hid (fun h => by
                        by_cases e : jx = q
                        · have h2 := HQ.out e
                          rw [h2] at t2
                          simp at t2
                        · exact HF.out (by omega))
                      clear HF HQ
                      go_wp2
                      have hNe : Nonempty (Wd (SW wr)) := ⟨⟨_, SW.drew _⟩⟩
                      refine quietS (S := SW wr) (by kernel_rfl) (by kernel_rfl) (SW.drew _) ?_
                      repeat (first | go_big_quiet_skip | (go_big_quiet_want; go_big_quiet_op; first | go_big_quiet_on | go_big_quiet_call ((fail))))
                      refine wpQuiet_nil ?_
                      rintro W ⟨⟨_, hW⟩, rfl⟩
                      have hS12 : SW w11 W := Below.trans hSq (Below.mono hW hSq.size)
                      clear v0 d0 v1 d1 v2 d2 v3 d3 v4 d4 v5 d5 v6 d6 v7 d7 hW
                      go_wp2
                      go_roundw
                      case rel => exact ⟨false, q + 1, by omega, rfl, by go_num, HN, hS12⟩
                      case measure => simp [intOf]; omega
                    | true =>
                    cases t3 : (y.f.toList == d.f.toList) with
                    | false =>
                      have HN : Hid (jx < q + 1 → false = true) := Lib.hid (fun h => by
                        by_cases e : jx = q
                        · have h2 := HQ.out e
                          rw [h2] at t3
                          simp at t3
                        · exact HF.out (by omega))
                      clear HF HQ
                      go_wp2
                      have hNe : Nonempty (Wd (SW wr)) := ⟨⟨_, SW.drew _⟩⟩
                      refine quietS (S := SW wr) (by kernel_rfl) (by kernel_rfl) (SW.drew _) ?_
                      repeat (first | go_big_quiet_skip | (go_big_quiet_want; go_big_quiet_op; first | go_big_quiet_on | go_big_quiet_call ((fail))))
                      refine wpQuiet_nil ?_
                      rintro W ⟨⟨_, hW⟩, rfl⟩
                      have hS12 : SW w11 W := Below.trans hSq (Below.mono hW hSq.size)
                      clear v0 d0 v1 d1 v2 d2 v3 d3 v4 d4 v5 d5 v6 d6 v7 d7 hW
                      go_wp2
                      go_roundw
                      case rel => exact ⟨false, q + 1, by omega, rfl, by go_num, HN, hS12⟩
                      case measure => simp [intOf]; omega
                    | true =>
                    cases t4 : (y.t.toList == d.t.toList) with
                    | false =>
                      have HN : Hid (jx < q + 1 → false = true) := Lib.hid (fun h => by
                        by_cases e : jx = q
                        · have h2 := HQ.out e
                          rw [h2] at t4
                          simp at t4
                        · exact HF.out (by omega))
                      clear HF HQ
                      go_wp2
                      have hNe : Nonempty (Wd (SW wr)) := ⟨⟨_, SW.drew _⟩⟩
                      refine quietS (S := SW wr) (by kernel_rfl) (by kernel_rfl) (SW.drew _) ?_
                      repeat (first | go_big_quiet_skip | (go_big_quiet_want; go_big_quiet_op; first | go_big_quiet_on | go_big_quiet_call ((fail))))
                      refine wpQuiet_nil ?_
                      rintro W ⟨⟨_, hW⟩, rfl⟩
                      have hS12 : SW w11 W := Below.trans hSq (Below.mono hW hSq.size)
                      clear v0 d0 v1 d1 v2 d2 v3 d3 v4 d4 v5 d5 v6 d6 v7 d7 hW
                      go_wp2
                      go_roundw
                      case rel => exact ⟨false, q + 1, by omega, rfl, by go_num, HN, hS12⟩
                      case measure => simp [intOf]; omega
                    | true =>
                    cases t5 : (y.dep == d.dep) with
                    | false =>
                      have HN : Hid (jx < q + 1 → false = true) := Lib.hid (fun h => by
                        by_cases e : jx = q
                        · have h2 := HQ.out e
                          rw [h2] at t5
                          simp at t5
                        · exact HF.out (by omega))
                      clear HF HQ
                      go_wp2
                      have hNe : Nonempty (Wd (SW wr)) := ⟨⟨_, SW.drew _⟩⟩
                      refine quietS (S := SW wr) (by kernel_rfl) (by kernel_rfl) (SW.drew _) ?_
                      repeat (first | go_big_quiet_skip | (go_big_quiet_want; go_big_quiet_op; first | go_big_quiet_on | go_big_quiet_call ((fail))))
                      refine wpQuiet_nil ?_
                      rintro W ⟨⟨_, hW⟩, rfl⟩
                      have hS12 : SW w11 W := Below.trans hSq (Below.mono hW hSq.size)
                      clear v0 d0 v1 d1 v2 d2 v3 d3 v4 d4 v5 d5 v6 d6 v7 d7 hW
                      go_wp2
                      go_roundw
                      case rel => exact ⟨false, q + 1, by omega, rfl, by go_num, HN, hS12⟩
                      case measure => simp [intOf]; omega
                    | true =>
                    cases t6 : (y.arr == d.arr) with
                    | false =>
                      have HN : Hid (jx < q + 1 → false = true) := Lib.hid (fun h => by
                        by_cases e : jx = q
                        · have h2 := HQ.out e
                          rw [h2] at t6
                          simp at t6
                        · exact HF.out (by omega))
                      clear HF HQ
                      go_wp2
                      have hNe : Nonempty (Wd (SW wr)) := ⟨⟨_, SW.drew _⟩⟩
                      refine quietS (S := SW wr) (by kernel_rfl) (by kernel_rfl) (SW.drew _) ?_
                      repeat (first | go_big_quiet_skip | (go_big_quiet_want; go_big_quiet_op; first | go_big_quiet_on | go_big_quiet_call ((fail))))
                      refine wpQuiet_nil ?_
                      rintro W ⟨⟨_, hW⟩, rfl⟩
                      have hS12 : SW w11 W := Below.trans hSq (Below.mono hW hSq.size)
                      clear v0 d0 v1 d1 v2 d2 v3 d3 v4 d4 v5 d5 v6 d6 v7 d7 hW
                      go_wp2
                      go_roundw
                      case rel => exact ⟨false, q + 1, by omega, rfl, by go_num, HN, hS12⟩
                      case measure => simp [intOf]; omega
                    | true =>
                    cases t7 : (y.eq.toList == d.eq.toList) with
                    | false =>
                      have HN : Hid (jx < q + 1 → false = true) := Lib.hid (fun h => by
                        by_cases e : jx = q
                        · have h2 := HQ.out e
                          rw [h2] at t7
                          simp at t7
                        · exact HF.out (by omega))
                      clear HF HQ
                      go_wp2
                      have hNe : Nonempty (Wd (SW wr)) := ⟨⟨_, SW.drew _⟩⟩
                      refine quietS (S := SW wr) (by kernel_rfl) (by kernel_rfl) (SW.drew _) ?_
                      repeat (first | go_big_quiet_skip | (go_big_quiet_want; go_big_quiet_op; first | go_big_quiet_on | go_big_quiet_call ((fail))))
                      refine wpQuiet_nil ?_
                      rintro W ⟨⟨_, hW⟩, rfl⟩
                      have hS12 : SW w11 W := Below.trans hSq (Below.mono hW hSq.size)
                      clear v0 d0 v1 d1 v2 d2 v3 d3 v4 d4 v5 d5 v6 d6 v7 d7 hW
                      go_wp2
                      go_roundw
                      case rel => exact ⟨false, q + 1, by omega, rfl, by go_num, HN, hS12⟩
                      case measure => simp [intOf]; omega
                    | true =>
                    have HN : Hid (jx < q + 1 → true = true) := Lib.hid (fun _ => rfl)
                    clear HF HQ
                    go_wp2
                    have hNe : Nonempty (Wd (SW wr)) := ⟨⟨_, SW.drew _⟩⟩
                    refine quietS (S := SW wr) (by kernel_rfl) (by kernel_rfl) (SW.drew _) ?_
                    repeat (first | go_big_quiet_skip | (go_big_quiet_want; go_big_quiet_op; first | go_big_quiet_on | go_big_quiet_call ((fail))))
                    refine wpQuiet_nil ?_
                    rintro W ⟨⟨_, hW⟩, rfl⟩
                    have hS12 : SW w11 W := Below.trans hSq (Below.mono hW hSq.size)
                    clear v0 d0 v1 d1 v2 d2 v3 d3 v4 d4 v5 d5 v6 d6 v7 d7 hW
                    go_wp2
                    go_roundw
                    case rel => exact ⟨true, q + 1, by omega, rfl, by go_num, Lib.hid (fun _ => rfl), hS12⟩
                    case measure => simp [intOf]; omega
                · have q2 : ¬ (q : Int) < (M.length : Int) := by omega
                  have hfb : fb = true := HF.out (by have := (List.getElem?_eq_some_iff.1 HJM.out).1; omega)
                  subst hfb
                  clear HF
                  have HS13 : Hid (SW w7 wr) := Lib.hid (Below.trans (Below.trans HSi.out (Below.mono HS11.out HSi.out.size)) (Below.mono hSq (Below.trans HSi.out (Below.mono HS11.out HSi.out.size)).size))
                  go_wp2
                  go_roundw
                  case rel => exact ⟨i + 1, by omega, by go_num, HS13.out⟩
                  case measure => simp [intOf]; omega
        · have i3 : ¬ (i : Int) < (DD.length : Int) := by omega
          have jeq := HEQ.out
          go_wp2_with (go_at_call 25; refine (KW.out _ hS5).mono ?_; rintro e w19 ⟨rfl, hS⟩)
          go_ret
          exact ⟨rfl, HB0.out.trans (Below.mono hS HB0.out.size)⟩

end Go.Proofs.YtldillnjnjkkgaaGreatDoor
