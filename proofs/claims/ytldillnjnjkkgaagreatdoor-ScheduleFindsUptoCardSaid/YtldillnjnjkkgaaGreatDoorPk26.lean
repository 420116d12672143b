/- Words and walks that the laws below ask: SchY. -/
import Derived.Test.YtldillnjnjkkgaaGreatDoorPk25
/- Walk of the law ScheduleFinds. -/
namespace Go.Proofs.YtldillnjnjkkgaaGreatDoor
open Go.RowKit Go.Shelf
set_option linter.unusedSimpArgs false
set_option linter.unusedVariables false

set_option maxRecDepth 100000 in
set_option maxHeartbeats 8000000 in
theorem scheduleFinds_walk (p : PV) (v : Value) (fs : List FV) (q : AskV) (w : World) (hi : Inp p fs) (hP : PlL w p) (hv : TblL w v fs) (oq : OkAsk q) :
    Calls Tryz.prog 5 #[encP p, v, encAsk q] w fun e w' => e = .returned (.bool true) ∧ Below w.heap.size w w' := by
  have hb1 := bel_alloc w (.cells #[.slice p.A p.l.length p.ca, .slice p.D p.ds.length p.cd] placesT)
  have hb2 := bel_alloc (w.alloc (.cells #[.slice p.A p.l.length p.ca, .slice p.D p.ds.length p.cd] placesT)) (.cells #[.string q.car, .int .i64 q.num, .int .i64 q.day, .string q.f, .string q.t] 46)
  have hb0 := hb1.trans (hb2.mono hb1.size)
  have p0 := bel_cell hb2 ((cells_new w #[.slice p.A p.l.length p.ca, .slice p.D p.ds.length p.cd] placesT 0).trans (show _ = some (Value.slice p.A p.l.length p.ca) from rfl))
  have p1 := bel_cell hb2 ((cells_new w #[.slice p.A p.l.length p.ca, .slice p.D p.ds.length p.cd] placesT 1).trans (show _ = some (Value.slice p.D p.ds.length p.cd) from rfl))
  have q0 := (cells_new (w.alloc (.cells #[.slice p.A p.l.length p.ca, .slice p.D p.ds.length p.cd] placesT)) #[.string q.car, .int .i64 q.num, .int .i64 q.day, .string q.f, .string q.t] 46 0).trans (show _ = some (Value.string q.car) from rfl)
  have q1 := (cells_new (w.alloc (.cells #[.slice p.A p.l.length p.ca, .slice p.D p.ds.length p.cd] placesT)) #[.string q.car, .int .i64 q.num, .int .i64 q.day, .string q.f, .string q.t] 46 1).trans (show _ = some (Value.int .i64 q.num) from rfl)
  have q2 := (cells_new (w.alloc (.cells #[.slice p.A p.l.length p.ca, .slice p.D p.ds.length p.cd] placesT)) #[.string q.car, .int .i64 q.num, .int .i64 q.day, .string q.f, .string q.t] 46 2).trans (show _ = some (Value.int .i64 q.day) from rfl)
  have q3 := (cells_new (w.alloc (.cells #[.slice p.A p.l.length p.ca, .slice p.D p.ds.length p.cd] placesT)) #[.string q.car, .int .i64 q.num, .int .i64 q.day, .string q.f, .string q.t] 46 3).trans (show _ = some (Value.string q.f) from rfl)
  have q4 := (cells_new (w.alloc (.cells #[.slice p.A p.l.length p.ca, .slice p.D p.ds.length p.cd] placesT)) #[.string q.car, .int .i64 q.num, .int .i64 q.day, .string q.f, .string q.t] 46 4).trans (show _ = some (Value.string q.t) from rfl)
  simp only [World.size_alloc] at q0 q1 q2 q3 q4
  have HP := Lib.hid (hP.more hb0)
  have HV := Lib.hid (hv.more hb0)
  have HI := Lib.hid hi
  clear hP hv hi hb1 hb2
  go_enter Tryz.func5, Tryz.ntmps5
  go_upto_region 1 with fail
  generalize hw5 : (w.alloc (.cells #[.slice p.A p.l.length p.ca, .slice p.D p.ds.length p.cd] placesT)).alloc (.cells #[.string q.car, .int .i64 q.num, .int .i64 q.day, .string q.f, .string q.t] 46) = w5 at *
  clear hw5
  have Fp0 := Lib.hid (bel_get p0)
  have Fp1 := Lib.hid (bel_get p1)
  have Fq0 := Lib.hid (bel_get q0)
  have Fq1 := Lib.hid (bel_get q1)
  have Fq2 := Lib.hid (bel_get q2)
  have Fq3 := Lib.hid (bel_get q3)
  have Fq4 := Lib.hid (bel_get q4)
  clear p0 p1 q0 q1 q2 q3 q4
  have KW : Hid (∀ W, SW w5 W → Calls Tryz.prog 25 #[] W fun e w' => e = .returned (.bool true) ∧ SW w5 w') := Lib.hid (SW.call (fun W h => knows_any W))
  have KF : Hid (∀ W, SW w5 W → Calls Tryz.prog 21 #[encP p, v] W (FewPost p fs W)) := Lib.hid (fun W h => few_any p v fs W HI.out (HP.out.more h) (HV.out.more h))
  have hS : SW w5 w5 := Below.refl _ _
  have kp0 := Fp0.out _ hS
  have kp1 := Fp1.out _ hS
  go_wp2_with (go_at_call 21; refine (KF.out _ hS).mono ?_; rintro e w1 ⟨bF, rfl, hF, hb1⟩; have hS : SW w5 w1 := Below.trans hS (Below.mono hb1 hS.size); refine Hid.out ?_)
  clear kp0 kp1 KF hb1
  cases bF with
  | false =>
    refine Lib.hid ?_
    clear hF
    go_wp2_with (go_at_call 25; refine (KW.out _ hS).mono ?_; rintro e w9 ⟨rfl, hS⟩)
    go_ret
    exact ⟨rfl, hb0.trans (Below.mono hS hb0.size)⟩
  | true =>
  obtain ⟨sm, hc⟩ := hF rfl
  clear hF
  have KC : Hid (∀ W, SW w5 W → Calls Tryz.prog 24 #[encP p, v] W fun e w' => ∃ A c, e = .returned (.slice A (schF p.l fs fs.length).length c) ∧ SW w5 w') := Lib.hid (fun W h => (rscheck_few W HI.out (HP.out.more h) (HV.out.more h) sm hc).mono (by rintro e w' ⟨r, rfl, hr, hb⟩; obtain ⟨A, c, rfl, _⟩ := id hr; exact ⟨A, c, rfl, Below.trans h (Below.mono hb h.size)⟩))
  have kp0 := Fp0.out _ hS
  have kp1 := Fp1.out _ hS
  refine Lib.hid ?_
  by_cases hs0 : schF p.l fs fs.length = []
  case neg =>
    have hcl : (0 : Int) < ((schF p.l fs fs.length).length : Int) := by
      have : (schF p.l fs fs.length).length ≠ 0 := fun h => hs0 (List.eq_nil_of_length_eq_zero h)
      omega
    have hcn : 0 < (schF p.l fs fs.length).length := by omega
    clear hs0 sm hc
    generalize (schF p.l fs fs.length).length = n0 at *
    go_wp2_with (first
      | (go_at_call 25; refine (KW.out _ hS).mono ?_; rintro e w9 ⟨rfl, hS⟩)
      | (go_at_call 24; refine (KC.out _ hS).mono ?_; rintro e w2 ⟨A2, c2, rfl, hS⟩))
    go_ret
    exact ⟨rfl, hb0.trans (Below.mono hS hb0.size)⟩
  case pos =>
  have HVT : Hid (ValT p fs) := Lib.hid ⟨sm, hc, hs0⟩
  rw [hs0] at KC
  simp only [List.length_nil] at KC
  clear sm hc hs0
  obtain ⟨A, c, rfl, _⟩ := id HV.out.row
  have l1 : fs.length ≤ 1000 := HVT.out.okT.len
  have na : ∀ f ∈ fs, f.lg.length ≤ 1000 := fun f hf => by have := HVT.out.okT.lg f hf; omega
  obtain ⟨g, hg⟩ : ∃ g, g = (onF fs q.car q.num q.day).getD fliZ := ⟨_, rfl⟩
  obtain ⟨s, hs⟩ : ∃ s, s = (onF fs q.car q.num q.day).isSome := ⟨_, rfl⟩
  obtain ⟨sg, hsg⟩ : ∃ x, x = (segF p.l fs q.car q.num q.day q.f q.t).2 := ⟨_, rfl⟩
  obtain ⟨er, her⟩ : ∃ x, x = (segF p.l fs q.car q.num q.day q.f q.t).1 := ⟨_, rfl⟩
  have KO : Hid (∀ W, SW w5 W → Calls Tryz.prog 26 #[.slice A fs.length c, .string q.car, .int .i64 q.num, .int .i64 q.day] W (OnX g s W)) := Lib.hid (fun W h => by rw [hg, hs]; exact on_x (.slice A fs.length c) fs q.car q.num q.day W (HV.out.more h) l1 na oq.day.1 oq.day.2)
  have KR : Hid (∀ W, SW w5 W → Calls Tryz.prog 27 #[.slice A fs.length c, .string q.car, .int .i64 q.num, .int .i64 q.day] W (OnX g s W)) := Lib.hid (fun W h => by rw [hg, hs]; exact ron_x (.slice A fs.length c) fs q.car q.num q.day W (HV.out.more h) l1 na oq.day.1 oq.day.2)
  have KG : Hid (∀ W, SW w5 W → Calls Tryz.prog 28 #[encP p, .slice A fs.length c, .string q.car, .int .i64 q.num, .int .i64 q.day, .string q.f, .string q.t] W (SegX sg er W)) := Lib.hid (fun W h => by rw [hsg, her]; exact seg_x HVT.out q.car q.num q.day q.f q.t W (HP.out.more h).air (HV.out.more h) oq.day.1 oq.day.2)
  have KH : Hid (∀ W, SW w5 W → Calls Tryz.prog 29 #[encP p, .slice A fs.length c, .string q.car, .int .i64 q.num, .int .i64 q.day, .string q.f, .string q.t] W (SegX sg er W)) := Lib.hid (fun W h => by rw [hsg, her]; exact rseg_x HVT.out q.car q.num q.day q.f q.t W (HP.out.more h).air (HV.out.more h) oq.day.1 oq.day.2)
  have KD : Hid (∀ W, SW w5 W → Calls Tryz.prog 31 #[encP p, .slice A fs.length c, .int .i64 q.day] W fun e w' => ∃ r, e = .returned r ∧ RowL 8 encDt w' r (insAll [] (dayF p.l fs q.day)) ∧ Below W.heap.size W w') := Lib.hid (fun W h => day_x HVT.out q.day W (HP.out.more h).air (HV.out.more h) oq.day.1 oq.day.2)
  have KE : Hid (∀ W, SW w5 W → Calls Tryz.prog 32 #[encP p, .slice A fs.length c, .int .i64 q.day] W fun e w' => ∃ r, e = .returned r ∧ RowL 8 encDt w' r (insAll [] (dayF p.l fs q.day)) ∧ Below W.heap.size W w') := Lib.hid (fun W h => rday_x HVT.out q.day W (HP.out.more h).air (HV.out.more h) oq.day.1 oq.day.2)
  have KP : Hid (∀ W, SW w5 W → Calls Tryz.prog 33 #[encP p, .slice A fs.length c, .agg #[.string sg.car, .int .i64 sg.num, .int .i64 sg.day, .string sg.f, .string sg.t, .int .i64 sg.dep, .int .i64 sg.arr]] W fun e w' => e = .returned (.bool (er == 0)) ∧ Below W.heap.size W w') := Lib.hid (fun W h => by
    have hd := segF_day (L := p.l) (fs := fs) (car := q.car) (num := q.num) (fr := q.f) (tt := q.t) oq.day.1 oq.day.2
    rw [← hsg] at hd
    have h1 := oper_x HVT.out sg W (HP.out.more h).air (HV.out.more h) hd.1 hd.2
    have h2 := HVT.out.found q.car q.num q.day q.f q.t
    rw [← hsg, ← her] at h2
    rw [h2] at h1
    exact h1)
  have hgl : g.lg.length ≤ 1000 := by rw [hg]; exact on_lg na
  have HGL := Lib.hid hgl
  clear hg hs hsg her na l1 hgl
  have kp0 := Fp0.out _ hS
  have kp1 := Fp1.out _ hS
  go_upto_region 3 with (go_at_call 24; refine (KC.out _ hS).mono ?_; rintro e w2 ⟨A2, c2, rfl, hS⟩)
  clear kp0 kp1
  have kq0 := Fq0.out _ hS
  have kq1 := Fq1.out _ hS
  have kq2 := Fq2.out _ hS
  go_upto_region 4 with (go_at_call 26; refine (KO.out _ hS).mono ?_; rintro e w7 ⟨X1, A7, c7, rfl, hX1, hL1, hb7⟩; have hst1 := store_fli hX1 w7; have hsz1 : X1.size = 6 := by rw [hX1.out]; rfl)
  clear hst1 hsz1 kq0 kq1 kq2
  obtain rfl := hX1.out
  have hb8 := bel_alloc w7 (.cells (fliX g A7 c7) fliT)
  have m0 := (cells_new w7 (fliX g A7 c7) fliT 0).trans (show _ = some _ from rfl)
  have m1 := (cells_new w7 (fliX g A7 c7) fliT 1).trans (show _ = some _ from rfl)
  have m2 := (cells_new w7 (fliX g A7 c7) fliT 2).trans (show _ = some _ from rfl)
  have m3 := (cells_new w7 (fliX g A7 c7) fliT 3).trans (show _ = some _ from rfl)
  have m4 := (cells_new w7 (fliX g A7 c7) fliT 4).trans (show _ = some _ from rfl)
  have m5 := (cells_new w7 (fliX g A7 c7) fliT 5).trans (show _ = some _ from rfl)
  have hL1 := hL1.more hb8
  have hb78 := hb7.trans (hb8.mono hb7.size)
  have hS : SW w5 _ := Below.trans hS (Below.mono hb78 hS.size)
  clear hX1 hb7 hb8 hb78
  generalize hw8 : w7.alloc (.cells (fliX g A7 c7) fliT) = w8 at *
  clear hw8
  have kq0 := Fq0.out _ hS
  have kq1 := Fq1.out _ hS
  have kq2 := Fq2.out _ hS
  go_upto_region 5 with (go_at_call 27; refine (KR.out _ hS).mono ?_; rintro e w9 ⟨X2, A9, c9, rfl, hX2, hL2, hb9⟩; have hst2 := store_fli hX2 w9; have hsz2 : X2.size = 6 := by rw [hX2.out]; rfl)
  clear hst2 hsz2 kq0 kq1 kq2
  obtain rfl := hX2.out
  have hb10 := bel_alloc w9 (.cells (fliX g A9 c9) fliT)
  have hb910 := hb9.trans (hb10.mono hb9.size)
  have n0 := (cells_new w9 (fliX g A9 c9) fliT 0).trans (show _ = some _ from rfl)
  have m0 := bel_cell hb910 m0
  have n1 := (cells_new w9 (fliX g A9 c9) fliT 1).trans (show _ = some _ from rfl)
  have m1 := bel_cell hb910 m1
  have n2 := (cells_new w9 (fliX g A9 c9) fliT 2).trans (show _ = some _ from rfl)
  have m2 := bel_cell hb910 m2
  have n3 := (cells_new w9 (fliX g A9 c9) fliT 3).trans (show _ = some _ from rfl)
  have m3 := bel_cell hb910 m3
  have n4 := (cells_new w9 (fliX g A9 c9) fliT 4).trans (show _ = some _ from rfl)
  have m4 := bel_cell hb910 m4
  have n5 := (cells_new w9 (fliX g A9 c9) fliT 5).trans (show _ = some _ from rfl)
  have m5 := bel_cell hb910 m5
  have hL1 := hL1.more hb910
  have hL2 := hL2.more hb10
  have hS : SW w5 _ := Below.trans hS (Below.mono hb910 hS.size)
  clear hX2 hb9 hb10 hb910
  generalize hw10 : w9.alloc (.cells (fliX g A9 c9) fliT) = w10 at *
  clear hw10
  have kp0 := Fp0.out _ hS
  have kp1 := Fp1.out _ hS
  have kq0 := Fq0.out _ hS
  have kq1 := Fq1.out _ hS
  have kq2 := Fq2.out _ hS
  have kq3 := Fq3.out _ hS
  have kq4 := Fq4.out _ hS
  go_upto_region 6 with (go_at_call 28; refine (KG.out _ hS).mono ?_; rintro e w11 ⟨X3, rfl, hX3, hb11⟩; have hst3 := store_sg hX3 w11; have hsz3 : X3.size = 7 := by rw [hX3.out]; rfl)
  clear hst3 hsz3 kp0 kp1 kq0 kq1 kq2 kq3 kq4
  obtain rfl := hX3.out
  have hb12 := bel_alloc w11 (.cells (sgX sg) segT)
  have hb112 := hb11.trans (hb12.mono hb11.size)
  have s0 := (cells_new w11 (sgX sg) segT 0).trans (show _ = some _ from rfl)
  have s1 := (cells_new w11 (sgX sg) segT 1).trans (show _ = some _ from rfl)
  have s2 := (cells_new w11 (sgX sg) segT 2).trans (show _ = some _ from rfl)
  have s3 := (cells_new w11 (sgX sg) segT 3).trans (show _ = some _ from rfl)
  have s4 := (cells_new w11 (sgX sg) segT 4).trans (show _ = some _ from rfl)
  have s5 := (cells_new w11 (sgX sg) segT 5).trans (show _ = some _ from rfl)
  have s6 := (cells_new w11 (sgX sg) segT 6).trans (show _ = some _ from rfl)
  have m0 := bel_cell hb112 m0
  have n0 := bel_cell hb112 n0
  have m1 := bel_cell hb112 m1
  have n1 := bel_cell hb112 n1
  have m2 := bel_cell hb112 m2
  have n2 := bel_cell hb112 n2
  have m3 := bel_cell hb112 m3
  have n3 := bel_cell hb112 n3
  have m4 := bel_cell hb112 m4
  have n4 := bel_cell hb112 n4
  have m5 := bel_cell hb112 m5
  have n5 := bel_cell hb112 n5
  have hL1 := hL1.more hb112
  have hL2 := hL2.more hb112
  have hS : SW w5 _ := Below.trans hS (Below.mono hb112 hS.size)
  clear hX3 hb11 hb12 hb112
  generalize hw12 : w11.alloc (.cells (sgX sg) segT) = w12 at *
  clear hw12
  have kp0 := Fp0.out _ hS
  have kp1 := Fp1.out _ hS
  have kq0 := Fq0.out _ hS
  have kq1 := Fq1.out _ hS
  have kq2 := Fq2.out _ hS
  have kq3 := Fq3.out _ hS
  have kq4 := Fq4.out _ hS
  go_upto_region 7 with (go_at_call 29; refine (KH.out _ hS).mono ?_; rintro e w13 ⟨X4, rfl, hX4, hb13⟩; have hst4 := store_sg hX4 w13; have hsz4 : X4.size = 7 := by rw [hX4.out]; rfl)
  clear hst4 hsz4 kp0 kp1 kq0 kq1 kq2 kq3 kq4
  obtain rfl := hX4.out
  have hb14 := bel_alloc w13 (.cells (sgX sg) segT)
  have hb134 := hb13.trans (hb14.mono hb13.size)
  have u0 := (cells_new w13 (sgX sg) segT 0).trans (show _ = some _ from rfl)
  have s0 := bel_cell hb134 s0
  have u1 := (cells_new w13 (sgX sg) segT 1).trans (show _ = some _ from rfl)
  have s1 := bel_cell hb134 s1
  have u2 := (cells_new w13 (sgX sg) segT 2).trans (show _ = some _ from rfl)
  have s2 := bel_cell hb134 s2
  have u3 := (cells_new w13 (sgX sg) segT 3).trans (show _ = some _ from rfl)
  have s3 := bel_cell hb134 s3
  have u4 := (cells_new w13 (sgX sg) segT 4).trans (show _ = some _ from rfl)
  have s4 := bel_cell hb134 s4
  have u5 := (cells_new w13 (sgX sg) segT 5).trans (show _ = some _ from rfl)
  have s5 := bel_cell hb134 s5
  have u6 := (cells_new w13 (sgX sg) segT 6).trans (show _ = some _ from rfl)
  have s6 := bel_cell hb134 s6
  have m0 := bel_cell hb134 m0
  have n0 := bel_cell hb134 n0
  have m1 := bel_cell hb134 m1
  have n1 := bel_cell hb134 n1
  have m2 := bel_cell hb134 m2
  have n2 := bel_cell hb134 n2
  have m3 := bel_cell hb134 m3
  have n3 := bel_cell hb134 n3
  have m4 := bel_cell hb134 m4
  have n4 := bel_cell hb134 n4
  have m5 := bel_cell hb134 m5
  have n5 := bel_cell hb134 n5
  have hL1 := hL1.more hb134
  have hL2 := hL2.more hb134
  have hS : SW w5 _ := Below.trans hS (Below.mono hb134 hS.size)
  clear hX4 hb13 hb14 hb134
  generalize hw14 : w13.alloc (.cells (sgX sg) segT) = w14 at *
  clear hw14
  have Fm0 := bel_get m0
  have Fm1 := bel_get m1
  have Fm2 := bel_get m2
  have Fm3 := bel_get m3
  have Fm4 := bel_get m4
  have Fm5 := bel_get m5
  have Fn0 := bel_get n0
  have Fn1 := bel_get n1
  have Fn2 := bel_get n2
  have Fn3 := bel_get n3
  have Fn4 := bel_get n4
  have Fn5 := bel_get n5
  have Fs0 := bel_get s0
  have Fs1 := bel_get s1
  have Fs2 := bel_get s2
  have Fs3 := bel_get s3
  have Fs4 := bel_get s4
  have Fs5 := bel_get s5
  have Fs6 := bel_get s6
  have Fu0 := bel_get u0
  have Fu1 := bel_get u1
  have Fu2 := bel_get u2
  have Fu3 := bel_get u3
  have Fu4 := bel_get u4
  have Fu5 := bel_get u5
  have Fu6 := bel_get u6
  have HS5 := Lib.hid hS
  have HL1 := Lib.hid hL1
  have HL2 := Lib.hid hL2
  clear hL1 hL2 hS m0 m1 m2 m3 m4 m5 n0 n1 n2 n3 n4 n5 s0 s1 s2 s3 s4 s5 s6 u0 u1 u2 u3 u4 u5 u6
  have Gp0 := fun W (h : SW w14 W) => Fp0.out W (Below.trans HS5.out (Below.mono h HS5.out.size))
  have Gp1 := fun W (h : SW w14 W) => Fp1.out W (Below.trans HS5.out (Below.mono h HS5.out.size))
  have Gq2 := fun W (h : SW w14 W) => Fq2.out W (Below.trans HS5.out (Below.mono h HS5.out.size))
  have js : (s == s) = true := by simp
  have je : (er == er) = true := by simp
  have jb : ((er == 0) == (er == 0)) = true := by simp
  have jq0 : (sg.car.toList == sg.car.toList) = true := by simp
  have jq1 : (sg.num == sg.num) = true := by simp
  have jq2 : (sg.day == sg.day) = true := by simp
  have jq3 : (sg.f.toList == sg.f.toList) = true := by simp
  have jq4 : (sg.t.toList == sg.t.toList) = true := by simp
  have jq5 : (sg.dep == sg.dep) = true := by simp
  have jq6 : (sg.arr == sg.arr) = true := by simp
  have HX : Hid (∀ W, SW w14 W → SW w5 W) := Lib.hid (fun W h => Below.trans HS5.out (Below.mono h HS5.out.size))
  have KS2 : Hid (∀ W, SW w14 W → Calls Tryz.prog 20 #[.agg #[.string g.car, .int .i64 g.num, .int .i64 g.pf, .int .i64 g.pt, .int .i64 g.pd, .slice A7 g.lg.length c7], .agg #[.string g.car, .int .i64 g.num, .int .i64 g.pf, .int .i64 g.pt, .int .i64 g.pd, .slice A9 g.lg.length c9]] W fun e w' => e = .returned (.bool true) ∧ SW w14 w') := Lib.hid (fun W h => by
    have h1 := rsame_any7 (g.re A7 c7) (g.re A9 c9) W (HL1.out.more h) (HL2.out.more h) HGL.out HGL.out
    rw [show sameB (g.re A7 c7) (g.re A9 c9) = true from by simp [sameB, FV.re, sameL_refl]] at h1
    exact h1.mono (by rintro e w' ⟨rfl, hb⟩; exact ⟨rfl, Below.trans h (Below.mono hb h.size)⟩))
  have KQ2 : Hid (∀ u x W, RowL 8 encDt W u (insAll [] (dayF p.l fs q.day)) → RowL 8 encDt W x (insAll [] (dayF p.l fs q.day)) → SW w14 W → Calls Tryz.prog 30 #[u, x] W fun e w' => e = .returned (.bool true) ∧ SW w14 w') := Lib.hid (fun u x W h1 h2 h => (sameD8_any u x _ W h1 h2 (by rw [insAll_len]; have := HVT.out.dayLen q.day; simp only [List.length_nil]; omega)).mono (by rintro e w' ⟨rfl, hb⟩; exact ⟨rfl, Below.trans h (Below.mono hb h.size)⟩))
  have KP2 : Hid (∀ W, SW w14 W → Calls Tryz.prog 33 #[encP p, .slice A fs.length c, .agg #[.string sg.car, .int .i64 sg.num, .int .i64 sg.day, .string sg.f, .string sg.t, .int .i64 sg.dep, .int .i64 sg.arr]] W fun e w' => e = .returned (.bool (er == 0)) ∧ SW w14 w') := Lib.hid (fun W h => (KP.out W (HX.out W h)).mono (by rintro e w' ⟨rfl, hb⟩; exact ⟨rfl, Below.trans h (Below.mono hb h.size)⟩))
  have KW2 : Hid (∀ W, SW w14 W → Calls Tryz.prog 25 #[] W fun e w' => e = .returned (.bool true) ∧ SW w14 w') := Lib.hid (SW.call (fun W h => knows_any W))
  clear KW
  have hS : (SW w14) _ := SW.drew _
  refine wp_region_held_drew (S := SW w14) (by kernel_rfl) hS (fun _ => ?_)
  refine wpAnyH_take (i := 0) (v := ?vR0) rfl (by kernel_rfl) (by kernel_rfl) (by kernel_rfl) (fun _ _ _ h => h) (Or.inl ⟨by rfl, ?hyR0⟩) hS ?restR0
  case hyR0 =>
    intro w hSw
    have k0 := Fm0 w hSw; have k1 := Fm1 w hSw; have k2 := Fm2 w hSw; have k3 := Fm3 w hSw; have k4 := Fm4 w hSw; have k5 := Fm5 w hSw
    first | (go_simp; done) | (go_simp; with_reducible rfl)
  try simp only [Act.put, List.setIfInBounds_toArray, List.set_cons_zero, List.set_cons_succ]
  refine wpAnyH_take (i := 1) (v := ?vR1) rfl (by kernel_rfl) (by kernel_rfl) (by kernel_rfl) (fun _ _ _ h => h) (Or.inl ⟨by rfl, ?hyR1⟩) hS ?restR1
  case hyR1 =>
    intro w hSw
    have k0 := Fn0 w hSw; have k1 := Fn1 w hSw; have k2 := Fn2 w hSw; have k3 := Fn3 w hSw; have k4 := Fn4 w hSw; have k5 := Fn5 w hSw
    first | (go_simp; done) | (go_simp; with_reducible rfl)
  try simp only [Act.put, List.setIfInBounds_toArray, List.set_cons_zero, List.set_cons_succ]
  refine wpAnyH_ready (rs := [2]) (by kernel_rfl) (by simp) ?_
  refine AllReadyH.cons rfl (fun K hK => ?_) AllReadyH.nil
  go_simp
  go_wp2_with ((go_at_call 20; refine (KS2.out _ hS).mono ?_; rintro e w15 ⟨rfl, hS⟩))
  refine hK.out _ _ hS (fun _ => ?_)
  clear hK K
  refine wpAnyH_take (i := 3) (v := ?vR3) rfl (by kernel_rfl) (by kernel_rfl) (by kernel_rfl) (fun _ _ _ h => h) (Or.inl ⟨by rfl, ?hyR3⟩) hS ?restR3
  case hyR3 =>
    intro w hSw
    first | (go_simp; done) | (go_simp; with_reducible rfl)
  try simp only [Act.put, List.setIfInBounds_toArray, List.set_cons_zero, List.set_cons_succ]
  refine wpAnyH_take (i := 4) (v := ?vR4) rfl (by kernel_rfl) (by kernel_rfl) (by kernel_rfl) (fun _ _ _ h => h) (Or.inl ⟨by kernel_rfl, ?hyR4⟩) hS ?restR4
  case hyR4 =>
    intro w hSw
    first | (go_simp; done) | (go_simp; with_reducible rfl)
  try simp only [Act.put, List.setIfInBounds_toArray, List.set_cons_zero, List.set_cons_succ]
  refine wpAnyH_take (i := 5) (v := ?vR5) rfl (by kernel_rfl) (by kernel_rfl) (by kernel_rfl) (fun _ _ _ h => h) (Or.inl ⟨by kernel_rfl, ?hyR5⟩) hS ?restR5
  case hyR5 =>
    intro w hSw
    first | (go_simp; done) | (go_simp; with_reducible rfl)
  try simp only [Act.put, List.setIfInBounds_toArray, List.set_cons_zero, List.set_cons_succ]
  refine wpAnyH_take (i := 6) (v := ?vR6) rfl (by kernel_rfl) (by kernel_rfl) (by kernel_rfl) (fun _ _ _ h => h) (Or.inl ⟨by kernel_rfl, ?hyR6⟩) hS ?restR6
  case hyR6 =>
    intro w hSw
    first | (go_simp; done) | (go_simp; with_reducible rfl)
  try simp only [Act.put, List.setIfInBounds_toArray, List.set_cons_zero, List.set_cons_succ]
  refine wpAnyH_take (i := 7) (v := ?vR7) rfl (by kernel_rfl) (by kernel_rfl) (by kernel_rfl) (fun _ _ _ h => h) (Or.inl ⟨by rfl, ?hyR7⟩) hS ?restR7
  case hyR7 =>
    intro w hSw
    first | (go_simp; done) | (go_simp; with_reducible rfl)
  try simp only [Act.put, List.setIfInBounds_toArray, List.set_cons_zero, List.set_cons_succ]
  refine wpAnyH_take (i := 8) (v := ?vR8) rfl (by kernel_rfl) (by kernel_rfl) (by kernel_rfl) (fun _ _ _ h => h) (Or.inl ⟨by rfl, ?hyR8⟩) hS ?restR8
  case hyR8 =>
    intro w hSw
    first | (go_simp; done) | (go_simp; with_reducible rfl)
  try simp only [Act.put, List.setIfInBounds_toArray, List.set_cons_zero, List.set_cons_succ]
  refine wpAnyH_take (i := 9) (v := ?vR9) rfl (by kernel_rfl) (by kernel_rfl) (by kernel_rfl) (fun _ _ _ h => h) (Or.inl ⟨by kernel_rfl, ?hyR9⟩) hS ?restR9
  case hyR9 =>
    intro w hSw
    have k0 := Fs0 w hSw; have k1 := Fs1 w hSw; have k2 := Fs2 w hSw; have k3 := Fs3 w hSw; have k4 := Fs4 w hSw; have k5 := Fs5 w hSw; have k6 := Fs6 w hSw
    first | (go_simp; done) | (go_simp; with_reducible rfl)
  try simp only [Act.put, List.setIfInBounds_toArray, List.set_cons_zero, List.set_cons_succ]
  refine wpAnyH_take (i := 10) (v := ?vR10) rfl (by kernel_rfl) (by kernel_rfl) (by kernel_rfl) (fun _ _ _ h => h) (Or.inl ⟨by kernel_rfl, ?hyR10⟩) hS ?restR10
  case hyR10 =>
    intro w hSw
    have k0 := Fu0 w hSw; have k1 := Fu1 w hSw; have k2 := Fu2 w hSw; have k3 := Fu3 w hSw; have k4 := Fu4 w hSw; have k5 := Fu5 w hSw; have k6 := Fu6 w hSw
    first | (go_simp; done) | (go_simp; with_reducible rfl)
  try simp only [Act.put, List.setIfInBounds_toArray, List.set_cons_zero, List.set_cons_succ]
  refine wpAnyH_take (i := 11) (v := ?vR11) rfl (by kernel_rfl) (by kernel_rfl) (by kernel_rfl) (fun _ _ _ h => h) (Or.inl ⟨by kernel_rfl, ?hyR11⟩) hS ?restR11
  case hyR11 =>
    intro w hSw
    first | (go_simp; done) | (go_simp; with_reducible rfl)
  try simp only [Act.put, List.setIfInBounds_toArray, List.set_cons_zero, List.set_cons_succ]
  refine wpAnyH_take (i := 12) (v := ?vR12) rfl (by kernel_rfl) (by kernel_rfl) (by kernel_rfl) (fun _ _ _ h => h) (Or.inl ⟨by rfl, ?hyR12⟩) hS ?restR12
  case hyR12 =>
    intro w hSw
    first | (go_simp; done) | (go_simp; with_reducible rfl)
  try simp only [Act.put, List.setIfInBounds_toArray, List.set_cons_zero, List.set_cons_succ]
  refine wpAnyH_take (i := 13) (v := ?vR13) rfl (by kernel_rfl) (by kernel_rfl) (by kernel_rfl) (fun _ _ _ h => h) (Or.inl ⟨by rfl, ?hyR13⟩) hS ?restR13
  case hyR13 =>
    intro w hSw
    first | (go_simp; done) | (go_simp; with_reducible rfl)
  try simp only [Act.put, List.setIfInBounds_toArray, List.set_cons_zero, List.set_cons_succ]
  refine wpAnyH_take (i := 14) (v := ?vR14) rfl (by kernel_rfl) (by kernel_rfl) (by kernel_rfl) (fun _ _ _ h => h) (Or.inl ⟨by kernel_rfl, ?hyR14⟩) hS ?restR14
  case hyR14 =>
    intro w hSw
    first | (go_simp; done) | (go_simp; with_reducible rfl)
  try simp only [Act.put, List.setIfInBounds_toArray, List.set_cons_zero, List.set_cons_succ]
  refine wpAnyH_take (i := 15) (v := ?vR15) rfl (by kernel_rfl) (by kernel_rfl) (by kernel_rfl) (fun _ _ _ h => h) (Or.inl ⟨by kernel_rfl, ?hyR15⟩) hS ?restR15
  case hyR15 =>
    intro w hSw
    first | (go_simp; done) | (go_simp; with_reducible rfl)
  try simp only [Act.put, List.setIfInBounds_toArray, List.set_cons_zero, List.set_cons_succ]
  refine wpAnyH_take (i := 16) (v := ?vR16) rfl (by kernel_rfl) (by kernel_rfl) (by kernel_rfl) (fun _ _ _ h => h) (Or.inl ⟨by kernel_rfl, ?hyR16⟩) hS ?restR16
  case hyR16 =>
    intro w hSw
    first | (go_simp; done) | (go_simp; with_reducible rfl)
  try simp only [Act.put, List.setIfInBounds_toArray, List.set_cons_zero, List.set_cons_succ]
  refine wpAnyH_take (i := 17) (v := ?vR17) rfl (by kernel_rfl) (by kernel_rfl) (by kernel_rfl) (fun _ _ _ h => h) (Or.inl ⟨by rfl, ?hyR17⟩) hS ?restR17
  case hyR17 =>
    intro w hSw
    first | (go_simp; done) | (go_simp; with_reducible rfl)
  try simp only [Act.put, List.setIfInBounds_toArray, List.set_cons_zero, List.set_cons_succ]
  refine wpAnyH_take (i := 18) (v := ?vR18) rfl (by kernel_rfl) (by kernel_rfl) (by kernel_rfl) (fun _ _ _ h => h) (Or.inl ⟨by rfl, ?hyR18⟩) hS ?restR18
  case hyR18 =>
    intro w hSw
    first | (go_simp; done) | (go_simp; with_reducible rfl)
  try simp only [Act.put, List.setIfInBounds_toArray, List.set_cons_zero, List.set_cons_succ]
  refine wpAnyH_take (i := 19) (v := ?vR19) rfl (by kernel_rfl) (by kernel_rfl) (by kernel_rfl) (fun _ _ _ h => h) (Or.inl ⟨by kernel_rfl, ?hyR19⟩) hS ?restR19
  case hyR19 =>
    intro w hSw
    have k0 := Gp0 w hSw; have k1 := Gp1 w hSw
    first | (go_simp; done) | (go_simp; with_reducible rfl)
  try simp only [Act.put, List.setIfInBounds_toArray, List.set_cons_zero, List.set_cons_succ]
  refine wpAnyH_take (i := 20) (v := ?vR20) rfl (by kernel_rfl) (by kernel_rfl) (by kernel_rfl) (fun _ _ _ h => h) (Or.inl ⟨by kernel_rfl, ?hyR20⟩) hS ?restR20
  case hyR20 =>
    intro w hSw
    first | (go_simp; done) | (go_simp; with_reducible rfl)
  try simp only [Act.put, List.setIfInBounds_toArray, List.set_cons_zero, List.set_cons_succ]
  refine wpAnyH_take (i := 21) (v := ?vR21) rfl (by kernel_rfl) (by kernel_rfl) (by kernel_rfl) (fun _ _ _ h => h) (Or.inl ⟨by kernel_rfl, ?hyR21⟩) hS ?restR21
  case hyR21 =>
    intro w hSw
    first | (go_simp; done) | (go_simp; with_reducible rfl)
  try simp only [Act.put, List.setIfInBounds_toArray, List.set_cons_zero, List.set_cons_succ]
  refine wpAnyH_take (i := 22) (v := ?vR22) rfl (by kernel_rfl) (by kernel_rfl) (by kernel_rfl) (fun _ _ _ h => h) (Or.inl ⟨by kernel_rfl, ?hyR22⟩) hS ?restR22
  case hyR22 =>
    intro w hSw
    have k0 := Gq2 w hSw
    first | (go_simp; done) | (go_simp; with_reducible rfl)
  try simp only [Act.put, List.setIfInBounds_toArray, List.set_cons_zero, List.set_cons_succ]
  refine wpAnyH_take (i := 24) (v := ?vR24) rfl (by kernel_rfl) (by kernel_rfl) (by kernel_rfl) (fun _ _ _ h => h) (Or.inl ⟨by kernel_rfl, ?hyR24⟩) hS ?restR24
  case hyR24 =>
    intro w hSw
    have k0 := Gp0 w hSw; have k1 := Gp1 w hSw
    first | (go_simp; done) | (go_simp; with_reducible rfl)
  try simp only [Act.put, List.setIfInBounds_toArray, List.set_cons_zero, List.set_cons_succ]
  refine wpAnyH_take (i := 25) (v := ?vR25) rfl (by kernel_rfl) (by kernel_rfl) (by kernel_rfl) (fun _ _ _ h => h) (Or.inl ⟨by kernel_rfl, ?hyR25⟩) hS ?restR25
  case hyR25 =>
    intro w hSw
    first | (go_simp; done) | (go_simp; with_reducible rfl)
  try simp only [Act.put, List.setIfInBounds_toArray, List.set_cons_zero, List.set_cons_succ]
  refine wpAnyH_take (i := 26) (v := ?vR26) rfl (by kernel_rfl) (by kernel_rfl) (by kernel_rfl) (fun _ _ _ h => h) (Or.inl ⟨by kernel_rfl, ?hyR26⟩) hS ?restR26
  case hyR26 =>
    intro w hSw
    first | (go_simp; done) | (go_simp; with_reducible rfl)
  try simp only [Act.put, List.setIfInBounds_toArray, List.set_cons_zero, List.set_cons_succ]
  refine wpAnyH_take (i := 27) (v := ?vR27) rfl (by kernel_rfl) (by kernel_rfl) (by kernel_rfl) (fun _ _ _ h => h) (Or.inl ⟨by kernel_rfl, ?hyR27⟩) hS ?restR27
  case hyR27 =>
    intro w hSw
    have k0 := Gq2 w hSw
    first | (go_simp; done) | (go_simp; with_reducible rfl)
  try simp only [Act.put, List.setIfInBounds_toArray, List.set_cons_zero, List.set_cons_succ]
  refine wpAnyH_ready (rs := [23]) (by kernel_rfl) (by simp) ?_
  refine AllReadyH.cons rfl (fun K hK => ?_) AllReadyH.nil
  go_simp
  go_wp2_with ((go_at_call 31; refine (KD.out _ (HX.out _ hS)).mono ?_; rintro e w16 ⟨r16, rfl, hD1, hb16⟩; have hS : SW w14 w16 := Below.trans hS (Below.mono hb16 hS.size)))
  refine hK.out _ _ hS (fun _ => ?_)
  clear hK K
  refine wpAnyH_ready (rs := [28]) (by kernel_rfl) (by simp) ?_
  refine AllReadyH.cons rfl (fun K hK => ?_) AllReadyH.nil
  go_simp
  go_wp2_with ((go_at_call 32; refine (KE.out _ (HX.out _ hS)).mono ?_; rintro e w17 ⟨r17, rfl, hD2, hb17⟩; have hD1 := hD1.more hb17; have hS : SW w14 w17 := Below.trans hS (Below.mono hb17 hS.size)))
  refine hK.out _ _ hS (fun _ => ?_)
  clear hK K
  refine wpAnyH_ready (rs := [29]) (by kernel_rfl) (by simp) ?_
  refine AllReadyH.cons rfl (fun K hK => ?_) AllReadyH.nil
  go_simp
  go_wp2_with ((go_at_call 30; refine (KQ2.out _ _ _ hD1 hD2 hS).mono ?_; rintro e w18 ⟨rfl, hS⟩))
  refine hK.out _ _ hS (fun _ => ?_)
  clear hK K
  refine wpAnyH_take (i := 30) (v := ?vR30) rfl (by kernel_rfl) (by kernel_rfl) (by kernel_rfl) (fun _ _ _ h => h) (Or.inl ⟨by rfl, ?hyR30⟩) hS ?restR30
  case hyR30 =>
    intro w hSw
    first | (go_simp; done) | (go_simp; with_reducible rfl)
  try simp only [Act.put, List.setIfInBounds_toArray, List.set_cons_zero, List.set_cons_succ]
  refine wpAnyH_take (i := 31) (v := ?vR31) rfl (by kernel_rfl) (by kernel_rfl) (by kernel_rfl) (fun _ _ _ h => h) (Or.inl ⟨by rfl, ?hyR31⟩) hS ?restR31
  case hyR31 =>
    intro w hSw
    first | (go_simp; done) | (go_simp; with_reducible rfl)
  try simp only [Act.put, List.setIfInBounds_toArray, List.set_cons_zero, List.set_cons_succ]
  refine wpAnyH_take (i := 32) (v := ?vR32) rfl (by kernel_rfl) (by kernel_rfl) (by kernel_rfl) (fun _ _ _ h => h) (Or.inl ⟨by kernel_rfl, ?hyR32⟩) hS ?restR32
  case hyR32 =>
    intro w hSw
    have k0 := Gp0 w hSw; have k1 := Gp1 w hSw
    first | (go_simp; done) | (go_simp; with_reducible rfl)
  try simp only [Act.put, List.setIfInBounds_toArray, List.set_cons_zero, List.set_cons_succ]
  refine wpAnyH_take (i := 33) (v := ?vR33) rfl (by kernel_rfl) (by kernel_rfl) (by kernel_rfl) (fun _ _ _ h => h) (Or.inl ⟨by kernel_rfl, ?hyR33⟩) hS ?restR33
  case hyR33 =>
    intro w hSw
    first | (go_simp; done) | (go_simp; with_reducible rfl)
  try simp only [Act.put, List.setIfInBounds_toArray, List.set_cons_zero, List.set_cons_succ]
  refine wpAnyH_take (i := 34) (v := ?vR34) rfl (by kernel_rfl) (by kernel_rfl) (by kernel_rfl) (fun _ _ _ h => h) (Or.inl ⟨by kernel_rfl, ?hyR34⟩) hS ?restR34
  case hyR34 =>
    intro w hSw
    have k0 := Fs0 w hSw; have k1 := Fs1 w hSw; have k2 := Fs2 w hSw; have k3 := Fs3 w hSw; have k4 := Fs4 w hSw; have k5 := Fs5 w hSw; have k6 := Fs6 w hSw
    first | (go_simp; done) | (go_simp; with_reducible rfl)
  try simp only [Act.put, List.setIfInBounds_toArray, List.set_cons_zero, List.set_cons_succ]
  refine wpAnyH_take (i := 36) (v := ?vR36) rfl (by kernel_rfl) (by kernel_rfl) (by kernel_rfl) (fun _ _ _ h => h) (Or.inl ⟨by kernel_rfl, ?hyR36⟩) hS ?restR36
  case hyR36 =>
    intro w hSw
    first | (go_simp; done) | (go_simp; with_reducible rfl)
  try simp only [Act.put, List.setIfInBounds_toArray, List.set_cons_zero, List.set_cons_succ]
  refine wpAnyH_take (i := 37) (v := ?vR37) rfl (by kernel_rfl) (by kernel_rfl) (by kernel_rfl) (fun _ _ _ h => h) (Or.inl ⟨by kernel_rfl, ?hyR37⟩) hS ?restR37
  case hyR37 =>
    intro w hSw
    first | (go_simp; done) | (go_simp; with_reducible rfl)
  try simp only [Act.put, List.setIfInBounds_toArray, List.set_cons_zero, List.set_cons_succ]
  refine wpAnyH_ready (rs := [35]) (by kernel_rfl) (by simp) ?_
  refine AllReadyH.cons rfl (fun K hK => ?_) AllReadyH.nil
  go_simp
  go_wp2_with ((go_at_call 33; refine (KP2.out _ hS).mono ?_; rintro e w19 ⟨rfl, hS⟩))
  refine hK.out _ _ hS (fun _ => ?_)
  clear hK K
  refine wpAnyH_take (i := 38) (v := ?vR38) rfl (by kernel_rfl) (by kernel_rfl) (by kernel_rfl) (fun _ _ _ h => h) (Or.inl ⟨by kernel_rfl, ?hyR38⟩) hS ?restR38
  case hyR38 =>
    intro w hSw
    first | (go_simp; done) | (go_simp; with_reducible rfl)
  try simp only [Act.put, List.setIfInBounds_toArray, List.set_cons_zero, List.set_cons_succ]
  refine wpAnyH_take (i := 39) (v := ?vR39) rfl (by kernel_rfl) (by kernel_rfl) (by kernel_rfl) (fun _ _ _ h => h) (Or.inl ⟨by rfl, ?hyR39⟩) hS ?restR39
  case hyR39 =>
    intro w hSw
    first | (go_simp; done) | (go_simp; with_reducible rfl)
  try simp only [Act.put, List.setIfInBounds_toArray, List.set_cons_zero, List.set_cons_succ]
  refine wpAnyH_take (i := 40) (v := ?vR40) rfl (by kernel_rfl) (by kernel_rfl) (by kernel_rfl) (fun _ _ _ h => h) (Or.inl ⟨by rfl, ?hyR40⟩) hS ?restR40
  case hyR40 =>
    intro w hSw
    first | (go_simp; done) | (go_simp; with_reducible rfl)
  try simp only [Act.put, List.setIfInBounds_toArray, List.set_cons_zero, List.set_cons_succ]
  refine wpAnyH_ready (rs := [41]) (by kernel_rfl) (by simp) ?_
  refine AllReadyH.cons rfl (fun K hK => ?_) AllReadyH.nil
  go_simp
  go_wp2_with ((go_at_call 25; refine (KW2.out _ hS).mono ?_; rintro e w20 ⟨rfl, hS⟩))
  refine hK.out _ _ hS (fun _ => ?_)
  clear hK K
  refine wpAnyH_take (i := 42) (v := ?vR42) rfl (by kernel_rfl) (by kernel_rfl) (by kernel_rfl) (fun _ _ _ h => h) (Or.inl ⟨by rfl, ?hyR42⟩) hS ?restR42
  case hyR42 =>
    intro w hSw
    first | (go_simp; done) | (go_simp; with_reducible rfl)
  try simp only [Act.put, List.setIfInBounds_toArray, List.set_cons_zero, List.set_cons_succ]
  refine wpAnyH_take (i := 43) (v := ?vR43) rfl (by kernel_rfl) (by kernel_rfl) (by kernel_rfl) (fun _ _ _ h => h) (Or.inl ⟨by rfl, ?hyR43⟩) hS ?restR43
  case hyR43 =>
    intro w hSw
    first | (go_simp; done) | (go_simp; with_reducible rfl)
  try simp only [Act.put, List.setIfInBounds_toArray, List.set_cons_zero, List.set_cons_succ]
  refine wpAnyH_done (by kernel_rfl) ?_ _
  try simp only [List.getElem_toArray, List.getElem_cons_succ, List.getElem_cons_zero, List.set_cons_zero, List.set_cons_succ]
  have hS := HX.out _ hS
  go_wp2
  go_ret
  exact ⟨rfl, hb0.trans (Below.mono hS hb0.size)⟩

end Go.Proofs.YtldillnjnjkkgaaGreatDoor
