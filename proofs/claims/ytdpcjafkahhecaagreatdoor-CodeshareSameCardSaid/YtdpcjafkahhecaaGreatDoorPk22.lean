/- Words and walks that the laws below ask: PthC, CovP, At4, PthD. -/
import Derived.Test.YtdpcjafkahhecaaGreatDoorPk12
import Derived.Test.YtdpcjafkahhecaaGreatDoorPk20
import Derived.Test.YtdpcjafkahhecaaGreatDoorPk21
/- Walk of flight.Path. -/
namespace Go.Proofs.YtdpcjafkahhecaaGreatDoor
open Go.RowKit Go.Shelf
set_option linter.unusedSimpArgs false
set_option linter.unusedVariables false

/-- the name of a leg on a day -/
structure Idd where
  car : ByteArray
  num : Int
  day : Int
  f : ByteArray
abbrev iddT : TypeId := 50
def encI (d : Idd) : List Value := [.string d.car, .int .i64 d.num, .int .i64 d.day, .string d.f]
theorem rtI : RT Tryz.prog 45 iddT 4 encI where
  ht := Tryz.underlying45
  info := ⟨.agg #[.string noB, .int .i64 0, .int .i64 0, .string noB], 48, by kernel_rfl, rfl, by omega⟩
  len x := rfl
  one x u hu := by simp [encI] at hu; rcases hu with rfl | rfl | rfl | rfl <;> rfl
  pos := by omega
def idOf (d : Dt) : Idd := ⟨d.car, d.num, d.day, d.f⟩
/-- what Path returns: the error e and the names I -/
def PathR (l : List Air) (f : FV) (s : Sg) (e : Int) (I : List Idd) : Prop :=
  (((s.car.toList == f.car.toList) = false ∨ s.num ≠ f.num) ∧ e = 7 ∧ I = [])
  ∨ ((s.car.toList == f.car.toList) = true ∧ s.num = f.num ∧ legE f s.day ≠ 0 ∧ e = legE f s.day ∧ I = [])
  ∨ ((s.car.toList == f.car.toList) = true ∧ s.num = f.num ∧ legE f s.day = 0 ∧ ∃ R, CovR (legF l f s.day) s.f s.t R ∧
      ((R = [] ∧ e = 14 ∧ I = []) ∨ (∃ a z : Dt, R[0]? = some a ∧ R[R.length - 1]? = some z ∧ (((s.dep ≠ a.dep ∨ s.arr ≠ z.arr) ∧ e = 13 ∧ I = []) ∨ (s.dep = a.dep ∧ s.arr = z.arr ∧ e = 0 ∧ I = R.map idOf)))))

theorem CovR.len {L : List Dt} {fr tt : ByteArray} {R : List Dt} (h : CovR L fr tt R) : R.length ≤ L.length := by
  rcases h with ⟨h, _⟩ | ⟨i, k, a, y, _, _, _, _, _, _, h⟩
  · rw [h]; simp
  · rw [h, List.length_take, List.length_drop]; omega
def PathPost (PR : Int → List Idd → Prop) (w w' : World) (e : Ending) : Prop := ∃ v er I, e = .returned (.tuple #[v, .int .i64 er]) ∧ RowL 4 encI w' v I ∧ Hid (PR er I) ∧ Below w.heap.size w w'
theorem PathPost.mk {PR : Int → List Idd → Prop} {w w' : World} {e : Ending} (v : Value) (er : Int) (I : List Idd) (he : e = .returned (.tuple #[v, .int .i64 er])) (h1 : RowL 4 encI w' v I) (h2 : Hid (PR er I)) (h3 : Below w.heap.size w w') : PathPost PR w w' e := ⟨v, er, I, he, h1, h2, h3⟩
theorem ROwn.formD {B : Nat} {w : World} {v : Value} {L : List Dt} (h : ROwn datT 8 encDt B w v L) (hne : L ≠ []) : ∃ g cap, v = .slice (some ⟨g, 0, none⟩) L.length cap ∧ B ≤ g ∧ g < w.heap.size :=
  h.own.form (by cases L with | nil => exact absurd rfl hne | cons x r => simp [cellsR, encDt])
set_option maxRecDepth 100000 in
set_option maxHeartbeats 8000000 in
theorem path_any (p : PV) (f : FV) (s : Sg) (w : World) (hl : p.l.length ≤ 40) (hL : AirL w p.A p.l) (hs : ∀ a ∈ p.l, a.shs.length ≤ 300) (hz : ∀ a ∈ p.l, OkZ a.off a.shs) (hG : LegL w (.slice f.A f.lg.length f.c) f.lg) (hn : f.lg.length ≤ 100) (hn1 : 1 ≤ f.lg.length)
    (hm : ∀ x ∈ f.lg, (-1000000 ≤ x.dep ∧ x.dep ≤ 1000000) ∧ -1000000 ≤ x.arr ∧ x.arr ≤ 1000000) (hd1 : -9223372036854775808 ≤ s.day) (hd2 : s.day ≤ 9223372036854775807) :
    Calls Tryz.prog 53 #[encP p, encFl f, encS7 s] w fun e w' => PathPost (PathR p.l f s) w w' e := by
  have hb1 := bel_alloc w (.cells #[.slice p.A p.l.length p.ca, .slice p.D p.ds.length p.cd] placesT)
  have hb2 := bel_alloc (w.alloc (.cells #[.slice p.A p.l.length p.ca, .slice p.D p.ds.length p.cd] placesT)) (.cells #[.string f.car, .int .i64 f.num, .int .i64 f.pf, .int .i64 f.pt, .int .i64 f.pd, .slice f.A f.lg.length f.c] fliT)
  have hb3 := bel_alloc ((w.alloc (.cells #[.slice p.A p.l.length p.ca, .slice p.D p.ds.length p.cd] placesT)).alloc (.cells #[.string f.car, .int .i64 f.num, .int .i64 f.pf, .int .i64 f.pt, .int .i64 f.pd, .slice f.A f.lg.length f.c] fliT)) (.cells #[.string s.car, .int .i64 s.num, .int .i64 s.day, .string s.f, .string s.t, .int .i64 s.dep, .int .i64 s.arr] segT)
  have hb0 : Below w.heap.size w (((w.alloc (.cells #[.slice p.A p.l.length p.ca, .slice p.D p.ds.length p.cd] placesT)).alloc (.cells #[.string f.car, .int .i64 f.num, .int .i64 f.pf, .int .i64 f.pt, .int .i64 f.pd, .slice f.A f.lg.length f.c] fliT)).alloc (.cells #[.string s.car, .int .i64 s.num, .int .i64 s.day, .string s.f, .string s.t, .int .i64 s.dep, .int .i64 s.arr] segT)) := hb1.trans ((hb2.mono hb1.size).trans (hb3.mono (Nat.le_trans hb1.size hb2.size)))
  have p0 := bel_cell hb3 (bel_cell hb2 ((cells_new w #[.slice p.A p.l.length p.ca, .slice p.D p.ds.length p.cd] placesT 0).trans (show _ = some (Value.slice p.A p.l.length p.ca) from rfl)))
  have p1 := bel_cell hb3 (bel_cell hb2 ((cells_new w #[.slice p.A p.l.length p.ca, .slice p.D p.ds.length p.cd] placesT 1).trans (show _ = some (Value.slice p.D p.ds.length p.cd) from rfl)))
  have q0 := bel_cell hb3 ((cells_new (w.alloc (.cells #[.slice p.A p.l.length p.ca, .slice p.D p.ds.length p.cd] placesT)) #[.string f.car, .int .i64 f.num, .int .i64 f.pf, .int .i64 f.pt, .int .i64 f.pd, .slice f.A f.lg.length f.c] fliT 0).trans (show _ = some (Value.string f.car) from rfl))
  have q1 := bel_cell hb3 ((cells_new (w.alloc (.cells #[.slice p.A p.l.length p.ca, .slice p.D p.ds.length p.cd] placesT)) #[.string f.car, .int .i64 f.num, .int .i64 f.pf, .int .i64 f.pt, .int .i64 f.pd, .slice f.A f.lg.length f.c] fliT 1).trans (show _ = some (Value.int .i64 f.num) from rfl))
  have q2 := bel_cell hb3 ((cells_new (w.alloc (.cells #[.slice p.A p.l.length p.ca, .slice p.D p.ds.length p.cd] placesT)) #[.string f.car, .int .i64 f.num, .int .i64 f.pf, .int .i64 f.pt, .int .i64 f.pd, .slice f.A f.lg.length f.c] fliT 2).trans (show _ = some (Value.int .i64 f.pf) from rfl))
  have q3 := bel_cell hb3 ((cells_new (w.alloc (.cells #[.slice p.A p.l.length p.ca, .slice p.D p.ds.length p.cd] placesT)) #[.string f.car, .int .i64 f.num, .int .i64 f.pf, .int .i64 f.pt, .int .i64 f.pd, .slice f.A f.lg.length f.c] fliT 3).trans (show _ = some (Value.int .i64 f.pt) from rfl))
  have q4 := bel_cell hb3 ((cells_new (w.alloc (.cells #[.slice p.A p.l.length p.ca, .slice p.D p.ds.length p.cd] placesT)) #[.string f.car, .int .i64 f.num, .int .i64 f.pf, .int .i64 f.pt, .int .i64 f.pd, .slice f.A f.lg.length f.c] fliT 4).trans (show _ = some (Value.int .i64 f.pd) from rfl))
  have q5 := bel_cell hb3 ((cells_new (w.alloc (.cells #[.slice p.A p.l.length p.ca, .slice p.D p.ds.length p.cd] placesT)) #[.string f.car, .int .i64 f.num, .int .i64 f.pf, .int .i64 f.pt, .int .i64 f.pd, .slice f.A f.lg.length f.c] fliT 5).trans (show _ = some (Value.slice f.A f.lg.length f.c) from rfl))
  have s0 := (cells_new ((w.alloc (.cells #[.slice p.A p.l.length p.ca, .slice p.D p.ds.length p.cd] placesT)).alloc (.cells #[.string f.car, .int .i64 f.num, .int .i64 f.pf, .int .i64 f.pt, .int .i64 f.pd, .slice f.A f.lg.length f.c] fliT)) #[.string s.car, .int .i64 s.num, .int .i64 s.day, .string s.f, .string s.t, .int .i64 s.dep, .int .i64 s.arr] segT 0).trans (show _ = some (Value.string s.car) from rfl)
  have s1 := (cells_new ((w.alloc (.cells #[.slice p.A p.l.length p.ca, .slice p.D p.ds.length p.cd] placesT)).alloc (.cells #[.string f.car, .int .i64 f.num, .int .i64 f.pf, .int .i64 f.pt, .int .i64 f.pd, .slice f.A f.lg.length f.c] fliT)) #[.string s.car, .int .i64 s.num, .int .i64 s.day, .string s.f, .string s.t, .int .i64 s.dep, .int .i64 s.arr] segT 1).trans (show _ = some (Value.int .i64 s.num) from rfl)
  have s2 := (cells_new ((w.alloc (.cells #[.slice p.A p.l.length p.ca, .slice p.D p.ds.length p.cd] placesT)).alloc (.cells #[.string f.car, .int .i64 f.num, .int .i64 f.pf, .int .i64 f.pt, .int .i64 f.pd, .slice f.A f.lg.length f.c] fliT)) #[.string s.car, .int .i64 s.num, .int .i64 s.day, .string s.f, .string s.t, .int .i64 s.dep, .int .i64 s.arr] segT 2).trans (show _ = some (Value.int .i64 s.day) from rfl)
  have s3 := (cells_new ((w.alloc (.cells #[.slice p.A p.l.length p.ca, .slice p.D p.ds.length p.cd] placesT)).alloc (.cells #[.string f.car, .int .i64 f.num, .int .i64 f.pf, .int .i64 f.pt, .int .i64 f.pd, .slice f.A f.lg.length f.c] fliT)) #[.string s.car, .int .i64 s.num, .int .i64 s.day, .string s.f, .string s.t, .int .i64 s.dep, .int .i64 s.arr] segT 3).trans (show _ = some (Value.string s.f) from rfl)
  have s4 := (cells_new ((w.alloc (.cells #[.slice p.A p.l.length p.ca, .slice p.D p.ds.length p.cd] placesT)).alloc (.cells #[.string f.car, .int .i64 f.num, .int .i64 f.pf, .int .i64 f.pt, .int .i64 f.pd, .slice f.A f.lg.length f.c] fliT)) #[.string s.car, .int .i64 s.num, .int .i64 s.day, .string s.f, .string s.t, .int .i64 s.dep, .int .i64 s.arr] segT 4).trans (show _ = some (Value.string s.t) from rfl)
  have s5 := (cells_new ((w.alloc (.cells #[.slice p.A p.l.length p.ca, .slice p.D p.ds.length p.cd] placesT)).alloc (.cells #[.string f.car, .int .i64 f.num, .int .i64 f.pf, .int .i64 f.pt, .int .i64 f.pd, .slice f.A f.lg.length f.c] fliT)) #[.string s.car, .int .i64 s.num, .int .i64 s.day, .string s.f, .string s.t, .int .i64 s.dep, .int .i64 s.arr] segT 5).trans (show _ = some (Value.int .i64 s.dep) from rfl)
  have s6 := (cells_new ((w.alloc (.cells #[.slice p.A p.l.length p.ca, .slice p.D p.ds.length p.cd] placesT)).alloc (.cells #[.string f.car, .int .i64 f.num, .int .i64 f.pf, .int .i64 f.pt, .int .i64 f.pd, .slice f.A f.lg.length f.c] fliT)) #[.string s.car, .int .i64 s.num, .int .i64 s.day, .string s.f, .string s.t, .int .i64 s.dep, .int .i64 s.arr] segT 6).trans (show _ = some (Value.int .i64 s.arr) from rfl)
  rw [World.size_alloc] at q0 q1 q2 q3 q4 q5
  rw [World.size_alloc, World.size_alloc] at s0 s1 s2 s3 s4 s5 s6
  have KL := Lib.hid (fun W hA hB => legs_any p f s.day W hl hA hs hz hB hn hm hd1 hd2)
  have HL := Lib.hid (hL.more hb0)
  have HG := Lib.hid (hG.more hb0)
  have HP7 : Hid ((s.car.toList == f.car.toList) = false ∨ s.num ≠ f.num → PathR p.l f s 7 []) := Lib.hid (fun h => .inl ⟨h, rfl, rfl⟩)
  have HPE : Hid ((s.car.toList == f.car.toList) = true → s.num = f.num → legE f s.day ≠ 0 → PathR p.l f s (legE f s.day) []) := Lib.hid (fun h1 h2 h3 => .inr (.inl ⟨h1, h2, h3, rfl, rfl⟩))
  have HPC : Hid ((s.car.toList == f.car.toList) = true → s.num = f.num → legE f s.day = 0 → ∀ R er I, CovR (legF p.l f s.day) s.f s.t R → ((R = [] ∧ er = 14 ∧ I = []) ∨ (∃ a z : Dt, R[0]? = some a ∧ R[R.length - 1]? = some z ∧ (((s.dep ≠ a.dep ∨ s.arr ≠ z.arr) ∧ er = 13 ∧ I = []) ∨ (s.dep = a.dep ∧ s.arr = z.arr ∧ er = 0 ∧ I = R.map idOf)))) → PathR p.l f s er I) := Lib.hid (fun h1 h2 h3 R er I hc h => .inr (.inr ⟨h1, h2, h3, R, hc, h⟩))
  have HLn : Hid ((legF p.l f s.day).length ≤ 100) := Lib.hid (by unfold legF; split <;> simp <;> omega)
  have HL1 : Hid (legE f s.day = 0 → (legF p.l f s.day) ≠ []) := Lib.hid (by
    unfold legE legF
    split
    · intro _ h
      have := congrArg List.length h
      simp at this
      rw [this] at hn1
      simp at hn1
    · intro h; simp at h)
  generalize hLF : legF p.l f s.day = L at *
  generalize legE f s.day = e0 at *
  generalize PathR p.l f s = PR at *
  clear hL hs hz hG hm hd1 hd2 hLF hn1
  go_enter Tryz.func53, Tryz.ntmps53
  go_upto_region 1 with (fail)
  generalize hw5 : ((w.alloc (.cells #[.slice p.A p.l.length p.ca, .slice p.D p.ds.length p.cd] placesT)).alloc (.cells #[.string f.car, .int .i64 f.num, .int .i64 f.pf, .int .i64 f.pt, .int .i64 f.pd, .slice f.A f.lg.length f.c] fliT)).alloc (.cells #[.string s.car, .int .i64 s.num, .int .i64 s.day, .string s.f, .string s.t, .int .i64 s.dep, .int .i64 s.arr] segT) = w5 at *
  clear hw5 hb1 hb2 hb3
  have f0 := bel_get q0
  have f1 := bel_get q1
  have f2 := bel_get q2
  have f3 := bel_get q3
  have f4 := bel_get q4
  have f5 := bel_get q5
  have u0 := bel_get s0
  have u1 := bel_get s1
  have u2 := bel_get s2
  have u3 := bel_get s3
  have u4 := bel_get s4
  have u5 := bel_get s5
  have u6 := bel_get s6
  have y0 := bel_get p0
  have y1 := bel_get p1
  clear p0 p1 q0 q1 q2 q3 q4 q5 s0 s1 s2 s3 s4 s5 s6
  have hS : SW w5 w5 := Below.refl _ _
  have r0 := f0 _ hS
  have r1 := f1 _ hS
  have m0 := u0 _ hS
  have m1 := u1 _ hS
  have m2 := u2 _ hS
  cases hc1 : (s.car.toList == f.car.toList) with
  | false =>
    have HR := Lib.hid (HP7.out (Or.inl hc1))
    go_wp2
    exact bodyPost_ret (results_tmp2 rfl _ _ _) rfl (PathPost.mk _ 7 [] rfl ⟨none, 0, rfl, .inl rfl⟩ HR (hb0))
  | true =>
  cases hc2 : (s.num != f.num) with
  | true =>
    have HR := Lib.hid (HP7.out (Or.inr (by simpa using hc2)))
    go_wp2
    exact bodyPost_ret (results_tmp2 rfl _ _ _) rfl (PathPost.mk _ 7 [] rfl ⟨none, 0, rfl, .inl rfl⟩ HR (hb0))
  | false =>
  have hnum : s.num = f.num := by simpa using hc2
  have HPE2 := Lib.hid (HPE.out hc1 hnum)
  have HPC2 := Lib.hid (HPC.out hc1 hnum)
  have HNUM := Lib.hid hnum
  clear hnum HPE HPC HP7
  have k0 := f0 _ hS
  have k1 := f1 _ hS
  have k2 := f2 _ hS
  have k3 := f3 _ hS
  have k4 := f4 _ hS
  have k5 := f5 _ hS
  have z0 := y0 _ hS
  have z1 := y1 _ hS
  have KL2 := Lib.hid (KL.out w5 HL.out HG.out)
  by_cases he : e0 = 0
  case neg =>
    have heb : (e0 != 0) = true := by simpa using he
    have HR := Lib.hid (HPE2.out he)
    clear he
    go_wp2_with (go_at_call 74; refine KL2.out.mono ?_; rintro e w1 ⟨v1, rfl, hO1, hbl⟩)
    exact bodyPost_ret (results_tmp2 rfl _ _ _) rfl (PathPost.mk _ e0 [] rfl ⟨none, 0, rfl, .inl rfl⟩ HR (hb0.trans (Below.mono hbl hb0.size)))
  case pos =>
  subst he
  have HPC3 := Lib.hid (HPC2.out rfl)
  have HNE := Lib.hid (HL1.out rfl)
  clear HPE2 HPC2 HL1
  go_upto_region 6 with (go_at_call 74; refine KL2.out.mono ?_; rintro e w1 ⟨v1, rfl, hO1, hbl⟩; obtain ⟨b, c, rfl, hB, hblt⟩ := ROwn.formD hO1 HNE.out)
  have hS : SW w5 w1 := hbl
  have hcap := hO1.cap
  have hv1 := hO1.rowL rtD.len
  have KC := Lib.hid (covered_any b 0 c L s.f s.t w1 (by have := HLn.out; omega) hcap hv1 hblt)
  have t3 := u3 _ hS
  have t4 := u4 _ hS
  clear hO1 hbl hv1 hcap hB hblt z0 z1 k0 k1 k2 k3 k4 k5 m0 m1 m2 r0 r1
  go_upto_region 7 with (go_at_call 82; refine KC.out.mono ?_; rintro e w2 ⟨v2, R, rfl, hR, hcov, hb2⟩; obtain ⟨A2, c2, rfl, hvc⟩ := id hR)
  have hS : SW w5 w2 := Below.trans hS (Below.mono hb2 hS.size)
  have hSw : Below w.heap.size w w2 := hb0.trans (Below.mono hS hb0.size)
  have HV := Lib.hid hR
  have HC := Lib.hid (HPC3.out R)
  clear hvc hR hb2 t3 t4
  by_cases hR0 : R = []
  · subst hR0
    have HR := Lib.hid (HC.out 14 [] hcov.out (Or.inl ⟨rfl, rfl, rfl⟩))
    go_wp2
    exact bodyPost_ret (results_tmp2 rfl _ _ _) rfl (PathPost.mk _ 14 [] rfl ⟨none, 0, rfl, .inl rfl⟩ HR (hSw))
  · have hRl : 0 < R.length := List.length_pos_iff.2 hR0
    obtain ⟨a, ha⟩ : ∃ a, R[0]? = some a := ⟨_, List.getElem?_eq_getElem hRl⟩
    obtain ⟨z, hz⟩ : ∃ z, R[R.length - 1]? = some z := ⟨_, List.getElem?_eq_getElem (by omega)⟩
    obtain ⟨g, o, e1, hgl, hca⟩ := RowL.at8 HV.out ha
    cases e1
    obtain ⟨g', o', e1, hgl', hcz⟩ := RowL.at8 HV.out hz
    cases e1
    have i0 : ¬ ((R.length : Int) = 0) := by omega
    have i1 : ((R.length : Int) == 0) = false := by rw [beq_eq_false_iff_ne]; omega
    have i2 : (0 : Int) < (R.length : Int) := by omega
    have i3 : ((R.length : Int) - 1) = ((R.length - 1 : Nat) : Int) := by omega
    have i4 : ((R.length - 1 : Nat) : Int) < (R.length : Int) := by omega
    have hR100 : R.length ≤ 100 := by have := CovR.len hcov.out; have := HLn.out; omega
    have a5 := hca 5 _ rfl
    rw [Nat.zero_mul, Nat.add_zero] at a5
    have a5 := SW.cell a5
    have z6 := SW.cell (hcz 6 _ rfl)
    have t5 := SW.cell (u5 _ hS)
    have t6 := SW.cell (u6 _ hS)
    have HC2 : Hid (∀ er I, (((s.dep ≠ a.dep ∨ s.arr ≠ z.arr) ∧ er = 13 ∧ I = []) ∨ (s.dep = a.dep ∧ s.arr = z.arr ∧ er = 0 ∧ I = R.map idOf)) → PR er I) := Lib.hid (fun er I h => HC.out er I hcov.out (Or.inr ⟨a, z, ha, hz, h⟩))
    clear hca hcz ha hz hR0 HC hcov hRl
    generalize R.length - 1 = last at *
    go_upto_region 9 with fail
    cases hq1 : (s.dep != a.dep) with
    | true =>
      have HR := Lib.hid (HC2.out 13 [] (Or.inl ⟨Or.inl (by simpa using hq1), rfl, rfl⟩))
      have hNe : Nonempty (Wd (SW w2)) := ⟨⟨_, SW.drew _⟩⟩
      refine quietS (S := SW w2) (by kernel_rfl) (by kernel_rfl) (SW.drew _) ?_
      repeat (first | go_big_quiet_skip | (go_big_quiet_want; go_big_quiet_op; first | go_big_quiet_on | go_big_quiet_call ((fail))))
      refine wpQuiet_nil ?_
      rintro W ⟨⟨_, hW⟩, rfl⟩
      go_wp2
      exact bodyPost_ret (results_tmp2 rfl _ _ _) rfl (PathPost.mk _ 13 [] rfl ⟨none, 0, rfl, .inl rfl⟩ HR (hSw.trans (Below.mono hW hSw.size)))
    | false =>
    cases hq2 : (s.arr != z.arr) with
    | true =>
      have HR := Lib.hid (HC2.out 13 [] (Or.inl ⟨Or.inr (by simpa using hq2), rfl, rfl⟩))
      have hNe : Nonempty (Wd (SW w2)) := ⟨⟨_, SW.drew _⟩⟩
      refine quietS (S := SW w2) (by kernel_rfl) (by kernel_rfl) (SW.drew _) ?_
      repeat (first | go_big_quiet_skip | (go_big_quiet_want; go_big_quiet_op; first | go_big_quiet_on | go_big_quiet_call ((fail))))
      refine wpQuiet_nil ?_
      rintro W ⟨⟨_, hW⟩, rfl⟩
      go_wp2
      exact bodyPost_ret (results_tmp2 rfl _ _ _) rfl (PathPost.mk _ 13 [] rfl ⟨none, 0, rfl, .inl rfl⟩ HR (hSw.trans (Below.mono hW hSw.size)))
    | false =>
    have HR := Lib.hid (HC2.out 0 (R.map idOf) (Or.inr ⟨by simpa using hq1, by simpa using hq2, rfl, rfl⟩))
    clear HC2
    have hNe : Nonempty (Wd (SW w2)) := ⟨⟨_, SW.drew _⟩⟩
    refine quietS (S := SW w2) (by kernel_rfl) (by kernel_rfl) (SW.drew _) ?_
    repeat (first | go_big_quiet_skip | (go_big_quiet_want; go_big_quiet_op; first | go_big_quiet_on | go_big_quiet_call ((fail))))
    refine wpQuiet_nil ?_
    rintro W ⟨⟨_, hW⟩, rfl⟩
    have hSW2 : Below w.heap.size w W := hSw.trans (Below.mono hW hSw.size)
    have HVW := Lib.hid (HV.out.more hW)
    clear hq1 hq2 t5 t6 a5 z6 HV hSw hS i3 i4
    go_wp2
    go_loopg [10, 66] R.length (fun kx v10 vi wr => ∃ (v : Value) (k : Nat), v = v10 ∧ vi = .int .i64 k ∧ k + kx = R.length ∧ Hid (ROwn iddT 4 encI W.heap.size wr v ((R.take k).map idOf) ∧ SW W wr))
    case atStart => exact ⟨_, 0, rfl, rfl, by omega, Lib.hid ⟨ROwn.nil (Nat.le_refl _), Below.refl _ _⟩⟩
    case round =>
      obtain ⟨v, k, rfl, rfl, hkx, HH⟩ := hrel
      have HKX := Lib.hid hkx
      have hSr : SW W wr := HH.out.2
      by_cases hlt : k < R.length
      · clear hkx
        obtain ⟨y, hy⟩ : ∃ y, R[k]? = some y := ⟨_, List.getElem?_eq_getElem hlt⟩
        obtain ⟨g2, o2, e1, _, hc⟩ := RowL.at8 (HVW.out.more hSr) hy
        cases e1
        have j2 : (k : Int) < (R.length : Int) := by omega
        have d0 := hc 0 _ rfl
        have d1 := hc 1 _ rfl
        have d2 := hc 2 _ rfl
        have d3 := hc 3 _ rfl
        have d4 := hc 4 _ rfl
        have d5 := hc 5 _ rfl
        have d6 := hc 6 _ rfl
        have d7 := hc 7 _ rfl
        rw [Nat.add_zero] at d0
        have hO := HH.out.1.alloc (.cells #[.string y.car, .int .i64 y.num, .int .i64 y.day, .string y.f, .string y.t, .int .i64 y.dep, .int .i64 y.arr, .string y.eq] datT)
        have hby := bel_alloc wr (.cells #[.string y.car, .int .i64 y.num, .int .i64 y.day, .string y.f, .string y.t, .int .i64 y.dep, .int .i64 y.arr, .string y.eq] datT)
        have hSy : SW W (wr.alloc (.cells #[.string y.car, .int .i64 y.num, .int .i64 y.day, .string y.f, .string y.t, .int .i64 y.dep, .int .i64 y.arr, .string y.eq] datT)) := Below.trans hSr (hby.mono hSr.size)
        have HTk : Hid ((R.take (k + 1)).map idOf = (R.take k).map idOf ++ [(⟨y.car, y.num, y.day, y.f⟩ : Idd)]) := Lib.hid (by rw [List.take_add_one, hy, List.map_append]; rfl)
        have HLn2 : Hid (((R.take k).map idOf).length ≤ 100000000) := Lib.hid (by have := List.length_take_le k R; rw [List.length_map]; omega)
        clear hc hy HH hSr
        go_wp2_with (at_builtin; refine wpList_rapp rtI rfl _ _ rfl hO rfl (bel_alloc _ _) _ (⟨y.car, y.num, y.day, y.f⟩ : Idd) _ rfl (cs := #[.string y.car, .int .i64 y.num, .int .i64 y.day, .string y.f]) rfl (heap_alloc_two _ _ _) HLn2.out ?_; intro v9 w9 hO9 hC9)
        have HY : Hid (ROwn iddT 4 encI W.heap.size w9 v9 ((R.take (k + 1)).map idOf) ∧ SW W w9) := Lib.hid ⟨by rw [HTk.out]; exact hO9, Below.trans hSy (hC9.below hO)⟩
        clear hO9 hC9 hO hSy
        go_roundg (R.length - (k + 1))
        case measure => have := HKX.out; omega
        case rel => exact ⟨_, k + 1, rfl, by go_num, by omega, HY⟩
      · have hk : k = R.length := by omega
        have HZ : Hid (RowL 4 encI wr v (R.map idOf) ∧ Below w.heap.size w wr) := Lib.hid ⟨by
          have h := HH.out.1.rowL rtI.len
          rw [hk, List.take_length] at h
          exact h, hSW2.trans (Below.mono hSr hSW2.size)⟩
        have j2 : ¬ (k : Int) < (R.length : Int) := by omega
        clear HH hkx hk
        go_wp2
        exact bodyPost_ret (results_tmp2 rfl _ _ _) rfl (PathPost.mk v 0 _ rfl HZ.out.1 HR (HZ.out.2))

end Go.Proofs.YtdpcjafkahhecaaGreatDoor

/- Plain facts on the segments of a flight without violations, and on the legs that they cover. -/
namespace Go.Proofs.YtdpcjafkahhecaaGreatDoor
open Go.RowKit Go.Shelf
set_option linter.unusedSimpArgs false
set_option linter.unusedVariables false

theorem lgs_off {l : List Air} {lg : List Lg} (h : lgsF l lg lg.length = []) {j k : Nat} {x y : Lg} (hk : lg[k]? = some y) (hj : lg[j]? = some x) (hjk : j ≤ k) : (x.f.toList == y.t.toList) = false := by
  have h1 := lgs_next h hk
  unfold nextB at h1
  rw [Bool.and_eq_true, Bool.and_eq_true] at h1
  obtain ⟨_, h2, h3⟩ := h1
  by_cases e : j = k
  · subst e
    rw [hk] at hj
    cases hj
    rw [beq_eq_false_iff_ne]
    intro e2
    rw [e2] at h2
    simp at h2
  · have hm : x ∈ lg.take k := by
      have : (lg.take k)[j]? = some x := by rw [List.getElem?_take, if_pos (by omega)]; exact hj
      exact List.mem_of_getElem? this
    cases hq : (x.f.toList == y.t.toList)
    · rfl
    · have : (lg.take k).any (fun b => b.f.toList == y.t.toList) = true := List.any_eq_true.2 ⟨x, hm, hq⟩
      rw [this] at h3
      simp at h3
theorem beq_lists {a b : List UInt8} (h : (a == b) = true) : a = b := by simpa using h
theorem lgs_fne {l : List Air} {lg : List Lg} (h : lgsF l lg lg.length = []) {j k : Nat} {x y : Lg} (hj : lg[j]? = some x) (hk : lg[k]? = some y) (hjk : j < k) : x.f.toList ≠ y.f.toList := by
  have hlt := (List.getElem?_eq_some_iff.1 hk).1
  obtain ⟨z, hz⟩ : ∃ z, lg[k - 1]? = some z := ⟨_, List.getElem?_eq_getElem (by omega)⟩
  have h1 := lgs_meet h hk (by omega) hz
  have h2 := lgs_off h hz hj (by omega)
  rw [beq_eq_false_iff_ne] at h2
  rw [beq_lists h1]
  exact h2
theorem lgs_tne {l : List Air} {lg : List Lg} (h : lgsF l lg lg.length = []) {j k : Nat} {x y : Lg} (hj : lg[j]? = some x) (hk : lg[k]? = some y) (hjk : j < k) : x.t.toList ≠ y.t.toList := by
  have hlt := (List.getElem?_eq_some_iff.1 hk).1
  obtain ⟨z, hz⟩ : ∃ z, lg[j + 1]? = some z := ⟨_, List.getElem?_eq_getElem (by omega)⟩
  have h1 := lgs_meet h hz (by omega) (y := x) (by simpa using hj)
  have h2 := lgs_off h hk hz (by omega)
  rw [beq_eq_false_iff_ne] at h2
  rw [← beq_lists h1]
  exact h2
theorem idx_uniq {lg : List Lg} (g : Lg → List UInt8) (h : ∀ (j k : Nat) (x y : Lg), lg[j]? = some x → lg[k]? = some y → j < k → g x ≠ g y) {j k : Nat} {x y : Lg} (hj : lg[j]? = some x) (hk : lg[k]? = some y) (e : g x = g y) : j = k := by
  rcases Nat.lt_trichotomy j k with h1 | h1 | h1
  · exact absurd e (h j k x y hj hk h1)
  · exact h1
  · exact absurd e.symm (h k j y x hk hj h1)
theorem map_at {l : List Air} {f : FV} {day : Int} {k : Nat} {d : Dt} (h : (f.lg.map (datL l f day))[k]? = some d) : ∃ x, f.lg[k]? = some x ∧ d = datL l f day x := by
  rw [List.getElem?_map] at h
  cases hx : f.lg[k]? with
  | none => rw [hx] at h; cases h
  | some x => rw [hx] at h; cases h; exact ⟨x, rfl, rfl⟩
/-- the legs from leg i to leg k are what is covered -/
theorem cov_is {l : List Air} {f : FV} {day : Int} (hn : lgsF l f.lg f.lg.length = []) {i k : Nat} {x y : Lg} {R : List Dt} (hi : f.lg[i]? = some x) (hk : f.lg[k]? = some y) (hik : i ≤ k)
    (hc : CovR (f.lg.map (datL l f day)) x.f y.t R) : R = ((f.lg.map (datL l f day)).drop i).take (k - i + 1) := by
  have UF : ∀ {j : Nat} {z : Lg}, f.lg[j]? = some z → z.f.toList = x.f.toList → j = i := fun hj e => idx_uniq (fun z => z.f.toList) (fun j k x y h1 h2 h3 => lgs_fne hn h1 h2 h3) hj hi e
  have UT : ∀ {j : Nat} {z : Lg}, f.lg[j]? = some z → z.t.toList = y.t.toList → j = k := fun hj e => idx_uniq (fun z => z.t.toList) (fun j k x y h1 h2 h3 => lgs_tne hn h1 h2 h3) hj hk e
  have hmi : (f.lg.map (datL l f day))[i]? = some (datL l f day x) := by rw [List.getElem?_map, hi]; rfl
  have hmk : ((f.lg.map (datL l f day)).drop i)[k - i]? = some (datL l f day y) := by rw [List.getElem?_drop, show i + (k - i) = k by omega, List.getElem?_map, hk]; rfl
  rcases hc with ⟨_, h | ⟨i', a, ha, hpa, _, hno⟩⟩ | ⟨i', k', a, b, ha, hpa, _, hb, hpb, _, hR⟩
  · have := h _ (List.mem_of_getElem? hmi)
    rw [beq_eq_false_iff_ne] at this
    exact absurd rfl this
  · obtain ⟨z, hz, rfl⟩ := map_at ha
    obtain rfl := UF hz (beq_lists hpa)
    have := hno _ (List.mem_of_getElem? hmk)
    rw [beq_eq_false_iff_ne] at this
    exact absurd rfl this
  · obtain ⟨z, hz, rfl⟩ := map_at ha
    obtain rfl := UF hz (beq_lists hpa)
    rw [List.getElem?_drop] at hb
    obtain ⟨z', hz', rfl⟩ := map_at hb
    have e := UT hz' (beq_lists hpb)
    rw [hR, show k' = k - i' by omega]
end Go.Proofs.YtdpcjafkahhecaaGreatDoor

/- Rows of legs by name, rows of legs: their elements. -/
namespace Go.Proofs.YtdpcjafkahhecaaGreatDoor
open Go.RowKit Go.Shelf
set_option linter.unusedSimpArgs false
set_option linter.unusedVariables false

theorem RowL.at4 {w : World} {A : Option Addr} {n c : Nat} {L : List Idd} (h : RowL 4 encI w (.slice A n c) L) {k : Nat} {y : Idd} (hk : L[k]? = some y) : ∃ b o, A = some ⟨b, o, none⟩ ∧ b < w.heap.size ∧ ∀ j u, (encI y)[j]? = some u → w.cell? ⟨b, o + k * 4 + j, none⟩ = some u := by
  obtain ⟨hlt, rfl⟩ := List.getElem?_eq_some_iff.1 hk
  obtain ⟨b, o, h1, h2, h3⟩ := h.at rfl hlt
  exact ⟨b, o, h1, h2, h3⟩
end Go.Proofs.YtdpcjafkahhecaaGreatDoor

/- Walks of the reference's Ids, SameIds and Path. -/
namespace Go.Proofs.YtdpcjafkahhecaaGreatDoor
open Go.RowKit Go.Shelf
set_option linter.unusedSimpArgs false
set_option linter.unusedVariables false

set_option maxRecDepth 100000 in
set_option maxHeartbeats 8000000 in
theorem rids_any (v0 : Value) (R : List Dt) (w : World) (hv : RowL 8 encDt w v0 R) (hn : R.length ≤ 1000) :
    Calls Tryz.prog 83 #[v0] w fun e w' => ∃ v, e = .returned v ∧ RowL 4 encI w' v (R.map idOf) ∧ Below w.heap.size w w' := by
  obtain ⟨A, c, rfl, hvc⟩ := id hv
  clear hvc
  have HV := Lib.hid hv
  clear hv
  have HN : Hid (ROwn iddT 4 encI w.heap.size w (.slice none 0 0) []) := Lib.hid (ROwn.nil (Nat.le_refl _))
  go_enter Tryz.func83, Tryz.ntmps83
  go_wp2
  go_loopg [3, 4] R.length (fun kx v3 vi wr => ∃ (v : Value) (k : Nat), v = v3 ∧ vi = .int .i64 k ∧ k + kx = R.length ∧ Hid (ROwn iddT 4 encI w.heap.size wr v ((R.take k).map idOf) ∧ SW w wr))
  case atStart => exact ⟨_, 0, rfl, rfl, by omega, Lib.hid ⟨HN.out, Below.refl _ _⟩⟩
  case round =>
    obtain ⟨v, k, rfl, rfl, hkx, HH⟩ := hrel
    clear HN
    have HKX := Lib.hid hkx
    have hSr : SW w wr := HH.out.2
    by_cases hlt : k < R.length
    · clear hkx
      obtain ⟨y, hy⟩ : ∃ y, R[k]? = some y := ⟨_, List.getElem?_eq_getElem hlt⟩
      obtain ⟨g2, o2, e1, hgl, hc⟩ := RowL.at8 (HV.out.more hSr) hy
      cases e1
      have j2 : (k : Int) < (R.length : Int) := by omega
      have hO := HH.out.1
      have HTk : Hid ((R.take (k + 1)).map idOf = (R.take k).map idOf ++ [(⟨y.car, y.num, y.day, y.f⟩ : Idd)]) := Lib.hid (by rw [List.take_add_one, hy, List.map_append]; rfl)
      have HLn2 : Hid (((R.take k).map idOf).length ≤ 100000000) := Lib.hid (by have := List.length_take_le k R; rw [List.length_map]; omega)
      have HG2 : Hid (g2 < w.heap.size) := Lib.hid (by
        obtain ⟨g3, o3, e3, hg3, _⟩ := RowL.at8 HV.out hy
        cases e3
        exact hg3)
      have hvg : v.ownBlock ≠ some g2 := fun h => by have h1 := (hO.low h).1; have h2 := HG2.out; omega
      have HV1 : Hid (∀ g, v.ownBlock = some g → w.heap.size ≤ g) := Lib.hid (fun g hg => (hO.low hg).1)
      have HSW : Hid (∀ W, SX wr v W → SW w W) := Lib.hid (fun W h => Below.trans hSr (h.below hSr.size (fun k' hk' hv => by have := HV1.out _ hv; omega)))
      have d0 := hc 0 _ rfl
      rw [Nat.add_zero] at d0
      have n0 : ∀ W, SX wr v W → W.cell? ⟨g2, o2 + k * 8, none⟩ = some (.string y.car) := fun W h => SX.cell d0 hvg h
      have n1 : ∀ W, SX wr v W → W.cell? ⟨g2, o2 + k * 8 + 1, none⟩ = some (.int .i64 y.num) := fun W h => SX.cell (hc 1 _ rfl) hvg h
      have n2 : ∀ W, SX wr v W → W.cell? ⟨g2, o2 + k * 8 + 2, none⟩ = some (.int .i64 y.day) := fun W h => SX.cell (hc 2 _ rfl) hvg h
      have n3 : ∀ W, SX wr v W → W.cell? ⟨g2, o2 + k * 8 + 3, none⟩ = some (.string y.f) := fun W h => SX.cell (hc 3 _ rfl) hvg h
      have hO := hO.more (Below.refl _ wr).drew
      clear hy HH hgl d0 hvg
      go_upto_region 5 with (fail)
      have hS : (SX wr v) _ := But.of_below (Below.refl _ _).drew
      refine wp_region_held_drew (S := SX wr v) (by kernel_rfl) hS (fun _ => ?_)
      refine wpAnyH_take (i := 0) (v := ?vL0) rfl (by kernel_rfl) (by kernel_rfl) (by kernel_rfl) (fun _ _ _ h => h) (Or.inl ⟨by rfl, ?hyL0⟩) hS ?restL0
      case hyL0 =>
        intro w hSw
        first | (go_simp; done) | (go_simp; with_reducible rfl)
      try simp only [Act.put, List.setIfInBounds_toArray, List.set_cons_zero, List.set_cons_succ]
      refine wpAnyH_take (i := 1) (v := ?vL1) rfl (by kernel_rfl) (by kernel_rfl) (by kernel_rfl) (fun _ _ _ h => h) (Or.inl ⟨by rfl, ?hyL1⟩) hS ?restL1
      case hyL1 =>
        intro w hSw
        first | (go_simp; done) | (go_simp; with_reducible rfl)
      try simp only [Act.put, List.setIfInBounds_toArray, List.set_cons_zero, List.set_cons_succ]
      refine wpAnyH_take (i := 2) (v := ?vL2) rfl (by kernel_rfl) (by kernel_rfl) (by kernel_rfl) (fun _ _ _ h => h) (Or.inl ⟨by rfl, ?hyL2⟩) hS ?restL2
      case hyL2 =>
        intro w hSw
        first | (go_simp; done) | (go_simp; with_reducible rfl)
      try simp only [Act.put, List.setIfInBounds_toArray, List.set_cons_zero, List.set_cons_succ]
      refine wpAnyH_take (i := 3) (v := ?vL3) rfl (by kernel_rfl) (by kernel_rfl) (by kernel_rfl) (fun _ _ _ h => h) (Or.inl ⟨by rfl, ?hyL3⟩) hS ?restL3
      case hyL3 =>
        intro w hSw
        first | (go_simp; done) | (go_simp; with_reducible rfl)
      try simp only [Act.put, List.setIfInBounds_toArray, List.set_cons_zero, List.set_cons_succ]
      refine wpAnyH_take (i := 4) (v := ?vL4) rfl (by kernel_rfl) (by kernel_rfl) (by kernel_rfl) (fun _ _ _ h => h) (Or.inl ⟨by rfl, ?hyL4⟩) hS ?restL4
      case hyL4 =>
        intro w hSw
        first | (go_simp; done) | (go_simp; with_reducible rfl)
      try simp only [Act.put, List.setIfInBounds_toArray, List.set_cons_zero, List.set_cons_succ]
      refine wpAnyH_take (i := 5) (v := ?vL5) rfl (by kernel_rfl) (by kernel_rfl) (by kernel_rfl) (fun _ _ _ h => h) (Or.inl ⟨by rfl, ?hyL5⟩) hS ?restL5
      case hyL5 =>
        intro w hSw
        have k0 := n0 w hSw
        first | (go_simp; done) | (go_simp; with_reducible rfl)
      try simp only [Act.put, List.setIfInBounds_toArray, List.set_cons_zero, List.set_cons_succ]
      refine wpAnyH_take (i := 6) (v := ?vL6) rfl (by kernel_rfl) (by kernel_rfl) (by kernel_rfl) (fun _ _ _ h => h) (Or.inl ⟨by rfl, ?hyL6⟩) hS ?restL6
      case hyL6 =>
        intro w hSw
        first | (go_simp; done) | (go_simp; with_reducible rfl)
      try simp only [Act.put, List.setIfInBounds_toArray, List.set_cons_zero, List.set_cons_succ]
      refine wpAnyH_take (i := 7) (v := ?vL7) rfl (by kernel_rfl) (by kernel_rfl) (by kernel_rfl) (fun _ _ _ h => h) (Or.inl ⟨by rfl, ?hyL7⟩) hS ?restL7
      case hyL7 =>
        intro w hSw
        first | (go_simp; done) | (go_simp; with_reducible rfl)
      try simp only [Act.put, List.setIfInBounds_toArray, List.set_cons_zero, List.set_cons_succ]
      refine wpAnyH_take (i := 8) (v := ?vL8) rfl (by kernel_rfl) (by kernel_rfl) (by kernel_rfl) (fun _ _ _ h => h) (Or.inl ⟨by rfl, ?hyL8⟩) hS ?restL8
      case hyL8 =>
        intro w hSw
        first | (go_simp; done) | (go_simp; with_reducible rfl)
      try simp only [Act.put, List.setIfInBounds_toArray, List.set_cons_zero, List.set_cons_succ]
      refine wpAnyH_take (i := 9) (v := ?vL9) rfl (by kernel_rfl) (by kernel_rfl) (by kernel_rfl) (fun _ _ _ h => h) (Or.inl ⟨by rfl, ?hyL9⟩) hS ?restL9
      case hyL9 =>
        intro w hSw
        first | (go_simp; done) | (go_simp; with_reducible rfl)
      try simp only [Act.put, List.setIfInBounds_toArray, List.set_cons_zero, List.set_cons_succ]
      refine wpAnyH_take (i := 10) (v := ?vL10) rfl (by kernel_rfl) (by kernel_rfl) (by kernel_rfl) (fun _ _ _ h => h) (Or.inl ⟨by rfl, ?hyL10⟩) hS ?restL10
      case hyL10 =>
        intro w hSw
        have k0 := n1 w hSw
        first | (go_simp; done) | (go_simp; with_reducible rfl)
      try simp only [Act.put, List.setIfInBounds_toArray, List.set_cons_zero, List.set_cons_succ]
      refine wpAnyH_take (i := 11) (v := ?vL11) rfl (by kernel_rfl) (by kernel_rfl) (by kernel_rfl) (fun _ _ _ h => h) (Or.inl ⟨by rfl, ?hyL11⟩) hS ?restL11
      case hyL11 =>
        intro w hSw
        first | (go_simp; done) | (go_simp; with_reducible rfl)
      try simp only [Act.put, List.setIfInBounds_toArray, List.set_cons_zero, List.set_cons_succ]
      refine wpAnyH_take (i := 12) (v := ?vL12) rfl (by kernel_rfl) (by kernel_rfl) (by kernel_rfl) (fun _ _ _ h => h) (Or.inl ⟨by rfl, ?hyL12⟩) hS ?restL12
      case hyL12 =>
        intro w hSw
        first | (go_simp; done) | (go_simp; with_reducible rfl)
      try simp only [Act.put, List.setIfInBounds_toArray, List.set_cons_zero, List.set_cons_succ]
      refine wpAnyH_take (i := 13) (v := ?vL13) rfl (by kernel_rfl) (by kernel_rfl) (by kernel_rfl) (fun _ _ _ h => h) (Or.inl ⟨by rfl, ?hyL13⟩) hS ?restL13
      case hyL13 =>
        intro w hSw
        first | (go_simp; done) | (go_simp; with_reducible rfl)
      try simp only [Act.put, List.setIfInBounds_toArray, List.set_cons_zero, List.set_cons_succ]
      refine wpAnyH_take (i := 14) (v := ?vL14) rfl (by kernel_rfl) (by kernel_rfl) (by kernel_rfl) (fun _ _ _ h => h) (Or.inl ⟨by rfl, ?hyL14⟩) hS ?restL14
      case hyL14 =>
        intro w hSw
        first | (go_simp; done) | (go_simp; with_reducible rfl)
      try simp only [Act.put, List.setIfInBounds_toArray, List.set_cons_zero, List.set_cons_succ]
      refine wpAnyH_take (i := 15) (v := ?vL15) rfl (by kernel_rfl) (by kernel_rfl) (by kernel_rfl) (fun _ _ _ h => h) (Or.inl ⟨by rfl, ?hyL15⟩) hS ?restL15
      case hyL15 =>
        intro w hSw
        have k0 := n2 w hSw
        first | (go_simp; done) | (go_simp; with_reducible rfl)
      try simp only [Act.put, List.setIfInBounds_toArray, List.set_cons_zero, List.set_cons_succ]
      refine wpAnyH_take (i := 16) (v := ?vL16) rfl (by kernel_rfl) (by kernel_rfl) (by kernel_rfl) (fun _ _ _ h => h) (Or.inl ⟨by rfl, ?hyL16⟩) hS ?restL16
      case hyL16 =>
        intro w hSw
        first | (go_simp; done) | (go_simp; with_reducible rfl)
      try simp only [Act.put, List.setIfInBounds_toArray, List.set_cons_zero, List.set_cons_succ]
      refine wpAnyH_take (i := 17) (v := ?vL17) rfl (by kernel_rfl) (by kernel_rfl) (by kernel_rfl) (fun _ _ _ h => h) (Or.inl ⟨by rfl, ?hyL17⟩) hS ?restL17
      case hyL17 =>
        intro w hSw
        first | (go_simp; done) | (go_simp; with_reducible rfl)
      try simp only [Act.put, List.setIfInBounds_toArray, List.set_cons_zero, List.set_cons_succ]
      refine wpAnyH_take (i := 18) (v := ?vL18) rfl (by kernel_rfl) (by kernel_rfl) (by kernel_rfl) (fun _ _ _ h => h) (Or.inl ⟨by rfl, ?hyL18⟩) hS ?restL18
      case hyL18 =>
        intro w hSw
        first | (go_simp; done) | (go_simp; with_reducible rfl)
      try simp only [Act.put, List.setIfInBounds_toArray, List.set_cons_zero, List.set_cons_succ]
      refine wpAnyH_take (i := 19) (v := ?vL19) rfl (by kernel_rfl) (by kernel_rfl) (by kernel_rfl) (fun _ _ _ h => h) (Or.inl ⟨by rfl, ?hyL19⟩) hS ?restL19
      case hyL19 =>
        intro w hSw
        first | (go_simp; done) | (go_simp; with_reducible rfl)
      try simp only [Act.put, List.setIfInBounds_toArray, List.set_cons_zero, List.set_cons_succ]
      refine wpAnyH_take (i := 20) (v := ?vL20) rfl (by kernel_rfl) (by kernel_rfl) (by kernel_rfl) (fun _ _ _ h => h) (Or.inl ⟨by rfl, ?hyL20⟩) hS ?restL20
      case hyL20 =>
        intro w hSw
        have k0 := n3 w hSw
        first | (go_simp; done) | (go_simp; with_reducible rfl)
      try simp only [Act.put, List.setIfInBounds_toArray, List.set_cons_zero, List.set_cons_succ]
      refine wpAnyH_take (i := 21) (v := ?vL21) rfl (by kernel_rfl) (by kernel_rfl) (by kernel_rfl) (fun _ _ _ h => h) (Or.inl ⟨by rfl, ?hyL21⟩) hS ?restL21
      case hyL21 =>
        intro w hSw
        first | (go_simp; done) | (go_simp; with_reducible rfl)
      try simp only [Act.put, List.setIfInBounds_toArray, List.set_cons_zero, List.set_cons_succ]
      refine wpAnyH_ready (rs := [22]) (by kernel_rfl) (by simp) ?_
      refine AllReadyH.cons rfl (fun K hK => ?_) AllReadyH.nil
      go_simp
      have hSp := hS
      have hS := hS.on (bel_alloc _ (.cells #[.string y.car, .int .i64 y.num, .int .i64 y.day, .string y.f] iddT))
      refine hK.out _ _ hS (fun _ => ?_)
      clear hK K
      refine wpAnyH_ready (rs := [23]) (by kernel_rfl) (by simp) ?_
      refine AllReadyH.cons rfl (fun K hK => ?_) AllReadyH.nil
      refine step_rapp rtI rfl _ _ rfl hO rfl (bel_alloc _ _) _ (⟨y.car, y.num, y.day, y.f⟩ : Idd) _ rfl (cs := #[.string y.car, .int .i64 y.num, .int .i64 y.day, .string y.f]) rfl (heap_alloc_new _ _) HLn2.out ?_
      intro v8 w8 hO8 hC8
      go_simp
      have hS := hSp.trans hC8.but (fun _ _ h => h)
      refine hK.out _ _ hS (fun _ => ?_)
      clear hK K
      refine wpAnyH_take (i := 24) (v := ?vL24) rfl (by kernel_rfl) (by kernel_rfl) (by kernel_rfl) (fun _ _ _ h => h) (Or.inl ⟨by rfl, ?hyL24⟩) hS ?restL24
      case hyL24 =>
        intro w hSw
        first | (go_simp; done) | (go_simp; with_reducible rfl)
      try simp only [Act.put, List.setIfInBounds_toArray, List.set_cons_zero, List.set_cons_succ]
      refine wpAnyH_done (by kernel_rfl) ?_ _
      simp only [List.getElem_toArray, List.getElem_cons_succ, List.getElem_cons_zero, List.set_cons_zero, List.set_cons_succ]
      have HY : Hid (ROwn iddT 4 encI w.heap.size w8 v8 ((R.take (k + 1)).map idOf) ∧ SW w w8) := Lib.hid ⟨by rw [HTk.out]; exact hO8, HSW.out _ hS⟩
      clear hO8 hC8 hS hSp hO
      go_wp2
      go_roundg (R.length - (k + 1))
      case measure => have := HKX.out; omega
      case rel => exact ⟨_, k + 1, rfl, by go_num, by omega, HY⟩
    · have hk : k = R.length := by omega
      have HZ : Hid (RowL 4 encI wr v (R.map idOf) ∧ Below w.heap.size w wr) := Lib.hid ⟨by
        have h := HH.out.1.rowL rtI.len
        rw [hk, List.take_length] at h
        exact h, hSr⟩
      have j2 : ¬ (k : Int) < (R.length : Int) := by omega
      clear HH hkx hk
      go_wp2
      go_ret
      exact ⟨v, rfl, HZ.out⟩

end Go.Proofs.YtdpcjafkahhecaaGreatDoor
