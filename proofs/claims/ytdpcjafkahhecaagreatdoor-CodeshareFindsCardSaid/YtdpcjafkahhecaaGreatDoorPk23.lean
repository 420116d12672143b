/- Words and walks that the laws below ask: PthE, PthF, ShrG. -/
import Derived.Test.YtdpcjafkahhecaaGreatDoorPk14
import Derived.Test.YtdpcjafkahhecaaGreatDoorPk19
import Derived.Test.YtdpcjafkahhecaaGreatDoorPk20
import Derived.Test.YtdpcjafkahhecaaGreatDoorPk21
import Derived.Test.YtdpcjafkahhecaaGreatDoorPk22
/- Walk of the reference's Path. -/
namespace Go.Proofs.YtdpcjafkahhecaaGreatDoor
open Go.RowKit Go.Shelf
set_option linter.unusedSimpArgs false
set_option linter.unusedVariables false

def Hits (L : List Dt) (fr tt : ByteArray) (i k : Nat) : Prop := ∃ a b : Dt, L[i]? = some a ∧ L[k]? = some b ∧ (a.f.toList == fr.toList) = true ∧ (b.t.toList == tt.toList) = true
/-- what the reference finds in the legs L -/
def RFind (L : List Dt) (s : Sg) (e : Int) (I : List Idd) : Prop :=
  (e = 14 ∧ I = [] ∧ ∀ i k : Nat, i ≤ k → ¬ Hits L s.f s.t i k)
  ∨ ∃ (i k : Nat) (a b : Dt), i ≤ k ∧ L[i]? = some a ∧ L[k]? = some b ∧ (a.f.toList == s.f.toList) = true ∧ (b.t.toList == s.t.toList) = true ∧
      (((s.dep ≠ a.dep ∨ s.arr ≠ b.arr) ∧ e = 13 ∧ I = []) ∨ (s.dep = a.dep ∧ s.arr = b.arr ∧ e = 0 ∧ I = ((L.drop i).take (k - i + 1)).map idOf))
def RPathR (l : List Air) (f : FV) (s : Sg) (e : Int) (I : List Idd) : Prop :=
  (((s.car.toList == f.car.toList) = false ∨ s.num ≠ f.num) ∧ e = 7 ∧ I = [])
  ∨ ((s.car.toList == f.car.toList) = true ∧ s.num = f.num ∧ legE f s.day ≠ 0 ∧ e = legE f s.day ∧ I = [])
  ∨ ((s.car.toList == f.car.toList) = true ∧ s.num = f.num ∧ legE f s.day = 0 ∧ RFind (legF l f s.day) s e I)
theorem nohit_f {L : List Dt} {fr tt : ByteArray} {i k : Nat} {a : Dt} (ha : L[i]? = some a) (h : (a.f.toList == fr.toList) = false) : ¬ Hits L fr tt i k := by
  rintro ⟨a', b, h1, _, h2, _⟩
  rw [ha] at h1
  cases h1
  rw [h] at h2
  cases h2
theorem nohit_t {L : List Dt} {fr tt : ByteArray} {i k : Nat} {b : Dt} (hb : L[k]? = some b) (h : (b.t.toList == tt.toList) = false) : ¬ Hits L fr tt i k := by
  rintro ⟨a, b', _, h1, _, h2⟩
  rw [hb] at h1
  cases h1
  rw [h] at h2
  cases h2
theorem nohit_end {L : List Dt} {fr tt : ByteArray} {i k : Nat} (h : L.length ≤ k) : ¬ Hits L fr tt i k := by
  rintro ⟨a, b, _, h1, _⟩
  have := (List.getElem?_eq_some_iff.1 h1).1
  omega

set_option maxRecDepth 100000 in
set_option maxHeartbeats 8000000 in
theorem rpath_any (p : PV) (f : FV) (s : Sg) (w : World) (hl : p.l.length ≤ 40) (hL : AirL w p.A p.l) (hz : ∀ a ∈ p.l, OkZ a.off a.shs) (hG : LegL w (.slice f.A f.lg.length f.c) f.lg) (hn : f.lg.length ≤ 100)
    (hm : ∀ x ∈ f.lg, (-1000000 ≤ x.dep ∧ x.dep ≤ 1000000) ∧ -1000000 ≤ x.arr ∧ x.arr ≤ 1000000) (hd1 : -9223372036854775808 ≤ s.day) (hd2 : s.day ≤ 9223372036854775807) :
    Calls Tryz.prog 54 #[encP p, encFl f, encS7 s] w fun e w' => PathPost (RPathR p.l f s) w w' e := by
  have hb1 := bel_alloc w (.cells #[.slice p.A p.l.length p.ca, .slice p.D p.ds.length p.cd] placesT)
  have hb2 := bel_alloc (w.alloc (.cells #[.slice p.A p.l.length p.ca, .slice p.D p.ds.length p.cd] placesT)) (.cells #[.string f.car, .int .i64 f.num, .int .i64 f.pf, .int .i64 f.pt, .int .i64 f.pd, .slice f.A f.lg.length f.c] fliT)
  have hb3 := bel_alloc ((w.alloc (.cells #[.slice p.A p.l.length p.ca, .slice p.D p.ds.length p.cd] placesT)).alloc (.cells #[.string f.car, .int .i64 f.num, .int .i64 f.pf, .int .i64 f.pt, .int .i64 f.pd, .slice f.A f.lg.length f.c] fliT)) (.cells #[.string s.car, .int .i64 s.num, .int .i64 s.day, .string s.f, .string s.t, .int .i64 s.dep, .int .i64 s.arr] segT)
  have hb0 : Below w.heap.size w (((w.alloc (.cells #[.slice p.A p.l.length p.ca, .slice p.D p.ds.length p.cd] placesT)).alloc (.cells #[.string f.car, .int .i64 f.num, .int .i64 f.pf, .int .i64 f.pt, .int .i64 f.pd, .slice f.A f.lg.length f.c] fliT)).alloc (.cells #[.string s.car, .int .i64 s.num, .int .i64 s.day, .string s.f, .string s.t, .int .i64 s.dep, .int .i64 s.arr] segT)) := hb1.trans ((hb2.mono hb1.size).trans (hb3.mono (Nat.le_trans hb1.size hb2.size)))
  have p0 := bel_cell hb3 (bel_cell hb2 ((cells_new w #[.slice p.A p.l.length p.ca, .slice p.D p.ds.length p.cd] placesT 0).trans (show _ = some (Value.slice p.A p.l.length p.ca) from rfl)))
  have p1 := bel_cell hb3 (bel_cell hb2 ((cells_new w #[.slice p.A p.l.length p.ca, .slice p.D p.ds.length p.cd] placesT 1).trans (show _ = some (Value.slice p.D p.ds.length p.cd) from rfl)))
  have q0 := bel_cell hb3 ((cells_new (w.alloc (.cells #[.slice p.A p.l.length p.ca, .slice p.D p.ds.length p.cd] placesT)) #[.string f.car, .int .i64 f.num, .int .i64 f.pf, .int .i64 f.pt, .int .i64 f.pd, .slice f.A f.lg.length f.c] fliT 0).trans (show _ = some (Value.string f.car) from rfl))
  have q1 := bel_cell hb3 ((cells_new (w.alloc (.cells #[.slice p.A p.l.length p.ca, .slice p.D p.ds.length p.cd] placesT)) #[.string f.car, .int .i64 f.num, .int .i64 f.pf, .int .i64 f.pt, .int .i64 f.pd, .slice f.A f.lg.length f.c] fliT 1).trans (show _ = some (Value.int .i64 f.num) from rfl))
  have q2 := bel_cell hb3 ((cells_new (w.alloc (.cells #[.slice p.A p.l.length p.ca, .slice p.D p.ds.length p.cd] placesT)) #[.string f.car, .int .i64 f.num, .int .i64 f.pf, .int .i64 f.pt, .int .i64 f.pd, .slice f.A f.lg.length f.c] fliT 2).trans (show _ = some (Value.int .i64 f.pf) from rfl))
  have q3 := bel_cell hb3 ((cells_new (w.alloc (.cells #[.slice p.A p.l.length p.ca, .slice p.D p.ds.length p.cd] placesT)) #[.string f.car, .int .i64 f.num, .int .i64 f.pf, .int .i64 f.pt, .int .i64 f.pd, .slice f.A f.lg.length f.c] fliT 3).trans (show _ = some (Value.int .i64 f.pt) from rfl))
  have q4 := bel_cell hb3 ((cells_new (w.alloc (.cells #[.slice p.A p.l.length p.ca, .slice p.D p.ds.length p.cd] placesT)) #[.string f.car, .int .i64 f.num, .int .i64 f.pf, .int .i64 f.pt, .int .i64 f.pd, .slice f.A f.lg.length f.c] fliT 4).trans (show _ = some (Value.int .i64 f.pd) from rfl))
  have q5 := bel_cell hb3 ((cells_new (w.alloc (.cells #[.slice p.A p.l.length p.ca, .slice p.D p.ds.length p.cd] placesT)) #[.string f.car, .int .i64 f.num, .int .i64 f.pf, .int .i64 f.pt, .int .i64 f.pd, .slice f.A f.lg.length f.c] fliT 5).trans (show _ = some (Value.slice f.A f.lg.length f.c) from rfl))
  have s0 := (cells_new ((w.alloc (.cells #[.slice p.A p.l.length p.ca, .slice p.D p.ds.length p.cd] placesT)).alloc (.cells #[.string f.car, .int .i64 f.num, .int .i64 f.pf, .int .i64 f.pt, .int .i64 f.pd, .slice f.A f.lg.length f.c] fliT)) #[.string s.car, .int .i64 s.num, .int .i64 s.day, .string s.f, .string s.t, .int .i64 s.dep, .int .i64 s.arr] segT 0).trans (show _ = some (Value.string s.car) from rfl)
  have s1 := (cells_new ((w.alloc (.cells #[.slice p.A p.l.length p.ca, .slice p.D p.ds.length p.cd] placesT)).alloc (.cells #[.string f.car, .int .i64 f.num, .int .i64 f.pf, .int .i64 f.pt, .int .i64 f.pd, .slice f.A f.lg.length f.c] fliT)) #[.string s.car, .int .i64 s.num, .int .i64 s.day, .string s.f, .string s.t, .int .i64 s.dep, .int .i64 s.arr] segT 1).trans (show _ = some (Value.int .i64 s.num) from rfl)
  have s2 := (cells_new ((w.alloc (.cells #[.slice p.A p.l.length p.ca, .slice p.D p.ds.length p.cd] placesT)).alloc (.cells #[.string f.car, .int .i64 f.num, .int .i64 f.pf, .int .i64 f.pt, .int .i64 f.pd, .slice f.A f.lg.length f.c] fliT)) #[.string s.car, .int .i64 s.num, .int .i64 s.day, .string s.f, .string s.t, .int .i64 s.dep, .int .i64 s.arr] segT 2).trans (show _ = some (Value.int .i64 s.day) from rfl)
  have s3 := (cells_new ((w.alloc (.cells #[.slice p.A p.l.length p.ca, .slice p.D p.ds.length p.cd] placesT)).alloc (.cells #[.string f.car, .int .i64 f.num, .int .i64 f.pf, .int .i64 f.pt, .int .i64 f.pd, .slice f.A f.lg.length f.c] fliT)) #[.string s.car, .int .i64 s.num, .int .i64 s.day, .string s.f, .string s.t, .int .i64 s.dep, .int .i64 s.arr] segT 3).trans (show _ = some (Value.string s.f) from rfl)
  have s4 := (cells_new ((w.alloc (.cells #[.slice p.A p.l.length p.ca, .slice p.D p.ds.length p.cd] placesT)).alloc (.cells #[.string f.car, .int .i64 f.num, .int .i64 f.pf, .int .i64 f.pt, .int .i64 f.pd, .slice f.A f.lg.length f.c] fliT)) #[.string s.car, .int .i64 s.num, .int .i64 s.day, .string s.f, .string s.t, .int .i64 s.dep, .int .i64 s.arr] segT 4).trans (show _ = some (Value.string s.t) from rfl)
  have s5 := (cells_new ((w.alloc (.cells #[.slice p.A p.l.length p.ca, .slice p.D p.ds.length p.cd] placesT)).alloc (.cells #[.string f.car, .int .i64 f.num, .int .i64 f.pf, .int .i64 f.pt, .int .i64 f.pd, .slice f.A f.lg.length f.c] fliT)) #[.string s.car, .int .i64 s.num, .int .i64 s.day, .string s.f, .string s.t, .int .i64 s.dep, .int .i64 s.arr] segT 5).trans (show _ = some (Value.int .i64 s.dep) from rfl)
  have s6 := (cells_new ((w.alloc (.cells #[.slice p.A p.l.length p.ca, .slice p.D p.ds.length p.cd] placesT)).alloc (.cells #[.string f.car, .int .i64 f.num, .int .i64 f.pf, .int .i64 f.pt, .int .i64 f.pd, .slice f.A f.lg.length f.c] fliT)) #[.string s.car, .int .i64 s.num, .int .i64 s.day, .string s.f, .string s.t, .int .i64 s.dep, .int .i64 s.arr] segT 6).trans (show _ = some (Value.int .i64 s.arr) from rfl)
  rw [World.size_alloc] at q0 q1 q2 q3 q4 q5
  rw [World.size_alloc, World.size_alloc] at s0 s1 s2 s3 s4 s5 s6
  have KL := Lib.hid (fun W hA hB => rlegsT_any p f s.day W hl hA hz hB hn hm hd1 hd2)
  have HL := Lib.hid (hL.more hb0)
  have HG := Lib.hid (hG.more hb0)
  have HP7 : Hid ((s.car.toList == f.car.toList) = false ∨ s.num ≠ f.num → RPathR p.l f s 7 []) := Lib.hid (fun h => .inl ⟨h, rfl, rfl⟩)
  have HPE : Hid ((s.car.toList == f.car.toList) = true → s.num = f.num → legE f s.day ≠ 0 → RPathR p.l f s (legE f s.day) []) := Lib.hid (fun h1 h2 h3 => .inr (.inl ⟨h1, h2, h3, rfl, rfl⟩))
  have HPC : Hid ((s.car.toList == f.car.toList) = true → s.num = f.num → legE f s.day = 0 → ∀ er I, RFind (legF p.l f s.day) s er I → RPathR p.l f s er I) := Lib.hid (fun h1 h2 h3 er I h => .inr (.inr ⟨h1, h2, h3, h⟩))
  have HLn : Hid ((legF p.l f s.day).length ≤ 100) := Lib.hid (by unfold legF; split <;> simp <;> omega)
  have HLE : Hid (∀ y ∈ legF p.l f s.day, y.car = f.car ∧ y.num = f.num ∧ y.day = s.day) := Lib.hid (by
    unfold legF
    split
    · intro y hy
      obtain ⟨x, _, rfl⟩ := List.mem_map.1 hy
      exact ⟨rfl, rfl, rfl⟩
    · intro y hy; cases hy)
  generalize hLF : legF p.l f s.day = L at *
  generalize legE f s.day = e0 at *
  generalize RPathR p.l f s = PR at *
  clear hL hz hG hm hd1 hd2 hLF
  go_enter Tryz.func54, Tryz.ntmps54
  go_upto_region 1 with (fail)
  generalize hw5 : ((w.alloc (.cells #[.slice p.A p.l.length p.ca, .slice p.D p.ds.length p.cd] placesT)).alloc (.cells #[.string f.car, .int .i64 f.num, .int .i64 f.pf, .int .i64 f.pt, .int .i64 f.pd, .slice f.A f.lg.length f.c] fliT)).alloc (.cells #[.string s.car, .int .i64 s.num, .int .i64 s.day, .string s.f, .string s.t, .int .i64 s.dep, .int .i64 s.arr] segT) = w5 at *
  clear hw5 hb1 hb2 hb3
  have f0 := bel_get q0
  have f1 := bel_get q1
  have f2 := bel_get q2
  have f3 := bel_get q3
  have f4 := bel_get q4
  have f5 := bel_get q5
  have u0 := bel_get s0
  have u1 := bel_get s1
  have u2 := bel_get s2
  have u3 := bel_get s3
  have u4 := bel_get s4
  have u5 := bel_get s5
  have u6 := bel_get s6
  have y0 := bel_get p0
  have y1 := bel_get p1
  clear p0 p1 q0 q1 q2 q3 q4 q5 s0 s1 s2 s3 s4 s5 s6
  have hS : SW w5 w5 := Below.refl _ _
  have r0 := f0 _ hS
  have r1 := f1 _ hS
  have m0 := u0 _ hS
  have m1 := u1 _ hS
  have m2 := u2 _ hS
  cases hc1 : (s.car.toList == f.car.toList) with
  | false =>
    have HR := Lib.hid (HP7.out (Or.inl hc1))
    go_wp2
    exact bodyPost_ret (results_tmp2 rfl _ _ _) rfl (PathPost.mk _ 7 [] rfl ⟨none, 0, rfl, .inl rfl⟩ HR (hb0))
  | true =>
  cases hc2 : (s.num != f.num) with
  | true =>
    have HR := Lib.hid (HP7.out (Or.inr (by simpa using hc2)))
    go_wp2
    exact bodyPost_ret (results_tmp2 rfl _ _ _) rfl (PathPost.mk _ 7 [] rfl ⟨none, 0, rfl, .inl rfl⟩ HR (hb0))
  | false =>
  have hnum : s.num = f.num := by simpa using hc2
  have HPE2 := Lib.hid (HPE.out hc1 hnum)
  have HPC2 := Lib.hid (HPC.out hc1 hnum)
  have HCAR : Hid ((f.car.toList == s.car.toList) = true ∧ (f.num == s.num) = true ∧ (s.day == s.day) = true) := Lib.hid ⟨by rw [beq_iff_eq] at hc1 ⊢; exact hc1.symm, by rw [beq_iff_eq]; exact hnum.symm, by simp⟩
  clear hnum HPE HPC HP7
  have k0 := f0 _ hS
  have k1 := f1 _ hS
  have k2 := f2 _ hS
  have k3 := f3 _ hS
  have k4 := f4 _ hS
  have k5 := f5 _ hS
  have z0 := y0 _ hS
  have z1 := y1 _ hS
  have KL2 := Lib.hid (KL.out w5 HL.out HG.out)
  by_cases he : e0 = 0
  case neg =>
    have heb : (e0 != 0) = true := by simpa using he
    have HR := Lib.hid (HPE2.out he)
    clear he
    go_wp2_with (go_at_call 72; refine KL2.out.mono ?_; rintro e w1 ⟨v1, rfl, hO1, hbl⟩)
    exact bodyPost_ret (results_tmp2 rfl _ _ _) rfl (PathPost.mk _ e0 [] rfl ⟨none, 0, rfl, .inl rfl⟩ HR (hb0.trans (Below.mono hbl hb0.size)))
  case pos =>
  subst he
  have HPC3 := Lib.hid (HPC2.out rfl)
  clear HPE2 HPC2
  go_upto_region 7 with (go_at_call 72; refine KL2.out.mono ?_; rintro e w1 ⟨v1, rfl, hO1, hbl⟩; obtain ⟨A1, c1, rfl, hvc⟩ := id (hO1.rowL rtD.len))
  have hS1 : SW w5 w1 := hbl
  have HCP := Lib.hid hO1.cap
  have HV := Lib.hid (hO1.rowL rtD.len)
  have HU := Lib.hid (And.intro u0 (And.intro u1 (And.intro u2 (And.intro u3 (And.intro u4 (And.intro u5 u6))))))
  clear u0 u1 u2 u3 u4 u5 u6
  clear hO1 hvc hbl z0 z1 k0 k1 k2 k3 k4 k5 m0 m1 m2 r0 r1 y0 y1 f0 f1 f2 f3 f4 f5 KL KL2 HL HG hc1 hc2 hS
  go_loopg [10] L.length (fun kx vi wr => ∃ i : Nat, vi = .int .i64 i ∧ i + kx = L.length ∧ Hid (∀ j k : Nat, j < i → j ≤ k → ¬ Hits L s.f s.t j k) ∧ SW w1 wr)
  case atStart => exact ⟨0, rfl, by omega, Lib.hid (fun j k h => absurd h (by omega)), Below.refl _ _⟩
  case round =>
    obtain ⟨i, rfl, hix, HN, hSr⟩ := hrel
    have HIX := Lib.hid hix
    by_cases hlt : i < L.length
    · clear hix
      have i2 : (i : Int) < (L.length : Int) := by omega
      have ib : i ≤ 100 := by have := HLn.out; omega
      obtain ⟨a, ha⟩ : ∃ a, L[i]? = some a := ⟨_, List.getElem?_eq_getElem hlt⟩
      have HA := Lib.hid ha
      have HNX : Hid (i + 1 + (L.length - (i + 1)) = L.length ∧ i < L.length) := Lib.hid (by omega)
      have hi0 : i + (L.length - i) = L.length := by omega
      have HK0 : Hid (∀ k : Nat, i ≤ k → k < i → ¬ Hits L s.f s.t i k) := Lib.hid (fun k h1 h2 => absurd h1 (by omega))
      clear ha hlt
      go_wp2
      go_loopg [11] (L.length - i) (fun kx vk wr => ∃ k : Nat, vk = .int .i64 k ∧ k + kx = L.length ∧ i ≤ k ∧ Hid (∀ k' : Nat, i ≤ k' → k' < k → ¬ Hits L s.f s.t i k') ∧ SW w1 wr)
      case atStart => exact ⟨i, rfl, hi0, Nat.le_refl _, HK0, hSr⟩
      case round =>
        obtain ⟨k, rfl, hkx, hik, HK, hSq⟩ := hrel
        clear hi0 HK0
        have HKX := Lib.hid hkx
        have HIK := Lib.hid hik
        by_cases hlk : k < L.length
        · clear hkx
          obtain ⟨y, hy⟩ : ∃ y, L[k]? = some y := ⟨_, List.getElem?_eq_getElem hlk⟩
          obtain ⟨g, o, e1, hgl, hca⟩ := RowL.at8 (HV.out.more hSq) HA.out
          cases e1
          obtain ⟨g', o', e1, hgl', hcy⟩ := RowL.at8 (HV.out.more hSq) hy
          cases e1
          have j2 : (k : Int) < (L.length : Int) := by omega
          have kb : k ≤ 100 := by have := HLn.out; omega
          have HKN : Hid (k + 1 + (L.length - (k + 1)) = L.length ∧ i ≤ k + 1 ∧ L.length - (k + 1) < L.length - k) := Lib.hid (by omega)
          have a3 := SW.cell (hca 3 _ rfl)
          have y4 := SW.cell (hcy 4 _ rfl)
          have hSA : SW w5 wr := Below.trans hS1 (Below.mono hSq hS1.size)
          have t3 := SW.cell (HU.out.2.2.2.1 _ hSA)
          have t4 := SW.cell (HU.out.2.2.2.2.1 _ hSA)
          have HKS : Hid (∀ W, SW wr W → Calls Tryz.prog 73 #[.slice (some ⟨g, o, none⟩) L.length c1, .int .i64 (i : Int), .int .i64 (k : Int)] W fun e w' => e = .returned (.agg #[.string a.car, .int .i64 a.num, .int .i64 a.day, .string a.f, .string y.t, .int .i64 a.dep, .int .i64 y.arr]) ∧ Below W.heap.size W w') := Lib.hid (fun W h => rseg_any (some ⟨g, o, none⟩) c1 L i k a y W (by have := HLn.out; omega) (HV.out.more (Below.trans hSq (Below.mono h hSq.size))) HA.out hy)
          have HY := Lib.hid hy
          clear hca hcy hy hik hlk hgl hgl'
          cases h1 : (a.f.toList == s.f.toList) with
          | false =>
            have HK2 : Hid (∀ k' : Nat, i ≤ k' → k' < k + 1 → ¬ Hits L s.f s.t i k') := Lib.hid (fun k' _ _ => nohit_f HA.out h1)
            go_wp2
            have hNe : Nonempty (Wd (SW wr)) := ⟨⟨_, SW.drew _⟩⟩
            refine quietS (S := SW wr) (by kernel_rfl) (by kernel_rfl) (SW.drew _) ?_
            repeat (first | go_big_quiet_skip | (go_big_quiet_want; go_big_quiet_op; first | go_big_quiet_on | go_big_quiet_call ((fail))))
            refine wpQuiet_nil ?_
            rintro W ⟨⟨_, hW⟩, rfl⟩
            go_wp2
            go_roundg (L.length - (k + 1))
            case measure => have h1 := HKX.out; have h2 := HKN.out.2.2; omega
            case rel => exact ⟨k + 1, by go_num, HKN.out.1, HKN.out.2.1, HK2, Below.trans hSq (Below.mono hW hSq.size)⟩
          | true =>
          cases h2 : (y.t.toList == s.t.toList) with
          | false =>
            have HK2 : Hid (∀ k' : Nat, i ≤ k' → k' < k + 1 → ¬ Hits L s.f s.t i k') := Lib.hid (fun k' h3 h4 => by
              by_cases e : k' = k
              · rw [e]; exact nohit_t HY.out h2
              · exact HK.out k' h3 (by omega))
            go_wp2
            have hNe : Nonempty (Wd (SW wr)) := ⟨⟨_, SW.drew _⟩⟩
            refine quietS (S := SW wr) (by kernel_rfl) (by kernel_rfl) (SW.drew _) ?_
            repeat (first | go_big_quiet_skip | (go_big_quiet_want; go_big_quiet_op; first | go_big_quiet_on | go_big_quiet_call ((fail))))
            refine wpQuiet_nil ?_
            rintro W ⟨⟨_, hW⟩, rfl⟩
            go_wp2
            go_roundg (L.length - (k + 1))
            case measure => have h1 := HKX.out; have h2 := HKN.out.2.2; omega
            case rel => exact ⟨k + 1, by go_num, HKN.out.1, HKN.out.2.1, HK2, Below.trans hSq (Below.mono hW hSq.size)⟩
          | true =>
            have HF : Hid (∀ er I, (((s.dep ≠ a.dep ∨ s.arr ≠ y.arr) ∧ er = 13 ∧ I = []) ∨ (s.dep = a.dep ∧ s.arr = y.arr ∧ er = 0 ∧ I = ((L.drop i).take (k - i + 1)).map idOf)) → PR er I) := Lib.hid (fun er I h => HPC3.out er I (.inr ⟨i, k, a, y, HIK.out, HA.out, HY.out, h1, h2, h⟩))
            go_upto_region 12 with (fail)
            have hNe : Nonempty (Wd (SW wr)) := ⟨⟨_, SW.drew _⟩⟩
            refine quietS (S := SW wr) (by kernel_rfl) (by kernel_rfl) (SW.drew _) ?_
            repeat (first | go_big_quiet_skip | (go_big_quiet_want; go_big_quiet_op; first | go_big_quiet_on | go_big_quiet_call ((fail))))
            refine wpQuiet_nil ?_
            rintro W ⟨⟨_, hW⟩, rfl⟩
            go_upto_region 13 with (fail)
            have hSB : SW w5 W := Below.trans hSA (Below.mono hW hSA.size)
            have hS0W : Below w.heap.size w W := hb0.trans (Below.mono hSB hb0.size)
            have hS1W : SW w1 W := Below.trans hSq (Below.mono hW hSq.size)
            have q0 := SW.cell (HU.out.1 _ hSB)
            have q1 := SW.cell (HU.out.2.1 _ hSB)
            have q2 := SW.cell (HU.out.2.2.1 _ hSB)
            have q3 := SW.cell (HU.out.2.2.2.1 _ hSB)
            have q4 := SW.cell (HU.out.2.2.2.2.1 _ hSB)
            have q5 := SW.cell (HU.out.2.2.2.2.2.1 _ hSB)
            have q6 := SW.cell (HU.out.2.2.2.2.2.2 _ hSB)
            have HKW : Hid (∀ W', SW W W' → Calls Tryz.prog 73 #[.slice (some ⟨g, o, none⟩) L.length c1, .int .i64 (i : Int), .int .i64 (k : Int)] W' fun e w' => e = .returned (.agg #[.string a.car, .int .i64 a.num, .int .i64 a.day, .string a.f, .string y.t, .int .i64 a.dep, .int .i64 y.arr]) ∧ SW W w') := Lib.hid (fun W' h => (HKS.out W' (Below.trans hW (Below.mono h hW.size))).mono (by rintro e w' ⟨he, hb⟩; exact ⟨he, Below.trans h (Below.mono hb h.size)⟩))
            have HE := HLE.out a (List.mem_of_getElem? HA.out)
            obtain ⟨ec, en, ed⟩ := HE
            have x0 : (a.car.toList == s.car.toList) = true := by rw [ec]; exact HCAR.out.1
            have x1 : (a.num == s.num) = true := by rw [en]; exact HCAR.out.2.1
            have x2 : (a.day == s.day) = true := by rw [ed]; exact HCAR.out.2.2
            clear ec en ed a3 y4 t3 t4 hSq hSr hSA hS1 hW HKS
            cases x5 : (a.dep == s.dep) with
            | false =>
              have HR := Lib.hid (HF.out 13 [] (Or.inl ⟨Or.inl (fun h => by rw [h] at x5; simp at x5), rfl, rfl⟩))
              have hNe : Nonempty (Wd (SW W)) := ⟨⟨_, SW.drew _⟩⟩
              refine quietS (S := SW W) (by kernel_rfl) (by kernel_rfl) (SW.drew _) ?_
              repeat (first | go_big_quiet_skip | (go_big_quiet_want; go_big_quiet_op; first | go_big_quiet_on | go_big_quiet_call ((go_at_call 73; exact quiet_S (HKW.out _ (Wd.ok _))))))
              refine wpQuiet_nil ?_
              rintro W ⟨⟨_, hW⟩, rfl⟩
              go_wp2
              exact bodyPost_ret (results_tmp2 rfl _ _ _) rfl (PathPost.mk _ 13 [] rfl ⟨none, 0, rfl, .inl rfl⟩ HR (hS0W.trans (Below.mono hW hS0W.size)))
            | true =>
            cases x6 : (y.arr == s.arr) with
            | false =>
              have HR := Lib.hid (HF.out 13 [] (Or.inl ⟨Or.inr (fun h => by rw [h] at x6; simp at x6), rfl, rfl⟩))
              have hNe : Nonempty (Wd (SW W)) := ⟨⟨_, SW.drew _⟩⟩
              refine quietS (S := SW W) (by kernel_rfl) (by kernel_rfl) (SW.drew _) ?_
              repeat (first | go_big_quiet_skip | (go_big_quiet_want; go_big_quiet_op; first | go_big_quiet_on | go_big_quiet_call ((go_at_call 73; exact quiet_S (HKW.out _ (Wd.ok _))))))
              refine wpQuiet_nil ?_
              rintro W ⟨⟨_, hW⟩, rfl⟩
              go_wp2
              exact bodyPost_ret (results_tmp2 rfl _ _ _) rfl (PathPost.mk _ 13 [] rfl ⟨none, 0, rfl, .inl rfl⟩ HR (hS0W.trans (Below.mono hW hS0W.size)))
            | true =>
              have HR := Lib.hid (HF.out 0 _ (Or.inr ⟨(beq_iff_eq.1 x5).symm, (beq_iff_eq.1 x6).symm, rfl, rfl⟩))
              have hik := HIK.out
              have hil := HNX.out.2
              have hcap := HCP.out
              have HDL : Hid ((L.drop i).length = L.length - i) := Lib.hid (by rw [List.length_drop])
              have hkl : k < L.length := (List.getElem?_eq_some_iff.1 HY.out).1
              have HTL : Hid (k + 1 - i = ((L.drop i).take (k - i + 1)).length) := Lib.hid (by rw [List.length_take, List.length_drop]; omega)
              have l1 : (k : Int) + 1 ≤ (c1 : Int) := by omega
              have l2 : (i : Int) ≤ (k : Int) + 1 := by omega
              have l3 : (0 : Int) ≤ (i : Int) := by omega
              have l4 : ((k : Int) + 1).toNat = k + 1 := by omega
              have l5 : ¬ c1 = i := by omega
              have l6 : i < c1 := by omega
              have l7 : (i : Int) < (c1 : Int) := by omega
              have HVS : Hid (∀ W', SW W W' → RowL 8 encDt W' (.slice (some ⟨g, o + i * 8, none⟩) (k + 1 - i) (c1 - i)) ((L.drop i).take (k - i + 1))) := Lib.hid (fun W' h => RowL.takeL (RowL.dropL (m := L.length - i) (c' := c1 - i) (HV.out.more (Below.trans hS1W (Below.mono h hS1W.size))) hil (by rw [List.length_drop])) (k - i + 1) HTL.out)
              have HIDS : Hid (∀ W', SW W W' → Calls Tryz.prog 83 #[.slice (some ⟨g, o + i * 8, none⟩) (k + 1 - i) (c1 - i)] W' fun e w' => ∃ v, e = .returned v ∧ RowL 4 encI w' v (((L.drop i).take (k - i + 1)).map idOf) ∧ Below W'.heap.size W' w') := Lib.hid (fun W' h => rids_any _ _ W' (HVS.out W' h) (by have h1 := HTL.out; have h2 := HLn.out; omega))
              have hNe : Nonempty (Wd (SW W)) := ⟨⟨_, SW.drew _⟩⟩
              refine quietS (S := SW W) (by kernel_rfl) (by kernel_rfl) (SW.drew _) ?_
              repeat (first | go_big_quiet_skip | (go_big_quiet_want; go_big_quiet_op; first | go_big_quiet_on | go_big_quiet_call ((go_at_call 73; exact quiet_S (HKW.out _ (Wd.ok _))))))
              refine wpQuiet_nil ?_
              rintro W ⟨⟨_, hW⟩, rfl⟩
              have hWW := hW
              clear hkl hcap
              go_wp2_with (go_at_call 83; refine (HIDS.out _ hWW).mono ?_; rintro e w9 ⟨v9, rfl, hv9, hb9⟩)
              exact bodyPost_ret (results_tmp2 rfl _ _ _) rfl (PathPost.mk v9 0 _ rfl hv9 HR ((hS0W.trans (Below.mono hWW hS0W.size)).trans (Below.mono hb9 (hS0W.trans (Below.mono hWW hS0W.size)).size)))
        · have hk : k = L.length := by omega
          have HN2 : Hid (∀ j k : Nat, j < i + 1 → j ≤ k → ¬ Hits L s.f s.t j k) := Lib.hid (fun j k' h1 h2 => by
            by_cases e : j = i
            · subst e
              by_cases e2 : k' < k
              · exact HK.out k' h2 e2
              · exact nohit_end (by omega)
            · exact HN.out j k' (by omega) h2)
          have j2 : ¬ (k : Int) < (L.length : Int) := by omega
          clear HK hkx hk hik
          go_wp2
          go_roundg (L.length - (i + 1))
          case measure => have h1 := HIX.out; have h2 := HNX.out.2; omega
          case rel => exact ⟨i + 1, by go_num, HNX.out.1, HN2, hSq⟩
    · have hi : i = L.length := by omega
      have HR : Hid (PR 14 []) := Lib.hid (HPC3.out 14 [] (.inl ⟨rfl, rfl, fun j k h => by
        by_cases e : j < i
        · exact HN.out j k e h
        · exact nohit_end (by omega)⟩))
      have hSz : Below w.heap.size w wr := hb0.trans (Below.mono (Below.trans hS1 (Below.mono hSr hS1.size)) hb0.size)
      have i2 : ¬ (i : Int) < (L.length : Int) := by omega
      clear hix hi
      go_wp2
      exact bodyPost_ret (results_tmp2 rfl _ _ _) rfl (PathPost.mk _ 14 [] rfl ⟨none, 0, rfl, .inl rfl⟩ HR hSz)

end Go.Proofs.YtdpcjafkahhecaaGreatDoor

/- What the program's Path and the reference's return, is one and the same for a flight without violations. -/
namespace Go.Proofs.YtdpcjafkahhecaaGreatDoor
open Go.RowKit Go.Shelf
set_option linter.unusedSimpArgs false
set_option linter.unusedVariables false

theorem CovR.congr {L : List Dt} {fr tt fr' tt' : ByteArray} {R : List Dt} (e1 : fr.toList = fr'.toList) (e2 : tt.toList = tt'.toList) (h : CovR L fr tt R) : CovR L fr' tt' R := by
  unfold CovR at h ⊢
  rw [e1, e2] at h
  exact h
theorem no_mis {f : FV} {s : Sg} (c : (s.car.toList == f.car.toList) = true) (n : s.num = f.num) (m : (s.car.toList == f.car.toList) = false ∨ s.num ≠ f.num) : False := by
  rcases m with h | h
  · rw [h] at c; cases c
  · exact h n
theorem path_eq {l : List Air} {f : FV} {s : Sg} {e e' : Int} {I I' : List Idd} (hn : lgsF l f.lg f.lg.length = []) (h1 : PathR l f s e I) (h2 : RPathR l f s e' I') : e = e' ∧ I = I' := by
  rcases h1 with ⟨m1, h3, h4⟩ | ⟨c1, n1, ne1, h3, h4⟩ | ⟨c1, n1, z1, R, hc, h1⟩
  · rcases h2 with ⟨m2, h5, h6⟩ | ⟨c2, n2, _⟩ | ⟨c2, n2, _⟩
    · exact ⟨h3.trans h5.symm, h4.trans h6.symm⟩
    · exact (no_mis c2 n2 m1).elim
    · exact (no_mis c2 n2 m1).elim
  · rcases h2 with ⟨m2, h5, h6⟩ | ⟨c2, n2, _, h5, h6⟩ | ⟨c2, n2, z2, _⟩
    · exact (no_mis c1 n1 m2).elim
    · exact ⟨h3.trans h5.symm, h4.trans h6.symm⟩
    · exact absurd z2 ne1
  · rcases h2 with ⟨m2, h5, h6⟩ | ⟨c2, n2, ne2, _⟩ | ⟨c2, n2, z2, h2⟩
    · exact (no_mis c1 n1 m2).elim
    · exact absurd z1 ne2
    · have hq : Per.hasQ (f.pf, f.pt, f.pd) s.day = true := by
        cases hq : Per.hasQ (f.pf, f.pt, f.pd) s.day
        · unfold legE at z1
          rw [hq] at z1
          simp at z1
        · rfl
      have eL : legF l f s.day = f.lg.map (datL l f s.day) := by unfold legF; rw [hq]; rfl
      rw [eL] at hc h2
      rcases h2 with ⟨h5, h6, hno⟩ | ⟨i, k, a, b, hik, ha, hb, hpa, hpb, h2⟩
      · have hR : R = [] := by
          rcases hc with ⟨h, _⟩ | ⟨i, k, a, y, ha, hpa, _, hy, hpy, _, _⟩
          · exact h
          · rw [List.getElem?_drop] at hy
            exact absurd ⟨a, y, ha, hy, hpa, hpy⟩ (hno i (i + k) (by omega))
        subst hR
        rcases h1 with ⟨_, h7, h8⟩ | ⟨a, z, ha, _⟩
        · exact ⟨h7.trans h5.symm, h8.trans h6.symm⟩
        · simp at ha
      · obtain ⟨x, hx, rfl⟩ := map_at ha
        obtain ⟨y, hy, rfl⟩ := map_at hb
        have hR := cov_is hn hx hy hik (CovR.congr (beq_lists hpa).symm (beq_lists hpb).symm hc)
        have hmi : ((f.lg.map (datL l f s.day)).drop i)[0]? = some (datL l f s.day x) := by rw [List.getElem?_drop, Nat.add_zero]; exact ha
        have hmk : ((f.lg.map (datL l f s.day)).drop i)[k - i]? = some (datL l f s.day y) := by rw [List.getElem?_drop, show i + (k - i) = k by omega]; exact hb
        have hkl := (List.getElem?_eq_some_iff.1 hmk).1
        have hlen : R.length = k - i + 1 := by rw [hR, List.length_take]; omega
        have hR0 : R[0]? = some (datL l f s.day x) := by rw [hR, List.getElem?_take, if_pos (by omega)]; exact hmi
        have hRk : R[R.length - 1]? = some (datL l f s.day y) := by rw [hlen, Nat.add_sub_cancel, hR, List.getElem?_take, if_pos (by omega)]; exact hmk
        rcases h1 with ⟨h3, _⟩ | ⟨a, z, ha', hz', h1⟩
        · rw [h3] at hlen; simp at hlen
        · rw [hR0] at ha'
          rw [hRk] at hz'
          cases ha'
          cases hz'
          rcases h1 with ⟨d1, h3, h4⟩ | ⟨d1, d2, h3, h4⟩
          · rcases h2 with ⟨_, h5, h6⟩ | ⟨g1, g2, _⟩
            · exact ⟨h3.trans h5.symm, h4.trans h6.symm⟩
            · rcases d1 with d | d
              · exact absurd g1 d
              · exact absurd g2 d
          · rcases h2 with ⟨g, _⟩ | ⟨_, _, h5, h6⟩
            · rcases g with d | d
              · exact absurd d1 d
              · exact absurd d2 d
            · exact ⟨h3.trans h5.symm, by rw [h4, h6, hR]⟩
theorem PathR.len {l : List Air} {f : FV} {s : Sg} {e : Int} {I : List Idd} (hn : f.lg.length ≤ 100) (h : PathR l f s e I) : I.length ≤ 1000 := by
  rcases h with ⟨_, _, h⟩ | ⟨_, _, _, _, h⟩ | ⟨_, _, _, R, hc, h⟩
  · rw [h]; simp
  · rw [h]; simp
  · have h1 := hc.len
    have h2 : (legF l f s.day).length ≤ 100 := by unfold legF; split <;> simp <;> omega
    rcases h with ⟨_, _, h⟩ | ⟨_, _, _, _, ⟨_, _, h⟩ | ⟨_, _, _, h⟩⟩
    · rw [h]; simp
    · rw [h]; simp
    · rw [h, List.length_map]; omega

end Go.Proofs.YtdpcjafkahhecaaGreatDoor

/- Cover of the program and of the reference. -/
namespace Go.Proofs.YtdpcjafkahhecaaGreatDoor
open Go.RowKit Go.Shelf
set_option linter.unusedSimpArgs false
set_option linter.unusedVariables false

/-- what Cover tells: no flight, or what Path tells of it -/
def CvR (PR : FV → Int → List Idd → Prop) (fs : List FV) (o : Sg) (e : Int) (I : List Idd) : Prop := (onF fs o.car o.num o.day = none ∧ e = 7 ∧ I = []) ∨ ∃ f, onF fs o.car o.num o.day = some f ∧ PR f e I
theorem operF_day (L : List Sh) (q : Sg) : (operF L q).day = q.day := by
  unfold operF
  split <;> rfl
set_option maxRecDepth 100000 in
set_option maxHeartbeats 8000000 in
theorem ccover_any (p : PV) (v : Value) (fs : List FV) (A : Option Addr) (c : Nat) (sh : List Sh) (s : Sg) (w : World) (op : fs ≠ [] → OkPl p) (ot : OkT fs) (h1 : ∀ f ∈ fs, 1 ≤ f.lg.length) (hL : AirL w p.A p.l) (hv : TblL w v fs) (hl : sh.length ≤ 100000) (hs : RowL 9 encSh9 w (.slice A sh.length c) sh) (hd : -9223372036854775808 ≤ s.day ∧ s.day ≤ 9223372036854775807) :
    Calls Tryz.prog 20 #[encP p, v, .slice A sh.length c, encS7 s] w fun e w' => PathPost (CvR (fun f e I => PathR p.l f (operF sh s) e I) fs (operF sh s)) w w' e := by
  obtain ⟨hN, hM, hb0⟩ := two_new2 w #[.slice p.A p.l.length p.ca, .slice p.D p.ds.length p.cd] #[.string s.car, .int .i64 s.num, .int .i64 s.day, .string s.f, .string s.t, .int .i64 s.dep, .int .i64 s.arr] placesT segT
  have hod := operF_day sh s
  obtain ⟨o, ho⟩ : ∃ o, o = operF sh s := ⟨_, rfl⟩
  rw [← ho] at hod ⊢
  obtain ⟨B, hB⟩ : ∃ B, B = w.heap.size := ⟨_, rfl⟩
  rw [← hB] at hN hM
  go_enter Tryz.func20, Tryz.ntmps20
  go_upto_region 1 with fail
  rw [← hB]
  generalize hw5 : ((w.alloc (.cells #[.slice p.A p.l.length p.ca, .slice p.D p.ds.length p.cd] placesT)).alloc (.cells #[.string s.car, .int .i64 s.num, .int .i64 s.day, .string s.f, .string s.t, .int .i64 s.dep, .int .i64 s.arr] segT)) = w5 at *
  clear hw5
  have HB0 := Lib.hid hb0
  have F0 := Lib.hid (bel_get ((cell_of_row _ _ 0 _ _ (0, 0) hN).trans (show _ = some (Value.slice p.A p.l.length p.ca) from rfl)))
  have F1 := Lib.hid (bel_get ((cell_of_row _ _ 1 _ _ (0, 0) hN).trans (show _ = some (Value.slice p.D p.ds.length p.cd) from rfl)))
  have m0 := (cell_of_row _ _ 0 _ _ (0, 0) hM).trans (show _ = some (Value.string s.car) from rfl)
  have m1 := (cell_of_row _ _ 1 _ _ (0, 0) hM).trans (show _ = some (Value.int .i64 s.num) from rfl)
  have m2 := (cell_of_row _ _ 2 _ _ (0, 0) hM).trans (show _ = some (Value.int .i64 s.day) from rfl)
  have m3 := (cell_of_row _ _ 3 _ _ (0, 0) hM).trans (show _ = some (Value.string s.f) from rfl)
  have m4 := (cell_of_row _ _ 4 _ _ (0, 0) hM).trans (show _ = some (Value.string s.t) from rfl)
  have m5 := (cell_of_row _ _ 5 _ _ (0, 0) hM).trans (show _ = some (Value.int .i64 s.dep) from rfl)
  have m6 := (cell_of_row _ _ 6 _ _ (0, 0) hM).trans (show _ = some (Value.int .i64 s.arr) from rfl)
  have HV := Lib.hid (hv.more hb0)
  have HL := Lib.hid (hL.more hb0)
  have HS := Lib.hid (hs.more hb0)
  have KO : Hid (∀ W, SW w5 W → Calls Tryz.prog 15 #[.slice A sh.length c, .agg #[.string s.car, .int .i64 s.num, .int .i64 s.day, .string s.f, .string s.t, .int .i64 s.dep, .int .i64 s.arr]] W fun e w' => e = .returned (encS7 o) ∧ SW w5 w') := Lib.hid (SW.call (fun W h => by rw [ho]; exact operating_any A c sh s W hl (HS.out.more h) hd))
  have KN : Hid (∀ W, SW w5 W → Calls Tryz.prog 52 #[v, .string o.car, .int .i64 o.num, .int .i64 o.day] W (OnX ((onF fs o.car o.num o.day).getD fliZ) (onF fs o.car o.num o.day).isSome W)) := Lib.hid (fun W h => on_x v fs o.car o.num o.day W (HV.out.more h) ot.len (fun f hf => Nat.le_trans (ot.lg f hf) (by omega)) (by rw [hod]; exact hd.1) (by rw [hod]; exact hd.2))
  have HOT := Lib.hid ot
  have HOP := Lib.hid op
  have H1 := Lib.hid h1
  have HD := Lib.hid (show -9223372036854775808 ≤ o.day ∧ o.day ≤ 9223372036854775807 by rw [hod]; exact hd)
  clear hN hM hb0 hv hL hs op ot h1 hod ho hd hB
  have hS : SW w5 w5 := Below.refl _ _
  go_upto_region 2 with (go_at_call 15; refine (KO.out _ hS).mono ?_; rintro e w3 ⟨rfl, hS3⟩)
  clear m0 m1 m2 m3 m4 m5 m6 hS
  have hb3 := bel_alloc w3 (.cells #[.string o.car, .int .i64 o.num, .int .i64 o.day, .string o.f, .string o.t, .int .i64 o.dep, .int .i64 o.arr] segT)
  have hS4 : SW w5 (w3.alloc (.cells #[.string o.car, .int .i64 o.num, .int .i64 o.day, .string o.f, .string o.t, .int .i64 o.dep, .int .i64 o.arr] segT)) := Below.trans hS3 (Below.mono hb3 hS3.size)
  have q0 := (cells_new w3 #[.string o.car, .int .i64 o.num, .int .i64 o.day, .string o.f, .string o.t, .int .i64 o.dep, .int .i64 o.arr] segT 0).trans (show _ = some (Value.string o.car) from rfl)
  have q1 := (cells_new w3 #[.string o.car, .int .i64 o.num, .int .i64 o.day, .string o.f, .string o.t, .int .i64 o.dep, .int .i64 o.arr] segT 1).trans (show _ = some (Value.int .i64 o.num) from rfl)
  have q2 := (cells_new w3 #[.string o.car, .int .i64 o.num, .int .i64 o.day, .string o.f, .string o.t, .int .i64 o.dep, .int .i64 o.arr] segT 2).trans (show _ = some (Value.int .i64 o.day) from rfl)
  have q3 := (cells_new w3 #[.string o.car, .int .i64 o.num, .int .i64 o.day, .string o.f, .string o.t, .int .i64 o.dep, .int .i64 o.arr] segT 3).trans (show _ = some (Value.string o.f) from rfl)
  have q4 := (cells_new w3 #[.string o.car, .int .i64 o.num, .int .i64 o.day, .string o.f, .string o.t, .int .i64 o.dep, .int .i64 o.arr] segT 4).trans (show _ = some (Value.string o.t) from rfl)
  have q5 := (cells_new w3 #[.string o.car, .int .i64 o.num, .int .i64 o.day, .string o.f, .string o.t, .int .i64 o.dep, .int .i64 o.arr] segT 5).trans (show _ = some (Value.int .i64 o.dep) from rfl)
  have q6 := (cells_new w3 #[.string o.car, .int .i64 o.num, .int .i64 o.day, .string o.f, .string o.t, .int .i64 o.dep, .int .i64 o.arr] segT 6).trans (show _ = some (Value.int .i64 o.arr) from rfl)
  generalize hB3 : w3.heap.size = B3 at *
  generalize hw4 : w3.alloc (.cells #[.string o.car, .int .i64 o.num, .int .i64 o.day, .string o.f, .string o.t, .int .i64 o.dep, .int .i64 o.arr] segT) = w4 at *
  clear hw4 hb3 hB3 hS3
  have HWB : Hid (∀ W, SW w5 W → Below w.heap.size w W) := Lib.hid (fun W h => HB0.out.trans (Below.mono h HB0.out.size))
  have KN := Lib.hid (KN.out _ hS4)
  cases hon : onF fs o.car o.num o.day with
  | none =>
    rw [hon] at KN
    have HR : Hid (CvR (fun f e I => PathR p.l f o e I) fs o 7 []) := Lib.hid (.inl ⟨hon, rfl, rfl⟩)
    clear hon
    go_upto_region 3 with (go_at_call 52; refine KN.out.mono ?_; rintro e w6 ⟨X, A6, c6, rfl, HXX, hG6, hb6⟩; have hst := store_fli HXX w6; have hx6 : X.size = 6 := by rw [HXX.out]; rfl)
    have HW7 := Lib.hid (HWB.out _ (Below.trans hS4 (Below.mono (Below.trans hb6 (Below.mono (bel_alloc w6 (.cells X fliT)) hb6.size)) hS4.size)))
    clear q0 q1 q2 q3 q4 q5 q6 hst
    go_wp2
    refine bodyPost_ret (results_tmp2 rfl _ _ _) rfl ?_
    exact PathPost.mk _ _ [] rfl ⟨none, 0, rfl, .inl rfl⟩ HR HW7.out
  | some f =>
    rw [hon] at KN
    have hfm := List.mem_of_find?_eq_some hon
    have hpl := HOP.out (by intro e; rw [e] at hfm; cases hfm)
    have HR : Hid (∀ er I, PathR p.l f o er I → CvR (fun f e I => PathR p.l f o e I) fs o er I) := Lib.hid (fun er I h => .inr ⟨f, hon, h⟩)
    have HFM := Lib.hid hfm
    have HPL := Lib.hid hpl
    clear hon hfm hpl
    simp only [Option.getD_some, Option.isSome_some] at KN
    go_upto_region 3 with (go_at_call 52; refine KN.out.mono ?_; rintro e w6 ⟨X, A6, c6, rfl, HXX, hG6, hb6⟩; have hst := store_fli HXX w6; have hx6 : X.size = 6 := by rw [HXX.out]; rfl)
    have hbx := bel_alloc w6 (.cells X fliT)
    have hS7 : SW w5 (w6.alloc (.cells X fliT)) := Below.trans hS4 (Below.mono (Below.trans hb6 (Below.mono hbx hb6.size)) hS4.size)
    have q0 := bel_cell hbx (bel_cell hb6 q0)
    have q1 := bel_cell hbx (bel_cell hb6 q1)
    have q2 := bel_cell hbx (bel_cell hb6 q2)
    have q3 := bel_cell hbx (bel_cell hb6 q3)
    have q4 := bel_cell hbx (bel_cell hb6 q4)
    have q5 := bel_cell hbx (bel_cell hb6 q5)
    have q6 := bel_cell hbx (bel_cell hb6 q6)
    have hX := HXX.out
    have r0 := (cells_new w6 X fliT 0).trans (show _ = some (Value.string f.car) from by rw [hX]; rfl)
    have r1 := (cells_new w6 X fliT 1).trans (show _ = some (Value.int .i64 f.num) from by rw [hX]; rfl)
    have r2 := (cells_new w6 X fliT 2).trans (show _ = some (Value.int .i64 f.pf) from by rw [hX]; rfl)
    have r3 := (cells_new w6 X fliT 3).trans (show _ = some (Value.int .i64 f.pt) from by rw [hX]; rfl)
    have r4 := (cells_new w6 X fliT 4).trans (show _ = some (Value.int .i64 f.pd) from by rw [hX]; rfl)
    have r5 := (cells_new w6 X fliT 5).trans (show _ = some (Value.slice A6 f.lg.length c6) from by rw [hX]; rfl)
    have HG7 := Lib.hid (hG6.more hbx)
    generalize hB6 : w6.heap.size = B6 at *
    generalize hw7 : w6.alloc (.cells X fliT) = w7 at *
    clear hX HXX hst hbx hb6 hG6 hB6 hw7 hS4 KN
    have f0 := F0.out _ hS7
    have f1 := F1.out _ hS7
    have KP : Hid (Calls Tryz.prog 53 #[encP p, .agg #[.string f.car, .int .i64 f.num, .int .i64 f.pf, .int .i64 f.pt, .int .i64 f.pd, .slice A6 f.lg.length c6], encS7 o] w7 fun e w' => PathPost (PathR p.l f o) w7 w' e) := Lib.hid (path_any p (f.re A6 c6) o w7 HPL.out.la (HL.out.more hS7) HPL.out.sh HPL.out.oz HG7.out (HOT.out.lg f HFM.out) (H1.out f HFM.out) (HOT.out.hm f HFM.out) HD.out.1 HD.out.2)
    go_wp2_with (go_at_call 53; refine KP.out.mono ?_; rintro e w8 ⟨v8, er, I8, rfl, hI8, hR8, hb8⟩)
    refine bodyPost_ret (results_tmp2 rfl _ _ _) rfl ?_
    exact PathPost.mk _ _ _ rfl hI8 (Lib.hid (HR.out _ _ hR8.out)) (HWB.out _ (Below.trans hS7 (Below.mono hb8 hS7.size)))
set_option maxRecDepth 100000 in
set_option maxHeartbeats 8000000 in
theorem rccover_any (p : PV) (v : Value) (fs : List FV) (A : Option Addr) (c : Nat) (sh : List Sh) (s : Sg) (w : World) (op : fs ≠ [] → OkPl p) (ot : OkT fs) (h1 : ∀ f ∈ fs, 1 ≤ f.lg.length) (hL : AirL w p.A p.l) (hv : TblL w v fs) (hl : sh.length ≤ 100000) (hs : RowL 9 encSh9 w (.slice A sh.length c) sh) (hd : -9223372036854775808 ≤ s.day ∧ s.day ≤ 9223372036854775807) :
    Calls Tryz.prog 21 #[encP p, v, .slice A sh.length c, encS7 s] w fun e w' => PathPost (CvR (fun f e I => RPathR p.l f (operF sh s) e I) fs (operF sh s)) w w' e := by
  obtain ⟨hN, hM, hb0⟩ := two_new2 w #[.slice p.A p.l.length p.ca, .slice p.D p.ds.length p.cd] #[.string s.car, .int .i64 s.num, .int .i64 s.day, .string s.f, .string s.t, .int .i64 s.dep, .int .i64 s.arr] placesT segT
  have hod := operF_day sh s
  obtain ⟨o, ho⟩ : ∃ o, o = operF sh s := ⟨_, rfl⟩
  rw [← ho] at hod ⊢
  obtain ⟨B, hB⟩ : ∃ B, B = w.heap.size := ⟨_, rfl⟩
  rw [← hB] at hN hM
  go_enter Tryz.func21, Tryz.ntmps21
  go_upto_region 1 with fail
  rw [← hB]
  generalize hw5 : ((w.alloc (.cells #[.slice p.A p.l.length p.ca, .slice p.D p.ds.length p.cd] placesT)).alloc (.cells #[.string s.car, .int .i64 s.num, .int .i64 s.day, .string s.f, .string s.t, .int .i64 s.dep, .int .i64 s.arr] segT)) = w5 at *
  clear hw5
  have HB0 := Lib.hid hb0
  have F0 := Lib.hid (bel_get ((cell_of_row _ _ 0 _ _ (0, 0) hN).trans (show _ = some (Value.slice p.A p.l.length p.ca) from rfl)))
  have F1 := Lib.hid (bel_get ((cell_of_row _ _ 1 _ _ (0, 0) hN).trans (show _ = some (Value.slice p.D p.ds.length p.cd) from rfl)))
  have m0 := (cell_of_row _ _ 0 _ _ (0, 0) hM).trans (show _ = some (Value.string s.car) from rfl)
  have m1 := (cell_of_row _ _ 1 _ _ (0, 0) hM).trans (show _ = some (Value.int .i64 s.num) from rfl)
  have m2 := (cell_of_row _ _ 2 _ _ (0, 0) hM).trans (show _ = some (Value.int .i64 s.day) from rfl)
  have m3 := (cell_of_row _ _ 3 _ _ (0, 0) hM).trans (show _ = some (Value.string s.f) from rfl)
  have m4 := (cell_of_row _ _ 4 _ _ (0, 0) hM).trans (show _ = some (Value.string s.t) from rfl)
  have m5 := (cell_of_row _ _ 5 _ _ (0, 0) hM).trans (show _ = some (Value.int .i64 s.dep) from rfl)
  have m6 := (cell_of_row _ _ 6 _ _ (0, 0) hM).trans (show _ = some (Value.int .i64 s.arr) from rfl)
  have HV := Lib.hid (hv.more hb0)
  have HL := Lib.hid (hL.more hb0)
  have HS := Lib.hid (hs.more hb0)
  have KO : Hid (∀ W, SW w5 W → Calls Tryz.prog 22 #[.slice A sh.length c, .agg #[.string s.car, .int .i64 s.num, .int .i64 s.day, .string s.f, .string s.t, .int .i64 s.dep, .int .i64 s.arr]] W fun e w' => e = .returned (encS7 o) ∧ SW w5 w') := Lib.hid (SW.call (fun W h => by rw [ho]; exact roperating_any A c sh s W hl (HS.out.more h) hd))
  have KN : Hid (∀ W, SW w5 W → Calls Tryz.prog 47 #[v, .string o.car, .int .i64 o.num, .int .i64 o.day] W (OnX ((onF fs o.car o.num o.day).getD fliZ) (onF fs o.car o.num o.day).isSome W)) := Lib.hid (fun W h => ron_x v fs o.car o.num o.day W (HV.out.more h) ot.len (fun f hf => Nat.le_trans (ot.lg f hf) (by omega)) (by rw [hod]; exact hd.1) (by rw [hod]; exact hd.2))
  have HOT := Lib.hid ot
  have HOP := Lib.hid op
  have H1 := Lib.hid h1
  have HD := Lib.hid (show -9223372036854775808 ≤ o.day ∧ o.day ≤ 9223372036854775807 by rw [hod]; exact hd)
  clear hN hM hb0 hv hL hs op ot h1 hod ho hd hB
  have hS : SW w5 w5 := Below.refl _ _
  go_upto_region 2 with (go_at_call 22; refine (KO.out _ hS).mono ?_; rintro e w3 ⟨rfl, hS3⟩)
  clear m0 m1 m2 m3 m4 m5 m6 hS
  have hb3 := bel_alloc w3 (.cells #[.string o.car, .int .i64 o.num, .int .i64 o.day, .string o.f, .string o.t, .int .i64 o.dep, .int .i64 o.arr] segT)
  have hS4 : SW w5 (w3.alloc (.cells #[.string o.car, .int .i64 o.num, .int .i64 o.day, .string o.f, .string o.t, .int .i64 o.dep, .int .i64 o.arr] segT)) := Below.trans hS3 (Below.mono hb3 hS3.size)
  have q0 := (cells_new w3 #[.string o.car, .int .i64 o.num, .int .i64 o.day, .string o.f, .string o.t, .int .i64 o.dep, .int .i64 o.arr] segT 0).trans (show _ = some (Value.string o.car) from rfl)
  have q1 := (cells_new w3 #[.string o.car, .int .i64 o.num, .int .i64 o.day, .string o.f, .string o.t, .int .i64 o.dep, .int .i64 o.arr] segT 1).trans (show _ = some (Value.int .i64 o.num) from rfl)
  have q2 := (cells_new w3 #[.string o.car, .int .i64 o.num, .int .i64 o.day, .string o.f, .string o.t, .int .i64 o.dep, .int .i64 o.arr] segT 2).trans (show _ = some (Value.int .i64 o.day) from rfl)
  have q3 := (cells_new w3 #[.string o.car, .int .i64 o.num, .int .i64 o.day, .string o.f, .string o.t, .int .i64 o.dep, .int .i64 o.arr] segT 3).trans (show _ = some (Value.string o.f) from rfl)
  have q4 := (cells_new w3 #[.string o.car, .int .i64 o.num, .int .i64 o.day, .string o.f, .string o.t, .int .i64 o.dep, .int .i64 o.arr] segT 4).trans (show _ = some (Value.string o.t) from rfl)
  have q5 := (cells_new w3 #[.string o.car, .int .i64 o.num, .int .i64 o.day, .string o.f, .string o.t, .int .i64 o.dep, .int .i64 o.arr] segT 5).trans (show _ = some (Value.int .i64 o.dep) from rfl)
  have q6 := (cells_new w3 #[.string o.car, .int .i64 o.num, .int .i64 o.day, .string o.f, .string o.t, .int .i64 o.dep, .int .i64 o.arr] segT 6).trans (show _ = some (Value.int .i64 o.arr) from rfl)
  generalize hB3 : w3.heap.size = B3 at *
  generalize hw4 : w3.alloc (.cells #[.string o.car, .int .i64 o.num, .int .i64 o.day, .string o.f, .string o.t, .int .i64 o.dep, .int .i64 o.arr] segT) = w4 at *
  clear hw4 hb3 hB3 hS3
  have HWB : Hid (∀ W, SW w5 W → Below w.heap.size w W) := Lib.hid (fun W h => HB0.out.trans (Below.mono h HB0.out.size))
  have KN := Lib.hid (KN.out _ hS4)
  cases hon : onF fs o.car o.num o.day with
  | none =>
    rw [hon] at KN
    have HR : Hid (CvR (fun f e I => RPathR p.l f o e I) fs o 7 []) := Lib.hid (.inl ⟨hon, rfl, rfl⟩)
    clear hon
    go_upto_region 3 with (go_at_call 47; refine KN.out.mono ?_; rintro e w6 ⟨X, A6, c6, rfl, HXX, hG6, hb6⟩; have hst := store_fli HXX w6; have hx6 : X.size = 6 := by rw [HXX.out]; rfl)
    have HW7 := Lib.hid (HWB.out _ (Below.trans hS4 (Below.mono (Below.trans hb6 (Below.mono (bel_alloc w6 (.cells X fliT)) hb6.size)) hS4.size)))
    clear q0 q1 q2 q3 q4 q5 q6 hst
    go_wp2
    refine bodyPost_ret (results_tmp2 rfl _ _ _) rfl ?_
    exact PathPost.mk _ _ [] rfl ⟨none, 0, rfl, .inl rfl⟩ HR HW7.out
  | some f =>
    rw [hon] at KN
    have hfm := List.mem_of_find?_eq_some hon
    have hpl := HOP.out (by intro e; rw [e] at hfm; cases hfm)
    have HR : Hid (∀ er I, RPathR p.l f o er I → CvR (fun f e I => RPathR p.l f o e I) fs o er I) := Lib.hid (fun er I h => .inr ⟨f, hon, h⟩)
    have HFM := Lib.hid hfm
    have HPL := Lib.hid hpl
    clear hon hfm hpl
    simp only [Option.getD_some, Option.isSome_some] at KN
    go_upto_region 3 with (go_at_call 47; refine KN.out.mono ?_; rintro e w6 ⟨X, A6, c6, rfl, HXX, hG6, hb6⟩; have hst := store_fli HXX w6; have hx6 : X.size = 6 := by rw [HXX.out]; rfl)
    have hbx := bel_alloc w6 (.cells X fliT)
    have hS7 : SW w5 (w6.alloc (.cells X fliT)) := Below.trans hS4 (Below.mono (Below.trans hb6 (Below.mono hbx hb6.size)) hS4.size)
    have q0 := bel_cell hbx (bel_cell hb6 q0)
    have q1 := bel_cell hbx (bel_cell hb6 q1)
    have q2 := bel_cell hbx (bel_cell hb6 q2)
    have q3 := bel_cell hbx (bel_cell hb6 q3)
    have q4 := bel_cell hbx (bel_cell hb6 q4)
    have q5 := bel_cell hbx (bel_cell hb6 q5)
    have q6 := bel_cell hbx (bel_cell hb6 q6)
    have hX := HXX.out
    have r0 := (cells_new w6 X fliT 0).trans (show _ = some (Value.string f.car) from by rw [hX]; rfl)
    have r1 := (cells_new w6 X fliT 1).trans (show _ = some (Value.int .i64 f.num) from by rw [hX]; rfl)
    have r2 := (cells_new w6 X fliT 2).trans (show _ = some (Value.int .i64 f.pf) from by rw [hX]; rfl)
    have r3 := (cells_new w6 X fliT 3).trans (show _ = some (Value.int .i64 f.pt) from by rw [hX]; rfl)
    have r4 := (cells_new w6 X fliT 4).trans (show _ = some (Value.int .i64 f.pd) from by rw [hX]; rfl)
    have r5 := (cells_new w6 X fliT 5).trans (show _ = some (Value.slice A6 f.lg.length c6) from by rw [hX]; rfl)
    have HG7 := Lib.hid (hG6.more hbx)
    generalize hB6 : w6.heap.size = B6 at *
    generalize hw7 : w6.alloc (.cells X fliT) = w7 at *
    clear hX HXX hst hbx hb6 hG6 hB6 hw7 hS4 KN
    have f0 := F0.out _ hS7
    have f1 := F1.out _ hS7
    have KP : Hid (Calls Tryz.prog 54 #[encP p, .agg #[.string f.car, .int .i64 f.num, .int .i64 f.pf, .int .i64 f.pt, .int .i64 f.pd, .slice A6 f.lg.length c6], encS7 o] w7 fun e w' => PathPost (RPathR p.l f o) w7 w' e) := Lib.hid (rpath_any p (f.re A6 c6) o w7 HPL.out.la (HL.out.more hS7)  HPL.out.oz HG7.out (HOT.out.lg f HFM.out) (HOT.out.hm f HFM.out) HD.out.1 HD.out.2)
    go_wp2_with (go_at_call 54; refine KP.out.mono ?_; rintro e w8 ⟨v8, er, I8, rfl, hI8, hR8, hb8⟩)
    refine bodyPost_ret (results_tmp2 rfl _ _ _) rfl ?_
    exact PathPost.mk _ _ _ rfl hI8 (Lib.hid (HR.out _ _ hR8.out)) (HWB.out _ (Below.trans hS7 (Below.mono hb8 hS7.size)))
end Go.Proofs.YtdpcjafkahhecaaGreatDoor
