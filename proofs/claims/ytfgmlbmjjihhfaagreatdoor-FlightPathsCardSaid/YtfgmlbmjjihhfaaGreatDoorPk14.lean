/- Words and walks that the laws below ask: PthA, PthB, PthC, CovP, CovL. -/
import Derived.Shelf.Abstract
import Derived.Deep.LoopGhost
import Derived.Test.YtfgmlbmjjihhfaaGreatDoorPk10
import Derived.Test.YtfgmlbmjjihhfaaGreatDoorPk13
/- Walks of slices.IndexFunc over legs on a day, and of covered. -/
namespace Go.Proofs.YtfgmlbmjjihhfaaGreatDoor
open Go.RowKit Go.Shelf
set_option linter.unusedSimpArgs false
set_option linter.unusedVariables false

abbrev encD8 (d : Dt) : Value := .agg #[.string d.car, .int .i64 d.num, .int .i64 d.day, .string d.f, .string d.t, .int .i64 d.dep, .int .i64 d.arr, .string d.eq]
/-- r is the first place at which p is true, or -1 -/
def IdxR (p : Dt → Bool) (L : List Dt) (r : Int) : Prop := (r = -1 ∧ ∀ x ∈ L, p x = false) ∨ (∃ (k : Nat) (y : Dt), r = (k : Int) ∧ L[k]? = some y ∧ p y = true ∧ ∀ (j : Nat) (z : Dt), j < k → L[j]? = some z → p z = false)
set_option maxHeartbeats 4000000 in
set_option maxRecDepth 100000 in
theorem indexD_any (g : Nat) (cb : Array Value) (b o c n : Nat) (L : List Dt) (p : Dt → Bool) (w : World) (eg : ∀ args w, (callFunc g args).run Tryz.prog w = .ok (.enter g args) w) (hl : L.length ≤ 1000) (hnL : n = L.length)
    (hc : b < w.heap.size ∧ ∀ (k : Nat) (y : Dt) j u, L[k]? = some y → (encDt y)[j]? = some u → w.cell? ⟨b, o + k * 8 + j, none⟩ = some u)
    (hf : ∀ (a : Dt) (W : World), a ∈ L → Below w.heap.size w W → Calls Tryz.prog g (#[encD8 a] ++ cb) W fun e w' => e = .returned (.bool (p a)) ∧ Below W.heap.size W w') :
    Calls Tryz.prog 132 #[.slice (some ⟨b, o, none⟩) n c, .func (.func g) #[] cb] w fun e w' => ∃ r : Int, e = .returned (.int .i64 r) ∧ Hid (IdxR p L r) ∧ Below w.heap.size w w' := by
  have HF := Lib.hid hf
  have HC := Lib.hid hc
  subst hnL
  clear hf hc
  go_enter Tryz.func132, Tryz.ntmps132
  go_wp2
  go_loopw [8] (fun vi wr => ∃ k : Nat, k ≤ L.length ∧ vi = .int .i64 k ∧ Hid (∀ (j : Nat) (z : Dt), j < k → L[j]? = some z → p z = false) ∧ Below w.heap.size w wr) (fun vi _ => L.length - (intOf vi).toNat)
  case atStart => exact ⟨0, Nat.zero_le _, rfl, Lib.hid (fun j z h => by omega), Below.refl _ _⟩
  case round =>
    obtain ⟨k, hk, rfl, HK, hb⟩ := hrel
    by_cases hlt : k < L.length
    · obtain ⟨y, hy⟩ : ∃ y, L[k]? = some y := ⟨_, List.getElem?_eq_getElem hlt⟩
      have hcc := fun j u hu => (hb.cell (p := ⟨b, o + k * 8 + j, none⟩) HC.out.1).trans (HC.out.2 k y j u hy hu)
      have z0 := hcc 0 _ rfl
      have z1 := hcc 1 _ rfl
      have z2 := hcc 2 _ rfl
      have z3 := hcc 3 _ rfl
      have z4 := hcc 4 _ rfl
      have z5 := hcc 5 _ rfl
      have z6 := hcc 6 _ rfl
      have z7 := hcc 7 _ rfl
      rw [Nat.add_zero] at z0
      have i2 : (k : Int) < (L.length : Int) := by omega
      have hcl := HF.out y wr (List.mem_of_getElem? hy) hb
      have HY := Lib.hid hy
      clear hcc hy
      cases hp : p y <;> rw [hp] at hcl
      · have HK2 : Hid (∀ (j : Nat) (z : Dt), j < k + 1 → L[j]? = some z → p z = false) := Lib.hid (fun j z hj hz => by
          by_cases e : j = k
          · subst e; rw [HY.out] at hz; cases hz; exact hp
          · exact HK.out j z (by omega) hz)
        clear hp
        go_wp2_with (refine hcl.mono ?_; rintro e w' ⟨rfl, hb'⟩)
        go_roundw
        case rel => exact ⟨k + 1, by omega, by go_num, HK2, hb.trans (hb'.mono hb.size)⟩
        case measure => simp [intOf]; omega
      · have HR : Hid (IdxR p L (k : Int)) := Lib.hid (.inr ⟨k, y, rfl, HY.out, hp, HK.out⟩)
        clear hp
        go_wp2_with (refine hcl.mono ?_; rintro e w' ⟨rfl, hb'⟩)
        go_ret
        exact ⟨_, rfl, HR, hb.trans (hb'.mono hb.size)⟩
    · have HR : Hid (IdxR p L (-1)) := Lib.hid (.inl ⟨rfl, fun x hx => by
        obtain ⟨j, hj⟩ := List.getElem?_of_mem hx
        exact HK.out j x (by have := (List.getElem?_eq_some_iff.1 hj).1; omega) hj⟩)
      go_wp2
      go_ret
      exact ⟨-1, rfl, HR, hb⟩

set_option maxHeartbeats 400000 in
theorem cov1_any (d : Dt) (s : ByteArray) (B : Nat) (W : World) (z : W.cell? ⟨B, 0, none⟩ = some (.string s)) :
    Calls Tryz.prog 133 #[encD8 d, .pointer (some ⟨B, 0, none⟩)] W fun e w' => e = .returned (.bool (d.f.toList == s.toList)) ∧ Below W.heap.size W w' := by
  have hlt := World.block_lt_of_cell? _ _ z
  have z' := (Below.cell (bel_alloc W (.cells #[.string d.car, .int .i64 d.num, .int .i64 d.day, .string d.f, .string d.t, .int .i64 d.dep, .int .i64 d.arr, .string d.eq] datT)) (p := ⟨B, 0, none⟩) hlt).trans z
  go_enter Tryz.func133, Tryz.ntmps133
  go_wp2
  go_ret
  exact ⟨rfl, bel_alloc _ _⟩
set_option maxHeartbeats 400000 in
theorem cov2_any (d : Dt) (s : ByteArray) (B : Nat) (W : World) (z : W.cell? ⟨B, 0, none⟩ = some (.string s)) :
    Calls Tryz.prog 134 #[encD8 d, .pointer (some ⟨B, 0, none⟩)] W fun e w' => e = .returned (.bool (d.t.toList == s.toList)) ∧ Below W.heap.size W w' := by
  have hlt := World.block_lt_of_cell? _ _ z
  have z' := (Below.cell (bel_alloc W (.cells #[.string d.car, .int .i64 d.num, .int .i64 d.day, .string d.f, .string d.t, .int .i64 d.dep, .int .i64 d.arr, .string d.eq] datT)) (p := ⟨B, 0, none⟩) hlt).trans z
  go_enter Tryz.func134, Tryz.ntmps134
  go_wp2
  go_ret
  exact ⟨rfl, bel_alloc _ _⟩
theorem eg_cov1 : ∀ args w, (callFunc 133 args).run Tryz.prog w = .ok (.enter 133 args) w := enters_of Tryz.func133 (by kernel_rfl) rfl
theorem eg_cov2 : ∀ args w, (callFunc 134 args).run Tryz.prog w = .ok (.enter 134 args) w := enters_of Tryz.func134 (by kernel_rfl) rfl

/-- R are the legs from the first that departs at fr on, up to the first of them that arrives at tt; none if there is none -/
def CovR (L : List Dt) (fr tt : ByteArray) (R : List Dt) : Prop :=
  (R = [] ∧ ((∀ x ∈ L, (x.f.toList == fr.toList) = false) ∨ ∃ (i : Nat) (a : Dt), L[i]? = some a ∧ (a.f.toList == fr.toList) = true ∧ (∀ (j : Nat) (z : Dt), j < i → L[j]? = some z → (z.f.toList == fr.toList) = false) ∧ ∀ x ∈ L.drop i, (x.t.toList == tt.toList) = false))
  ∨ ∃ (i k : Nat) (a y : Dt), L[i]? = some a ∧ (a.f.toList == fr.toList) = true ∧ (∀ (j : Nat) (z : Dt), j < i → L[j]? = some z → (z.f.toList == fr.toList) = false) ∧ (L.drop i)[k]? = some y ∧ (y.t.toList == tt.toList) = true ∧ (∀ (j : Nat) (z : Dt), j < k → (L.drop i)[j]? = some z → (z.t.toList == tt.toList) = false) ∧ R = (L.drop i).take (k + 1)

end Go.Proofs.YtfgmlbmjjihhfaaGreatDoor

/- Walk of covered. -/
namespace Go.Proofs.YtfgmlbmjjihhfaaGreatDoor
open Go.RowKit Go.Shelf
set_option linter.unusedSimpArgs false
set_option linter.unusedVariables false

theorem sw_str {w5 : World} {a : Addr} {s : ByteArray} (h : w5.cell? a = some (.string s)) (W : World) (hS : SW w5 W) : W.cell? a = some (.string s) := bel_get h W hS
theorem RowL.dropL {w : World} {b o c n i m c' : Nat} {L : List Dt} (h : RowL 8 encDt w (.slice (some ⟨b, o, none⟩) n c) L) (hi : i < L.length) (hm : m = (L.drop i).length) : RowL 8 encDt w (.slice (some ⟨b, o + i * 8, none⟩) m c') (L.drop i) := by
  subst hm
  refine ⟨_, c', rfl, .inr ⟨b, o + i * 8, rfl, ?_, fun k y j u hk hu => ?_⟩⟩
  · obtain ⟨b', o', e, hb, _⟩ := RowL.at8 h (List.getElem?_eq_getElem hi)
    cases e
    exact hb
  · exact RowL.dropAt h i hk j u hu
theorem RowL.takeL {w : World} {b o c n m c' : Nat} {L : List Dt} (h : RowL 8 encDt w (.slice (some ⟨b, o, none⟩) n c) L) (k : Nat) (hk : m = (L.take k).length) : RowL 8 encDt w (.slice (some ⟨b, o, none⟩) m c') (L.take k) := by
  subst hk
  obtain ⟨A, c1, e, h⟩ := h
  cases e
  refine ⟨_, c', rfl, ?_⟩
  rcases h with h | ⟨b', o', e, hlt, hc⟩
  · exact .inl (by simp [h])
  · cases e
    refine .inr ⟨b, o, rfl, hlt, fun i x j u hi hu => hc i x j u ?_ hu⟩
    rw [List.getElem?_take] at hi
    split at hi
    · exact hi
    · cases hi

set_option maxRecDepth 100000 in
set_option maxHeartbeats 8000000 in
theorem covered_any (b o c : Nat) (L : List Dt) (fr tt : ByteArray) (w : World) (hl : L.length ≤ 1000) (hcap : L.length ≤ c) (hv : RowL 8 encDt w (.slice (some ⟨b, o, none⟩) L.length c) L) (hb : b < w.heap.size) :
    Calls Tryz.prog 77 #[.slice (some ⟨b, o, none⟩) L.length c, .string fr, .string tt] w fun e w' => ∃ v R, e = .returned v ∧ RowL 8 encDt w' v R ∧ Hid (CovR L fr tt R) ∧ Below w.heap.size w w' := by
  have hb1 := bel_alloc w (.cells #[.string fr] 9)
  have hb2 := bel_alloc (w.alloc (.cells #[.string fr] 9)) (.cells #[.string tt] 9)
  have hb0 := hb1.trans (hb2.mono hb1.size)
  have p0 := bel_cell hb2 ((cells_new w #[.string fr] 9 0).trans (show _ = some (Value.string fr) from rfl))
  have q0 := (cells_new (w.alloc (.cells #[.string fr] 9)) #[.string tt] 9 0).trans (show _ = some (Value.string tt) from rfl)
  rw [World.size_alloc] at q0
  have HV := Lib.hid (hv.more hb0)
  have hbl : b < ((w.alloc (.cells #[.string fr] 9)).alloc (.cells #[.string tt] 9)).heap.size := Nat.lt_of_lt_of_le hb hb0.size
  clear hv hb
  go_enter Tryz.func77, Tryz.ntmps77
  go_upto_region 1 with (fail)
  generalize hw5 : (w.alloc (.cells #[.string fr] 9)).alloc (.cells #[.string tt] 9) = w5 at *
  clear hw5 hb1 hb2
  have f0 := bel_get p0
  have g0 := bel_get q0
  have K1 := Lib.hid (indexD_any 133 #[.pointer (some ⟨w.heap.size, 0, none⟩)] b o c L.length L (fun d => d.f.toList == fr.toList) w5 eg_cov1 hl rfl ⟨hbl, fun k y j u hk hu => by
    obtain ⟨b', o', e, _, hc⟩ := RowL.at8 HV.out hk
    cases e
    exact hc j u hu⟩ (fun a W ha hW => cov1_any a fr _ W (f0 W hW)))
  clear p0 q0
  go_upto_region 2 with (go_at_call 132; refine K1.out.mono ?_; rintro e w1 ⟨r, rfl, hr, hS⟩)
  have hS : SW w5 w1 := hS
  rcases hr.out with ⟨hr1, hno⟩ | ⟨i, a, hri, hia, hpa, hfst⟩
  · subst hr1
    have HR : Hid (CovR L fr tt []) := Lib.hid (.inl ⟨rfl, .inl hno⟩)
    clear hno hr
    go_wp2
    go_ret
    exact ⟨_, [], rfl, ⟨none, 0, rfl, .inl rfl⟩, HR, hb0.trans (Below.mono hS hb0.size)⟩
  · subst hri
    have hil := (List.getElem?_eq_some_iff.1 hia).1
    have i1 : ¬ (i : Int) < 0 := by omega
    have i2 : (i : Int) < (L.length : Int) := by omega
    have i3 : (i : Int) ≤ (c : Int) := by omega
    have i4 : (L.length : Int) ≤ (c : Int) := by omega
    have i5 : (i : Int) ≤ (L.length : Int) := by omega
    have i6 : i < c := by omega
    have i7 : (i : Int) < (c : Int) := by omega
    have i8 : ¬ (c : Int) = (i : Int) := by omega
    have i9 : ¬ c = i := by omega
    have ib : i ≤ 1000 := by omega
    have HA := Lib.hid (And.intro hia (And.intro hpa hfst))
    have HVD : Hid (∀ m c' W, SW w5 W → m = (L.drop i).length → RowL 8 encDt W (.slice (some ⟨b, o + i * 8, none⟩) m c') (L.drop i)) := Lib.hid (fun m c' W h hm => RowL.dropL (HV.out.more h) hil hm)
    have HDL : Hid ((L.drop i).length = L.length - i) := Lib.hid (by rw [List.length_drop])
    have K2 := Lib.hid (fun c' => indexD_any 134 #[.pointer (some ⟨w.heap.size + 1, 0, none⟩)] b (o + i * 8) c' (L.length - i) (L.drop i) (fun d => d.t.toList == tt.toList) w1 eg_cov2 (by rw [List.length_drop]; omega) HDL.out.symm ⟨Nat.lt_of_lt_of_le hbl hS.size, fun k y j u hk hu => RowL.dropAt (HV.out.more hS) i hk j u hu⟩ (fun a W ha hW => cov2_any a tt _ W (g0 W (Below.trans hS (Below.mono hW hS.size)))))
    clear hia hpa hfst hr
    go_upto_region 6 with (go_at_call 132; refine (K2.out _).mono ?_; rintro e w2 ⟨r2, rfl, hr2, hS2⟩)
    have hS3 : SW w5 w2 := Below.trans hS (Below.mono hS2 hS.size)
    rcases hr2.out with ⟨hr1, hno⟩ | ⟨k, y, hrk, hky, hpy, hfk⟩
    · subst hr1
      have HR : Hid (CovR L fr tt []) := Lib.hid (.inl ⟨rfl, .inr ⟨i, a, HA.out.1, HA.out.2.1, HA.out.2.2, hno⟩⟩)
      clear hno hr2
      go_wp2
      go_ret
      exact ⟨_, [], rfl, ⟨_, _, rfl, .inl rfl⟩, HR, hb0.trans (Below.mono hS3 hb0.size)⟩
    · subst hrk
      have hkl := (List.getElem?_eq_some_iff.1 hky).1
      have HR : Hid (CovR L fr tt ((L.drop i).take (k + 1))) := Lib.hid (.inr ⟨i, k, a, y, HA.out.1, HA.out.2.1, HA.out.2.2, hky, hpy, hfk, rfl⟩)
      have hkl2 : k < L.length - i := by rw [← HDL.out]; exact hkl
      have HTL : Hid (k + 1 = ((L.drop i).take (k + 1)).length) := Lib.hid (by rw [List.length_take, HDL.out]; omega)
      have j1 : (k : Int) + 1 ≤ ((c - i : Nat) : Int) := by omega
      have j2 : (0 : Int) ≤ (k : Int) + 1 := by omega
      have j3 : k + 1 ≤ c - i := by omega
      have kb : k ≤ 1000 := by omega
      clear hky hpy hfk hr2 hkl
      go_wp2
      go_ret
      exact ⟨_, _, rfl, RowL.takeL (HVD.out (L.length - i) (c - i) _ hS3 HDL.out.symm) (k + 1) HTL.out, HR, hb0.trans (Below.mono hS3 hb0.size)⟩

end Go.Proofs.YtfgmlbmjjihhfaaGreatDoor

/- Walk of flight.Path. -/
namespace Go.Proofs.YtfgmlbmjjihhfaaGreatDoor
open Go.RowKit Go.Shelf
set_option linter.unusedSimpArgs false
set_option linter.unusedVariables false

/-- the name of a leg on a day -/
structure Idd where
  car : ByteArray
  num : Int
  day : Int
  f : ByteArray
abbrev iddT : TypeId := 55
def encI (d : Idd) : List Value := [.string d.car, .int .i64 d.num, .int .i64 d.day, .string d.f]
theorem rtI : RT Tryz.prog 49 iddT 4 encI where
  ht := Tryz.underlying49
  info := ⟨.agg #[.string noB, .int .i64 0, .int .i64 0, .string noB], 48, by kernel_rfl, rfl, by omega⟩
  len x := rfl
  one x u hu := by simp [encI] at hu; rcases hu with rfl | rfl | rfl | rfl <;> rfl
  pos := by omega
def idOf (d : Dt) : Idd := ⟨d.car, d.num, d.day, d.f⟩
/-- what Path returns: the error e and the names I -/
def PathR (l : List Air) (f : FV) (s : Sg) (e : Int) (I : List Idd) : Prop :=
  (((s.car.toList == f.car.toList) = false ∨ s.num ≠ f.num) ∧ e = 7 ∧ I = [])
  ∨ ((s.car.toList == f.car.toList) = true ∧ s.num = f.num ∧ legE f s.day ≠ 0 ∧ e = legE f s.day ∧ I = [])
  ∨ ((s.car.toList == f.car.toList) = true ∧ s.num = f.num ∧ legE f s.day = 0 ∧ ∃ R, CovR (legF l f s.day) s.f s.t R ∧
      ((R = [] ∧ e = 14 ∧ I = []) ∨ (∃ a z : Dt, R[0]? = some a ∧ R[R.length - 1]? = some z ∧ (((s.dep ≠ a.dep ∨ s.arr ≠ z.arr) ∧ e = 13 ∧ I = []) ∨ (s.dep = a.dep ∧ s.arr = z.arr ∧ e = 0 ∧ I = R.map idOf)))))

theorem CovR.len {L : List Dt} {fr tt : ByteArray} {R : List Dt} (h : CovR L fr tt R) : R.length ≤ L.length := by
  rcases h with ⟨h, _⟩ | ⟨i, k, a, y, _, _, _, _, _, _, h⟩
  · rw [h]; simp
  · rw [h, List.length_take, List.length_drop]; omega
def PathPost (PR : Int → List Idd → Prop) (w w' : World) (e : Ending) : Prop := ∃ v er I, e = .returned (.tuple #[v, .int .i64 er]) ∧ RowL 4 encI w' v I ∧ Hid (PR er I) ∧ Below w.heap.size w w'
theorem PathPost.mk {PR : Int → List Idd → Prop} {w w' : World} {e : Ending} (v : Value) (er : Int) (I : List Idd) (he : e = .returned (.tuple #[v, .int .i64 er])) (h1 : RowL 4 encI w' v I) (h2 : Hid (PR er I)) (h3 : Below w.heap.size w w') : PathPost PR w w' e := ⟨v, er, I, he, h1, h2, h3⟩
theorem ROwn.formD {B : Nat} {w : World} {v : Value} {L : List Dt} (h : ROwn datT 8 encDt B w v L) (hne : L ≠ []) : ∃ g cap, v = .slice (some ⟨g, 0, none⟩) L.length cap ∧ B ≤ g ∧ g < w.heap.size :=
  h.own.form (by cases L with | nil => exact absurd rfl hne | cons x r => simp [cellsR, encDt])
set_option maxRecDepth 100000 in
set_option maxHeartbeats 8000000 in
theorem path_any (p : PV) (f : FV) (s : Sg) (w : World) (hl : p.l.length ≤ 40) (hL : AirL w p.A p.l) (hs : ∀ a ∈ p.l, a.shs.length ≤ 300) (hz : ∀ a ∈ p.l, OkZ a.off a.shs) (hG : LegL w (.slice f.A f.lg.length f.c) f.lg) (hn : f.lg.length ≤ 100) (hn1 : 1 ≤ f.lg.length)
    (hm : ∀ x ∈ f.lg, (-1000000 ≤ x.dep ∧ x.dep ≤ 1000000) ∧ -1000000 ≤ x.arr ∧ x.arr ≤ 1000000) (hd1 : -9223372036854775808 ≤ s.day) (hd2 : s.day ≤ 9223372036854775807) :
    Calls Tryz.prog 24 #[encP p, encFl f, encS7 s] w fun e w' => PathPost (PathR p.l f s) w w' e := by
  have hb1 := bel_alloc w (.cells #[.slice p.A p.l.length p.ca, .slice p.D p.ds.length p.cd] placesT)
  have hb2 := bel_alloc (w.alloc (.cells #[.slice p.A p.l.length p.ca, .slice p.D p.ds.length p.cd] placesT)) (.cells #[.string f.car, .int .i64 f.num, .int .i64 f.pf, .int .i64 f.pt, .int .i64 f.pd, .slice f.A f.lg.length f.c] fliT)
  have hb3 := bel_alloc ((w.alloc (.cells #[.slice p.A p.l.length p.ca, .slice p.D p.ds.length p.cd] placesT)).alloc (.cells #[.string f.car, .int .i64 f.num, .int .i64 f.pf, .int .i64 f.pt, .int .i64 f.pd, .slice f.A f.lg.length f.c] fliT)) (.cells #[.string s.car, .int .i64 s.num, .int .i64 s.day, .string s.f, .string s.t, .int .i64 s.dep, .int .i64 s.arr] segT)
  have hb0 : Below w.heap.size w (((w.alloc (.cells #[.slice p.A p.l.length p.ca, .slice p.D p.ds.length p.cd] placesT)).alloc (.cells #[.string f.car, .int .i64 f.num, .int .i64 f.pf, .int .i64 f.pt, .int .i64 f.pd, .slice f.A f.lg.length f.c] fliT)).alloc (.cells #[.string s.car, .int .i64 s.num, .int .i64 s.day, .string s.f, .string s.t, .int .i64 s.dep, .int .i64 s.arr] segT)) := hb1.trans ((hb2.mono hb1.size).trans (hb3.mono (Nat.le_trans hb1.size hb2.size)))
  have p0 := bel_cell hb3 (bel_cell hb2 ((cells_new w #[.slice p.A p.l.length p.ca, .slice p.D p.ds.length p.cd] placesT 0).trans (show _ = some (Value.slice p.A p.l.length p.ca) from rfl)))
  have p1 := bel_cell hb3 (bel_cell hb2 ((cells_new w #[.slice p.A p.l.length p.ca, .slice p.D p.ds.length p.cd] placesT 1).trans (show _ = some (Value.slice p.D p.ds.length p.cd) from rfl)))
  have q0 := bel_cell hb3 ((cells_new (w.alloc (.cells #[.slice p.A p.l.length p.ca, .slice p.D p.ds.length p.cd] placesT)) #[.string f.car, .int .i64 f.num, .int .i64 f.pf, .int .i64 f.pt, .int .i64 f.pd, .slice f.A f.lg.length f.c] fliT 0).trans (show _ = some (Value.string f.car) from rfl))
  have q1 := bel_cell hb3 ((cells_new (w.alloc (.cells #[.slice p.A p.l.length p.ca, .slice p.D p.ds.length p.cd] placesT)) #[.string f.car, .int .i64 f.num, .int .i64 f.pf, .int .i64 f.pt, .int .i64 f.pd, .slice f.A f.lg.length f.c] fliT 1).trans (show _ = some (Value.int .i64 f.num) from rfl))
  have q2 := bel_cell hb3 ((cells_new (w.alloc (.cells #[.slice p.A p.l.length p.ca, .slice p.D p.ds.length p.cd] placesT)) #[.string f.car, .int .i64 f.num, .int .i64 f.pf, .int .i64 f.pt, .int .i64 f.pd, .slice f.A f.lg.length f.c] fliT 2).trans (show _ = some (Value.int .i64 f.pf) from rfl))
  have q3 := bel_cell hb3 ((cells_new (w.alloc (.cells #[.slice p.A p.l.length p.ca, .slice p.D p.ds.length p.cd] placesT)) #[.string f.car, .int .i64 f.num, .int .i64 f.pf, .int .i64 f.pt, .int .i64 f.pd, .slice f.A f.lg.length f.c] fliT 3).trans (show _ = some (Value.int .i64 f.pt) from rfl))
  have q4 := bel_cell hb3 ((cells_new (w.alloc (.cells #[.slice p.A p.l.length p.ca, .slice p.D p.ds.length p.cd] placesT)) #[.string f.car, .int .i64 f.num, .int .i64 f.pf, .int .i64 f.pt, .int .i64 f.pd, .slice f.A f.lg.length f.c] fliT 4).trans (show _ = some (Value.int .i64 f.pd) from rfl))
  have q5 := bel_cell hb3 ((cells_new (w.alloc (.cells #[.slice p.A p.l.length p.ca, .slice p.D p.ds.length p.cd] placesT)) #[.string f.car, .int .i64 f.num, .int .i64 f.pf, .int .i64 f.pt, .int .i64 f.pd, .slice f.A f.lg.length f.c] fliT 5).trans (show _ = some (Value.slice f.A f.lg.length f.c) from rfl))
  have s0 := (cells_new ((w.alloc (.cells #[.slice p.A p.l.length p.ca, .slice p.D p.ds.length p.cd] placesT)).alloc (.cells #[.string f.car, .int .i64 f.num, .int .i64 f.pf, .int .i64 f.pt, .int .i64 f.pd, .slice f.A f.lg.length f.c] fliT)) #[.string s.car, .int .i64 s.num, .int .i64 s.day, .string s.f, .string s.t, .int .i64 s.dep, .int .i64 s.arr] segT 0).trans (show _ = some (Value.string s.car) from rfl)
  have s1 := (cells_new ((w.alloc (.cells #[.slice p.A p.l.length p.ca, .slice p.D p.ds.length p.cd] placesT)).alloc (.cells #[.string f.car, .int .i64 f.num, .int .i64 f.pf, .int .i64 f.pt, .int .i64 f.pd, .slice f.A f.lg.length f.c] fliT)) #[.string s.car, .int .i64 s.num, .int .i64 s.day, .string s.f, .string s.t, .int .i64 s.dep, .int .i64 s.arr] segT 1).trans (show _ = some (Value.int .i64 s.num) from rfl)
  have s2 := (cells_new ((w.alloc (.cells #[.slice p.A p.l.length p.ca, .slice p.D p.ds.length p.cd] placesT)).alloc (.cells #[.string f.car, .int .i64 f.num, .int .i64 f.pf, .int .i64 f.pt, .int .i64 f.pd, .slice f.A f.lg.length f.c] fliT)) #[.string s.car, .int .i64 s.num, .int .i64 s.day, .string s.f, .string s.t, .int .i64 s.dep, .int .i64 s.arr] segT 2).trans (show _ = some (Value.int .i64 s.day) from rfl)
  have s3 := (cells_new ((w.alloc (.cells #[.slice p.A p.l.length p.ca, .slice p.D p.ds.length p.cd] placesT)).alloc (.cells #[.string f.car, .int .i64 f.num, .int .i64 f.pf, .int .i64 f.pt, .int .i64 f.pd, .slice f.A f.lg.length f.c] fliT)) #[.string s.car, .int .i64 s.num, .int .i64 s.day, .string s.f, .string s.t, .int .i64 s.dep, .int .i64 s.arr] segT 3).trans (show _ = some (Value.string s.f) from rfl)
  have s4 := (cells_new ((w.alloc (.cells #[.slice p.A p.l.length p.ca, .slice p.D p.ds.length p.cd] placesT)).alloc (.cells #[.string f.car, .int .i64 f.num, .int .i64 f.pf, .int .i64 f.pt, .int .i64 f.pd, .slice f.A f.lg.length f.c] fliT)) #[.string s.car, .int .i64 s.num, .int .i64 s.day, .string s.f, .string s.t, .int .i64 s.dep, .int .i64 s.arr] segT 4).trans (show _ = some (Value.string s.t) from rfl)
  have s5 := (cells_new ((w.alloc (.cells #[.slice p.A p.l.length p.ca, .slice p.D p.ds.length p.cd] placesT)).alloc (.cells #[.string f.car, .int .i64 f.num, .int .i64 f.pf, .int .i64 f.pt, .int .i64 f.pd, .slice f.A f.lg.length f.c] fliT)) #[.string s.car, .int .i64 s.num, .int .i64 s.day, .string s.f, .string s.t, .int .i64 s.dep, .int .i64 s.arr] segT 5).trans (show _ = some (Value.int .i64 s.dep) from rfl)
  have s6 := (cells_new ((w.alloc (.cells #[.slice p.A p.l.length p.ca, .slice p.D p.ds.length p.cd] placesT)).alloc (.cells #[.string f.car, .int .i64 f.num, .int .i64 f.pf, .int .i64 f.pt, .int .i64 f.pd, .slice f.A f.lg.length f.c] fliT)) #[.string s.car, .int .i64 s.num, .int .i64 s.day, .string s.f, .string s.t, .int .i64 s.dep, .int .i64 s.arr] segT 6).trans (show _ = some (Value.int .i64 s.arr) from rfl)
  rw [World.size_alloc] at q0 q1 q2 q3 q4 q5
  rw [World.size_alloc, World.size_alloc] at s0 s1 s2 s3 s4 s5 s6
  have KL := Lib.hid (fun W hA hB => legs_any p f s.day W hl hA hs hz hB hn hm hd1 hd2)
  have HL := Lib.hid (hL.more hb0)
  have HG := Lib.hid (hG.more hb0)
  have HP7 : Hid ((s.car.toList == f.car.toList) = false ∨ s.num ≠ f.num → PathR p.l f s 7 []) := Lib.hid (fun h => .inl ⟨h, rfl, rfl⟩)
  have HPE : Hid ((s.car.toList == f.car.toList) = true → s.num = f.num → legE f s.day ≠ 0 → PathR p.l f s (legE f s.day) []) := Lib.hid (fun h1 h2 h3 => .inr (.inl ⟨h1, h2, h3, rfl, rfl⟩))
  have HPC : Hid ((s.car.toList == f.car.toList) = true → s.num = f.num → legE f s.day = 0 → ∀ R er I, CovR (legF p.l f s.day) s.f s.t R → ((R = [] ∧ er = 14 ∧ I = []) ∨ (∃ a z : Dt, R[0]? = some a ∧ R[R.length - 1]? = some z ∧ (((s.dep ≠ a.dep ∨ s.arr ≠ z.arr) ∧ er = 13 ∧ I = []) ∨ (s.dep = a.dep ∧ s.arr = z.arr ∧ er = 0 ∧ I = R.map idOf)))) → PathR p.l f s er I) := Lib.hid (fun h1 h2 h3 R er I hc h => .inr (.inr ⟨h1, h2, h3, R, hc, h⟩))
  have HLn : Hid ((legF p.l f s.day).length ≤ 100) := Lib.hid (by unfold legF; split <;> simp <;> omega)
  have HL1 : Hid (legE f s.day = 0 → (legF p.l f s.day) ≠ []) := Lib.hid (by
    unfold legE legF
    split
    · intro _ h
      have := congrArg List.length h
      simp at this
      rw [this] at hn1
      simp at hn1
    · intro h; simp at h)
  generalize hLF : legF p.l f s.day = L at *
  generalize legE f s.day = e0 at *
  generalize PathR p.l f s = PR at *
  clear hL hs hz hG hm hd1 hd2 hLF hn1
  go_enter Tryz.func24, Tryz.ntmps24
  go_upto_region 1 with (fail)
  generalize hw5 : ((w.alloc (.cells #[.slice p.A p.l.length p.ca, .slice p.D p.ds.length p.cd] placesT)).alloc (.cells #[.string f.car, .int .i64 f.num, .int .i64 f.pf, .int .i64 f.pt, .int .i64 f.pd, .slice f.A f.lg.length f.c] fliT)).alloc (.cells #[.string s.car, .int .i64 s.num, .int .i64 s.day, .string s.f, .string s.t, .int .i64 s.dep, .int .i64 s.arr] segT) = w5 at *
  clear hw5 hb1 hb2 hb3
  have f0 := bel_get q0
  have f1 := bel_get q1
  have f2 := bel_get q2
  have f3 := bel_get q3
  have f4 := bel_get q4
  have f5 := bel_get q5
  have u0 := bel_get s0
  have u1 := bel_get s1
  have u2 := bel_get s2
  have u3 := bel_get s3
  have u4 := bel_get s4
  have u5 := bel_get s5
  have u6 := bel_get s6
  have y0 := bel_get p0
  have y1 := bel_get p1
  clear p0 p1 q0 q1 q2 q3 q4 q5 s0 s1 s2 s3 s4 s5 s6
  have hS : SW w5 w5 := Below.refl _ _
  have r0 := f0 _ hS
  have r1 := f1 _ hS
  have m0 := u0 _ hS
  have m1 := u1 _ hS
  have m2 := u2 _ hS
  cases hc1 : (s.car.toList == f.car.toList) with
  | false =>
    have HR := Lib.hid (HP7.out (Or.inl hc1))
    go_wp2
    exact bodyPost_ret (results_tmp2 rfl _ _ _) rfl (PathPost.mk _ 7 [] rfl ⟨none, 0, rfl, .inl rfl⟩ HR (hb0))
  | true =>
  cases hc2 : (s.num != f.num) with
  | true =>
    have HR := Lib.hid (HP7.out (Or.inr (by simpa using hc2)))
    go_wp2
    exact bodyPost_ret (results_tmp2 rfl _ _ _) rfl (PathPost.mk _ 7 [] rfl ⟨none, 0, rfl, .inl rfl⟩ HR (hb0))
  | false =>
  have hnum : s.num = f.num := by simpa using hc2
  have HPE2 := Lib.hid (HPE.out hc1 hnum)
  have HPC2 := Lib.hid (HPC.out hc1 hnum)
  have HNUM := Lib.hid hnum
  clear hnum HPE HPC HP7
  have k0 := f0 _ hS
  have k1 := f1 _ hS
  have k2 := f2 _ hS
  have k3 := f3 _ hS
  have k4 := f4 _ hS
  have k5 := f5 _ hS
  have z0 := y0 _ hS
  have z1 := y1 _ hS
  have KL2 := Lib.hid (KL.out w5 HL.out HG.out)
  by_cases he : e0 = 0
  case neg =>
    have heb : (e0 != 0) = true := by simpa using he
    have HR := Lib.hid (HPE2.out he)
    clear he
    go_wp2_with (go_at_call 20; refine KL2.out.mono ?_; rintro e w1 ⟨v1, rfl, hO1, hbl⟩)
    exact bodyPost_ret (results_tmp2 rfl _ _ _) rfl (PathPost.mk _ e0 [] rfl ⟨none, 0, rfl, .inl rfl⟩ HR (hb0.trans (Below.mono hbl hb0.size)))
  case pos =>
  subst he
  have HPC3 := Lib.hid (HPC2.out rfl)
  have HNE := Lib.hid (HL1.out rfl)
  clear HPE2 HPC2 HL1
  go_upto_region 6 with (go_at_call 20; refine KL2.out.mono ?_; rintro e w1 ⟨v1, rfl, hO1, hbl⟩; obtain ⟨b, c, rfl, hB, hblt⟩ := ROwn.formD hO1 HNE.out)
  have hS : SW w5 w1 := hbl
  have hcap := hO1.cap
  have hv1 := hO1.rowL rtD.len
  have KC := Lib.hid (covered_any b 0 c L s.f s.t w1 (by have := HLn.out; omega) hcap hv1 hblt)
  have t3 := u3 _ hS
  have t4 := u4 _ hS
  clear hO1 hbl hv1 hcap hB hblt z0 z1 k0 k1 k2 k3 k4 k5 m0 m1 m2 r0 r1
  go_upto_region 7 with (go_at_call 77; refine KC.out.mono ?_; rintro e w2 ⟨v2, R, rfl, hR, hcov, hb2⟩; obtain ⟨A2, c2, rfl, hvc⟩ := id hR)
  have hS : SW w5 w2 := Below.trans hS (Below.mono hb2 hS.size)
  have hSw : Below w.heap.size w w2 := hb0.trans (Below.mono hS hb0.size)
  have HV := Lib.hid hR
  have HC := Lib.hid (HPC3.out R)
  clear hvc hR hb2 t3 t4
  by_cases hR0 : R = []
  · subst hR0
    have HR := Lib.hid (HC.out 14 [] hcov.out (Or.inl ⟨rfl, rfl, rfl⟩))
    go_wp2
    exact bodyPost_ret (results_tmp2 rfl _ _ _) rfl (PathPost.mk _ 14 [] rfl ⟨none, 0, rfl, .inl rfl⟩ HR (hSw))
  · have hRl : 0 < R.length := List.length_pos_iff.2 hR0
    obtain ⟨a, ha⟩ : ∃ a, R[0]? = some a := ⟨_, List.getElem?_eq_getElem hRl⟩
    obtain ⟨z, hz⟩ : ∃ z, R[R.length - 1]? = some z := ⟨_, List.getElem?_eq_getElem (by omega)⟩
    obtain ⟨g, o, e1, hgl, hca⟩ := RowL.at8 HV.out ha
    cases e1
    obtain ⟨g', o', e1, hgl', hcz⟩ := RowL.at8 HV.out hz
    cases e1
    have i0 : ¬ ((R.length : Int) = 0) := by omega
    have i1 : ((R.length : Int) == 0) = false := by rw [beq_eq_false_iff_ne]; omega
    have i2 : (0 : Int) < (R.length : Int) := by omega
    have i3 : ((R.length : Int) - 1) = ((R.length - 1 : Nat) : Int) := by omega
    have i4 : ((R.length - 1 : Nat) : Int) < (R.length : Int) := by omega
    have hR100 : R.length ≤ 100 := by have := CovR.len hcov.out; have := HLn.out; omega
    have a5 := hca 5 _ rfl
    rw [Nat.zero_mul, Nat.add_zero] at a5
    have a5 := SW.cell a5
    have z6 := SW.cell (hcz 6 _ rfl)
    have t5 := SW.cell (u5 _ hS)
    have t6 := SW.cell (u6 _ hS)
    have HC2 : Hid (∀ er I, (((s.dep ≠ a.dep ∨ s.arr ≠ z.arr) ∧ er = 13 ∧ I = []) ∨ (s.dep = a.dep ∧ s.arr = z.arr ∧ er = 0 ∧ I = R.map idOf)) → PR er I) := Lib.hid (fun er I h => HC.out er I hcov.out (Or.inr ⟨a, z, ha, hz, h⟩))
    clear hca hcz ha hz hR0 HC hcov hRl
    generalize R.length - 1 = last at *
    go_upto_region 9 with fail
    cases hq1 : (s.dep != a.dep) with
    | true =>
      have HR := Lib.hid (HC2.out 13 [] (Or.inl ⟨Or.inl (by simpa using hq1), rfl, rfl⟩))
      have hNe : Nonempty (Wd (SW w2)) := ⟨⟨_, SW.drew _⟩⟩
      refine quietS (S := SW w2) (by kernel_rfl) (by kernel_rfl) (SW.drew _) ?_
      repeat (first | go_big_quiet_skip | (go_big_quiet_want; go_big_quiet_op; first | go_big_quiet_on | go_big_quiet_call ((fail))))
      refine wpQuiet_nil ?_
      rintro W ⟨⟨_, hW⟩, rfl⟩
      go_wp2
      exact bodyPost_ret (results_tmp2 rfl _ _ _) rfl (PathPost.mk _ 13 [] rfl ⟨none, 0, rfl, .inl rfl⟩ HR (hSw.trans (Below.mono hW hSw.size)))
    | false =>
    cases hq2 : (s.arr != z.arr) with
    | true =>
      have HR := Lib.hid (HC2.out 13 [] (Or.inl ⟨Or.inr (by simpa using hq2), rfl, rfl⟩))
      have hNe : Nonempty (Wd (SW w2)) := ⟨⟨_, SW.drew _⟩⟩
      refine quietS (S := SW w2) (by kernel_rfl) (by kernel_rfl) (SW.drew _) ?_
      repeat (first | go_big_quiet_skip | (go_big_quiet_want; go_big_quiet_op; first | go_big_quiet_on | go_big_quiet_call ((fail))))
      refine wpQuiet_nil ?_
      rintro W ⟨⟨_, hW⟩, rfl⟩
      go_wp2
      exact bodyPost_ret (results_tmp2 rfl _ _ _) rfl (PathPost.mk _ 13 [] rfl ⟨none, 0, rfl, .inl rfl⟩ HR (hSw.trans (Below.mono hW hSw.size)))
    | false =>
    have HR := Lib.hid (HC2.out 0 (R.map idOf) (Or.inr ⟨by simpa using hq1, by simpa using hq2, rfl, rfl⟩))
    clear HC2
    have hNe : Nonempty (Wd (SW w2)) := ⟨⟨_, SW.drew _⟩⟩
    refine quietS (S := SW w2) (by kernel_rfl) (by kernel_rfl) (SW.drew _) ?_
    repeat (first | go_big_quiet_skip | (go_big_quiet_want; go_big_quiet_op; first | go_big_quiet_on | go_big_quiet_call ((fail))))
    refine wpQuiet_nil ?_
    rintro W ⟨⟨_, hW⟩, rfl⟩
    have hSW2 : Below w.heap.size w W := hSw.trans (Below.mono hW hSw.size)
    have HVW := Lib.hid (HV.out.more hW)
    clear hq1 hq2 t5 t6 a5 z6 HV hSw hS i3 i4
    go_wp2
    go_loopg [10, 66] R.length (fun kx v10 vi wr => ∃ (v : Value) (k : Nat), v = v10 ∧ vi = .int .i64 k ∧ k + kx = R.length ∧ Hid (ROwn iddT 4 encI W.heap.size wr v ((R.take k).map idOf) ∧ SW W wr))
    case atStart => exact ⟨_, 0, rfl, rfl, by omega, Lib.hid ⟨ROwn.nil (Nat.le_refl _), Below.refl _ _⟩⟩
    case round =>
      obtain ⟨v, k, rfl, rfl, hkx, HH⟩ := hrel
      have HKX := Lib.hid hkx
      have hSr : SW W wr := HH.out.2
      by_cases hlt : k < R.length
      · clear hkx
        obtain ⟨y, hy⟩ : ∃ y, R[k]? = some y := ⟨_, List.getElem?_eq_getElem hlt⟩
        obtain ⟨g2, o2, e1, _, hc⟩ := RowL.at8 (HVW.out.more hSr) hy
        cases e1
        have j2 : (k : Int) < (R.length : Int) := by omega
        have d0 := hc 0 _ rfl
        have d1 := hc 1 _ rfl
        have d2 := hc 2 _ rfl
        have d3 := hc 3 _ rfl
        have d4 := hc 4 _ rfl
        have d5 := hc 5 _ rfl
        have d6 := hc 6 _ rfl
        have d7 := hc 7 _ rfl
        rw [Nat.add_zero] at d0
        have hO := HH.out.1.alloc (.cells #[.string y.car, .int .i64 y.num, .int .i64 y.day, .string y.f, .string y.t, .int .i64 y.dep, .int .i64 y.arr, .string y.eq] datT)
        have hby := bel_alloc wr (.cells #[.string y.car, .int .i64 y.num, .int .i64 y.day, .string y.f, .string y.t, .int .i64 y.dep, .int .i64 y.arr, .string y.eq] datT)
        have hSy : SW W (wr.alloc (.cells #[.string y.car, .int .i64 y.num, .int .i64 y.day, .string y.f, .string y.t, .int .i64 y.dep, .int .i64 y.arr, .string y.eq] datT)) := Below.trans hSr (hby.mono hSr.size)
        have HTk : Hid ((R.take (k + 1)).map idOf = (R.take k).map idOf ++ [(⟨y.car, y.num, y.day, y.f⟩ : Idd)]) := Lib.hid (by rw [List.take_add_one, hy, List.map_append]; rfl)
        have HLn2 : Hid (((R.take k).map idOf).length ≤ 100000000) := Lib.hid (by have := List.length_take_le k R; rw [List.length_map]; omega)
        clear hc hy HH hSr
        go_wp2_with (at_builtin; refine wpList_rapp rtI rfl _ _ rfl hO rfl (bel_alloc _ _) _ (⟨y.car, y.num, y.day, y.f⟩ : Idd) _ rfl (cs := #[.string y.car, .int .i64 y.num, .int .i64 y.day, .string y.f]) rfl (heap_alloc_two _ _ _) HLn2.out ?_; intro v9 w9 hO9 hC9)
        have HY : Hid (ROwn iddT 4 encI W.heap.size w9 v9 ((R.take (k + 1)).map idOf) ∧ SW W w9) := Lib.hid ⟨by rw [HTk.out]; exact hO9, Below.trans hSy (hC9.below hO)⟩
        clear hO9 hC9 hO hSy
        go_roundg (R.length - (k + 1))
        case measure => have := HKX.out; omega
        case rel => exact ⟨_, k + 1, rfl, by go_num, by omega, HY⟩
      · have hk : k = R.length := by omega
        have HZ : Hid (RowL 4 encI wr v (R.map idOf) ∧ Below w.heap.size w wr) := Lib.hid ⟨by
          have h := HH.out.1.rowL rtI.len
          rw [hk, List.take_length] at h
          exact h, hSW2.trans (Below.mono hSr hSW2.size)⟩
        have j2 : ¬ (k : Int) < (R.length : Int) := by omega
        clear HH hkx hk
        go_wp2
        exact bodyPost_ret (results_tmp2 rfl _ _ _) rfl (PathPost.mk v 0 _ rfl HZ.out.1 HR (HZ.out.2))

end Go.Proofs.YtfgmlbmjjihhfaaGreatDoor

/- Plain facts on the segments of a flight without violations, and on the legs that they cover. -/
namespace Go.Proofs.YtfgmlbmjjihhfaaGreatDoor
open Go.RowKit Go.Shelf
set_option linter.unusedSimpArgs false
set_option linter.unusedVariables false

theorem lgs_off {l : List Air} {lg : List Lg} (h : lgsF l lg lg.length = []) {j k : Nat} {x y : Lg} (hk : lg[k]? = some y) (hj : lg[j]? = some x) (hjk : j ≤ k) : (x.f.toList == y.t.toList) = false := by
  have h1 := lgs_next h hk
  unfold nextB at h1
  rw [Bool.and_eq_true, Bool.and_eq_true] at h1
  obtain ⟨_, h2, h3⟩ := h1
  by_cases e : j = k
  · subst e
    rw [hk] at hj
    cases hj
    rw [beq_eq_false_iff_ne]
    intro e2
    rw [e2] at h2
    simp at h2
  · have hm : x ∈ lg.take k := by
      have : (lg.take k)[j]? = some x := by rw [List.getElem?_take, if_pos (by omega)]; exact hj
      exact List.mem_of_getElem? this
    cases hq : (x.f.toList == y.t.toList)
    · rfl
    · have : (lg.take k).any (fun b => b.f.toList == y.t.toList) = true := List.any_eq_true.2 ⟨x, hm, hq⟩
      rw [this] at h3
      simp at h3
theorem beq_lists {a b : List UInt8} (h : (a == b) = true) : a = b := by simpa using h
theorem lgs_fne {l : List Air} {lg : List Lg} (h : lgsF l lg lg.length = []) {j k : Nat} {x y : Lg} (hj : lg[j]? = some x) (hk : lg[k]? = some y) (hjk : j < k) : x.f.toList ≠ y.f.toList := by
  have hlt := (List.getElem?_eq_some_iff.1 hk).1
  obtain ⟨z, hz⟩ : ∃ z, lg[k - 1]? = some z := ⟨_, List.getElem?_eq_getElem (by omega)⟩
  have h1 := lgs_meet h hk (by omega) hz
  have h2 := lgs_off h hz hj (by omega)
  rw [beq_eq_false_iff_ne] at h2
  rw [beq_lists h1]
  exact h2
theorem lgs_tne {l : List Air} {lg : List Lg} (h : lgsF l lg lg.length = []) {j k : Nat} {x y : Lg} (hj : lg[j]? = some x) (hk : lg[k]? = some y) (hjk : j < k) : x.t.toList ≠ y.t.toList := by
  have hlt := (List.getElem?_eq_some_iff.1 hk).1
  obtain ⟨z, hz⟩ : ∃ z, lg[j + 1]? = some z := ⟨_, List.getElem?_eq_getElem (by omega)⟩
  have h1 := lgs_meet h hz (by omega) (y := x) (by simpa using hj)
  have h2 := lgs_off h hk hz (by omega)
  rw [beq_eq_false_iff_ne] at h2
  rw [← beq_lists h1]
  exact h2
theorem idx_uniq {lg : List Lg} (g : Lg → List UInt8) (h : ∀ (j k : Nat) (x y : Lg), lg[j]? = some x → lg[k]? = some y → j < k → g x ≠ g y) {j k : Nat} {x y : Lg} (hj : lg[j]? = some x) (hk : lg[k]? = some y) (e : g x = g y) : j = k := by
  rcases Nat.lt_trichotomy j k with h1 | h1 | h1
  · exact absurd e (h j k x y hj hk h1)
  · exact h1
  · exact absurd e.symm (h k j y x hk hj h1)
theorem map_at {l : List Air} {f : FV} {day : Int} {k : Nat} {d : Dt} (h : (f.lg.map (datL l f day))[k]? = some d) : ∃ x, f.lg[k]? = some x ∧ d = datL l f day x := by
  rw [List.getElem?_map] at h
  cases hx : f.lg[k]? with
  | none => rw [hx] at h; cases h
  | some x => rw [hx] at h; cases h; exact ⟨x, rfl, rfl⟩
/-- the legs from leg i to leg k are what is covered -/
theorem cov_is {l : List Air} {f : FV} {day : Int} (hn : lgsF l f.lg f.lg.length = []) {i k : Nat} {x y : Lg} {R : List Dt} (hi : f.lg[i]? = some x) (hk : f.lg[k]? = some y) (hik : i ≤ k)
    (hc : CovR (f.lg.map (datL l f day)) x.f y.t R) : R = ((f.lg.map (datL l f day)).drop i).take (k - i + 1) := by
  have UF : ∀ {j : Nat} {z : Lg}, f.lg[j]? = some z → z.f.toList = x.f.toList → j = i := fun hj e => idx_uniq (fun z => z.f.toList) (fun j k x y h1 h2 h3 => lgs_fne hn h1 h2 h3) hj hi e
  have UT : ∀ {j : Nat} {z : Lg}, f.lg[j]? = some z → z.t.toList = y.t.toList → j = k := fun hj e => idx_uniq (fun z => z.t.toList) (fun j k x y h1 h2 h3 => lgs_tne hn h1 h2 h3) hj hk e
  have hmi : (f.lg.map (datL l f day))[i]? = some (datL l f day x) := by rw [List.getElem?_map, hi]; rfl
  have hmk : ((f.lg.map (datL l f day)).drop i)[k - i]? = some (datL l f day y) := by rw [List.getElem?_drop, show i + (k - i) = k by omega, List.getElem?_map, hk]; rfl
  rcases hc with ⟨_, h | ⟨i', a, ha, hpa, _, hno⟩⟩ | ⟨i', k', a, b, ha, hpa, _, hb, hpb, _, hR⟩
  · have := h _ (List.mem_of_getElem? hmi)
    rw [beq_eq_false_iff_ne] at this
    exact absurd rfl this
  · obtain ⟨z, hz, rfl⟩ := map_at ha
    obtain rfl := UF hz (beq_lists hpa)
    have := hno _ (List.mem_of_getElem? hmk)
    rw [beq_eq_false_iff_ne] at this
    exact absurd rfl this
  · obtain ⟨z, hz, rfl⟩ := map_at ha
    obtain rfl := UF hz (beq_lists hpa)
    rw [List.getElem?_drop] at hb
    obtain ⟨z', hz', rfl⟩ := map_at hb
    have e := UT hz' (beq_lists hpb)
    rw [hR, show k' = k - i' by omega]
theorem segsI_pre {L : List Dt} {i : Nat} : ∀ n, i ≤ n → ∃ T, segsI L n = segsI L i ++ T
  | 0, h => ⟨[], by rw [show i = 0 by omega]; simp⟩
  | n + 1, h => by
    by_cases e : i = n + 1
    · exact ⟨[], by rw [e]; simp⟩
    · obtain ⟨T, hT⟩ := segsI_pre n (show i ≤ n by omega)
      unfold segsI at hT ⊢
      rw [List.range_succ, List.flatMap_append, hT, List.append_assoc]
      exact ⟨_, rfl⟩
theorem segsL_at {L : List Dt} {i k : Nat} {a b : Dt} (hi : L[i]? = some a) (hk : L[k]? = some b) (hik : i ≤ k) : (segsL L)[(segsI L i).length + (k - i)]? = some (sgOf a b) := by
  have hil := (List.getElem?_eq_some_iff.1 hi).1
  obtain ⟨T, hT⟩ := segsI_pre (L := L) (i := i + 1) L.length (by omega)
  unfold segsL
  rw [hT, segsI_succ hi, List.append_assoc, List.getElem?_append_right (by omega), Nat.add_sub_cancel_left]
  have e : ((L.drop i).map (sgOf a))[k - i]? = some (sgOf a b) := by
    rw [List.getElem?_map, List.getElem?_drop, show i + (k - i) = k by omega, hk]; rfl
  rw [List.getElem?_append_left (List.getElem?_eq_some_iff.1 e).1]
  exact e
theorem segsI_len {L : List Dt} {i : Nat} {a : Dt} (hi : L[i]? = some a) : (segsI L (i + 1)).length = (segsI L i).length + (L.length - i) := by
  rw [segsI_succ hi, List.length_append, List.length_map, List.length_drop]
/-- what Path returns for a segment of a flight without violations -/
theorem path_is {l : List Air} {f : FV} {day er : Int} {I : List Idd} (hn : lgsF l f.lg f.lg.length = []) (hq : Per.hasQ (f.pf, f.pt, f.pd) day = true) {i k : Nat} {x y : Lg} (hi : f.lg[i]? = some x) (hk : f.lg[k]? = some y) (hik : i ≤ k)
    (h : PathR l f (sgOf (datL l f day x) (datL l f day y)) er I) : er = 0 ∧ I = (((f.lg.map (datL l f day)).drop i).take (k - i + 1)).map idOf := by
  have e0 : legE f day = 0 := by unfold legE; rw [hq]; rfl
  have eL : legF l f day = f.lg.map (datL l f day) := by unfold legF; rw [hq]; rfl
  rcases h with ⟨h1 | h1, _⟩ | ⟨_, _, h1, _⟩ | ⟨_, _, _, R, hc, h1⟩
  · simp [sgOf, datL] at h1
  · exact absurd rfl h1
  · exact absurd e0 h1
  · have hR := cov_is hn hi hk hik (by rw [← eL]; exact hc)
    have hmi : ((f.lg.map (datL l f day)).drop i)[0]? = some (datL l f day x) := by rw [List.getElem?_drop, Nat.add_zero, List.getElem?_map, hi]; rfl
    have hmk : ((f.lg.map (datL l f day)).drop i)[k - i]? = some (datL l f day y) := by rw [List.getElem?_drop, show i + (k - i) = k by omega, List.getElem?_map, hk]; rfl
    have hkl := (List.getElem?_eq_some_iff.1 hmk).1
    have hlen : R.length = k - i + 1 := by rw [hR, List.length_take]; omega
    have hR0 : R[0]? = some (datL l f day x) := by rw [hR, List.getElem?_take, if_pos (by omega)]; exact hmi
    have hRk : R[R.length - 1]? = some (datL l f day y) := by rw [hlen, Nat.add_sub_cancel, hR, List.getElem?_take, if_pos (by omega)]; exact hmk
    rcases h1 with ⟨h2, _⟩ | ⟨a, z, ha, hz, h2⟩
    · rw [h2] at hlen; simp at hlen
    · rw [hR0] at ha
      rw [hRk] at hz
      cases ha
      cases hz
      rcases h2 with ⟨h3 | h3, _⟩ | ⟨_, _, h4, h5⟩
      · exact absurd rfl h3
      · exact absurd rfl h3
      · exact ⟨h4, by rw [h5, hR]⟩

end Go.Proofs.YtfgmlbmjjihhfaaGreatDoor

/- Walk of the law FlightCovers. -/
namespace Go.Proofs.YtfgmlbmjjihhfaaGreatDoor
open Go.RowKit Go.Shelf
set_option linter.unusedSimpArgs false
set_option linter.unusedVariables false

theorem RowL.at4 {w : World} {A : Option Addr} {n c : Nat} {L : List Idd} (h : RowL 4 encI w (.slice A n c) L) {k : Nat} {y : Idd} (hk : L[k]? = some y) : ∃ b o, A = some ⟨b, o, none⟩ ∧ b < w.heap.size ∧ ∀ j u, (encI y)[j]? = some u → w.cell? ⟨b, o + k * 4 + j, none⟩ = some u := by
  obtain ⟨hlt, rfl⟩ := List.getElem?_eq_some_iff.1 hk
  obtain ⟨b, o, h1, h2, h3⟩ := h.at rfl hlt
  exact ⟨b, o, h1, h2, h3⟩
theorem LegL.at5 {w : World} {A : Option Addr} {n c : Nat} {l : List Lg} (h : LegL w (.slice A n c) l) {k : Nat} {x : Lg} (hk : l[k]? = some x) : ∃ b o, A = some ⟨b, o, none⟩ ∧ b < w.heap.size ∧ w.cell? ⟨b, o + k * 5, none⟩ = some (.string x.f) ∧ w.cell? ⟨b, o + k * 5 + 1, none⟩ = some (.string x.t) := by
  obtain ⟨hlt, rfl⟩ := List.getElem?_eq_some_iff.1 hk
  obtain ⟨b, o, h1, h2, h3⟩ := h.at rfl hlt
  exact ⟨b, o, h1, h2, h3 0 _ rfl, h3 1 _ rfl⟩
set_option maxRecDepth 100000 in
set_option maxHeartbeats 16000000 in
theorem flightCovers_walk (p : PV) (f : FV) (day : Int) (bd : -9223372036854775808 ≤ day ∧ day ≤ 9223372036854775807) (w : World) (hE : EnvP w) (hP : PlL w p) (hA : ∀ a ∈ p.l, OkA a) (hD : ∀ d ∈ p.ds, OkD d) (h1 : p.l.length < 9223372036854775808) (h2 : p.ds.length < 9223372036854775808) (hG : LegL w (.slice f.A f.lg.length f.c) f.lg) (of : OkFl f) :
    Calls Tryz.prog 6 #[encP p, encFl f, .int .i64 day] w fun e w' => e = .returned (.bool true) ∧ Below w.heap.size w w' := by
  have hb1 := bel_alloc w (.cells #[.slice p.A p.l.length p.ca, .slice p.D p.ds.length p.cd] placesT)
  have hb2 := bel_alloc (w.alloc (.cells #[.slice p.A p.l.length p.ca, .slice p.D p.ds.length p.cd] placesT)) (.cells #[.string f.car, .int .i64 f.num, .int .i64 f.pf, .int .i64 f.pt, .int .i64 f.pd, .slice f.A f.lg.length f.c] fliT)
  have hb0 := hb1.trans (hb2.mono hb1.size)
  have p0 := bel_cell hb2 ((cells_new w #[.slice p.A p.l.length p.ca, .slice p.D p.ds.length p.cd] placesT 0).trans (show _ = some (Value.slice p.A p.l.length p.ca) from rfl))
  have p1 := bel_cell hb2 ((cells_new w #[.slice p.A p.l.length p.ca, .slice p.D p.ds.length p.cd] placesT 1).trans (show _ = some (Value.slice p.D p.ds.length p.cd) from rfl))
  have q0 := (cells_new (w.alloc (.cells #[.slice p.A p.l.length p.ca, .slice p.D p.ds.length p.cd] placesT)) #[.string f.car, .int .i64 f.num, .int .i64 f.pf, .int .i64 f.pt, .int .i64 f.pd, .slice f.A f.lg.length f.c] fliT 0).trans (show _ = some (Value.string f.car) from rfl)
  have q1 := (cells_new (w.alloc (.cells #[.slice p.A p.l.length p.ca, .slice p.D p.ds.length p.cd] placesT)) #[.string f.car, .int .i64 f.num, .int .i64 f.pf, .int .i64 f.pt, .int .i64 f.pd, .slice f.A f.lg.length f.c] fliT 1).trans (show _ = some (Value.int .i64 f.num) from rfl)
  have q2 := (cells_new (w.alloc (.cells #[.slice p.A p.l.length p.ca, .slice p.D p.ds.length p.cd] placesT)) #[.string f.car, .int .i64 f.num, .int .i64 f.pf, .int .i64 f.pt, .int .i64 f.pd, .slice f.A f.lg.length f.c] fliT 2).trans (show _ = some (Value.int .i64 f.pf) from rfl)
  have q3 := (cells_new (w.alloc (.cells #[.slice p.A p.l.length p.ca, .slice p.D p.ds.length p.cd] placesT)) #[.string f.car, .int .i64 f.num, .int .i64 f.pf, .int .i64 f.pt, .int .i64 f.pd, .slice f.A f.lg.length f.c] fliT 3).trans (show _ = some (Value.int .i64 f.pt) from rfl)
  have q4 := (cells_new (w.alloc (.cells #[.slice p.A p.l.length p.ca, .slice p.D p.ds.length p.cd] placesT)) #[.string f.car, .int .i64 f.num, .int .i64 f.pf, .int .i64 f.pt, .int .i64 f.pd, .slice f.A f.lg.length f.c] fliT 4).trans (show _ = some (Value.int .i64 f.pd) from rfl)
  have q5 := (cells_new (w.alloc (.cells #[.slice p.A p.l.length p.ca, .slice p.D p.ds.length p.cd] placesT)) #[.string f.car, .int .i64 f.num, .int .i64 f.pf, .int .i64 f.pt, .int .i64 f.pd, .slice f.A f.lg.length f.c] fliT 5).trans (show _ = some (Value.slice f.A f.lg.length f.c) from rfl)
  rw [World.size_alloc] at q0 q1 q2 q3 q4 q5
  have HP := Lib.hid (hP.more hb0)
  have HG := Lib.hid (hG.more hb0)
  have HE := Lib.hid (hE.more hb0)
  have HOF := Lib.hid of
  have hlen := of.len
  clear hP hG hE of
  go_enter Tryz.func6, Tryz.ntmps6
  go_upto_region 1 with (fail)
  generalize hw5 : (w.alloc (.cells #[.slice p.A p.l.length p.ca, .slice p.D p.ds.length p.cd] placesT)).alloc (.cells #[.string f.car, .int .i64 f.num, .int .i64 f.pf, .int .i64 f.pt, .int .i64 f.pd, .slice f.A f.lg.length f.c] fliT) = w5 at *
  clear hw5 hb1 hb2
  have f0 := bel_get q0
  have f1 := bel_get q1
  have f2 := bel_get q2
  have f3 := bel_get q3
  have f4 := bel_get q4
  have f5 := bel_get q5
  have y0 := bel_get p0
  have y1 := bel_get p1
  clear p0 p1 q0 q1 q2 q3 q4 q5
  have KW : Hid (∀ W, SW w5 W → Calls Tryz.prog 15 #[] W fun e w' => e = .returned (.bool true) ∧ SW w5 w') := Lib.hid (SW.call (fun W h => awake7_any W (HE.out.more h)))
  have KR : Hid (∀ W, SW w5 W → Calls Tryz.prog 19 #[encP p, encFl f] W fun e w' => ∃ v : Value, e = .returned v ∧ Hid (v = .bool false ∨ (v = .bool true ∧ RightF p f)) ∧ SW w5 w') := Lib.hid (fun W h => (right_any p f W (HP.out.more h) hA hD h1 h2 (HG.out.more h) HOF.out).mono (by
    rintro e w' ⟨v, rfl, hv, hb⟩
    exact ⟨v, rfl, hv, Below.trans h (Below.mono hb h.size)⟩))
  have hS : SW w5 w5 := Below.refl _ _
  have k0 := f0 _ hS
  have k1 := f1 _ hS
  have k2 := f2 _ hS
  have k3 := f3 _ hS
  have k4 := f4 _ hS
  have k5 := f5 _ hS
  have z0 := y0 _ hS
  have z1 := y1 _ hS
  go_wp2_with (go_at_call 19; refine (KR.out _ hS).mono ?_; rintro e w1 ⟨v1, rfl, hv1, hS⟩; refine Hid.out ?_)
  clear k0 k1 k2 k3 k4 k5 z0 z1
  rcases hv1.out with rfl | ⟨rfl, hR⟩
  · refine Lib.hid ?_
    go_wp2_with (go_at_call 15; refine (KW.out _ hS).mono ?_; rintro e w9 ⟨rfl, hS⟩)
    go_ret
    exact ⟨rfl, hb0.trans (Below.mono hS hb0.size)⟩
  clear hv1 KR
  have hz := chk_okZ hR.chk
  have hs := chk_few hR.chk
  have hnil := chF_nil hR.ch
  have ht : ∀ x ∈ f.lg, (-1000000 ≤ x.dep ∧ x.dep ≤ 1000000) ∧ -1000000 ≤ x.arr ∧ x.arr ≤ 1000000 := fun x hx => lgs_times hnil.2.2.1 hx
  have l40 : p.l.length ≤ 40 := by have := hR.la; omega
  have l100 : f.lg.length ≤ 100 := by have := hR.lg; omega
  have hc16 := cnt_bd hnil.1
  have KS1 : Hid (∀ W, SW w5 W → Calls Tryz.prog 22 #[encP p, encFl f, .int .i64 day] W fun e w' => ∃ v, e = .returned (.tuple #[v, .int .i64 (legE f day)]) ∧ RowL 7 encSg w' v (segsL (legF p.l f day)) ∧ SW w5 w') := Lib.hid (fun W h => (segs_any p f day W l40 (HP.out.more h).air hs hz (HG.out.more h) l100 ht bd.1 bd.2).mono (by rintro e w' ⟨v, rfl, hO, hb⟩; exact ⟨v, rfl, hO.rowL rtG.len, Below.trans h (Below.mono hb h.size)⟩))
  have KP : Hid (∀ (s : Sg) W, SW w5 W → s.day = day → Calls Tryz.prog 24 #[encP p, encFl f, encS7 s] W fun e w' => PathPost (PathR p.l f s) W w' e) := Lib.hid (fun s W h hd => path_any p f s W l40 (HP.out.more h).air hs hz (HG.out.more h) l100 hc16.1 ht (by rw [hd]; exact bd.1) (by rw [hd]; exact bd.2))
  have HNIL := Lib.hid hnil.2.2.1
  have i100 : (f.lg.length : Int) ≤ 100 := by omega
  clear hz hs ht hR l40 hnil
  cases hq : Per.hasQ (f.pf, f.pt, f.pd) day with
  | false =>
    have e1 : legF p.l f day = [] := by unfold legF; rw [hq]; rfl
    rw [e1, show segsL [] = [] from rfl] at KS1
    clear e1 hq KP
    generalize legE f day = e0 at *
    have k0 := f0 _ hS
    have k1 := f1 _ hS
    have k2 := f2 _ hS
    have k3 := f3 _ hS
    have k4 := f4 _ hS
    have k5 := f5 _ hS
    have z0 := y0 _ hS
    have z1 := y1 _ hS
    refine Lib.hid ?_
    go_upto_region 6 with (go_at_call 22; refine (KS1.out _ hS).mono ?_; rintro e w4 ⟨v4, rfl, ⟨A4, c4, rfl, _⟩, hS⟩)
    clear k0 k1 k2 k3 k4 k5 z0 z1
    go_loopw [9, 10] (fun va vi wr => va = .int .i64 0 ∧ vi = .int .i64 0 ∧ SW w5 wr) (fun _ _ _ => 0)
    case atStart => exact ⟨rfl, rfl, hS⟩
    case round =>
      obtain ⟨rfl, rfl, hSr⟩ := hrel
      have k5 := f5 _ hSr
      have i0 : (0 : Int) < (f.lg.length : Int) := by omega
      have i1 : 0 < f.lg.length := by omega
      go_wp2_with (go_at_call 15; refine (KW.out _ hSr).mono ?_; rintro e w9 ⟨rfl, hS⟩)
      go_ret
      exact ⟨rfl, hb0.trans (Below.mono hS hb0.size)⟩
  | true =>
    have e1 : legF p.l f day = f.lg.map (datL p.l f day) := by unfold legF; rw [hq]; rfl
    rw [e1] at KS1
    have HPI : Hid (∀ (i k : Nat) (x y : Lg), f.lg[i]? = some x → f.lg[k]? = some y → i ≤ k → ∀ er I, PathR p.l f (sgOf (datL p.l f day x) (datL p.l f day y)) er I → er = 0 ∧ I = (((f.lg.map (datL p.l f day)).drop i).take (k - i + 1)).map idOf) := Lib.hid (fun i k x y h1 h2 h3 er I h => path_is HNIL.out hq h1 h2 h3 h)
    have HLn : Hid ((f.lg.map (datL p.l f day)).length = f.lg.length) := Lib.hid (by rw [List.length_map])
    have HLat : Hid (∀ (k : Nat) (x : Lg), f.lg[k]? = some x → (f.lg.map (datL p.l f day))[k]? = some (datL p.l f day x)) := Lib.hid (fun k x h => by rw [List.getElem?_map, h]; rfl)
    obtain ⟨DL, hDL⟩ : ∃ D : Lg → Dt, D = datL p.l f day := ⟨_, rfl⟩
    have HDf : Hid (∀ x, (DL x).f = x.f ∧ (DL x).t = x.t ∧ (DL x).day = day) := Lib.hid (by rw [hDL]; exact fun x => ⟨rfl, rfl, rfl⟩)
    rw [← hDL] at HPI HLn HLat KS1
    clear hDL e1 hq
    generalize hL : f.lg.map DL = L at *
    have hLp : (segsL L).length ≤ 10000 := segsL_len (by rw [HLn.out]; exact l100)
    have HM0 : Hid (0 < (segsL L).length) := Lib.hid (by
      obtain ⟨x, hx⟩ : ∃ x, f.lg[0]? = some x := ⟨_, List.getElem?_eq_getElem (by omega)⟩
      have := segsL_at (HLat.out 0 x hx) (HLat.out 0 x hx) (Nat.le_refl _)
      have := (List.getElem?_eq_some_iff.1 this).1
      omega)
    have HMat : Hid (∀ (i k : Nat) (x y : Lg), f.lg[i]? = some x → f.lg[k]? = some y → i ≤ k → (segsL L)[(segsI L i).length + (k - i)]? = some (sgOf (DL x) (DL y))) := Lib.hid (fun i k x y h1 h2 h3 => segsL_at (HLat.out i x h1) (HLat.out k y h2) h3)
    have HIn : Hid (∀ (i : Nat) (x : Lg), f.lg[i]? = some x → (segsI L (i + 1)).length = (segsI L i).length + (f.lg.length - i)) := Lib.hid (fun i x h => by rw [segsI_len (HLat.out i x h), HLn.out])
    have HEnd : Hid ((segsI L f.lg.length).length = (segsL L).length) := Lib.hid (by rw [← HLn.out]; rfl)
    have HIds : Hid (∀ (i k : Nat) (x y : Lg), f.lg[i]? = some x → f.lg[k]? = some y → i ≤ k → (((L.drop i).take (k - i + 1)).map idOf).length = k - i + 1 ∧ (((L.drop i).take (k - i + 1)).map idOf)[0]? = some (idOf (DL x)) ∧ (((L.drop i).take (k - i + 1)).map idOf)[k - i]? = some (idOf (DL y))) := Lib.hid (fun i k x y h1 h2 h3 => by
      have hkl := (List.getElem?_eq_some_iff.1 h2).1
      refine ⟨by rw [List.length_map, List.length_take, List.length_drop, HLn.out]; omega, ?_, ?_⟩
      · rw [List.getElem?_map, List.getElem?_take, if_pos (by omega), List.getElem?_drop, Nat.add_zero, HLat.out i x h1]; rfl
      · rw [List.getElem?_map, List.getElem?_take, if_pos (by omega), List.getElem?_drop, show i + (k - i) = k by omega, HLat.out k y h2]; rfl)
    have HSI0 : Hid ((segsI L 0).length = 0) := Lib.hid rfl
    clear hL HLat HNIL
    generalize segsL L = M at *
    obtain ⟨SL, hSL⟩ : ∃ S : Nat → Nat, S = fun i => (segsI L i).length := ⟨_, rfl⟩
    have HMat : Hid (∀ (i k : Nat) (x y : Lg), f.lg[i]? = some x → f.lg[k]? = some y → i ≤ k → M[SL i + (k - i)]? = some (sgOf (DL x) (DL y))) := Lib.hid (by rw [hSL]; exact HMat.out)
    have HIn : Hid (∀ (i : Nat) (x : Lg), f.lg[i]? = some x → SL (i + 1) = SL i + (f.lg.length - i)) := Lib.hid (by rw [hSL]; exact HIn.out)
    have HEnd : Hid (SL f.lg.length = M.length) := Lib.hid (by rw [hSL]; exact HEnd.out)
    have HSI0 : Hid (SL 0 = 0) := Lib.hid (by rw [hSL]; exact HSI0.out)
    clear hSL
    obtain ⟨IDS, hIDS⟩ : ∃ S : Nat → Nat → List Idd, S = fun i k => ((L.drop i).take (k - i + 1)).map idOf := ⟨_, rfl⟩
    have HIds : Hid (∀ (i k : Nat) (x y : Lg), f.lg[i]? = some x → f.lg[k]? = some y → i ≤ k → (IDS i k).length = k - i + 1 ∧ (IDS i k)[0]? = some (idOf (DL x)) ∧ (IDS i k)[k - i]? = some (idOf (DL y))) := Lib.hid (by rw [hIDS]; exact HIds.out)
    have KP2 : Hid (∀ (i k : Nat) (x y : Lg) W, SW w5 W → f.lg[i]? = some x → f.lg[k]? = some y → i ≤ k → Calls Tryz.prog 24 #[encP p, encFl f, encS7 (sgOf (DL x) (DL y))] W fun e w' => ∃ v, e = .returned (.tuple #[v, .int .i64 0]) ∧ RowL 4 encI w' v (IDS i k) ∧ Below W.heap.size W w') := Lib.hid (fun i k x y W h h1 h2 h3 => (KP.out (sgOf (DL x) (DL y)) W h (HDf.out x).2.2).mono (by
      rintro e w' ⟨v, er, I, rfl, hI, hPR, hb⟩
      obtain ⟨rfl, rfl⟩ := HPI.out i k x y h1 h2 h3 er I hPR.out
      exact ⟨v, rfl, by rw [hIDS]; exact hI, hb⟩))
    clear hIDS HPI KP HLn
    generalize legE f day = e0 at *
    have k0 := f0 _ hS
    have k1 := f1 _ hS
    have k2 := f2 _ hS
    have k3 := f3 _ hS
    have k4 := f4 _ hS
    have k5 := f5 _ hS
    have z0 := y0 _ hS
    have z1 := y1 _ hS
    refine Lib.hid ?_
    go_upto_region 6 with (go_at_call 22; refine (KS1.out _ hS).mono ?_; rintro e w4 ⟨v4, rfl, hv4, hS⟩; obtain ⟨A4, c4, rfl, hvc⟩ := id hv4)
    have HV := Lib.hid hv4
    have HA0 := Lib.hid HSI0.out.symm
    clear hvc hv4 k0 k1 k2 k3 k4 k5 z0 z1 KS1
    have i101 : f.lg.length ≤ 100 := l100
    go_loopg [9, 10] f.lg.length (fun kx v9 vi wr => ∃ (a i : Nat), v9 = .int .i64 a ∧ vi = .int .i64 i ∧ i + kx = f.lg.length ∧ Hid (a = SL i) ∧ a ≤ 10000 ∧ SW w4 wr)
    case atStart => exact ⟨0, 0, rfl, rfl, by omega, HA0, by omega, Below.refl _ _⟩
    case round =>
      obtain ⟨a, i, rfl, rfl, hix, HA, hab, hSr⟩ := hrel
      have HIX := Lib.hid hix
      have hS5 : SW w5 wr := Below.trans hS (Below.mono hSr hS.size)
      have k5 := f5 _ hS5
      have j0 : (0 : Int) < (M.length : Int) := by have := HM0.out; omega
      have j1 : 0 < M.length := HM0.out
      by_cases hlt : i < f.lg.length
      · clear hix
        obtain ⟨x, hx⟩ : ∃ x, f.lg[i]? = some x := ⟨_, List.getElem?_eq_getElem hlt⟩
        have i2 : (i : Int) < (f.lg.length : Int) := by omega
        have HNX : Hid (i + 1 + (f.lg.length - (i + 1)) = f.lg.length) := Lib.hid (by omega)
        have HI1 := Lib.hid (HIn.out i x hx)
        have HX := Lib.hid hx
        have HLT := Lib.hid hlt
        have HI0 : Hid (a = SL i + (i - i)) := Lib.hid (by rw [HA.out]; omega)
        have hi0 : i + (f.lg.length - i) = f.lg.length := by omega
        clear hx
        go_wp2
        clear k5 hS5
        go_loopg [9, 11] (f.lg.length - i) (fun kx v9 vk wr => ∃ (a k : Nat), v9 = .int .i64 a ∧ vk = .int .i64 k ∧ k + kx = f.lg.length ∧ i ≤ k ∧ Hid (a = SL i + (k - i)) ∧ a ≤ 10000 ∧ SW w4 wr)
        case atStart => exact ⟨a, i, rfl, rfl, hi0, Nat.le_refl _, HI0, hab, hSr⟩
        case round =>
          clear HI0 hi0 hSr HA hab
          obtain ⟨a, k, rfl, rfl, hkx, hik, HA, hab, hSr⟩ := hrel
          have HKX := Lib.hid hkx
          have hS5 : SW w5 wr := Below.trans hS (Below.mono hSr hS.size)
          have k5 := f5 _ hS5
          by_cases hlk : k < f.lg.length
          · clear hkx
            obtain ⟨y, hy⟩ : ∃ y, f.lg[k]? = some y := ⟨_, List.getElem?_eq_getElem hlk⟩
            have hMa := HMat.out i k x y HX.out hy hik
            rw [← HA.out] at hMa
            have hal := (List.getElem?_eq_some_iff.1 hMa).1
            obtain ⟨bs, os, e1, hbs, hcs⟩ := RowL.at7 (HV.out.more hSr) hMa
            cases e1
            obtain ⟨hI1, hI2, hI3⟩ := HIds.out i k x y HX.out hy hik
            have KPy := Lib.hid (fun W h => KP2.out i k x y W h HX.out hy hik)
            have j2 : (k : Int) < (f.lg.length : Int) := by omega
            have j3 : (a : Int) < (M.length : Int) := by omega
            have j4 : ¬ (M.length : Int) ≤ (a : Int) := by omega
            have HAN : Hid (a + 1 = SL i + (k + 1 - i)) := Lib.hid (by rw [HA.out]; omega)
            have ab2 : a + 1 ≤ 10000 := by omega
            have HKN : Hid (k + 1 + (f.lg.length - (k + 1)) = f.lg.length ∧ i ≤ k + 1 ∧ f.lg.length - (k + 1) < f.lg.length - k) := Lib.hid (by omega)
            have kb : k ≤ 100 := by omega
            obtain ⟨d, hd⟩ : ∃ d, d = k - i := ⟨_, rfl⟩
            have j5 : (k : Int) - (i : Int) = (d : Int) := by omega
            have db : d ≤ 100 := by omega
            rw [← hd] at hI1 hI3
            generalize hIK : IDS i k = J at *
            have j6 : ((J.length : Int) != (d : Int) + 1) = false := by rw [hI1]; simp
            have j7 : (0 : Int) < (J.length : Int) := by omega
            have j8 : (d : Int) < (J.length : Int) := by omega
            obtain ⟨gb, go, e1, hgb, hx0, hx1⟩ := LegL.at5 (HG.out.more hS5) HX.out
            rw [e1] at k5
            obtain ⟨gb', go', e2, hgb', hy0, hy1⟩ := LegL.at5 (HG.out.more hS5) hy
            rw [e1] at e2
            cases e2
            have HFS := Lib.hid e1
            obtain ⟨sg, hsg⟩ : ∃ s, s = sgOf (DL x) (DL y) := ⟨_, rfl⟩
            have hst : sg.t = y.t := by rw [hsg]; exact (HDf.out y).2.1
            rw [← hsg] at hcs KPy
            have HF5 : Hid (∀ W, SW w5 W → W.cell? ⟨w.heap.size + 1, 5, none⟩ = some (.slice (some ⟨gb, go, none⟩) f.lg.length f.c)) := Lib.hid (fun W h => by rw [← HFS.out]; exact f5 W h)
            have HJ2 : Hid (J[0]? = some (idOf (DL x)) ∧ J[d]? = some (idOf (DL y))) := Lib.hid ⟨hI2, hI3⟩
            have c0 := hcs 0 _ rfl
            rw [Nat.add_zero] at c0
            have c1 := hcs 1 _ rfl
            have c2 := hcs 2 _ rfl
            have c3 := hcs 3 _ rfl
            have c4 := hcs 4 _ rfl
            have c5 := hcs 5 _ rfl
            have c6 := hcs 6 _ rfl
            have C0 := bel_get c0
            have C1 := bel_get c1
            have C2 := bel_get c2
            have C3 := bel_get c3
            have C4 := bel_get c4
            have C5 := bel_get c5
            have C6 := bel_get c6
            rw [hst] at c4
            have HC4 := Lib.hid c4
            have F5 : ∀ W, SW wr W → W.cell? ⟨w.heap.size + 1, 5, none⟩ = some (.slice (some ⟨gb, go, none⟩) f.lg.length f.c) := fun W h => HF5.out W (Below.trans hS5 (Below.mono h hS5.size))
            have F0 : ∀ W, SW wr W → W.cell? ⟨w.heap.size + 1, 0, none⟩ = some (.string f.car) := fun W h => f0 W (Below.trans hS5 (Below.mono h hS5.size))
            have F1 : ∀ W, SW wr W → W.cell? ⟨w.heap.size + 1, 1, none⟩ = some (.int .i64 f.num) := fun W h => f1 W (Below.trans hS5 (Below.mono h hS5.size))
            have F2 : ∀ W, SW wr W → W.cell? ⟨w.heap.size + 1, 2, none⟩ = some (.int .i64 f.pf) := fun W h => f2 W (Below.trans hS5 (Below.mono h hS5.size))
            have F3 : ∀ W, SW wr W → W.cell? ⟨w.heap.size + 1, 3, none⟩ = some (.int .i64 f.pt) := fun W h => f3 W (Below.trans hS5 (Below.mono h hS5.size))
            have F4 : ∀ W, SW wr W → W.cell? ⟨w.heap.size + 1, 4, none⟩ = some (.int .i64 f.pd) := fun W h => f4 W (Below.trans hS5 (Below.mono h hS5.size))
            have Y0 : ∀ W, SW wr W → W.cell? ⟨w.heap.size, 0, none⟩ = some (.slice p.A p.l.length p.ca) := fun W h => y0 W (Below.trans hS5 (Below.mono h hS5.size))
            have Y1 : ∀ W, SW wr W → W.cell? ⟨w.heap.size, 1, none⟩ = some (.slice p.D p.ds.length p.cd) := fun W h => y1 W (Below.trans hS5 (Below.mono h hS5.size))
            have KPz : Hid (∀ W, SW wr W → Calls Tryz.prog 24 #[encP p, .agg #[.string f.car, .int .i64 f.num, .int .i64 f.pf, .int .i64 f.pt, .int .i64 f.pd, .slice (some ⟨gb, go, none⟩) f.lg.length f.c], encS7 sg] W fun e w' => ∃ v, e = .returned (.tuple #[v, .int .i64 0]) ∧ RowL 4 encI w' v J ∧ SW wr w') := Lib.hid (fun W h => by
              rw [← HFS.out]
              exact (KPy.out W (Below.trans hS5 (Below.mono h hS5.size))).mono (by rintro e w' ⟨v, rfl, hI, hb⟩; exact ⟨v, rfl, hI, Below.trans h (Below.mono hb h.size)⟩))
            clear hMa hal hcs hI1 hI2 hI3 hy hd hIK e1 hsg hst c0 c1 c2 c3 c4 c5 c6 hik KPy
            go_upto_region 13 with fail
            have HX0 := Lib.hid (And.intro hx0 (And.intro hy0 hy1))
            have HSr4 := Lib.hid hSr
            clear hx0 hx1 hy0 hy1 hSr k5
            have hS : (SW wr) _ := SW.drew _
            refine wp_region_held_drew (S := SW wr) (by kernel_rfl) hS (fun _ => ?_)
            refine wpAnyH_take (i := 0) (v := ?vV0) rfl (by kernel_rfl) (by kernel_rfl) (by kernel_rfl) (fun _ _ _ h => h) (Or.inl ⟨by rfl, ?hyV0⟩) hS ?restV0
            case hyV0 =>
              intro w hSw
              have k0 := Y0 w hSw; have k1 := Y1 w hSw
              first | (go_simp; done) | (go_simp; with_reducible rfl)
            try simp only [Act.put, List.setIfInBounds_toArray, List.set_cons_zero, List.set_cons_succ]
            refine wpAnyH_take (i := 1) (v := ?vV1) rfl (by kernel_rfl) (by kernel_rfl) (by kernel_rfl) (fun _ _ _ h => h) (Or.inl ⟨by rfl, ?hyV1⟩) hS ?restV1
            case hyV1 =>
              intro w hSw
              have k0 := F0 w hSw; have k1 := F1 w hSw; have k2 := F2 w hSw; have k3 := F3 w hSw; have k4 := F4 w hSw; have k5 := F5 w hSw
              first | (go_simp; done) | (go_simp; with_reducible rfl)
            try simp only [Act.put, List.setIfInBounds_toArray, List.set_cons_zero, List.set_cons_succ]
            refine wpAnyH_take (i := 2) (v := ?vV2) rfl (by kernel_rfl) (by kernel_rfl) (by kernel_rfl) (fun _ _ _ h => h) (Or.inl ⟨by rfl, ?hyV2⟩) hS ?restV2
            case hyV2 =>
              intro w hSw
              first | (go_simp; done) | (go_simp; with_reducible rfl)
            try simp only [Act.put, List.setIfInBounds_toArray, List.set_cons_zero, List.set_cons_succ]
            refine wpAnyH_take (i := 3) (v := ?vV3) rfl (by kernel_rfl) (by kernel_rfl) (by kernel_rfl) (fun _ _ _ h => h) (Or.inl ⟨by rfl, ?hyV3⟩) hS ?restV3
            case hyV3 =>
              intro w hSw
              first | (go_simp; done) | (go_simp; with_reducible rfl)
            try simp only [Act.put, List.setIfInBounds_toArray, List.set_cons_zero, List.set_cons_succ]
            refine wpAnyH_take (i := 4) (v := ?vV4) rfl (by kernel_rfl) (by kernel_rfl) (by kernel_rfl) (fun _ _ _ h => h) (Or.inl ⟨by rfl, ?hyV4⟩) hS ?restV4
            case hyV4 =>
              intro w hSw
              first | (go_simp; done) | (go_simp; with_reducible rfl)
            try simp only [Act.put, List.setIfInBounds_toArray, List.set_cons_zero, List.set_cons_succ]
            refine wpAnyH_take (i := 5) (v := ?vV5) rfl (by kernel_rfl) (by kernel_rfl) (by kernel_rfl) (fun _ _ _ h => h) (Or.inl ⟨by rfl, ?hyV5⟩) hS ?restV5
            case hyV5 =>
              intro w hSw
              have k0 := C0 w hSw; have k1 := C1 w hSw; have k2 := C2 w hSw; have k3 := C3 w hSw; have k4 := C4 w hSw; have k5 := C5 w hSw; have k6 := C6 w hSw
              first | (go_simp; done) | (go_simp; with_reducible rfl)
            try simp only [Act.put, List.setIfInBounds_toArray, List.set_cons_zero, List.set_cons_succ]
            refine wpAnyH_ready (rs := [6]) (by kernel_rfl) (by simp) ?_
            refine AllReadyH.cons rfl (fun K hK => ?_) AllReadyH.nil
            go_simp
            go_wp2_with ((go_at_call 24; refine (KPz.out _ hS).mono ?_; rintro e w7 ⟨v7, rfl, hI7, hS⟩))
            refine hK.out _ _ hS (fun _ => ?_)
            clear hK K
            refine wpAnyH_take (i := 7) (v := ?vV7) rfl (by kernel_rfl) (by kernel_rfl) (by kernel_rfl) (fun _ _ _ h => h) (Or.inl ⟨by rfl, ?hyV7⟩) hS ?restV7
            case hyV7 =>
              intro w hSw
              first | (go_simp; done) | (go_simp; with_reducible rfl)
            try simp only [Act.put, List.setIfInBounds_toArray, List.set_cons_zero, List.set_cons_succ]
            refine wpAnyH_take (i := 8) (v := ?vV8) rfl (by kernel_rfl) (by kernel_rfl) (by kernel_rfl) (fun _ _ _ h => h) (Or.inl ⟨by rfl, ?hyV8⟩) hS ?restV8
            case hyV8 =>
              intro w hSw
              first | (go_simp; done) | (go_simp; with_reducible rfl)
            try simp only [Act.put, List.setIfInBounds_toArray, List.set_cons_zero, List.set_cons_succ]
            refine wpAnyH_take (i := 9) (v := ?vV9) rfl (by kernel_rfl) (by kernel_rfl) (by kernel_rfl) (fun _ _ _ h => h) (Or.inl ⟨by rfl, ?hyV9⟩) hS ?restV9
            case hyV9 =>
              intro w hSw
              first | (go_simp; done) | (go_simp; with_reducible rfl)
            try simp only [Act.put, List.setIfInBounds_toArray, List.set_cons_zero, List.set_cons_succ]
            refine wpAnyH_take (i := 10) (v := ?vV10) rfl (by kernel_rfl) (by kernel_rfl) (by kernel_rfl) (fun _ _ _ h => h) (Or.inl ⟨by rfl, ?hyV10⟩) hS ?restV10
            case hyV10 =>
              intro w hSw
              first | (go_simp; done) | (go_simp; with_reducible rfl)
            try simp only [Act.put, List.setIfInBounds_toArray, List.set_cons_zero, List.set_cons_succ]
            refine wpAnyH_take (i := 11) (v := ?vV11) rfl (by kernel_rfl) (by kernel_rfl) (by kernel_rfl) (fun _ _ _ h => h) (Or.inl ⟨by rfl, ?hyV11⟩) hS ?restV11
            case hyV11 =>
              intro w hSw
              first | (go_simp; done) | (go_simp; with_reducible rfl)
            try simp only [Act.put, List.setIfInBounds_toArray, List.set_cons_zero, List.set_cons_succ]
            refine wpAnyH_done (by kernel_rfl) ?_ _
            try simp only [List.getElem_toArray, List.getElem_cons_succ, List.getElem_cons_zero, List.set_cons_zero, List.set_cons_succ]
            try simp only [List.setIfInBounds_toArray, List.set_cons_zero, List.set_cons_succ]
            obtain ⟨A7, c7, rfl, hvc⟩ := id hI7
            clear hvc
            obtain ⟨ib, io, e1, hib, hi0⟩ := RowL.at4 hI7 HJ2.out.1
            cases e1
            obtain ⟨ib', io', e1, hib', hid⟩ := RowL.at4 hI7 HJ2.out.2
            cases e1
            have h30 := hi0 3 (.string x.f) (by show some (Value.string (DL x).f) = _; rw [(HDf.out x).1])
            rw [Nat.zero_mul, Nat.add_zero] at h30
            have h3d := hid 3 (.string y.f) (by show some (Value.string (DL y).f) = _; rw [(HDf.out y).1])
            have g30 := SW.cell h30
            have g3d := SW.cell h3d
            have gx0 := SW.cell (bel_cell hS HX0.out.1)
            have gy0 := SW.cell (bel_cell hS HX0.out.2.1)
            have gy1 := SW.cell (bel_cell hS HX0.out.2.2)
            have g5 := SW.cell (F5 _ hS)
            have g4 := SW.cell (bel_cell hS HC4.out)
            have hS4 : SW w4 w7 := Below.trans HSr4.out (Below.mono hS HSr4.out.size)
            clear hi0 hid h30 h3d hI7
            go_upto_region 14 with fail
            have hNe : Nonempty (Wd (SW w7)) := ⟨⟨_, SW.drew _⟩⟩
            refine quietS (S := SW w7) (by kernel_rfl) (by kernel_rfl) (SW.drew _) ?_
            repeat (first | go_big_quiet_skip | (go_big_quiet_want; go_big_quiet_op; first | go_big_quiet_on | go_big_quiet_call ((fail))))
            refine wpQuiet_nil ?_
            rintro W ⟨⟨_, hW⟩, rfl⟩
            have hS8 : SW w4 W := Below.trans hS4 (Below.mono hW hS4.size)
            go_wp2
            go_roundg (f.lg.length - (k + 1))
            case measure => have h1 := HKX.out; have h2 := HKN.out.2.2; omega
            case rel => exact ⟨a + 1, k + 1, by go_num, by go_num, HKN.out.1, HKN.out.2.1, HAN, ab2, hS8⟩
          · have hk : k = f.lg.length := by omega
            have HZ : Hid (a = SL (i + 1)) := Lib.hid (by rw [HA.out, HI1.out, hk])
            have j2 : ¬ (k : Int) < (f.lg.length : Int) := by omega
            have ib : i ≤ 100 := by have := HLT.out; omega
            clear hkx hk hik
            go_wp2
            go_roundg (f.lg.length - (i + 1))
            case measure => have h1 := HIX.out; have h2 : i < f.lg.length := HLT.out; omega
            case rel => exact ⟨a, i + 1, rfl, by go_num, HNX.out, HZ, hab, hSr⟩
      · have hi : i = f.lg.length := by omega
        have hA2 : ((a : Int) == (M.length : Int)) = true := by
          have := HEnd.out
          rw [HA.out, hi, this]
          simp
        have i2 : ¬ (i : Int) < (f.lg.length : Int) := by omega
        clear hix hi HA
        go_wp2_with (go_at_call 15; refine (KW.out _ hS5).mono ?_; rintro e w9 ⟨rfl, hS⟩)
        go_ret
        exact ⟨rfl, hb0.trans (Below.mono hS hb0.size)⟩

end Go.Proofs.YtfgmlbmjjihhfaaGreatDoor
