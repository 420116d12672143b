/- Words and walks that the laws below ask: FliR, FliS, SchH, SchI, SrtG. -/
import Derived.Test.YtmmpalnalogfnaaPk2
import Derived.Test.YtmmpalnalogfnaaPk3
import Derived.Test.YtmmpalnalogfnaaPk4
import Derived.Test.YtmmpalnalogfnaaPk5
/- Walks of the reference's utc, legs and ordered. -/
namespace Go.Proofs.Ytmmpalnalogfnaa
open Go.RowKit Go.Shelf
set_option linter.unusedSimpArgs false
set_option linter.unusedVariables false

theorem airOf_sh {w : World} {A : Option Addr} {l : List Air} (h : AirL w A l) (s : ByteArray) : ShL w (airOf l s).A (airOf l s).shs := by
  unfold airOf
  cases hc : findC l s with
  | none => exact .inl rfl
  | some a =>
    obtain ⟨k, hk⟩ := List.getElem?_of_mem (List.mem_of_find?_eq_some hc)
    obtain ⟨_, _, a', _, _, hka, ha⟩ := h.at (List.getElem?_eq_some_iff.1 hk).1
    rw [hk] at hka
    obtain rfl := Option.some.inj hka
    exact ha.sh
set_option maxRecDepth 100000 in
set_option maxHeartbeats 4000000 in
theorem rutc7_any (p : PV) (s : ByteArray) (day m : Int) (w : World) (hl : p.l.length ≤ 40) (hL : AirL w p.A p.l) (hz : ∀ a ∈ p.l, OkZ a.off a.shs) (hd : -100000000 ≤ day ∧ day ≤ 100000000) (hm : -1000000 ≤ m ∧ m ≤ 1000000) :
    Calls Try.prog 47 #[encP p, .string s, .int .i64 day, .int .i64 m] w fun e w' => e = .returned (.int .i64 (utcZ (airOf p.l s).off (airOf p.l s).shs (day * 1440 + m))) ∧ Below w.heap.size w w' := by
  have hb0 := bel_alloc w (.cells #[.slice p.A p.l.length p.ca, .slice p.D p.ds.length p.cd] placesT)
  have q0 := (cells_new w #[.slice p.A p.l.length p.ca, .slice p.D p.ds.length p.cd] placesT 0).trans (show _ = some (.slice p.A p.l.length p.ca) from rfl)
  have q1 := (cells_new w #[.slice p.A p.l.length p.ca, .slice p.D p.ds.length p.cd] placesT 1).trans (show _ = some (.slice p.D p.ds.length p.cd) from rfl)
  have KF := Lib.hid (rfind_any p s _ hl (hL.more hb0))
  have hok := okZ_of hz s
  have hsh := airOf_sh (hL.more hb0) s
  have e : (findC p.l s).getD airZ = airOf p.l s := rfl
  rw [e] at KF
  generalize airOf p.l s = a at *
  generalize (findC p.l s).isSome = b at *
  have KU := Lib.hid (fun W h => Zon.rutc_any a.off a.A a.c a.shs (day * 1440 + m) W hok h (by omega))
  generalize hr : utcZ a.off a.shs (day * 1440 + m) = r at *
  have HSH := Lib.hid hsh
  clear hok hsh hL hz e hr
  go_enter Try.func47, Try.ntmps47
  go_wp2_with (first
    | (go_at_call 73; refine (KU.out _ ((HSH.out.more hb1).more (bel_alloc w1 (.cells #[.string a.code, .string a.city, .string a.land, .int .i64 a.off, .slice a.A a.shs.length a.c] airT)))).mono ?_; rintro e w2 ⟨rfl, hb2⟩)
    | (go_at_call 17; refine KF.out.mono ?_; rintro e w1 ⟨rfl, hb1⟩))
  go_ret
  have h1 := hb0.trans (Below.mono hb1 hb0.size)
  have h2 := h1.alloc h1.size (.cells #[.string a.code, .string a.city, .string a.land, .int .i64 a.off, .slice a.A a.shs.length a.c] airT)
  exact ⟨rfl, h2.trans (Below.mono hb2 h2.size)⟩

set_option maxRecDepth 100000 in
set_option maxHeartbeats 8000000 in
theorem rlegs7_any (p : PV) (f : FV) (day : Int) (w : World) (hl : p.l.length ≤ 40) (hL : AirL w p.A p.l) (hz : ∀ a ∈ p.l, OkZ a.off a.shs) (hG : LegL w (.slice f.A f.lg.length f.c) f.lg) (hn : f.lg.length ≤ 100)
    (hm : ∀ x ∈ f.lg, (-1000000 ≤ x.dep ∧ x.dep ≤ 1000000) ∧ -1000000 ≤ x.arr ∧ x.arr ≤ 1000000) (hd : -100000000 ≤ day ∧ day ≤ 100000000) :
    Calls Try.prog 22 #[encP p, encFl f, .int .i64 day] w fun e w' => ∃ v, e = .returned v ∧ ROwn datT 8 encDt w.heap.size w' v (f.lg.map (datL p.l f day)) ∧ Below w.heap.size w w' := by
  obtain ⟨DL, hDL⟩ : ∃ D : Lg → Dt, D = datL p.l f day := ⟨_, rfl⟩
  have HDL : Hid (∀ x, DL x = ⟨f.car, f.num, day, x.f, x.t, depL p.l x day, arrL p.l x day, x.eq⟩) := Lib.hid (by rw [hDL]; exact fun x => rfl)
  rw [← hDL]
  clear hDL
  obtain ⟨car, num, pf, pt, pd, A, c, lg⟩ := f
  dsimp only at *
  have hb1 := bel_alloc w (.cells #[.slice p.A p.l.length p.ca, .slice p.D p.ds.length p.cd] placesT)
  have hb2 := bel_alloc (w.alloc (.cells #[.slice p.A p.l.length p.ca, .slice p.D p.ds.length p.cd] placesT)) (.cells #[.string car, .int .i64 num, .int .i64 pf, .int .i64 pt, .int .i64 pd, .slice A lg.length c] fliT)
  have hb0 := hb1.trans (hb2.mono hb1.size)
  have p0 := bel_cell hb2 ((cells_new w #[.slice p.A p.l.length p.ca, .slice p.D p.ds.length p.cd] placesT 0).trans (show _ = some (.slice p.A p.l.length p.ca) from rfl))
  have p1 := bel_cell hb2 ((cells_new w #[.slice p.A p.l.length p.ca, .slice p.D p.ds.length p.cd] placesT 1).trans (show _ = some (.slice p.D p.ds.length p.cd) from rfl))
  have q0 := (cells_new (w.alloc (.cells #[.slice p.A p.l.length p.ca, .slice p.D p.ds.length p.cd] placesT)) #[.string car, .int .i64 num, .int .i64 pf, .int .i64 pt, .int .i64 pd, .slice A lg.length c] fliT 0).trans (show _ = some (.string car) from rfl)
  have q1 := (cells_new (w.alloc (.cells #[.slice p.A p.l.length p.ca, .slice p.D p.ds.length p.cd] placesT)) #[.string car, .int .i64 num, .int .i64 pf, .int .i64 pt, .int .i64 pd, .slice A lg.length c] fliT 1).trans (show _ = some (.int .i64 num) from rfl)
  have q5 := (cells_new (w.alloc (.cells #[.slice p.A p.l.length p.ca, .slice p.D p.ds.length p.cd] placesT)) #[.string car, .int .i64 num, .int .i64 pf, .int .i64 pt, .int .i64 pd, .slice A lg.length c] fliT 5).trans (show _ = some (.slice A lg.length c) from rfl)
  rw [World.size_alloc] at q0 q1 q5
  have hsz : ((w.alloc (.cells #[.slice p.A p.l.length p.ca, .slice p.D p.ds.length p.cd] placesT)).alloc (.cells #[.string car, .int .i64 num, .int .i64 pf, .int .i64 pt, .int .i64 pd, .slice A lg.length c] fliT)).heap.size = w.heap.size + 2 := by simp
  have HLL := Lib.hid (hL.more hb0)
  have HGG := Lib.hid (hG.more hb0)
  have HM := Lib.hid hm
  have HSZ := Lib.hid hsz
  have KU : Hid (∀ s m W, AirL W p.A p.l → (-1000000 ≤ m ∧ m ≤ 1000000) → Calls Try.prog 47 #[encP p, .string s, .int .i64 day, .int .i64 m] W fun e w' => e = .returned (.int .i64 (utcZ (airOf p.l s).off (airOf p.l s).shs (day * 1440 + m))) ∧ Below W.heap.size W w') := Lib.hid (fun s m W hA hm => rutc7_any p s day m W hl hA hz hd hm)
  clear hL hG hm hz hsz hb1 hb2
  go_enter Try.func22, Try.ntmps22
  go_wp2
  generalize hw5 : (w.alloc (.cells #[.slice p.A p.l.length p.ca, .slice p.D p.ds.length p.cd] placesT)).alloc (.cells #[.string car, .int .i64 num, .int .i64 pf, .int .i64 pt, .int .i64 pd, .slice A lg.length c] fliT) = w5 at *
  clear hw5
  have F0 := Lib.hid (bel_get q0)
  have F1 := Lib.hid (bel_get q1)
  have F5 := Lib.hid (bel_get q5)
  have Y0 := Lib.hid (bel_get p0)
  have Y1 := Lib.hid (bel_get p1)
  have HN : Hid (ROwn datT 8 encDt w5.heap.size w5 (.slice none 0 0) []) := Lib.hid (ROwn.nil (Nat.le_refl _))
  clear p0 p1 q0 q1 q5
  go_loopg [7, 8] lg.length (fun kx v7 vi wr => ∃ (v : Value) (k : Nat), v = v7 ∧ vi = .int .i64 k ∧ k + kx = lg.length ∧ Hid (ROwn datT 8 encDt w5.heap.size wr v ((lg.take k).map DL) ∧ SW w5 wr))
  case atStart => exact ⟨_, 0, rfl, rfl, by omega, Lib.hid ⟨HN.out, Below.refl _ _⟩⟩
  case round =>
    obtain ⟨v, k, rfl, rfl, hkx, HH⟩ := hrel
    clear HN
    have HKX := Lib.hid hkx
    have hSr : SW w5 wr := HH.out.2
    by_cases hlt : k < lg.length
    · clear hkx
      obtain ⟨b, o, x, rfl, hbl, hx, c0, c1, c2, c3, c4⟩ := LegL.get (HGG.out.more hSr) hlt
      have hmx := HM.out x (List.mem_of_getElem? hx)
      obtain ⟨dd, hdd⟩ : ∃ dd, dd = depL p.l x day := ⟨_, rfl⟩
      obtain ⟨aa, haa⟩ : ∃ aa, aa = arrL p.l x day := ⟨_, rfl⟩
      have HTk : Hid ((lg.take (k + 1)).map DL = (lg.take k).map DL ++ [(⟨car, num, day, x.f, x.t, dd, aa, x.eq⟩ : Dt)]) := Lib.hid (by
        rw [List.take_add_one, hx, List.map_append, hdd, haa]
        simp [HDL.out x])
      have hO := HH.out.1
      have HLL2 : Hid (((lg.take k).map DL).length ≤ 100000000) := Lib.hid (by have := List.length_take_le k lg; rw [List.length_map]; omega)
      have HV1 : Hid (∀ g, v.ownBlock = some g → w5.heap.size ≤ g ∧ g < wr.heap.size) := Lib.hid (fun g hg => hO.low hg)
      have hvN : v.ownBlock ≠ some wr.heap.size := fun h => by have := (HV1.out _ h).2; omega
      have hb6 := bel_alloc wr (.cells #[.string x.f, .string x.t, .int .i64 x.dep, .int .i64 x.arr, .string x.eq] legT)
      have HSW : Hid (∀ W, SX (wr.alloc (.cells #[.string x.f, .string x.t, .int .i64 x.dep, .int .i64 x.arr, .string x.eq] legT)) v W → SW w5 W) := Lib.hid (fun W h => Below.trans hSr ((hb6.mono hSr.size).trans (h.below (Nat.le_trans hSr.size hb6.size) (fun k' hk' hv => by have := (HV1.out _ hv).1; omega))))
      have y0 : ∀ W, SX (wr.alloc (.cells #[.string x.f, .string x.t, .int .i64 x.dep, .int .i64 x.arr, .string x.eq] legT)) v W → W.cell? ⟨w.heap.size, 0, none⟩ = some (.slice p.A p.l.length p.ca) := fun W h => Y0.out W (HSW.out W h)
      have y1 : ∀ W, SX (wr.alloc (.cells #[.string x.f, .string x.t, .int .i64 x.dep, .int .i64 x.arr, .string x.eq] legT)) v W → W.cell? ⟨w.heap.size, 1, none⟩ = some (.slice p.D p.ds.length p.cd) := fun W h => Y1.out W (HSW.out W h)
      have g0 : ∀ W, SX (wr.alloc (.cells #[.string x.f, .string x.t, .int .i64 x.dep, .int .i64 x.arr, .string x.eq] legT)) v W → W.cell? ⟨w.heap.size + 1, 0, none⟩ = some (.string car) := fun W h => F0.out W (HSW.out W h)
      have g1 : ∀ W, SX (wr.alloc (.cells #[.string x.f, .string x.t, .int .i64 x.dep, .int .i64 x.arr, .string x.eq] legT)) v W → W.cell? ⟨w.heap.size + 1, 1, none⟩ = some (.int .i64 num) := fun W h => F1.out W (HSW.out W h)
      have n0 : ∀ W, SX (wr.alloc (.cells #[.string x.f, .string x.t, .int .i64 x.dep, .int .i64 x.arr, .string x.eq] legT)) v W → W.cell? ⟨wr.heap.size, 0, none⟩ = some (Value.string x.f) := fun W h => SX.cell ((cells_new wr #[.string x.f, .string x.t, .int .i64 x.dep, .int .i64 x.arr, .string x.eq] legT 0).trans (show _ = some (Value.string x.f) from rfl)) hvN h
      have n1 : ∀ W, SX (wr.alloc (.cells #[.string x.f, .string x.t, .int .i64 x.dep, .int .i64 x.arr, .string x.eq] legT)) v W → W.cell? ⟨wr.heap.size, 1, none⟩ = some (Value.string x.t) := fun W h => SX.cell ((cells_new wr #[.string x.f, .string x.t, .int .i64 x.dep, .int .i64 x.arr, .string x.eq] legT 1).trans (show _ = some (Value.string x.t) from rfl)) hvN h
      have n2 : ∀ W, SX (wr.alloc (.cells #[.string x.f, .string x.t, .int .i64 x.dep, .int .i64 x.arr, .string x.eq] legT)) v W → W.cell? ⟨wr.heap.size, 2, none⟩ = some (Value.int .i64 x.dep) := fun W h => SX.cell ((cells_new wr #[.string x.f, .string x.t, .int .i64 x.dep, .int .i64 x.arr, .string x.eq] legT 2).trans (show _ = some (Value.int .i64 x.dep) from rfl)) hvN h
      have n3 : ∀ W, SX (wr.alloc (.cells #[.string x.f, .string x.t, .int .i64 x.dep, .int .i64 x.arr, .string x.eq] legT)) v W → W.cell? ⟨wr.heap.size, 3, none⟩ = some (Value.int .i64 x.arr) := fun W h => SX.cell ((cells_new wr #[.string x.f, .string x.t, .int .i64 x.dep, .int .i64 x.arr, .string x.eq] legT 3).trans (show _ = some (Value.int .i64 x.arr) from rfl)) hvN h
      have n4 : ∀ W, SX (wr.alloc (.cells #[.string x.f, .string x.t, .int .i64 x.dep, .int .i64 x.arr, .string x.eq] legT)) v W → W.cell? ⟨wr.heap.size, 4, none⟩ = some (Value.string x.eq) := fun W h => SX.cell ((cells_new wr #[.string x.f, .string x.t, .int .i64 x.dep, .int .i64 x.arr, .string x.eq] legT 4).trans (show _ = some (Value.string x.eq) from rfl)) hvN h
      have K1 : Hid (∀ W, SX (wr.alloc (.cells #[.string x.f, .string x.t, .int .i64 x.dep, .int .i64 x.arr, .string x.eq] legT)) v W → Calls Try.prog 47 #[encP p, .string x.f, .int .i64 day, .int .i64 x.dep] W fun e w' => e = .returned (.int .i64 dd) ∧ Below W.heap.size W w') := Lib.hid (fun W h => by rw [hdd]; exact KU.out x.f x.dep W (HLL.out.more (HSW.out W h)) hmx.1)
      have K2 : Hid (∀ W, SX (wr.alloc (.cells #[.string x.f, .string x.t, .int .i64 x.dep, .int .i64 x.arr, .string x.eq] legT)) v W → Calls Try.prog 47 #[encP p, .string x.t, .int .i64 day, .int .i64 x.arr] W fun e w' => e = .returned (.int .i64 aa) ∧ Below W.heap.size W w') := Lib.hid (fun W h => by rw [haa]; exact KU.out x.t x.arr W (HLL.out.more (HSW.out W h)) hmx.2)
      have i2 : (k : Int) < (lg.length : Int) := by omega
      have z5 := F5.out _ hSr
      have hO := hO.more (hb6.trans ((Below.refl _ (wr.alloc (.cells #[.string x.f, .string x.t, .int .i64 x.dep, .int .i64 x.arr, .string x.eq] legT))).drew.mono hb6.size))
      clear hx hbl hmx hdd haa
      go_upto_region 6 with (fail)
      generalize hw6 : wr.alloc (.cells #[.string x.f, .string x.t, .int .i64 x.dep, .int .i64 x.arr, .string x.eq] legT) = w6 at *
      clear hw6 c0 c1 c2 c3 c4 z5
      have hS : (SX w6 v) _ := But.of_below (Below.refl _ _).drew
      refine wp_region_held_drew (S := SX w6 v) (by kernel_rfl) hS (fun _ => ?_)
      refine wpAnyH_take (i := 0) (v := ?vL0) rfl (by kernel_rfl) (by kernel_rfl) (by kernel_rfl) (fun _ _ _ h => h) (Or.inl ⟨by rfl, ?hyL0⟩) hS ?restL0
      case hyL0 =>
        intro w hSw
        first | (go_simp; done) | (go_simp; with_reducible rfl)
      try simp only [Act.put, List.setIfInBounds_toArray, List.set_cons_zero, List.set_cons_succ]
      refine wpAnyH_take (i := 1) (v := ?vL1) rfl (by kernel_rfl) (by kernel_rfl) (by kernel_rfl) (fun _ _ _ h => h) (Or.inl ⟨by rfl, ?hyL1⟩) hS ?restL1
      case hyL1 =>
        intro w hSw
        first | (go_simp; done) | (go_simp; with_reducible rfl)
      try simp only [Act.put, List.setIfInBounds_toArray, List.set_cons_zero, List.set_cons_succ]
      refine wpAnyH_take (i := 2) (v := ?vL2) rfl (by kernel_rfl) (by kernel_rfl) (by kernel_rfl) (fun _ _ _ h => h) (Or.inl ⟨by rfl, ?hyL2⟩) hS ?restL2
      case hyL2 =>
        intro w hSw
        have k0 := g0 w hSw
        first | (go_simp; done) | (go_simp; with_reducible rfl)
      try simp only [Act.put, List.setIfInBounds_toArray, List.set_cons_zero, List.set_cons_succ]
      refine wpAnyH_take (i := 3) (v := ?vL3) rfl (by kernel_rfl) (by kernel_rfl) (by kernel_rfl) (fun _ _ _ h => h) (Or.inl ⟨by rfl, ?hyL3⟩) hS ?restL3
      case hyL3 =>
        intro w hSw
        first | (go_simp; done) | (go_simp; with_reducible rfl)
      try simp only [Act.put, List.setIfInBounds_toArray, List.set_cons_zero, List.set_cons_succ]
      refine wpAnyH_take (i := 4) (v := ?vL4) rfl (by kernel_rfl) (by kernel_rfl) (by kernel_rfl) (fun _ _ _ h => h) (Or.inl ⟨by rfl, ?hyL4⟩) hS ?restL4
      case hyL4 =>
        intro w hSw
        have k0 := g1 w hSw
        first | (go_simp; done) | (go_simp; with_reducible rfl)
      try simp only [Act.put, List.setIfInBounds_toArray, List.set_cons_zero, List.set_cons_succ]
      refine wpAnyH_take (i := 5) (v := ?vL5) rfl (by kernel_rfl) (by kernel_rfl) (by kernel_rfl) (fun _ _ _ h => h) (Or.inl ⟨by rfl, ?hyL5⟩) hS ?restL5
      case hyL5 =>
        intro w hSw
        first | (go_simp; done) | (go_simp; with_reducible rfl)
      try simp only [Act.put, List.setIfInBounds_toArray, List.set_cons_zero, List.set_cons_succ]
      refine wpAnyH_take (i := 6) (v := ?vL6) rfl (by kernel_rfl) (by kernel_rfl) (by kernel_rfl) (fun _ _ _ h => h) (Or.inl ⟨by rfl, ?hyL6⟩) hS ?restL6
      case hyL6 =>
        intro w hSw
        first | (go_simp; done) | (go_simp; with_reducible rfl)
      try simp only [Act.put, List.setIfInBounds_toArray, List.set_cons_zero, List.set_cons_succ]
      refine wpAnyH_take (i := 7) (v := ?vL7) rfl (by kernel_rfl) (by kernel_rfl) (by kernel_rfl) (fun _ _ _ h => h) (Or.inl ⟨by rfl, ?hyL7⟩) hS ?restL7
      case hyL7 =>
        intro w hSw
        have k0 := n0 w hSw
        first | (go_simp; done) | (go_simp; with_reducible rfl)
      try simp only [Act.put, List.setIfInBounds_toArray, List.set_cons_zero, List.set_cons_succ]
      refine wpAnyH_take (i := 8) (v := ?vL8) rfl (by kernel_rfl) (by kernel_rfl) (by kernel_rfl) (fun _ _ _ h => h) (Or.inl ⟨by rfl, ?hyL8⟩) hS ?restL8
      case hyL8 =>
        intro w hSw
        first | (go_simp; done) | (go_simp; with_reducible rfl)
      try simp only [Act.put, List.setIfInBounds_toArray, List.set_cons_zero, List.set_cons_succ]
      refine wpAnyH_take (i := 9) (v := ?vL9) rfl (by kernel_rfl) (by kernel_rfl) (by kernel_rfl) (fun _ _ _ h => h) (Or.inl ⟨by rfl, ?hyL9⟩) hS ?restL9
      case hyL9 =>
        intro w hSw
        have k0 := n1 w hSw
        first | (go_simp; done) | (go_simp; with_reducible rfl)
      try simp only [Act.put, List.setIfInBounds_toArray, List.set_cons_zero, List.set_cons_succ]
      refine wpAnyH_take (i := 10) (v := ?vL10) rfl (by kernel_rfl) (by kernel_rfl) (by kernel_rfl) (fun _ _ _ h => h) (Or.inl ⟨by rfl, ?hyL10⟩) hS ?restL10
      case hyL10 =>
        intro w hSw
        have k0 := y0 w hSw; have k1 := y1 w hSw
        first | (go_simp; done) | (go_simp; with_reducible rfl)
      try simp only [Act.put, List.setIfInBounds_toArray, List.set_cons_zero, List.set_cons_succ]
      refine wpAnyH_take (i := 11) (v := ?vL11) rfl (by kernel_rfl) (by kernel_rfl) (by kernel_rfl) (fun _ _ _ h => h) (Or.inl ⟨by rfl, ?hyL11⟩) hS ?restL11
      case hyL11 =>
        intro w hSw
        first | (go_simp; done) | (go_simp; with_reducible rfl)
      try simp only [Act.put, List.setIfInBounds_toArray, List.set_cons_zero, List.set_cons_succ]
      refine wpAnyH_take (i := 12) (v := ?vL12) rfl (by kernel_rfl) (by kernel_rfl) (by kernel_rfl) (fun _ _ _ h => h) (Or.inl ⟨by rfl, ?hyL12⟩) hS ?restL12
      case hyL12 =>
        intro w hSw
        have k0 := n0 w hSw
        first | (go_simp; done) | (go_simp; with_reducible rfl)
      try simp only [Act.put, List.setIfInBounds_toArray, List.set_cons_zero, List.set_cons_succ]
      refine wpAnyH_take (i := 13) (v := ?vL13) rfl (by kernel_rfl) (by kernel_rfl) (by kernel_rfl) (fun _ _ _ h => h) (Or.inl ⟨by rfl, ?hyL13⟩) hS ?restL13
      case hyL13 =>
        intro w hSw
        first | (go_simp; done) | (go_simp; with_reducible rfl)
      try simp only [Act.put, List.setIfInBounds_toArray, List.set_cons_zero, List.set_cons_succ]
      refine wpAnyH_take (i := 14) (v := ?vL14) rfl (by kernel_rfl) (by kernel_rfl) (by kernel_rfl) (fun _ _ _ h => h) (Or.inl ⟨by rfl, ?hyL14⟩) hS ?restL14
      case hyL14 =>
        intro w hSw
        first | (go_simp; done) | (go_simp; with_reducible rfl)
      try simp only [Act.put, List.setIfInBounds_toArray, List.set_cons_zero, List.set_cons_succ]
      refine wpAnyH_take (i := 15) (v := ?vL15) rfl (by kernel_rfl) (by kernel_rfl) (by kernel_rfl) (fun _ _ _ h => h) (Or.inl ⟨by rfl, ?hyL15⟩) hS ?restL15
      case hyL15 =>
        intro w hSw
        have k0 := n2 w hSw
        first | (go_simp; done) | (go_simp; with_reducible rfl)
      try simp only [Act.put, List.setIfInBounds_toArray, List.set_cons_zero, List.set_cons_succ]
      refine wpAnyH_take (i := 17) (v := ?vL17) rfl (by kernel_rfl) (by kernel_rfl) (by kernel_rfl) (fun _ _ _ h => h) (Or.inl ⟨by rfl, ?hyL17⟩) hS ?restL17
      case hyL17 =>
        intro w hSw
        have k0 := y0 w hSw; have k1 := y1 w hSw
        first | (go_simp; done) | (go_simp; with_reducible rfl)
      try simp only [Act.put, List.setIfInBounds_toArray, List.set_cons_zero, List.set_cons_succ]
      refine wpAnyH_take (i := 18) (v := ?vL18) rfl (by kernel_rfl) (by kernel_rfl) (by kernel_rfl) (fun _ _ _ h => h) (Or.inl ⟨by rfl, ?hyL18⟩) hS ?restL18
      case hyL18 =>
        intro w hSw
        first | (go_simp; done) | (go_simp; with_reducible rfl)
      try simp only [Act.put, List.setIfInBounds_toArray, List.set_cons_zero, List.set_cons_succ]
      refine wpAnyH_take (i := 19) (v := ?vL19) rfl (by kernel_rfl) (by kernel_rfl) (by kernel_rfl) (fun _ _ _ h => h) (Or.inl ⟨by rfl, ?hyL19⟩) hS ?restL19
      case hyL19 =>
        intro w hSw
        have k0 := n1 w hSw
        first | (go_simp; done) | (go_simp; with_reducible rfl)
      try simp only [Act.put, List.setIfInBounds_toArray, List.set_cons_zero, List.set_cons_succ]
      refine wpAnyH_take (i := 20) (v := ?vL20) rfl (by kernel_rfl) (by kernel_rfl) (by kernel_rfl) (fun _ _ _ h => h) (Or.inl ⟨by rfl, ?hyL20⟩) hS ?restL20
      case hyL20 =>
        intro w hSw
        first | (go_simp; done) | (go_simp; with_reducible rfl)
      try simp only [Act.put, List.setIfInBounds_toArray, List.set_cons_zero, List.set_cons_succ]
      refine wpAnyH_take (i := 21) (v := ?vL21) rfl (by kernel_rfl) (by kernel_rfl) (by kernel_rfl) (fun _ _ _ h => h) (Or.inl ⟨by rfl, ?hyL21⟩) hS ?restL21
      case hyL21 =>
        intro w hSw
        first | (go_simp; done) | (go_simp; with_reducible rfl)
      try simp only [Act.put, List.setIfInBounds_toArray, List.set_cons_zero, List.set_cons_succ]
      refine wpAnyH_take (i := 22) (v := ?vL22) rfl (by kernel_rfl) (by kernel_rfl) (by kernel_rfl) (fun _ _ _ h => h) (Or.inl ⟨by rfl, ?hyL22⟩) hS ?restL22
      case hyL22 =>
        intro w hSw
        have k0 := n3 w hSw
        first | (go_simp; done) | (go_simp; with_reducible rfl)
      try simp only [Act.put, List.setIfInBounds_toArray, List.set_cons_zero, List.set_cons_succ]
      refine wpAnyH_take (i := 24) (v := ?vL24) rfl (by kernel_rfl) (by kernel_rfl) (by kernel_rfl) (fun _ _ _ h => h) (Or.inl ⟨by rfl, ?hyL24⟩) hS ?restL24
      case hyL24 =>
        intro w hSw
        first | (go_simp; done) | (go_simp; with_reducible rfl)
      try simp only [Act.put, List.setIfInBounds_toArray, List.set_cons_zero, List.set_cons_succ]
      refine wpAnyH_take (i := 25) (v := ?vL25) rfl (by kernel_rfl) (by kernel_rfl) (by kernel_rfl) (fun _ _ _ h => h) (Or.inl ⟨by rfl, ?hyL25⟩) hS ?restL25
      case hyL25 =>
        intro w hSw
        have k0 := n4 w hSw
        first | (go_simp; done) | (go_simp; with_reducible rfl)
      try simp only [Act.put, List.setIfInBounds_toArray, List.set_cons_zero, List.set_cons_succ]
      refine wpAnyH_ready (rs := [16]) (by kernel_rfl) (by simp) ?_
      refine AllReadyH.cons rfl (fun K hK => ?_) AllReadyH.nil
      go_simp
      go_wp2_with ((go_at_call 47; with_reducible refine (K1.out _ hS).mono ?_; rintro e w' ⟨rfl, hb'⟩; have hO := hO.more hb'; have hS := hS.on hb'))
      refine hK.out _ _ hS (fun _ => ?_)
      clear hK K
      refine wpAnyH_ready (rs := [23]) (by kernel_rfl) (by simp) ?_
      refine AllReadyH.cons rfl (fun K hK => ?_) AllReadyH.nil
      go_simp
      go_wp2_with ((go_at_call 47; with_reducible refine (K2.out _ hS).mono ?_; rintro e w' ⟨rfl, hb'⟩; have hO := hO.more hb'; have hS := hS.on hb'))
      refine hK.out _ _ hS (fun _ => ?_)
      clear hK K
      refine wpAnyH_take (i := 26) (v := ?vL26) rfl (by kernel_rfl) (by kernel_rfl) (by kernel_rfl) (fun _ _ _ h => h) (Or.inl ⟨by rfl, ?hyL26⟩) hS ?restL26
      case hyL26 =>
        intro w hSw
        first | (go_simp; done) | (go_simp; with_reducible rfl)
      try simp only [Act.put, List.setIfInBounds_toArray, List.set_cons_zero, List.set_cons_succ]
      refine wpAnyH_ready (rs := [27]) (by kernel_rfl) (by simp) ?_
      refine AllReadyH.cons rfl (fun K hK => ?_) AllReadyH.nil
      go_simp
      have hSp := hS
      have hS := hS.on (bel_alloc _ (.cells #[.string car, .int .i64 num, .int .i64 day, .string x.f, .string x.t, .int .i64 dd, .int .i64 aa, .string x.eq] datT))
      refine hK.out _ _ hS (fun _ => ?_)
      clear hK K
      refine wpAnyH_ready (rs := [28]) (by kernel_rfl) (by simp) ?_
      refine AllReadyH.cons rfl (fun K hK => ?_) AllReadyH.nil
      refine step_rapp rtD rfl _ _ rfl hO rfl (bel_alloc _ _) _ (⟨car, num, day, x.f, x.t, dd, aa, x.eq⟩ : Dt) _ rfl (cs := #[.string car, .int .i64 num, .int .i64 day, .string x.f, .string x.t, .int .i64 dd, .int .i64 aa, .string x.eq]) rfl (heap_alloc_new _ _) HLL2.out ?_
      intro v8 w8 hO8 hC8
      go_simp
      have hS := hSp.trans hC8.but (fun _ _ h => h)
      refine hK.out _ _ hS (fun _ => ?_)
      clear hK K
      refine wpAnyH_take (i := 29) (v := ?vL29) rfl (by kernel_rfl) (by kernel_rfl) (by kernel_rfl) (fun _ _ _ h => h) (Or.inl ⟨by rfl, ?hyL29⟩) hS ?restL29
      case hyL29 =>
        intro w hSw
        first | (go_simp; done) | (go_simp; with_reducible rfl)
      try simp only [Act.put, List.setIfInBounds_toArray, List.set_cons_zero, List.set_cons_succ]
      refine wpAnyH_done (by kernel_rfl) ?_ _
      simp only [List.getElem_toArray, List.getElem_cons_succ, List.getElem_cons_zero, List.set_cons_zero, List.set_cons_succ]
      have HY : Hid (ROwn datT 8 encDt w5.heap.size w8 v8 ((lg.take (k + 1)).map DL) ∧ SW w5 w8) := Lib.hid ⟨by rw [HTk.out]; exact hO8, HSW.out _ hS⟩
      clear hO8 hC8 hS hSp hO
      go_wp2
      go_roundg (lg.length - (k + 1))
      case measure => have := HKX.out; omega
      case rel => exact ⟨_, k + 1, rfl, by go_num, by omega, HY⟩
    · have hk : k = lg.length := by omega
      have HR : Hid (ROwn datT 8 encDt w.heap.size wr v (lg.map DL) ∧ Below w.heap.size w wr) := Lib.hid ⟨⟨by
        have h := HH.out.1.own
        rw [hk, List.take_length] at h
        exact h.mono hb0.size, Nat.le_trans hb0.size hSr.size⟩, hb0.trans (Below.mono hSr hb0.size)⟩
      have z5 := F5.out _ hSr
      have i1 : ¬ (k : Int) < (lg.length : Int) := by omega
      clear HH hkx hk
      go_wp2
      go_ret
      exact ⟨v, rfl, HR.out⟩

theorem RowL.get8 {w : World} {A : Option Addr} {n c : Nat} {L : List Dt} (h : RowL 8 encDt w (.slice A n c) L) {k : Nat} (hk : k < L.length) : ∃ b o y, A = some ⟨b, o, none⟩ ∧ b < w.heap.size ∧ L[k]? = some y ∧ ∀ j u, (encDt y)[j]? = some u → w.cell? ⟨b, o + k * 8 + j, none⟩ = some u := by
  obtain ⟨b, o, h1, h2, h3⟩ := h.at rfl hk
  exact ⟨b, o, L[k], h1, h2, List.getElem?_eq_getElem hk, h3⟩
def ordD (L : List Dt) : Bool := ordT true 0 (L.map fun d => (d.dep, d.arr))
theorem ordD_legs (l : List Air) (f : FV) (day : Int) : ordD (f.lg.map (datL l f day)) = ordT true 0 (timL l f.lg day) := by
  unfold ordD timL
  rw [List.map_map]
  rfl
theorem ordD_at {L : List Dt} {k : Nat} {y : Dt} (h : L[k]? = some y) (first : Bool) (before : Int) :
    ordT first before ((L.map fun d => (d.dep, d.arr)).drop k) = if y.arr ≤ y.dep then false else if first = false ∧ y.dep < before then false else ordT false y.arr ((L.map fun d => (d.dep, d.arr)).drop (k + 1)) := by
  obtain ⟨hlt, rfl⟩ := List.getElem?_eq_some_iff.1 h
  have hl : k < (L.map fun d => (d.dep, d.arr)).length := by rw [List.length_map]; exact hlt
  rw [List.drop_eq_getElem_cons hl, List.getElem_map]
  rfl
set_option maxRecDepth 100000 in
set_option maxHeartbeats 8000000 in
theorem rordered_any (v : Value) (L : List Dt) (w : World) (hv : RowL 8 encDt w v L) (hn : L.length ≤ 1000) :
    Calls Try.prog 21 #[v] w fun e w' => e = .returned (.bool (ordD L)) ∧ Below w.heap.size w w' := by
  obtain ⟨A, c, rfl, hvc⟩ := id hv
  clear hvc
  have HV := Lib.hid hv
  clear hv
  generalize hD : (L.map fun d => (d.dep, d.arr)) = D at *
  have HD : Hid (ordD L = ordT true 0 D) := Lib.hid (by unfold ordD; rw [hD])
  have HAT : Hid (∀ (k : Nat) (y : Dt) (first : Bool) (before : Int), L[k]? = some y → ordT first before (D.drop k) = if y.arr ≤ y.dep then false else if first = false ∧ y.dep < before then false else ordT false y.arr (D.drop (k + 1))) := Lib.hid (by rw [← hD]; exact fun k y first before h => ordD_at h first before)
  have HLn : Hid (D.length = L.length) := Lib.hid (by rw [← hD, List.length_map])
  clear hD
  go_enter Try.func21, Try.ntmps21
  go_wp2
  go_loopw [3] (fun vi wr => ∃ (k : Nat) (before : Int), k ≤ L.length ∧ vi = .int .i64 k ∧ Hid (ordD L = ordT (decide (k = 0)) before (D.drop k)) ∧ Hid (∀ y, k ≠ 0 → L[k - 1]? = some y → y.arr = before) ∧ SW w wr) (fun vi _ => L.length - (intOf vi).toNat)
  case atStart => exact ⟨0, 0, Nat.zero_le _, rfl, HD, Lib.hid (fun y h => absurd rfl h), Below.refl _ _⟩
  case round =>
    obtain ⟨k, before, hk, rfl, HO, HB, hS⟩ := hrel
    by_cases hlt : k < L.length
    · obtain ⟨b, o, y, e1, hbl, hy, hc⟩ := RowL.get8 (HV.out.more hS) hlt
      cases e1
      have HST := Lib.hid (HO.out.trans (HAT.out k y _ _ hy))
      have i2 : (k : Int) < (L.length : Int) := by omega
      have f5 := SW.cell (hc 5 _ rfl)
      have f6 := SW.cell (hc 6 _ rfl)
      have HY : Hid (∀ z, k + 1 ≠ 0 → L[k + 1 - 1]? = some z → z.arr = y.arr) := Lib.hid (fun z _ hz => by rw [Nat.add_sub_cancel, hy] at hz; cases hz; rfl)
      clear hc hy
      by_cases h1 : y.arr ≤ y.dep
      · have HR := Lib.hid (HST.out.trans (if_pos h1))
        have d1 : decide (y.arr ≤ y.dep) = true := decide_eq_true h1
        clear HST HO
        go_wp2
        have hNe : Nonempty (Wd (SW wr)) := ⟨⟨_, SW.drew _⟩⟩
        refine quietS (S := SW wr) (by kernel_rfl) (by kernel_rfl) (SW.drew _) ?_
        repeat (first | go_big_quiet_skip | (go_big_quiet_want; go_big_quiet_op; first | go_big_quiet_on | go_big_quiet_call ((fail))))
        refine wpQuiet_nil ?_
        rintro W ⟨⟨_, hW⟩, rfl⟩
        go_wp2
        go_ret
        exact ⟨ret_bool HR.out.symm, Below.trans hS (Below.mono hW hS.size)⟩
      · have HS2 := Lib.hid (HST.out.trans (if_neg h1))
        have d1 : decide (y.arr ≤ y.dep) = false := decide_eq_false h1
        by_cases h0 : k = 0
        · have HR : Hid (ordD L = ordT (decide (k + 1 = 0)) y.arr (D.drop (k + 1))) := Lib.hid (by
            rw [HS2.out, if_neg (by simp [h0])]
            rw [show decide (k + 1 = 0) = false by simp])
          have d2 : decide (0 < k) = false := decide_eq_false (by omega)
          have i1 : ¬ (0 : Int) < (k : Int) := by omega
          clear HS2 HST h1 HO HB h0
          go_wp2
          have hNe : Nonempty (Wd (SW wr)) := ⟨⟨_, SW.drew _⟩⟩
          refine quietS (S := SW wr) (by kernel_rfl) (by kernel_rfl) (SW.drew _) ?_
          repeat (first | go_big_quiet_skip | (go_big_quiet_want; go_big_quiet_op; first | go_big_quiet_on | go_big_quiet_call ((fail))))
          refine wpQuiet_nil ?_
          rintro W ⟨⟨_, hW⟩, rfl⟩
          go_wp2
          go_roundw
          case rel => exact ⟨k + 1, y.arr, by omega, by go_num, HR, HY, Below.trans hS (Below.mono hW hS.size)⟩
          case measure => simp [intOf]; omega
        · have d2 : decide (0 < k) = true := decide_eq_true (by omega)
          have i1 : (0 : Int) < (k : Int) := by omega
          obtain ⟨b', o', z, e1, hbl', hz, hcz⟩ := RowL.get8 (HV.out.more hS) (show k - 1 < L.length by omega)
          cases e1
          obtain rfl := HB.out z h0 hz
          have i3 : ((k : Int) - 1) = ((k - 1 : Nat) : Int) := by omega
          have i4 : ((k - 1 : Nat) : Int) < (L.length : Int) := by omega
          have g6 := SW.cell (hcz 6 _ rfl)
          clear hcz hz HB HO
          by_cases h2 : y.dep < z.arr
          · have HR := Lib.hid (HS2.out.trans (if_pos ⟨by simp [h0], h2⟩))
            have d3 : decide (y.dep < z.arr) = true := decide_eq_true h2
            clear HS2 HST h1 h0
            generalize k - 1 = k1 at *
            go_wp2
            have hNe : Nonempty (Wd (SW wr)) := ⟨⟨_, SW.drew _⟩⟩
            refine quietS (S := SW wr) (by kernel_rfl) (by kernel_rfl) (SW.drew _) ?_
            repeat (first | go_big_quiet_skip | (go_big_quiet_want; go_big_quiet_op; first | go_big_quiet_on | go_big_quiet_call ((fail))))
            refine wpQuiet_nil ?_
            rintro W ⟨⟨_, hW⟩, rfl⟩
            go_wp2
            go_ret
            exact ⟨ret_bool HR.out.symm, Below.trans hS (Below.mono hW hS.size)⟩
          · have HR : Hid (ordD L = ordT (decide (k + 1 = 0)) y.arr (D.drop (k + 1))) := Lib.hid (by
              rw [HS2.out, if_neg (fun h => h2 h.2)]
              rw [show decide (k + 1 = 0) = false by simp])
            have d3 : decide (y.dep < z.arr) = false := decide_eq_false h2
            have HY := Lib.hid HY.out
            clear HS2 HST h1 h0
            generalize k - 1 = k1 at *
            go_wp2
            have hNe : Nonempty (Wd (SW wr)) := ⟨⟨_, SW.drew _⟩⟩
            refine quietS (S := SW wr) (by kernel_rfl) (by kernel_rfl) (SW.drew _) ?_
            repeat (first | go_big_quiet_skip | (go_big_quiet_want; go_big_quiet_op; first | go_big_quiet_on | go_big_quiet_call ((fail))))
            refine wpQuiet_nil ?_
            rintro W ⟨⟨_, hW⟩, rfl⟩
            go_wp2
            go_roundw
            case rel => exact ⟨k + 1, y.arr, by omega, by go_num, HR, HY, Below.trans hS (Below.mono hW hS.size)⟩
            case measure => simp [intOf]; omega
    · have HR : Hid (ordD L = true) := Lib.hid (by
        rw [HO.out, List.drop_of_length_le (by rw [HLn.out]; omega)]
        rfl)
      have i1 : ¬ (k : Int) < (L.length : Int) := by omega
      go_wp2
      go_ret
      exact ⟨ret_bool HR.out.symm, hS⟩

end Go.Proofs.Ytmmpalnalogfnaa

/- Walk of the reference's Check of flights. -/
namespace Go.Proofs.Ytmmpalnalogfnaa
open Go.RowKit Go.Shelf
set_option linter.unusedSimpArgs false
set_option linter.unusedVariables false

theorem wh_pick (s : ByteArray) (b : Bool) (e : Int) (he : e ≠ 0) : pick s [wh b e] = if b = true then [(e, s)] else [] := by
  cases b
  · rfl
  · exact pick_one s e he

set_option maxRecDepth 100000 in
set_option maxHeartbeats 16000000 in
theorem rfcheck_any (p : PV) (f : FV) (w : World) (hl : p.l.length ≤ 40) (hL : AirL w p.A p.l) (hz : ∀ a ∈ p.l, OkZ a.off a.shs) (hG : LegL w (.slice f.A f.lg.length f.c) f.lg) (hn : f.lg.length ≤ 100)
    (hc0 : f.car.size ≤ maxLen) (ho : ∀ x ∈ f.lg, OkG x) (hpf : -9223372036854775808 ≤ f.pf ∧ f.pf ≤ 9223372036854775807) :
    Calls Try.prog 5 #[encP p, encFl f] w fun e w' => ∃ v, e = .returned v ∧ FOwn w.heap.size w' v (chF p.l f) ∧ Below w.heap.size w w' := by
  have KH := Lib.hid (fun W => rhead_any f W hc0)
  have KLg : Hid (∀ d W, (∀ x ∈ f.lg, (-1000000 ≤ x.dep ∧ x.dep ≤ 1000000) ∧ -1000000 ≤ x.arr ∧ x.arr ≤ 1000000) → AirL W p.A p.l → LegL W (.slice f.A f.lg.length f.c) f.lg → (0 ≤ d ∧ d < 36525) → Calls Try.prog 22 #[encP p, encFl f, .int .i64 d] W fun e w' => ∃ v, e = .returned v ∧ ROwn datT 8 encDt W.heap.size w' v (f.lg.map (datL p.l f d)) ∧ Below W.heap.size W w') := Lib.hid (fun d W hm hA hG2 hd => rlegs7_any p f d W hl hA hz hG2 hn hm (by omega))
  obtain ⟨DL, hDL⟩ : ∃ D : Int → List Dt, D = fun d => f.lg.map (datL p.l f d) := ⟨_, rfl⟩
  have HDO : Hid (∀ d, ordD (DL d) = ordT true 0 (timL p.l f.lg d)) := Lib.hid (by rw [hDL]; exact fun d => ordD_legs p.l f d)
  have HDN : Hid (∀ d, (DL d).length ≤ 1000) := Lib.hid (by rw [hDL]; intro d; rw [List.length_map]; omega)
  have KLg : Hid (∀ d W, (∀ x ∈ f.lg, (-1000000 ≤ x.dep ∧ x.dep ≤ 1000000) ∧ -1000000 ≤ x.arr ∧ x.arr ≤ 1000000) → AirL W p.A p.l → LegL W (.slice f.A f.lg.length f.c) f.lg → (0 ≤ d ∧ d < 36525) → Calls Try.prog 22 #[encP p, encFl f, .int .i64 d] W fun e w' => ∃ v, e = .returned v ∧ ROwn datT 8 encDt W.heap.size w' v (DL d) ∧ Below W.heap.size W w') := Lib.hid (by rw [hDL]; exact KLg.out)
  clear hDL
  obtain ⟨HF, hHF⟩ : ∃ H, H = hdF f := ⟨_, rfl⟩
  obtain ⟨HR, hHR⟩ : ∃ H, H = hdR f := ⟨_, rfl⟩
  obtain ⟨CF, hCF⟩ : ∃ H, H = chF p.l f := ⟨_, rfl⟩
  obtain ⟨D, hD⟩ : ∃ D, D = Per.daysQ (f.pf, f.pt, f.pd) := ⟨_, rfl⟩
  have HBT : Hid (∀ x ∈ f.lg, (lgsF p.l f.lg f.lg.length = []) → (-1000000 ≤ x.dep ∧ x.dep ≤ 1000000) ∧ -1000000 ≤ x.arr ∧ x.arr ≤ 1000000) := Lib.hid (fun x hx h => lgs_times h hx)
  have HHR : Hid (HR = HF ++ pick lgsW [if (!cntB f.lg.length) = true then 4 else 0]) := Lib.hid (by rw [hHR, hHF]; rfl)
  have HCF : Hid (CF = if cntB f.lg.length = true then (if (HF ++ lgsF p.l f.lg f.lg.length).length = 0 then badD p.l f.lg D else HF ++ lgsF p.l f.lg f.lg.length) else HF ++ pick lgsW [4]) := Lib.hid (by rw [hCF, hHF, hD]; rfl)
  have HHL : Hid (HF.length ≤ 3) := Lib.hid (by rw [hHF]; exact hdF_le _)
  have HB : Hid (∀ d ∈ D, 0 ≤ d ∧ d < 36525) := Lib.hid (by rw [hD]; exact fun d => days_bd)
  have HDl : D.length ≤ 800 := by rw [hD]; exact Per.daysQ_len _
  have KD := Lib.hid (fun W => Per.rdays_any f.pf f.pt f.pd W hpf.1 hpf.2)
  rw [← hHR] at KH
  rw [← hD] at KD
  rw [← hCF]
  clear hHF hHR hCF hD
  obtain ⟨car, num, pf, pt, pd, A, c, lg⟩ := f
  dsimp only at *
  have hb1 := bel_alloc w (.cells #[.slice p.A p.l.length p.ca, .slice p.D p.ds.length p.cd] placesT)
  have hb2 := bel_alloc (w.alloc (.cells #[.slice p.A p.l.length p.ca, .slice p.D p.ds.length p.cd] placesT)) (.cells #[.string car, .int .i64 num, .int .i64 pf, .int .i64 pt, .int .i64 pd, .slice A lg.length c] fliT)
  have hb0 := hb1.trans (hb2.mono hb1.size)
  have p0 := bel_cell hb2 ((cells_new w #[.slice p.A p.l.length p.ca, .slice p.D p.ds.length p.cd] placesT 0).trans (show _ = some (.slice p.A p.l.length p.ca) from rfl))
  have p1 := bel_cell hb2 ((cells_new w #[.slice p.A p.l.length p.ca, .slice p.D p.ds.length p.cd] placesT 1).trans (show _ = some (.slice p.D p.ds.length p.cd) from rfl))
  have q0 := (cells_new (w.alloc (.cells #[.slice p.A p.l.length p.ca, .slice p.D p.ds.length p.cd] placesT)) #[.string car, .int .i64 num, .int .i64 pf, .int .i64 pt, .int .i64 pd, .slice A lg.length c] fliT 0).trans (show _ = some (Value.string car) from rfl)
  have q1 := (cells_new (w.alloc (.cells #[.slice p.A p.l.length p.ca, .slice p.D p.ds.length p.cd] placesT)) #[.string car, .int .i64 num, .int .i64 pf, .int .i64 pt, .int .i64 pd, .slice A lg.length c] fliT 1).trans (show _ = some (Value.int .i64 num) from rfl)
  have q2 := (cells_new (w.alloc (.cells #[.slice p.A p.l.length p.ca, .slice p.D p.ds.length p.cd] placesT)) #[.string car, .int .i64 num, .int .i64 pf, .int .i64 pt, .int .i64 pd, .slice A lg.length c] fliT 2).trans (show _ = some (Value.int .i64 pf) from rfl)
  have q3 := (cells_new (w.alloc (.cells #[.slice p.A p.l.length p.ca, .slice p.D p.ds.length p.cd] placesT)) #[.string car, .int .i64 num, .int .i64 pf, .int .i64 pt, .int .i64 pd, .slice A lg.length c] fliT 3).trans (show _ = some (Value.int .i64 pt) from rfl)
  have q4 := (cells_new (w.alloc (.cells #[.slice p.A p.l.length p.ca, .slice p.D p.ds.length p.cd] placesT)) #[.string car, .int .i64 num, .int .i64 pf, .int .i64 pt, .int .i64 pd, .slice A lg.length c] fliT 4).trans (show _ = some (Value.int .i64 pd) from rfl)
  have q5 := (cells_new (w.alloc (.cells #[.slice p.A p.l.length p.ca, .slice p.D p.ds.length p.cd] placesT)) #[.string car, .int .i64 num, .int .i64 pf, .int .i64 pt, .int .i64 pd, .slice A lg.length c] fliT 5).trans (show _ = some (Value.slice A lg.length c) from rfl)
  rw [World.size_alloc] at q0 q1 q2 q3 q4 q5
  have HSZ : Hid (((w.alloc (.cells #[.slice p.A p.l.length p.ca, .slice p.D p.ds.length p.cd] placesT)).alloc (.cells #[.string car, .int .i64 num, .int .i64 pf, .int .i64 pt, .int .i64 pd, .slice A lg.length c] fliT)).heap.size = w.heap.size + 2) := Lib.hid (by simp)
  have HLL := Lib.hid (hL.more hb0)
  have HGG := Lib.hid (hG.more hb0)
  have HO := Lib.hid ho
  clear hL hG ho hz hc0 hpf
  go_enter Try.func5, Try.ntmps5
  go_upto_region 1 with (fail)
  generalize hw5 : (w.alloc (.cells #[.slice p.A p.l.length p.ca, .slice p.D p.ds.length p.cd] placesT)).alloc (.cells #[.string car, .int .i64 num, .int .i64 pf, .int .i64 pt, .int .i64 pd, .slice A lg.length c] fliT) = w5 at *
  clear hw5 hb1 hb2
  have F0 := Lib.hid (bel_get q0)
  have F1 := Lib.hid (bel_get q1)
  have F2 := Lib.hid (bel_get q2)
  have F3 := Lib.hid (bel_get q3)
  have F4 := Lib.hid (bel_get q4)
  have F5 := Lib.hid (bel_get q5)
  have Y0 := Lib.hid (bel_get p0)
  have Y1 := Lib.hid (bel_get p1)
  clear p0 p1 q0 q1 q2 q3 q4 q5
  have hS0 : SW w5 w5 := Below.refl _ _
  have k0 := F0.out _ hS0
  have k1 := F1.out _ hS0
  have k2 := F2.out _ hS0
  have k3 := F3.out _ hS0
  have k4 := F4.out _ hS0
  have k5 := F5.out _ hS0
  go_upto_region 2 with (go_at_call 14; refine (KH.out _).mono ?_; rintro e w1 ⟨v1, rfl, hO1, hS1⟩)
  have hS1 : SW w5 w1 := hS1
  have k5 := F5.out _ hS1
  clear hS0 k0 k1 k2 k3 k4
  cases hcn : cntB lg.length with
  | false =>
    have HR2 : Hid (CF = HR) := Lib.hid (by rw [HCF.out, if_neg (by rw [hcn]; simp), HHR.out, hcn]; rfl)
    have hc2 : lg.length < 1 ∨ 6 < lg.length := by
      unfold cntB at hcn
      rw [Bool.and_eq_false_iff, decide_eq_false_iff_not, decide_eq_false_iff_not] at hcn
      omega
    clear hcn
    by_cases h1 : (lg.length : Int) < 1
    all_goals
      have i6 : ((lg.length : Int) < 1) ∨ (6 : Int) < (lg.length : Int) := by omega
      first | (have i7 : (6 : Int) < (lg.length : Int) := by omega) | skip
      go_wp2
      go_ret
      exact ⟨v1, rfl, by rw [HR2.out]; exact ⟨hO1.own.mono hb0.size, Nat.le_trans hb0.size hO1.base⟩, hb0.trans (Below.mono hS1 hb0.size)⟩
  | true =>
    have hc2 := cnt_bd hcn
    have HR2 : Hid (HR = HF) := Lib.hid (by rw [HHR.out, hcn]; simp [pick_zero])
    have HC2 : Hid (CF = if (HF ++ lgsF p.l lg lg.length).length = 0 then badD p.l lg D else HF ++ lgsF p.l lg lg.length) := Lib.hid (by rw [HCF.out, if_pos hcn])
    rw [HR2.out] at hO1
    have HI : Hid (FOwn w5.heap.size w1 v1 (HF ++ lgsF p.l lg 0) ∧ SW w5 w1) := Lib.hid ⟨by simpa [lgsF] using hO1, hS1⟩
    have h1 : ¬ (lg.length : Int) < 1 := by omega
    have h6 : ¬ (6 : Int) < (lg.length : Int) := by omega
    clear hcn hO1 HCF HHR HR2 KH
    go_wp2
    clear k5 hS1
    go_loopg [5, 6] lg.length (fun kx v5 vi wr => ∃ (v : Value) (k : Nat), v = v5 ∧ vi = .int .i64 k ∧ k + kx = lg.length ∧ Hid (FOwn w5.heap.size wr v (HF ++ lgsF p.l lg k) ∧ SW w5 wr))
    case atStart => exact ⟨_, 0, rfl, rfl, by omega, HI⟩
    case round =>
      obtain ⟨v, k, rfl, rfl, hkx, HH⟩ := hrel
      clear HI
      have HKX := Lib.hid hkx
      by_cases hlt : k < lg.length
      · clear hkx
        obtain ⟨b, o, x, rfl, hbl, hx, c0, c1, c2, c3, c4⟩ := LegL.get (HGG.out.more HH.out.2) hlt
        have hox := HO.out x (List.mem_of_getElem? hx)
        have hO := HH.out.1
        have hSr : SW w5 wr := HH.out.2
        have HV1 : Hid (∀ g, v.ownBlock = some g → w5.heap.size ≤ g ∧ g < wr.heap.size) := Lib.hid (fun g hg => hO.low hg)
        have hvN : v.ownBlock ≠ some wr.heap.size := fun h => by have := (HV1.out _ h).2; omega
        have hb6 := bel_alloc wr (.cells #[.string x.f, .string x.t, .int .i64 x.dep, .int .i64 x.arr, .string x.eq] legT)
        have n0 := (cells_new wr #[.string x.f, .string x.t, .int .i64 x.dep, .int .i64 x.arr, .string x.eq] legT 0).trans (show _ = some (Value.string x.f) from rfl)
        have n1 := (cells_new wr #[.string x.f, .string x.t, .int .i64 x.dep, .int .i64 x.arr, .string x.eq] legT 1).trans (show _ = some (Value.string x.t) from rfl)
        have n2 := (cells_new wr #[.string x.f, .string x.t, .int .i64 x.dep, .int .i64 x.arr, .string x.eq] legT 2).trans (show _ = some (Value.int .i64 x.dep) from rfl)
        have n3 := (cells_new wr #[.string x.f, .string x.t, .int .i64 x.dep, .int .i64 x.arr, .string x.eq] legT 3).trans (show _ = some (Value.int .i64 x.arr) from rfl)
        have n4 := (cells_new wr #[.string x.f, .string x.t, .int .i64 x.dep, .int .i64 x.arr, .string x.eq] legT 4).trans (show _ = some (Value.string x.eq) from rfl)
        have KDc := Lib.hid (rdec_small k (by omega) (wr.alloc (.cells #[.string x.f, .string x.t, .int .i64 x.dep, .int .i64 x.arr, .string x.eq] legT)))
        have KE := Lib.hid (fun w => rcode_any x.eq 3 3 w hox.eq)
        have KF1 : Hid (∀ W, SW w5 W → Calls Try.prog 17 #[encP p, .string x.f] W fun e w' => e = .returned (.tuple #[encA (airOf p.l x.f), .bool (findC p.l x.f).isSome]) ∧ Below W.heap.size W w') := Lib.hid (fun W h => rfind_any p x.f W hl (HLL.out.more h))
        have KF2 : Hid (∀ W, SW w5 W → Calls Try.prog 17 #[encP p, .string x.t] W fun e w' => e = .returned (.tuple #[encA (airOf p.l x.t), .bool (findC p.l x.t).isSome]) ∧ Below W.heap.size W w') := Lib.hid (fun W h => rfind_any p x.t W hl (HLL.out.more h))
        have KX : Hid (∀ W, SW w5 W → Calls Try.prog 18 #[.slice (some ⟨b, o, none⟩) lg.length c, .int .i64 (k : Int)] W fun e w' => e = .returned (.bool (!nextB (lg.take k) x)) ∧ Below W.heap.size W w') := Lib.hid (fun W h => rbroken_any (some ⟨b, o, none⟩) c lg k x W (by omega) (HGG.out.more h) hx)
        have KM1 := Lib.hid (rout_any x.dep)
        have KM2 := Lib.hid (rout_any x.arr)
        have hle : lgEs p.l (lg.take k) x = [wh (!codeB x.eq 3 3) 5, wh (!((findC p.l x.f).isSome && (findC p.l x.t).isSome)) 14, wh (!nextB (lg.take k) x) 15, wh (!(minB x.dep && minB x.arr)) 2] := rfl
        have HTk : Hid (HF ++ lgsF p.l lg (k + 1) = HF ++ lgsF p.l lg k ++ pick (legW ++ decA k) [wh (!codeB x.eq 3 3) 5] ++ pick (legW ++ decA k) [wh (!((findC p.l x.f).isSome && (findC p.l x.t).isSome)) 14] ++ pick (legW ++ decA k) [wh (!nextB (lg.take k) x) 15] ++ pick (legW ++ decA k) [wh (!(minB x.dep && minB x.arr)) 2]) := Lib.hid (by
          rw [lgsF_succ p.l lg k x hx, hle]
          simp only [List.append_assoc, ← pick_app, List.cons_append, List.nil_append])
        have HFL : Hid ((HF ++ lgsF p.l lg k).length ≤ 1000) := Lib.hid (by have h1 := lgsF_le p.l lg k; have h2 := HHL.out; rw [List.length_append]; omega)
        have hadd : ∀ W : World, (Op.stringOp .add ⟨#[108, 101, 103, 32]⟩ (decA k)).run Try.prog W = .ok (.string (legW ++ decA k)) W := fun W => run_string_add_sum W _ _ (by have := decA_size k (by omega); have e : (⟨#[108, 101, 103, 32]⟩ : ByteArray).size = 4 := rfl; omega)
        have i2 : (k : Int) < (lg.length : Int) := by omega
        have k5 := F5.out _ hSr
        generalize airOf p.l x.f = a1 at *
        generalize airOf p.l x.t = a2 at *
        generalize (findC p.l x.f).isSome = kf at *
        generalize (findC p.l x.t).isSome = kt at *
        generalize codeB x.eq 3 3 = ke at *
        generalize nextB (lg.take k) x = kn at *
        generalize minB x.dep = md at *
        generalize minB x.arr = ma at *
        generalize hBL : HF ++ lgsF p.l lg k = BL at *
        clear hx hox hbl hle hBL HH
        generalize hnm : legW ++ decA k = nm at *
        clear hnm
        go_upto_region 9 with (go_at_call 15; refine KDc.out.mono ?_; rintro e w6 ⟨rfl, hbd⟩)
        have hbx : Below wr.heap.size wr w6 := hb6.trans (Below.mono hbd hb6.size)
        have hO := hO.more hbx
        have HS6 : Hid (SW w5 w6) := Lib.hid (Below.trans hSr (hbx.mono hSr.size))
        have n0 := bel_cell hbd n0
        have n1 := bel_cell hbd n1
        have n2 := bel_cell hbd n2
        have n3 := bel_cell hbd n3
        have n4 := bel_cell hbd n4
        have HO6 := Lib.hid hO
        have HSW : Hid (∀ W u, Chg w6 W v u → SW w5 W) := Lib.hid (fun W u h => Below.trans HS6.out (h.below HO6.out))
        have N0 : Hid (∀ W u, Chg w6 W v u → W.cell? ⟨wr.heap.size, 0, none⟩ = some (.string x.f)) := Lib.hid (fun W u h => h.cell n0 hvN)
        have N1 : Hid (∀ W u, Chg w6 W v u → W.cell? ⟨wr.heap.size, 1, none⟩ = some (.string x.t)) := Lib.hid (fun W u h => h.cell n1 hvN)
        have N2 : Hid (∀ W u, Chg w6 W v u → W.cell? ⟨wr.heap.size, 2, none⟩ = some (.int .i64 x.dep)) := Lib.hid (fun W u h => h.cell n2 hvN)
        have N3 : Hid (∀ W u, Chg w6 W v u → W.cell? ⟨wr.heap.size, 3, none⟩ = some (.int .i64 x.arr)) := Lib.hid (fun W u h => h.cell n3 hvN)
        clear k5 c0 c1 c2 c3 c4 hb6 hbd hbx hSr n0 n1 n2 n3 hadd KDc
        go_upto_if 46 with (go_at_call 16; refine (KE.out _).mono ?_; rintro e w' ⟨rfl, rfl⟩)
        go_cut [5] from 28 to 98 (fun u wx => Hid (FOwn w5.heap.size wx u (BL ++ pick nm [wh (!ke) 5]) ∧ Chg w6 wx v u))
        case first =>
          have HLn : Hid (BL.length ≤ 100000000) := Lib.hid (by have := HFL.out; omega)
          cases ke with
          | true =>
            go_wp2
            go_meet
            exact Lib.hid ⟨by rw [wh_pick _ _ _ (by omega)]; simpa using hO, Chg.refl _ _⟩
          | false =>
            go_wp2_with (at_builtin; refine wpList_rapp rtF rfl _ _ rfl hO rfl (bel_alloc _ _) _ (5, nm) _ rfl (cs := #[.int .i64 5, .string nm]) rfl (heap_alloc_new _ _) HLn.out ?_; intro v1 w1 hO1 hC1)
            go_meet
            exact Lib.hid ⟨by rw [wh_pick _ _ _ (by omega)]; exact hO1, hC1⟩
        case rest =>
          have hO := hcut.out.1
          have hC := hcut.out.2
          have hS := HSW.out _ _ hC
          have m0 := N0.out _ _ hC
          have m1 := N1.out _ _ hC
          have y0 := Y0.out _ hS
          have y1 := Y1.out _ hS
          clear hcut n4 HO6
          go_upto_region 13 with (first | (go_at_call 17; with_reducible refine (KF2.out _ hS7).mono ?_; rintro e w8 ⟨rfl, hb8⟩) | (go_at_call 17; with_reducible refine (KF1.out _ hS).mono ?_; rintro e w7 ⟨rfl, hb7⟩; have hS7 : SW w5 (w7.alloc (.cells #[.string a1.code, .string a1.city, .string a1.land, .int .i64 a1.off, .slice a1.A a1.shs.length a1.c] airT)) := Below.alloc (Below.trans hS (Below.mono hb7 hS.size)) (Nat.le_trans hS.size hb7.size) _; have y0 := Y0.out _ hS7; have y1 := Y1.out _ hS7; have m1 := bel_cell (bel_alloc w7 (.cells #[.string a1.code, .string a1.city, .string a1.land, .int .i64 a1.off, .slice a1.A a1.shs.length a1.c] airT)) (bel_cell hb7 m1)))
          have hb9 : Below wc.heap.size wc (w8.alloc (.cells #[.string a2.code, .string a2.city, .string a2.land, .int .i64 a2.off, .slice a2.A a2.shs.length a2.c] airT)) := (((Below.alloc hb7 hb7.size (.cells #[.string a1.code, .string a1.city, .string a1.land, .int .i64 a1.off, .slice a1.A a1.shs.length a1.c] airT)).trans (Below.mono hb8 (Nat.le_trans hb7.size (bel_alloc w7 (.cells #[.string a1.code, .string a1.city, .string a1.land, .int .i64 a1.off, .slice a1.A a1.shs.length a1.c] airT)).size))).alloc (Nat.le_trans hb7.size (Nat.le_trans (bel_alloc w7 (.cells #[.string a1.code, .string a1.city, .string a1.land, .int .i64 a1.off, .slice a1.A a1.shs.length a1.c] airT)).size hb8.size)) (.cells #[.string a2.code, .string a2.city, .string a2.land, .int .i64 a2.off, .slice a2.A a2.shs.length a2.c] airT))
          have hO := hO.more hb9
          have hC := hC.trans (Chg.of_below hb9)
          generalize hw9 : w8.alloc (.cells #[.string a2.code, .string a2.city, .string a2.land, .int .i64 a2.off, .slice a2.A a2.shs.length a2.c] airT) = w9 at *
          clear hb9 m0 m1 y0 y1 hS hS7 hb7 hb8 hw9
          go_cut [71] from 28 to 98 (fun v71 wx => v71 = .bool (!(kf && kt)) ∧ wx = w9)
          case first =>
            cases kf with
            | false =>
              go_wp2
              go_meet
              exact ⟨rfl, rfl⟩
            | true =>
              go_wp2
              go_meet
              exact ⟨rfl, rfl⟩
          case rest =>
            obtain ⟨rfl, hwc⟩ := hcut
            obtain rfl := hwc
            generalize (kf && kt) = kb at *
            go_upto_if 71 with fail
            go_cut [5] from 28 to 98 (fun u wx => Hid (FOwn w5.heap.size wx u (BL ++ pick nm [wh (!ke) 5] ++ pick nm [wh (!kb) 14]) ∧ Chg w6 wx v u))
            case first =>
              have HLn : Hid ((BL ++ pick nm [wh (!ke) 5]).length ≤ 100000000) := Lib.hid (by have h9 := HFL.out; have h0 := pick_le nm [wh (!ke) 5]; have h1 := pick_le nm [wh (!kb) 14]; have h2 := pick_le nm [wh (!kn) 15]; simp only [List.length_append, List.length_cons, List.length_nil] at h0 h1 h2 ⊢; omega)
              cases kb with
              | true =>
                go_wp2
                go_meet
                exact Lib.hid ⟨by rw [wh_pick nm (!true) 14 (by omega)]; simpa using hO, hC⟩
              | false =>
                go_wp2_with (at_builtin; refine wpList_rapp rtF rfl _ _ rfl hO rfl (bel_alloc _ _) _ (14, nm) _ rfl (cs := #[.int .i64 14, .string nm]) rfl (heap_alloc_new _ _) HLn.out ?_; intro v1 w1 hO1 hC1)
                go_meet
                exact Lib.hid ⟨by rw [wh_pick nm (!false) 14 (by omega)]; exact hO1, hC.trans hC1⟩
            case rest =>
              have hO := hcut.out.1
              have hC := hcut.out.2
              have hS := HSW.out _ _ hC
              have k5 := F5.out _ hS
              clear hcut
              go_upto_if 80 with (go_at_call 18; refine (KX.out _ hS).mono ?_; rintro e w2 ⟨rfl, hb2⟩)
              have hO := hO.more hb2
              have hC := hC.trans (Chg.of_below hb2)
              clear hb2 hS k5
              go_cut [5] from 28 to 98 (fun u wx => Hid (FOwn w5.heap.size wx u (BL ++ pick nm [wh (!ke) 5] ++ pick nm [wh (!kb) 14] ++ pick nm [wh (!kn) 15]) ∧ Chg w6 wx v u))
              case first =>
                have HLn : Hid ((BL ++ pick nm [wh (!ke) 5] ++ pick nm [wh (!kb) 14]).length ≤ 100000000) := Lib.hid (by have h9 := HFL.out; have h0 := pick_le nm [wh (!ke) 5]; have h1 := pick_le nm [wh (!kb) 14]; have h2 := pick_le nm [wh (!kn) 15]; simp only [List.length_append, List.length_cons, List.length_nil] at h0 h1 h2 ⊢; omega)
                cases kn with
                | true =>
                  go_wp2
                  go_meet
                  exact Lib.hid ⟨by rw [wh_pick nm (!true) 15 (by omega)]; simpa using hO, hC⟩
                | false =>
                  go_wp2_with (at_builtin; refine wpList_rapp rtF rfl _ _ rfl hO rfl (bel_alloc _ _) _ (15, nm) _ rfl (cs := #[.int .i64 15, .string nm]) rfl (heap_alloc_new _ _) HLn.out ?_; intro v1 w1 hO1 hC1)
                  go_meet
                  exact Lib.hid ⟨by rw [wh_pick nm (!false) 15 (by omega)]; exact hO1, hC.trans hC1⟩
              case rest =>
                have hO := hcut.out.1
                have hC := hcut.out.2
                have m2 := N2.out _ _ hC
                have m3 := N3.out _ _ hC
                clear hcut
                go_upto_region 17 with fail
                go_cut [93] from 28 to 98 (fun v93 wx => v93 = .bool (!(md && ma)) ∧ wx = wc)
                case first =>
                  cases md with
                  | false =>
                    go_wp2_with (go_at_call 19; first | (with_reducible refine (KM1.out _).mono ?_; rintro e w' ⟨rfl, rfl⟩) | (with_reducible refine (KM2.out _).mono ?_; rintro e w' ⟨rfl, rfl⟩))
                    go_meet
                    exact ⟨rfl, rfl⟩
                  | true =>
                    go_wp2_with (go_at_call 19; first | (with_reducible refine (KM1.out _).mono ?_; rintro e w' ⟨rfl, rfl⟩) | (with_reducible refine (KM2.out _).mono ?_; rintro e w' ⟨rfl, rfl⟩))
                    go_meet
                    exact ⟨rfl, rfl⟩
                case rest =>
                  obtain ⟨rfl, hwc⟩ := hcut
                  obtain rfl := hwc
                  clear m2 m3
                  generalize (md && ma) = mb at *
                  go_upto_if 93 with fail
                  have HLn : Hid ((BL ++ pick nm [wh (!ke) 5] ++ pick nm [wh (!kb) 14] ++ pick nm [wh (!kn) 15]).length ≤ 100000000) := Lib.hid (by have h9 := HFL.out; have h0 := pick_le nm [wh (!ke) 5]; have h1 := pick_le nm [wh (!kb) 14]; have h2 := pick_le nm [wh (!kn) 15]; simp only [List.length_append, List.length_cons, List.length_nil] at h0 h1 h2 ⊢; omega)
                  cases mb with
                  | true =>
                    have HY : Hid (FOwn w5.heap.size wc _ (HF ++ lgsF p.l lg (k + 1)) ∧ SW w5 wc) := Lib.hid ⟨by rw [HTk.out, wh_pick nm (!true) 2 (by omega)]; simpa using hO, HSW.out _ _ hC⟩
                    clear hO hC
                    go_wp2
                    go_roundg (lg.length - (k + 1))
                    case measure => have := HKX.out; omega
                    case rel => exact ⟨_, k + 1, rfl, by go_num, by omega, HY⟩
                  | false =>
                    go_wp2_with (at_builtin; refine wpList_rapp rtF rfl _ _ rfl hO rfl (bel_alloc _ _) _ (2, nm) _ rfl (cs := #[.int .i64 2, .string nm]) rfl (heap_alloc_new _ _) HLn.out ?_; intro v9 w9 hO1 hC1)
                    have HY : Hid (FOwn w5.heap.size w9 v9 (HF ++ lgsF p.l lg (k + 1)) ∧ SW w5 w9) := Lib.hid ⟨by rw [HTk.out, wh_pick nm (!false) 2 (by omega)]; exact hO1, HSW.out _ _ (hC.trans hC1)⟩
                    clear hO hC hO1 hC1
                    go_roundg (lg.length - (k + 1))
                    case measure => have := HKX.out; omega
                    case rel => exact ⟨_, k + 1, rfl, by go_num, by omega, HY⟩
      · have hk : k = lg.length := by omega
        have hO := HH.out.1
        have hSr : SW w5 wr := HH.out.2
        have HBT2 : Hid (HF ++ lgsF p.l lg k = [] → ∀ x ∈ lg, (-1000000 ≤ x.dep ∧ x.dep ≤ 1000000) ∧ -1000000 ≤ x.arr ∧ x.arr ≤ 1000000) := Lib.hid (by
          rw [hk]
          exact fun h x hx => HBT.out x hx (List.append_eq_nil_iff.1 h).2)
        have HC3 : Hid (CF = if (HF ++ lgsF p.l lg k).length = 0 then badD p.l lg (D.drop 0) else HF ++ lgsF p.l lg k) := Lib.hid (by rw [HC2.out, hk]; rfl)
        have HBL : Hid ((HF ++ lgsF p.l lg k).length ≤ 1000) := Lib.hid (by have h1 := lgsF_le p.l lg k; have h2 := HHL.out; rw [List.length_append]; omega)
        generalize hBL : HF ++ lgsF p.l lg k = BL at *
        have i1 : ¬ (k : Int) < (lg.length : Int) := by omega
        have k5 := F5.out _ hSr
        have k2 := F2.out _ hSr
        have k3 := F3.out _ hSr
        have k4 := F4.out _ hSr
        clear HH hkx hk hBL HC2 HBT
        go_wp2_with (go_at_call 20; refine (KD.out _).mono ?_; rintro e w2 ⟨v2, rfl, ⟨A2, c2, rfl, hI⟩, hbd⟩)
        have hO := hO.more hbd
        have hS2 : SW w5 w2 := Below.trans hSr (Below.mono hbd hSr.size)
        have HI2 := Lib.hid hI
        clear hI hbd k5 k2 k3 k4 hSr
        go_loopg [5, 14] D.length (fun kx v5 vi wr => ∃ (u : Value) (j : Nat) (Lc : List Flt), u = v5 ∧ vi = .int .i64 j ∧ j + kx = D.length ∧ Hid (FOwn w5.heap.size wr u Lc ∧ SW w5 wr ∧ Lc.length ≤ 1000) ∧ Hid (Lc.length = 0 → BL = [] ∧ SW w2 wr) ∧ Hid (CF = if Lc.length = 0 then badD p.l lg (D.drop j) else Lc))
        case atStart => exact ⟨_, 0, BL, rfl, rfl, by omega, Lib.hid ⟨hO, hS2, HBL.out⟩, Lib.hid (fun h => ⟨List.eq_nil_of_length_eq_zero h, Below.refl _ _⟩), HC3⟩
        case round =>
          obtain ⟨u, j, Lc, rfl, rfl, hjx, HH, HZ, HC⟩ := hrel
          have HJX := Lib.hid hjx
          have hO := HH.out.1
          have hS : SW w5 wr := HH.out.2.1
          clear HC3 HBL hS2
          obtain ⟨Au, cu, rfl, hvc⟩ := id (hO.rowL rtF.len)
          clear hvc
          by_cases hl0 : Lc.length = 0
          · obtain ⟨hBN, hSw2⟩ := HZ.out hl0
            have HCb : Hid (CF = badD p.l lg (D.drop j)) := Lib.hid (by rw [HC.out, if_pos hl0])
            have hLn := List.eq_nil_of_length_eq_zero hl0
            subst hLn
            have HT := Lib.hid (HBT2.out hBN)
            by_cases hlt2 : j < D.length
            · have i4 : (j : Int) < (D.length : Int) := by omega
              obtain ⟨b, o, rfl, hlb, hc⟩ : ∃ b o, A2 = some ⟨b, o, none⟩ ∧ b < w2.heap.size ∧ w2.cell? ⟨b, o + j, none⟩ = some (.int .i64 D[j]) := by
                rcases HI2.out with h | ⟨b, o, h1, h2, h3⟩
                · rw [h] at hlt2; simp at hlt2
                · exact ⟨b, o, h1, h2, h3 j hlt2⟩
              have hcr := bel_cell hSw2 hc
              have HB2 := Lib.hid (HCb.out.trans (badD_at hlt2))
              have hd := HB.out _ (List.getElem_mem hlt2)
              have HNX : Hid (j + 1 + (D.length - (j + 1)) = D.length) := Lib.hid (by omega)
              generalize D[j] = d at *
              have hBo := HDO.out d
              have KL2 : Hid (∀ W, SW wr W → Calls Try.prog 22 #[encP p, .agg #[.string car, .int .i64 num, .int .i64 pf, .int .i64 pt, .int .i64 pd, .slice A lg.length c], .int .i64 d] W fun e w' => ∃ v, e = .returned v ∧ RowL 8 encDt w' v (DL d) ∧ SW wr w') := Lib.hid (fun W h => (KLg.out d W HT.out (HLL.out.more (Below.trans hS (Below.mono h hS.size))) (HGG.out.more (Below.trans hS (Below.mono h hS.size))) hd).mono (by rintro e w' ⟨v, rfl, h1, h2⟩; exact ⟨v, rfl, h1.rowL rtD.len, Below.trans h (Below.mono h2 h.size)⟩))
              have KO2 : Hid (∀ u W, RowL 8 encDt W u (DL d) → SW wr W → Calls Try.prog 21 #[u] W fun e w' => e = .returned (.bool (ordT true 0 (timL p.l lg d))) ∧ SW wr w') := Lib.hid (fun u W hu h => (rordered_any u (DL d) W hu (HDN.out d)).mono (by rintro e w' ⟨rfl, h2⟩; exact ⟨by rw [hBo], Below.trans h (Below.mono h2 h.size)⟩))
              have KPr := Lib.hid (rprint_any d)
              generalize ordT true 0 (timL p.l lg d) = ob at *
              have e0 := bel_get hcr
              have e1 : ∀ W, SW wr W → W.cell? ⟨w.heap.size, 0, none⟩ = some (.slice p.A p.l.length p.ca) := fun W h => Y0.out W (Below.trans hS (Below.mono h hS.size))
              have e2 : ∀ W, SW wr W → W.cell? ⟨w.heap.size, 1, none⟩ = some (.slice p.D p.ds.length p.cd) := fun W h => Y1.out W (Below.trans hS (Below.mono h hS.size))
              have g0 : ∀ W, SW wr W → W.cell? ⟨w.heap.size + 1, 0, none⟩ = some (.string car) := fun W h => F0.out W (Below.trans hS (Below.mono h hS.size))
              have g1 : ∀ W, SW wr W → W.cell? ⟨w.heap.size + 1, 1, none⟩ = some (.int .i64 num) := fun W h => F1.out W (Below.trans hS (Below.mono h hS.size))
              have g2 : ∀ W, SW wr W → W.cell? ⟨w.heap.size + 1, 2, none⟩ = some (.int .i64 pf) := fun W h => F2.out W (Below.trans hS (Below.mono h hS.size))
              have g3 : ∀ W, SW wr W → W.cell? ⟨w.heap.size + 1, 3, none⟩ = some (.int .i64 pt) := fun W h => F3.out W (Below.trans hS (Below.mono h hS.size))
              have g4 : ∀ W, SW wr W → W.cell? ⟨w.heap.size + 1, 4, none⟩ = some (.int .i64 pd) := fun W h => F4.out W (Below.trans hS (Below.mono h hS.size))
              have g5 : ∀ W, SW wr W → W.cell? ⟨w.heap.size + 1, 5, none⟩ = some (.slice A lg.length c) := fun W h => F5.out W (Below.trans hS (Below.mono h hS.size))
              have HBN := Lib.hid hBN
              clear hjx HH HZ HC hBN hc hcr hBo HCb hl0 hlb
              go_upto_region 23 with (fail)
              have HSk : Hid (SW w5 wr) := Lib.hid hS
              have hS : (SW wr) _ := SW.drew _
              refine wp_region_held_drew (S := SW wr) (by kernel_rfl) hS (fun _ => ?_)
              refine wpAnyH_take (i := 0) (v := ?vD0) rfl (by kernel_rfl) (by kernel_rfl) (by kernel_rfl) (fun _ _ _ h => h) (Or.inl ⟨by rfl, ?hyD0⟩) hS ?restD0
              case hyD0 =>
                intro w hSw
                have k0 := e1 w hSw; have k1 := e2 w hSw
                first | (go_simp; done) | (go_simp; with_reducible rfl)
              try simp only [Act.put, List.setIfInBounds_toArray, List.set_cons_zero, List.set_cons_succ]
              refine wpAnyH_take (i := 1) (v := ?vD1) rfl (by kernel_rfl) (by kernel_rfl) (by kernel_rfl) (fun _ _ _ h => h) (Or.inl ⟨by rfl, ?hyD1⟩) hS ?restD1
              case hyD1 =>
                intro w hSw
                have k0 := g0 w hSw; have k1 := g1 w hSw; have k2 := g2 w hSw; have k3 := g3 w hSw; have k4 := g4 w hSw; have k5 := g5 w hSw
                first | (go_simp; done) | (go_simp; with_reducible rfl)
              try simp only [Act.put, List.setIfInBounds_toArray, List.set_cons_zero, List.set_cons_succ]
              refine wpAnyH_take (i := 2) (v := ?vD2) rfl (by kernel_rfl) (by kernel_rfl) (by kernel_rfl) (fun _ _ _ h => h) (Or.inl ⟨by rfl, ?hyD2⟩) hS ?restD2
              case hyD2 =>
                intro w hSw
                first | (go_simp; done) | (go_simp; with_reducible rfl)
              try simp only [Act.put, List.setIfInBounds_toArray, List.set_cons_zero, List.set_cons_succ]
              refine wpAnyH_take (i := 3) (v := ?vD3) rfl (by kernel_rfl) (by kernel_rfl) (by kernel_rfl) (fun _ _ _ h => h) (Or.inl ⟨by rfl, ?hyD3⟩) hS ?restD3
              case hyD3 =>
                intro w hSw
                first | (go_simp; done) | (go_simp; with_reducible rfl)
              try simp only [Act.put, List.setIfInBounds_toArray, List.set_cons_zero, List.set_cons_succ]
              refine wpAnyH_take (i := 4) (v := ?vD4) rfl (by kernel_rfl) (by kernel_rfl) (by kernel_rfl) (fun _ _ _ h => h) (Or.inl ⟨by rfl, ?hyD4⟩) hS ?restD4
              case hyD4 =>
                intro w hSw
                first | (go_simp; done) | (go_simp; with_reducible rfl)
              try simp only [Act.put, List.setIfInBounds_toArray, List.set_cons_zero, List.set_cons_succ]
              refine wpAnyH_take (i := 5) (v := ?vD5) rfl (by kernel_rfl) (by kernel_rfl) (by kernel_rfl) (fun _ _ _ h => h) (Or.inl ⟨by rfl, ?hyD5⟩) hS ?restD5
              case hyD5 =>
                intro w hSw
                have k0 := e0 w hSw
                first | (go_simp; done) | (go_simp; with_reducible rfl)
              try simp only [Act.put, List.setIfInBounds_toArray, List.set_cons_zero, List.set_cons_succ]
              refine wpAnyH_ready (rs := [6]) (by kernel_rfl) (by simp) ?_
              refine AllReadyH.cons rfl (fun K hK => ?_) AllReadyH.nil
              go_simp
              go_wp2_with ((go_at_call 22; refine (KL2.out _ hS).mono ?_; rintro e w7 ⟨u7, rfl, hD7, hS⟩))
              refine hK.out _ _ hS (fun _ => ?_)
              clear hK K
              refine wpAnyH_ready (rs := [7]) (by kernel_rfl) (by simp) ?_
              refine AllReadyH.cons rfl (fun K hK => ?_) AllReadyH.nil
              go_simp
              go_wp2_with ((go_at_call 21; refine (KO2.out u7 _ hD7 hS).mono ?_; rintro e w8 ⟨rfl, hS⟩))
              refine hK.out _ _ hS (fun _ => ?_)
              clear hK K
              refine wpAnyH_take (i := 8) (v := ?vD8) rfl (by kernel_rfl) (by kernel_rfl) (by kernel_rfl) (fun _ _ _ h => h) (Or.inl ⟨by rfl, ?hyD8⟩) hS ?restD8
              case hyD8 =>
                intro w hSw
                first | (go_simp; done) | (go_simp; with_reducible rfl)
              try simp only [Act.put, List.setIfInBounds_toArray, List.set_cons_zero, List.set_cons_succ]
              refine wpAnyH_done (by kernel_rfl) ?_ _
              simp only [List.getElem_toArray, List.getElem_cons_succ, List.getElem_cons_zero, List.set_cons_zero, List.set_cons_succ]
              have hSk : SW w5 w8 := Below.trans HSk.out (Below.mono hS HSk.out.size)
              have hO := hO.more hS
              have z0 := e0 _ hS
              have hS2w : SW w2 w8 := Below.trans hSw2 (Below.mono hS hSw2.size)
              clear hSw2
              cases ob with
              | true =>
                have HR : Hid (CF = badD p.l lg (D.drop (j + 1))) := Lib.hid (by rw [HB2.out]; rfl)
                go_wp2
                go_roundg (D.length - (j + 1))
                case measure => have := HJX.out; omega
                case rel => exact ⟨_, j + 1, [], rfl, by go_num, HNX.out, Lib.hid ⟨hO, hSk, by simp⟩, Lib.hid (fun _ => ⟨HBN.out, hS2w⟩), HR⟩
              | false =>
                obtain ⟨X, hX⟩ : ∃ X, X = (⟨(printL d).toArray⟩ : ByteArray) := ⟨_, rfl⟩
                rw [← hX] at KPr
                have HR : Hid (CF = [(13, dayW ++ X)]) := Lib.hid (by rw [HB2.out, hX]; rfl)
                have hzX : X.size ≤ 10 := by rw [hX]; exact Per.print_len10 d
                have A1 := fun W => run_string_add_sum (P := Try.prog) (w := W) (⟨#[100, 97, 121, 32]⟩ : ByteArray) X (by show 4 + X.size ≤ _; omega)
                clear hX
                go_wp2_with (first
                  | (go_at_call 23; refine (KPr.out _).mono ?_; rintro e w9 ⟨rfl, hb9⟩; have hO := hO.more hb9; have hSk : SW w5 w9 := Below.trans hSk (Below.mono hb9 hSk.size))
                  | (at_builtin; refine wpList_rapp rtF rfl _ _ rfl hO rfl (bel_alloc _ _) _ (13, dayW ++ X) _ rfl (cs := #[.int .i64 13, .string (dayW ++ X)]) rfl (heap_alloc_new _ _) (by simp) ?_; intro v9 w10 hO1 hC1))
                have hSz : SW w5 w10 := Below.trans hSk (hC1.below hO)
                go_roundg (D.length - (j + 1))
                case measure => have := HJX.out; omega
                case rel => exact ⟨_, j + 1, [(13, dayW ++ X)], rfl, by go_num, HNX.out, Lib.hid ⟨hO1, hSz, by simp⟩, Lib.hid (fun h => by simp at h), Lib.hid (by rw [HR.out]; rfl)⟩
            · have HR : Hid (CF = []) := Lib.hid (by rw [HCb.out, List.drop_of_length_le (by omega)]; rfl)
              have i4 : ¬ (j : Int) < (D.length : Int) := by omega
              clear HH HZ HC hl0 hjx hBN HCb
              go_wp2
              go_ret
              exact ⟨_, rfl, by rw [HR.out]; exact ⟨hO.own.mono hb0.size, Nat.le_trans hb0.size hO.base⟩, hb0.trans (Below.mono hS hb0.size)⟩
          · have HR : Hid (CF = Lc) := Lib.hid (by rw [HC.out, if_neg hl0])
            have i4 : ((Lc.length : Int) == 0) = false := by rw [beq_eq_false_iff_ne]; omega
            clear HH HZ HC hl0 hjx
            go_wp2
            go_ret
            exact ⟨_, rfl, by rw [HR.out]; exact ⟨hO.own.mono hb0.size, Nat.le_trans hb0.size hO.base⟩, hb0.trans (Below.mono hS hb0.size)⟩

end Go.Proofs.Ytmmpalnalogfnaa

/- A map of maps: what is taken under each name. -/
namespace Go.Proofs.Ytmmpalnalogfnaa
open Go.RowKit Go.Shelf Go.Maps
set_option linter.unusedSimpArgs false
set_option linter.unusedVariables false

theorem MapK.weak {κ : Type} {P : Program} {k : TypeId} {en : κ → Value} {w : World} {b n n' : Nat} {g : κ → Option Value} (h : MapK P k en w b n g) (hn : n ≤ n') : MapK P k en w b n' g := by
  obtain ⟨es, clock, h1, h2, h3, h4⟩ := h
  exact ⟨es, clock, h1, h2, Nat.le_trans h3 hn, h4⟩
theorem But.of_grown {w w' : World} {b : Nat} {X : Nat → Prop} (h : w.grownBy w' (some b)) (hx : X b) : But w w' X := ⟨h.os, h.tape, h.output, h.size, fun k hk hn => h.block k hk (fun e => hn (by have := Option.some.inj e; rw [this]; exact hx))⟩
theorem But.grown {w w1 w' : World} {b : Nat} {X : Nat → Prop} (h : But w w1 X) (hg : w1.grownBy w' (some b)) (hx : b < w.heap.size → X b) : But w w' X :=
  h.trans (But.of_grown (X := fun k => k = b) hg rfl) (fun k hk e => by rw [e] at hk ⊢; exact hx hk)
end Go.Proofs.Ytmmpalnalogfnaa

/- Walk of Check of a timetable. -/
namespace Go.Proofs.Ytmmpalnalogfnaa
open Go.RowKit Go.Shelf Go.Maps
set_option linter.unusedSimpArgs false
set_option linter.unusedVariables false

theorem own_cells {α : Type} {enc : α → List Value} {e : TypeId} {sz B : Nat} {w : World} {v : Value} {l : List α} (h : ROwn e sz enc B w v l) {k : Nat} (hk : v.ownBlock = some k) : ∃ cs, w.heap[k]? = some (.cells cs e (0, 0)) := by
  rcases h.own.2 with ⟨rfl, _⟩ | ⟨g, cap, cur, rfl, _, hg, _⟩
  · cases hk
  · cases hk
    exact ⟨cur, hg⟩
theorem ROwn.but {α : Type} {enc : α → List Value} {e : TypeId} {sz B : Nat} {w w' : World} {X : Nat → Prop} {v : Value} {l : List α} (h : ROwn e sz enc B w v l) (hB : But w w' X) (hx : ∀ k, v.ownBlock = some k → ¬ X k) : ROwn e sz enc B w' v l := by
  obtain ⟨⟨h1, h2⟩, h3⟩ := h
  refine ⟨⟨h1, ?_⟩, Nat.le_trans h3 hB.size⟩
  rcases h2 with ⟨rfl, hn⟩ | ⟨g, cap, cur, rfl, hb, hg, hr⟩
  · exact .inl ⟨rfl, hn⟩
  · exact .inr ⟨g, cap, cur, rfl, hb, (hB.block g (Array.getElem?_eq_some_iff.1 hg).1 (hx g rfl)).trans hg, hr⟩
end Go.Proofs.Ytmmpalnalogfnaa

/- Walks of cmp.Compare, cmp.Or and the comparison of legs; the library's stable sort at legs. -/
namespace Go.Proofs.Ytmmpalnalogfnaa
open Go.RowKit Go.Shelf Go.Lib Go.Sort
set_option linter.unusedSimpArgs false
set_option linter.unusedVariables false

set_option maxRecDepth 100000 in
theorem nanI_any (x : Int) (w : World) : Calls Try.prog 80 #[.int .i64 x] w fun e w' => e = .returned (.bool false) ∧ w' = w := by
  have h : (x != x) = false := by simp
  go_enter Try.func80, Try.ntmps80
  go_wp2
  go_ret
  exact ⟨by first | rfl | (simp), rfl⟩
set_option maxRecDepth 100000 in
theorem nanS_any (x : ByteArray) (w : World) : Calls Try.prog 81 #[.string x] w fun e w' => e = .returned (.bool false) ∧ w' = w := by
  have h : (x.toList == x.toList) = true := by simp
  go_enter Try.func81, Try.ntmps81
  go_wp2
  go_ret
  exact ⟨by first | rfl | (simp), rfl⟩
set_option maxRecDepth 100000 in
set_option maxHeartbeats 4000000 in
theorem cmpI_any (x y : Int) (w : World) : Calls Try.prog 58 #[.int .i64 x, .int .i64 y] w fun e w' => e = .returned (.int .i64 (Lib.compareInt x y)) ∧ w' = w := by
  have K1 := Lib.hid (nanI_any x w)
  have K2 := Lib.hid (nanI_any y w)
  rcases cmp_int x y with ⟨h, e⟩ | ⟨h, e⟩ | ⟨h, e⟩ <;> rw [e]
  · go_enter Try.func58, Try.ntmps58
    go_wp2_with (first | (go_at_call 80; with_reducible refine K1.out.mono ?_; rintro e w' ⟨rfl, rfl⟩) | (go_at_call 80; with_reducible refine K2.out.mono ?_; rintro e w' ⟨rfl, rfl⟩))
    go_ret
    exact ⟨rfl, rfl⟩
  · subst h
    have i1 : ¬ x < x := by omega
    go_enter Try.func58, Try.ntmps58
    go_wp2_with (first | (go_at_call 80; with_reducible refine K1.out.mono ?_; rintro e w' ⟨rfl, rfl⟩) | (go_at_call 80; with_reducible refine K2.out.mono ?_; rintro e w' ⟨rfl, rfl⟩))
    go_ret
    exact ⟨rfl, rfl⟩
  · have i1 : ¬ x < y := by omega
    go_enter Try.func58, Try.ntmps58
    go_wp2_with (first | (go_at_call 80; with_reducible refine K1.out.mono ?_; rintro e w' ⟨rfl, rfl⟩) | (go_at_call 80; with_reducible refine K2.out.mono ?_; rintro e w' ⟨rfl, rfl⟩))
    go_ret
    exact ⟨rfl, rfl⟩
set_option maxRecDepth 100000 in
set_option maxHeartbeats 4000000 in
theorem cmpS_any (x y : ByteArray) (w : World) : Calls Try.prog 59 #[.string x, .string y] w fun e w' => e = .returned (.int .i64 (cmT x y)) ∧ w' = w := by
  have K1 := Lib.hid (nanS_any x w)
  have K2 := Lib.hid (nanS_any y w)
  rcases cmp_txt x y with ⟨h, e⟩ | ⟨h, e⟩ | ⟨h, e⟩ <;> rw [e] <;> clear e
  · have h1 : Op.bytesLess x.toList y.toList = true := h
    go_enter Try.func59, Try.ntmps59
    go_wp2_with (first | (go_at_call 81; with_reducible refine K1.out.mono ?_; rintro e w' ⟨rfl, rfl⟩) | (go_at_call 81; with_reducible refine K2.out.mono ?_; rintro e w' ⟨rfl, rfl⟩))
    go_ret
    exact ⟨rfl, rfl⟩
  · subst h
    have h1 : Op.bytesLess x.toList x.toList = false := by simpa [LessT] using lessT_irrefl x
    have h2 : (x.toList == x.toList) = true := by simp
    go_enter Try.func59, Try.ntmps59
    go_wp2_with (first | (go_at_call 81; with_reducible refine K1.out.mono ?_; rintro e w' ⟨rfl, rfl⟩) | (go_at_call 81; with_reducible refine K2.out.mono ?_; rintro e w' ⟨rfl, rfl⟩))
    go_ret
    exact ⟨rfl, rfl⟩
  · have h1 : Op.bytesLess x.toList y.toList = false := less_asym _ _ h
    have h2 : (x.toList == y.toList) = false := by
      rw [car_eq, decide_eq_false_iff_not]
      rintro rfl
      exact lessT_irrefl _ h
    clear h
    go_enter Try.func59, Try.ntmps59
    go_wp2_with (first | (go_at_call 81; with_reducible refine K1.out.mono ?_; rintro e w' ⟨rfl, rfl⟩) | (go_at_call 81; with_reducible refine K2.out.mono ?_; rintro e w' ⟨rfl, rfl⟩))
    go_ret
    exact ⟨rfl, rfl⟩
set_option maxRecDepth 100000 in
set_option maxHeartbeats 4000000 in
theorem or3_any (b : Nat) (x y z : Int) (w : World) (c0 : w.cell? ⟨b, 0, none⟩ = some (.int .i64 x)) (c1 : w.cell? ⟨b, 1, none⟩ = some (.int .i64 y)) (c2 : w.cell? ⟨b, 2, none⟩ = some (.int .i64 z)) :
    Calls Try.prog 57 #[.slice (some ⟨b, 0, none⟩) 3 3] w fun e w' => e = .returned (.int .i64 (if x ≠ 0 then x else if y ≠ 0 then y else z)) ∧ w' = w := by
  obtain ⟨R, hR⟩ : ∃ R, R = (if x ≠ 0 then x else if y ≠ 0 then y else z) := ⟨_, rfl⟩
  rw [← hR]
  cases h0 : (x != 0) with
  | true =>
    have HR : Hid (x = R) := Lib.hid (by rw [hR, if_pos (by simpa using h0)])
    clear hR
    go_enter Try.func57, Try.ntmps57
    go_wp2
    go_loopw [8] (fun vi wr => ∃ k : Nat, k ≤ 0 ∧ vi = .int .i64 k ∧ wr = w) (fun vi _ => 3 - (intOf vi).toNat)
    case atStart => exact ⟨0, Nat.zero_le _, by first | rfl | trivial, by first | rfl | trivial⟩
    case round =>
      obtain ⟨k, hk, rfl, rfl⟩ := hrel
      obtain rfl : k = 0 := by omega
      · clear hk
        go_wp2
        go_ret
        exact ⟨ret_int HR.out, rfl⟩
  | false =>
  cases h1 : (y != 0) with
  | true =>
    have HR : Hid (y = R) := Lib.hid (by rw [hR, if_neg (by simpa using h0), if_pos (by simpa using h1)])
    clear hR
    go_enter Try.func57, Try.ntmps57
    go_wp2
    go_loopw [8] (fun vi wr => ∃ k : Nat, k ≤ 1 ∧ vi = .int .i64 k ∧ wr = w) (fun vi _ => 3 - (intOf vi).toNat)
    case atStart => exact ⟨0, Nat.zero_le _, by first | rfl | trivial, by first | rfl | trivial⟩
    case round =>
      obtain ⟨k, hk, rfl, rfl⟩ := hrel
      rcases (show k = 0 ∨ k = 1 by omega) with rfl | rfl
      · clear hk
        go_wp2
        go_roundw
        case rel => exact ⟨1, by omega, by first | rfl | trivial, by first | rfl | trivial⟩
        case measure => simp [intOf]
      · clear hk
        go_wp2
        go_ret
        exact ⟨ret_int HR.out, rfl⟩
  | false =>
  cases h2 : (z != 0) with
  | true =>
    have HR : Hid (z = R) := Lib.hid (by rw [hR, if_neg (by simpa using h0), if_neg (by simpa using h1)])
    clear hR
    go_enter Try.func57, Try.ntmps57
    go_wp2
    go_loopw [8] (fun vi wr => ∃ k : Nat, k ≤ 2 ∧ vi = .int .i64 k ∧ wr = w) (fun vi _ => 3 - (intOf vi).toNat)
    case atStart => exact ⟨0, Nat.zero_le _, by first | rfl | trivial, by first | rfl | trivial⟩
    case round =>
      obtain ⟨k, hk, rfl, rfl⟩ := hrel
      rcases (show k = 0 ∨ k = 1 ∨ k = 2 by omega) with rfl | rfl | rfl
      · clear hk
        go_wp2
        go_roundw
        case rel => exact ⟨1, by omega, by first | rfl | trivial, by first | rfl | trivial⟩
        case measure => simp [intOf]
      · clear hk
        go_wp2
        go_roundw
        case rel => exact ⟨2, by omega, by first | rfl | trivial, by first | rfl | trivial⟩
        case measure => simp [intOf]
      · clear hk
        go_wp2
        go_ret
        exact ⟨ret_int HR.out, rfl⟩
  | false =>
    have HR : Hid (0 = R) := Lib.hid (by rw [hR, if_neg (by simpa using h0), if_neg (by simpa using h1)]; exact (show z = 0 by simpa using h2).symm)
    clear hR
    go_enter Try.func57, Try.ntmps57
    go_wp2
    go_loopw [8] (fun vi wr => ∃ k : Nat, k ≤ 3 ∧ vi = .int .i64 k ∧ wr = w) (fun vi _ => 3 - (intOf vi).toNat)
    case atStart => exact ⟨0, Nat.zero_le _, by first | rfl | trivial, by first | rfl | trivial⟩
    case round =>
      obtain ⟨k, hk, rfl, rfl⟩ := hrel
      rcases (show k = 0 ∨ k = 1 ∨ k = 2 ∨ k = 3 by omega) with rfl | rfl | rfl | rfl
      · clear hk
        go_wp2
        go_roundw
        case rel => exact ⟨1, by omega, by first | rfl | trivial, by first | rfl | trivial⟩
        case measure => simp [intOf]
      · clear hk
        go_wp2
        go_roundw
        case rel => exact ⟨2, by omega, by first | rfl | trivial, by first | rfl | trivial⟩
        case measure => simp [intOf]
      · clear hk
        go_wp2
        go_roundw
        case rel => exact ⟨3, by omega, by first | rfl | trivial, by first | rfl | trivial⟩
        case measure => simp [intOf]
      · clear hk
        go_wp2
        go_ret
        exact ⟨ret_int HR.out, rfl⟩

/-- a world that has only drawn and grown -/
structure GR (w W : World) : Prop where
  bel : Below w.heap.size w W
  dr : w.drawn ≤ W.drawn
theorem GR.refl (w : World) : GR w w := ⟨Below.refl _ _, Nat.le_refl _⟩
theorem GR.drew {w W : World} (h : GR w W) : GR w W.drew := ⟨h.bel.drew, Nat.le_trans h.dr (Nat.le_succ _)⟩
theorem GR.alloc {w W : World} (h : GR w W) (o : Obj) : GR w (W.alloc o) := ⟨h.bel.trans ((bel_alloc W o).mono h.bel.size), h.dr⟩
theorem GR.grown {w W : World} (h : GR w W) : ∃ q os, W = grow (w.drewN q) os := by
  obtain ⟨⟨h1, h2, h3, h4, h5⟩, h6⟩ := h
  refine ⟨W.drawn - w.drawn, W.heap.extract w.heap.size W.heap.size, ?_⟩
  obtain ⟨hp, tp, dr, os, out⟩ := W
  obtain ⟨hp', tp', dr', os', out'⟩ := w
  dsimp only at h1 h2 h3 h4 h5 h6
  subst h1 h2 h3
  unfold grow World.drewN
  dsimp only
  congr 1
  · apply Array.ext_getElem?
    intro i
    by_cases hi : i < hp'.size
    · rw [Array.getElem?_append_left hi]; exact h5 i hi
    · rw [Array.getElem?_append_right (by omega), Array.getElem?_extract]
      by_cases hi2 : i < hp.size
      · rw [if_pos (by omega)]; congr 1; omega
      · rw [if_neg (by omega), Array.getElem?_eq_none (by omega)]
  · omega
theorem GR.cells {w W : World} {a : Addr} {v : Value} (h : GR w W) (hc : w.cell? a = some v) : W.cell? a = some v := bel_cell h.bel hc
set_option maxRecDepth 100000 in
set_option maxHeartbeats 8000000 in
theorem cmpD_any (x y : Dt) (w : World) : Calls Try.prog 33 #[.agg #[.string x.car, .int .i64 x.num, .int .i64 x.day, .string x.f, .string x.t, .int .i64 x.dep, .int .i64 x.arr, .string x.eq], .agg #[.string y.car, .int .i64 y.num, .int .i64 y.day, .string y.f, .string y.t, .int .i64 y.dep, .int .i64 y.arr, .string y.eq]] w fun e w' => e = .returned (.int .i64 (cmD x y)) ∧ ∃ q os', w' = grow (w.drewN q) os' := by
  have hb1 := bel_alloc w (.cells #[.string x.car, .int .i64 x.num, .int .i64 x.day, .string x.f, .string x.t, .int .i64 x.dep, .int .i64 x.arr, .string x.eq] datT)
  have hb2 := bel_alloc (w.alloc (.cells #[.string x.car, .int .i64 x.num, .int .i64 x.day, .string x.f, .string x.t, .int .i64 x.dep, .int .i64 x.arr, .string x.eq] datT)) (.cells #[.string y.car, .int .i64 y.num, .int .i64 y.day, .string y.f, .string y.t, .int .i64 y.dep, .int .i64 y.arr, .string y.eq] datT)
  have p0 := bel_cell hb2 ((cells_new w #[.string x.car, .int .i64 x.num, .int .i64 x.day, .string x.f, .string x.t, .int .i64 x.dep, .int .i64 x.arr, .string x.eq] datT 0).trans (show _ = some (Value.string x.car) from rfl))
  have q0 := (cells_new (w.alloc (.cells #[.string x.car, .int .i64 x.num, .int .i64 x.day, .string x.f, .string x.t, .int .i64 x.dep, .int .i64 x.arr, .string x.eq] datT)) #[.string y.car, .int .i64 y.num, .int .i64 y.day, .string y.f, .string y.t, .int .i64 y.dep, .int .i64 y.arr, .string y.eq] datT 0).trans (show _ = some (Value.string y.car) from rfl)
  have p1 := bel_cell hb2 ((cells_new w #[.string x.car, .int .i64 x.num, .int .i64 x.day, .string x.f, .string x.t, .int .i64 x.dep, .int .i64 x.arr, .string x.eq] datT 1).trans (show _ = some (Value.int .i64 x.num) from rfl))
  have q1 := (cells_new (w.alloc (.cells #[.string x.car, .int .i64 x.num, .int .i64 x.day, .string x.f, .string x.t, .int .i64 x.dep, .int .i64 x.arr, .string x.eq] datT)) #[.string y.car, .int .i64 y.num, .int .i64 y.day, .string y.f, .string y.t, .int .i64 y.dep, .int .i64 y.arr, .string y.eq] datT 1).trans (show _ = some (Value.int .i64 y.num) from rfl)
  have p5 := bel_cell hb2 ((cells_new w #[.string x.car, .int .i64 x.num, .int .i64 x.day, .string x.f, .string x.t, .int .i64 x.dep, .int .i64 x.arr, .string x.eq] datT 5).trans (show _ = some (Value.int .i64 x.dep) from rfl))
  have q5 := (cells_new (w.alloc (.cells #[.string x.car, .int .i64 x.num, .int .i64 x.day, .string x.f, .string x.t, .int .i64 x.dep, .int .i64 x.arr, .string x.eq] datT)) #[.string y.car, .int .i64 y.num, .int .i64 y.day, .string y.f, .string y.t, .int .i64 y.dep, .int .i64 y.arr, .string y.eq] datT 5).trans (show _ = some (Value.int .i64 y.dep) from rfl)
  rw [World.size_alloc] at q0 q1 q5
  have hg : GR w ((w.alloc (.cells #[.string x.car, .int .i64 x.num, .int .i64 x.day, .string x.f, .string x.t, .int .i64 x.dep, .int .i64 x.arr, .string x.eq] datT)).alloc (.cells #[.string y.car, .int .i64 y.num, .int .i64 y.day, .string y.f, .string y.t, .int .i64 y.dep, .int .i64 y.arr, .string y.eq] datT)) := ((GR.refl w).alloc _).alloc _
  have HC : Hid (cmD x y = (if Lib.compareInt x.dep y.dep ≠ 0 then Lib.compareInt x.dep y.dep else if cmT x.car y.car ≠ 0 then cmT x.car y.car else Lib.compareInt x.num y.num)) := Lib.hid rfl
  have K1 := Lib.hid (fun W => cmpI_any x.dep y.dep W)
  have K2 := Lib.hid (fun W => cmpS_any x.car y.car W)
  have K3 := Lib.hid (fun W => cmpI_any x.num y.num W)
  generalize cmD x y = R at *
  generalize Lib.compareInt x.dep y.dep = r1 at *
  generalize cmT x.car y.car = r2 at *
  generalize Lib.compareInt x.num y.num = r3 at *
  have K4 := Lib.hid (fun b W => or3_any b r1 r2 r3 W)
  rw [← HC.out] at K4
  clear HC hb1 hb2
  go_enter Try.func33, Try.ntmps33
  go_upto_region 1 with fail
  generalize hw5 : (w.alloc (.cells #[.string x.car, .int .i64 x.num, .int .i64 x.day, .string x.f, .string x.t, .int .i64 x.dep, .int .i64 x.arr, .string x.eq] datT)).alloc (.cells #[.string y.car, .int .i64 y.num, .int .i64 y.day, .string y.f, .string y.t, .int .i64 y.dep, .int .i64 y.arr, .string y.eq] datT) = w5 at *
  clear hw5
  have HG := Lib.hid hg
  clear hg
  have f0 : ∀ W, GR w5 W → _ := fun W h => GR.cells h p0
  have g0 : ∀ W, GR w5 W → _ := fun W h => GR.cells h q0
  have f1 : ∀ W, GR w5 W → _ := fun W h => GR.cells h p1
  have g1 : ∀ W, GR w5 W → _ := fun W h => GR.cells h q1
  have f5 : ∀ W, GR w5 W → _ := fun W h => GR.cells h p5
  have g5 : ∀ W, GR w5 W → _ := fun W h => GR.cells h q5
  clear p0 p1 p5 q0 q1 q5
  have O0 : Hid (((w5.alloc (.cells #[.int .i64 r1, .int .i64 r2, .int .i64 r3] 3)).drew).cell? ⟨w5.heap.size, 0, none⟩ = some (.int .i64 r1)) := Lib.hid ((cells_new w5 #[.int .i64 r1, .int .i64 r2, .int .i64 r3] 3 0).trans (show _ = some _ from rfl))
  have O1 : Hid (((w5.alloc (.cells #[.int .i64 r1, .int .i64 r2, .int .i64 r3] 3)).drew).cell? ⟨w5.heap.size, 1, none⟩ = some (.int .i64 r2)) := Lib.hid ((cells_new w5 #[.int .i64 r1, .int .i64 r2, .int .i64 r3] 3 1).trans (show _ = some _ from rfl))
  have O2 : Hid (((w5.alloc (.cells #[.int .i64 r1, .int .i64 r2, .int .i64 r3] 3)).drew).cell? ⟨w5.heap.size, 2, none⟩ = some (.int .i64 r3)) := Lib.hid ((cells_new w5 #[.int .i64 r1, .int .i64 r2, .int .i64 r3] 3 2).trans (show _ = some _ from rfl))
  have hS : (GR w5) _ := (GR.refl _).drew
  refine wp_region_held_drew (S := GR w5) (by kernel_rfl) hS (fun _ => ?_)
  refine wpAnyH_take (i := 0) (v := ?vC0) rfl (by kernel_rfl) (by kernel_rfl) (by kernel_rfl) (fun _ _ _ h => h) (Or.inl ⟨by rfl, ?hyC0⟩) hS ?restC0
  case hyC0 =>
    intro w hSw
    first | (go_simp; done) | (go_simp; with_reducible rfl)
  try simp only [Act.put, List.setIfInBounds_toArray, List.set_cons_zero, List.set_cons_succ]
  refine wpAnyH_take (i := 1) (v := ?vC1) rfl (by kernel_rfl) (by kernel_rfl) (by kernel_rfl) (fun _ _ _ h => h) (Or.inl ⟨by rfl, ?hyC1⟩) hS ?restC1
  case hyC1 =>
    intro w hSw
    have k0 := f0 w hSw; have k1 := f1 w hSw; have k2 := f5 w hSw; have k3 := g0 w hSw; have k4 := g1 w hSw; have k5 := g5 w hSw
    first | (go_simp; done) | (go_simp; with_reducible rfl)
  try simp only [Act.put, List.setIfInBounds_toArray, List.set_cons_zero, List.set_cons_succ]
  refine wpAnyH_take (i := 2) (v := ?vC2) rfl (by kernel_rfl) (by kernel_rfl) (by kernel_rfl) (fun _ _ _ h => h) (Or.inl ⟨by rfl, ?hyC2⟩) hS ?restC2
  case hyC2 =>
    intro w hSw
    first | (go_simp; done) | (go_simp; with_reducible rfl)
  try simp only [Act.put, List.setIfInBounds_toArray, List.set_cons_zero, List.set_cons_succ]
  refine wpAnyH_take (i := 3) (v := ?vC3) rfl (by kernel_rfl) (by kernel_rfl) (by kernel_rfl) (fun _ _ _ h => h) (Or.inl ⟨by rfl, ?hyC3⟩) hS ?restC3
  case hyC3 =>
    intro w hSw
    have k0 := f0 w hSw; have k1 := f1 w hSw; have k2 := f5 w hSw; have k3 := g0 w hSw; have k4 := g1 w hSw; have k5 := g5 w hSw
    first | (go_simp; done) | (go_simp; with_reducible rfl)
  try simp only [Act.put, List.setIfInBounds_toArray, List.set_cons_zero, List.set_cons_succ]
  refine wpAnyH_take (i := 5) (v := ?vC5) rfl (by kernel_rfl) (by kernel_rfl) (by kernel_rfl) (fun _ _ _ h => h) (Or.inl ⟨by rfl, ?hyC5⟩) hS ?restC5
  case hyC5 =>
    intro w hSw
    first | (go_simp; done) | (go_simp; with_reducible rfl)
  try simp only [Act.put, List.setIfInBounds_toArray, List.set_cons_zero, List.set_cons_succ]
  refine wpAnyH_take (i := 6) (v := ?vC6) rfl (by kernel_rfl) (by kernel_rfl) (by kernel_rfl) (fun _ _ _ h => h) (Or.inl ⟨by rfl, ?hyC6⟩) hS ?restC6
  case hyC6 =>
    intro w hSw
    have k0 := f0 w hSw; have k1 := f1 w hSw; have k2 := f5 w hSw; have k3 := g0 w hSw; have k4 := g1 w hSw; have k5 := g5 w hSw
    first | (go_simp; done) | (go_simp; with_reducible rfl)
  try simp only [Act.put, List.setIfInBounds_toArray, List.set_cons_zero, List.set_cons_succ]
  refine wpAnyH_take (i := 7) (v := ?vC7) rfl (by kernel_rfl) (by kernel_rfl) (by kernel_rfl) (fun _ _ _ h => h) (Or.inl ⟨by rfl, ?hyC7⟩) hS ?restC7
  case hyC7 =>
    intro w hSw
    first | (go_simp; done) | (go_simp; with_reducible rfl)
  try simp only [Act.put, List.setIfInBounds_toArray, List.set_cons_zero, List.set_cons_succ]
  refine wpAnyH_take (i := 8) (v := ?vC8) rfl (by kernel_rfl) (by kernel_rfl) (by kernel_rfl) (fun _ _ _ h => h) (Or.inl ⟨by rfl, ?hyC8⟩) hS ?restC8
  case hyC8 =>
    intro w hSw
    have k0 := f0 w hSw; have k1 := f1 w hSw; have k2 := f5 w hSw; have k3 := g0 w hSw; have k4 := g1 w hSw; have k5 := g5 w hSw
    first | (go_simp; done) | (go_simp; with_reducible rfl)
  try simp only [Act.put, List.setIfInBounds_toArray, List.set_cons_zero, List.set_cons_succ]
  refine wpAnyH_take (i := 10) (v := ?vC10) rfl (by kernel_rfl) (by kernel_rfl) (by kernel_rfl) (fun _ _ _ h => h) (Or.inl ⟨by rfl, ?hyC10⟩) hS ?restC10
  case hyC10 =>
    intro w hSw
    first | (go_simp; done) | (go_simp; with_reducible rfl)
  try simp only [Act.put, List.setIfInBounds_toArray, List.set_cons_zero, List.set_cons_succ]
  refine wpAnyH_take (i := 11) (v := ?vC11) rfl (by kernel_rfl) (by kernel_rfl) (by kernel_rfl) (fun _ _ _ h => h) (Or.inl ⟨by rfl, ?hyC11⟩) hS ?restC11
  case hyC11 =>
    intro w hSw
    have k0 := f0 w hSw; have k1 := f1 w hSw; have k2 := f5 w hSw; have k3 := g0 w hSw; have k4 := g1 w hSw; have k5 := g5 w hSw
    first | (go_simp; done) | (go_simp; with_reducible rfl)
  try simp only [Act.put, List.setIfInBounds_toArray, List.set_cons_zero, List.set_cons_succ]
  refine wpAnyH_take (i := 12) (v := ?vC12) rfl (by kernel_rfl) (by kernel_rfl) (by kernel_rfl) (fun _ _ _ h => h) (Or.inl ⟨by rfl, ?hyC12⟩) hS ?restC12
  case hyC12 =>
    intro w hSw
    first | (go_simp; done) | (go_simp; with_reducible rfl)
  try simp only [Act.put, List.setIfInBounds_toArray, List.set_cons_zero, List.set_cons_succ]
  refine wpAnyH_take (i := 13) (v := ?vC13) rfl (by kernel_rfl) (by kernel_rfl) (by kernel_rfl) (fun _ _ _ h => h) (Or.inl ⟨by rfl, ?hyC13⟩) hS ?restC13
  case hyC13 =>
    intro w hSw
    have k0 := f0 w hSw; have k1 := f1 w hSw; have k2 := f5 w hSw; have k3 := g0 w hSw; have k4 := g1 w hSw; have k5 := g5 w hSw
    first | (go_simp; done) | (go_simp; with_reducible rfl)
  try simp only [Act.put, List.setIfInBounds_toArray, List.set_cons_zero, List.set_cons_succ]
  refine wpAnyH_ready (rs := [4]) (by kernel_rfl) (by simp) ?_
  refine AllReadyH.cons rfl (fun K hK => ?_) AllReadyH.nil
  go_simp
  go_wp2_with ((go_at_call 58; with_reducible refine (K1.out _).mono ?_; rintro e w7 ⟨rfl, rfl⟩))
  refine hK.out _ _ hS (fun _ => ?_)
  clear hK K
  refine wpAnyH_ready (rs := [9]) (by kernel_rfl) (by simp) ?_
  refine AllReadyH.cons rfl (fun K hK => ?_) AllReadyH.nil
  go_simp
  go_wp2_with ((go_at_call 59; with_reducible refine (K2.out _).mono ?_; rintro e w7 ⟨rfl, rfl⟩))
  refine hK.out _ _ hS (fun _ => ?_)
  clear hK K
  refine wpAnyH_ready (rs := [14]) (by kernel_rfl) (by simp) ?_
  refine AllReadyH.cons rfl (fun K hK => ?_) AllReadyH.nil
  go_simp
  go_wp2_with ((go_at_call 58; with_reducible refine (K3.out _).mono ?_; rintro e w7 ⟨rfl, rfl⟩))
  refine hK.out _ _ hS (fun _ => ?_)
  clear hK K
  refine wpAnyH_ready (rs := [15]) (by kernel_rfl) (by simp) ?_
  refine AllReadyH.cons rfl (fun K hK => ?_) AllReadyH.nil
  go_simp
  have hSp := hS
  have hS := hS.alloc (.cells #[.int .i64 r1, .int .i64 r2, .int .i64 r3] 3)
  refine hK.out _ _ hS (fun _ => ?_)
  clear hK K
  refine wpAnyH_ready (rs := [16]) (by kernel_rfl) (by simp) ?_
  refine AllReadyH.cons rfl (fun K hK => ?_) AllReadyH.nil
  go_simp
  go_wp2_with ((go_at_call 57; refine (K4.out _ _ O0.out O1.out O2.out).mono ?_; rintro e w7 ⟨rfl, rfl⟩))
  refine hK.out _ _ hS (fun _ => ?_)
  clear hK K
  refine wpAnyH_take (i := 17) (v := ?vC17) rfl (by kernel_rfl) (by kernel_rfl) (by kernel_rfl) (fun _ _ _ h => h) (Or.inl ⟨by rfl, ?hyC17⟩) hS ?restC17
  case hyC17 =>
    intro w hSw
    first | (go_simp; done) | (go_simp; with_reducible rfl)
  try simp only [Act.put, List.setIfInBounds_toArray, List.set_cons_zero, List.set_cons_succ]
  refine wpAnyH_done (by kernel_rfl) ?_ _
  try simp only [List.getElem_toArray, List.getElem_cons_succ, List.getElem_cons_zero, List.set_cons_zero, List.set_cons_succ]
  have HF := Lib.hid (GR.grown ⟨HG.out.bel.trans (hS.bel.mono HG.out.bel.size), Nat.le_trans HG.out.dr hS.dr⟩)
  clear hS
  go_wp2
  go_ret
  exact ⟨rfl, HF.out⟩

theorem belowK {w W' : World} {g off B : Nat} {d : Array Dt} (S : SWK encDt 8 w g off d W') (hg : B ≤ g) (hB : B ≤ w.heap.size) : Below B w W' := by
  obtain ⟨n, os, rfl⟩ := S
  refine ⟨rfl, rfl, rfl, ?_, fun k hk => ?_⟩
  · unfold sortWorldK putRowK; simp
  · unfold sortWorldK putRowK
    rw [Go.Sort.heap_grow_old _ _ (by simp; omega)]
    have : g ≠ k := by omega
    simp [putRow, mapBlock, Sort.ahead, Array.getElem?_modify, this]
set_option maxRecDepth 100000 in
theorem sort_ok {L : List Dt} (h : L.length ≤ 160) : SortOK L := by
  by_cases h1 : L.length ≤ 1
  · exact sort_one h1
  intro B v w hO
  have hne : L ≠ [] := fun e => by rw [e] at h1; simp at h1
  obtain ⟨g, cap, rfl, hBg, hgs⟩ := hO.formG hne
  have hcell : ∀ i (hi : i < L.length) j u, (encDt L[i])[j]? = some u → w.cell? ⟨g, 0 + i * 8 + j, none⟩ = some u := fun i hi j u hu => by
    have h2 := hO.own.cells (g := g) rfl _ _ (cellsR_at rtD.len L i j L[i] u (List.getElem?_eq_getElem hi) hu)
    rw [Addr.add_lit] at h2
    simpa using h2
  have hH : HoldsK encDt 8 w g 0 L.toArray := by
    obtain ⟨cs, hcs⟩ := own_cells hO (k := g) rfl
    intro t ht
    rw [size_flatK] at ht
    simp only [List.size_toArray] at ht
    have hi : t / 8 < L.length := by omega
    have e1 : (flatK encDt 8 L.toArray)[t]! = (encDt L[t / 8])[t % 8]! := by
      rw [get_flatK _ _ _ _ (by simpa using ht)]
      congr 2
      rw [getElem!_pos _ _ (by simpa using hi)]
      simp
    have hm : t % 8 < (encDt L[t / 8]).length := by rw [rtD.len]; omega
    refine ⟨?_, frozen_of_row _ _ _ _ _ hcs⟩
    rw [e1, getElem!_pos (encDt L[t / 8]) (t % 8) hm]
    have h3 := hcell (t / 8) hi (t % 8) _ (List.getElem?_eq_getElem hm)
    rw [show 0 + t / 8 * 8 + t % 8 = 0 + t from by omega] at h3
    exact h3
  have R : RowK encDt 8 w g 0 L.toArray := ⟨rtD.len, rtD.one, hH, hgs⟩
  have hcmp : CmpLays Try.prog 33 #[] encDt 8 cmD g 0 L.toArray.size w := fun m os dk _ x y => cmpD_any x y _
  have C := sortStable_s cmD dtLt (fun _ _ => True) dtOrd 33 #[] g 0 cap L.toArray w (enters_of Try.func33 (by kernel_rfl) rfl) hcmp R (by simpa using h) (fun _ _ _ _ => trivial)
  simp only [List.size_toArray] at C
  refine C.mono fun e w' ⟨he, d', ⟨hp, hs⟩, hS⟩ => ⟨he, d'.toList, ?_, ?_, ?_, belowK hS hBg hO.base⟩
  · have h2 := hp.2.2
    have e1 : d'.extract 0 L.length = d' := by
      have := hp.1
      simp only [List.size_toArray] at this
      rw [← this]; exact Array.extract_size
    have e2 : L.toArray.extract 0 L.length = L.toArray := by
      have : L.length = L.toArray.size := by simp
      rw [this]; exact Array.extract_size
    rw [e1, e2] at h2
    simpa using h2
  · have hsz : d'.size = L.length := by have := hp.1; simpa using this
    intro i j x y hij hx hy
    have hjl := (List.getElem?_eq_some_iff.1 hy).1
    simp only [Array.length_toList] at hjl
    have h3 := hs i j (Nat.zero_le _) hij (by omega)
    rw [getElem!_pos d' j hjl, getElem!_pos d' i (show i < d'.size by omega)] at h3
    rw [Array.getElem?_toList, Array.getElem?_eq_getElem (by omega)] at hx hy
    cases hx
    cases hy
    exact h3
  · have hsz : d'.size = L.length := by have := hp.1; simpa using this
    refine ⟨some ⟨g, 0, none⟩, cap, by simp [hsz], .inr ⟨g, 0, rfl, hS.lt R.hblk, fun i x j u hi hu => ?_⟩⟩
    have hil := (List.getElem?_eq_some_iff.1 hi).1
    simp only [Array.length_toList] at hil
    exact dt_at hS R (by simp [hsz]) i hil j u (by
      rw [getElem!_pos d' i hil]
      rw [Array.getElem?_toList, Array.getElem?_eq_getElem hil] at hi
      cases hi
      exact hu)

end Go.Proofs.Ytmmpalnalogfnaa
