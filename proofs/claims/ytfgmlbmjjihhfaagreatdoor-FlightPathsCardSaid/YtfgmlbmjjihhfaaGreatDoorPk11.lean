/- Words and walks that the laws below ask: FliR, PlaQB, RDec, PlaQC, PerF. -/
import Derived.Lib.ItoaLen
import Derived.Deep.LoopGhost
import Derived.Test.YtfgmlbmjjihhfaaGreatDoorPk2
import Derived.Test.YtfgmlbmjjihhfaaGreatDoorPk4
import Derived.Test.YtfgmlbmjjihhfaaGreatDoorPk6
import Derived.Test.YtfgmlbmjjihhfaaGreatDoorPk9
import Derived.Test.YtfgmlbmjjihhfaaGreatDoorPk10
/- Walks of the reference's utc, legs and ordered. -/
namespace Go.Proofs.YtfgmlbmjjihhfaaGreatDoor
open Go.RowKit Go.Shelf
set_option linter.unusedSimpArgs false
set_option linter.unusedVariables false

theorem airOf_sh {w : World} {A : Option Addr} {l : List Air} (h : AirL w A l) (s : ByteArray) : ShL w (airOf l s).A (airOf l s).shs := by
  unfold airOf
  cases hc : findC l s with
  | none => exact .inl rfl
  | some a =>
    obtain ⟨k, hk⟩ := List.getElem?_of_mem (List.mem_of_find?_eq_some hc)
    obtain ⟨_, _, a', _, _, hka, ha⟩ := h.at (List.getElem?_eq_some_iff.1 hk).1
    rw [hk] at hka
    obtain rfl := Option.some.inj hka
    exact ha.sh
set_option maxRecDepth 100000 in
set_option maxHeartbeats 4000000 in
theorem rutc7_any (p : PV) (s : ByteArray) (day m : Int) (w : World) (hl : p.l.length ≤ 40) (hL : AirL w p.A p.l) (hz : ∀ a ∈ p.l, OkZ a.off a.shs) (hd : -100000000 ≤ day ∧ day ≤ 100000000) (hm : -1000000 ≤ m ∧ m ≤ 1000000) :
    Calls Tryz.prog 124 #[encP p, .string s, .int .i64 day, .int .i64 m] w fun e w' => e = .returned (.int .i64 (utcZ (airOf p.l s).off (airOf p.l s).shs (day * 1440 + m))) ∧ Below w.heap.size w w' := by
  have hb0 := bel_alloc w (.cells #[.slice p.A p.l.length p.ca, .slice p.D p.ds.length p.cd] placesT)
  have q0 := (cells_new w #[.slice p.A p.l.length p.ca, .slice p.D p.ds.length p.cd] placesT 0).trans (show _ = some (.slice p.A p.l.length p.ca) from rfl)
  have q1 := (cells_new w #[.slice p.A p.l.length p.ca, .slice p.D p.ds.length p.cd] placesT 1).trans (show _ = some (.slice p.D p.ds.length p.cd) from rfl)
  have KF := Lib.hid (rfind_any p s _ hl (hL.more hb0))
  have hok := okZ_of hz s
  have hsh := airOf_sh (hL.more hb0) s
  have e : (findC p.l s).getD airZ = airOf p.l s := rfl
  rw [e] at KF
  generalize airOf p.l s = a at *
  generalize (findC p.l s).isSome = b at *
  have KU := Lib.hid (fun W h => Zon.rutc_any a.off a.A a.c a.shs (day * 1440 + m) W hok h (by omega))
  generalize hr : utcZ a.off a.shs (day * 1440 + m) = r at *
  have HSH := Lib.hid hsh
  clear hok hsh hL hz e hr
  go_enter Tryz.func124, Tryz.ntmps124
  go_wp2_with (first
    | (go_at_call 174; refine (KU.out _ ((HSH.out.more hb1).more (bel_alloc w1 (.cells #[.string a.code, .string a.city, .string a.land, .int .i64 a.off, .slice a.A a.shs.length a.c] airT)))).mono ?_; rintro e w2 ⟨rfl, hb2⟩)
    | (go_at_call 64; refine KF.out.mono ?_; rintro e w1 ⟨rfl, hb1⟩))
  go_ret
  have h1 := hb0.trans (Below.mono hb1 hb0.size)
  have h2 := h1.alloc h1.size (.cells #[.string a.code, .string a.city, .string a.land, .int .i64 a.off, .slice a.A a.shs.length a.c] airT)
  exact ⟨rfl, h2.trans (Below.mono hb2 h2.size)⟩

set_option maxRecDepth 100000 in
set_option maxHeartbeats 8000000 in
theorem rlegs7_any (p : PV) (f : FV) (day : Int) (w : World) (hl : p.l.length ≤ 40) (hL : AirL w p.A p.l) (hz : ∀ a ∈ p.l, OkZ a.off a.shs) (hG : LegL w (.slice f.A f.lg.length f.c) f.lg) (hn : f.lg.length ≤ 100)
    (hm : ∀ x ∈ f.lg, (-1000000 ≤ x.dep ∧ x.dep ≤ 1000000) ∧ -1000000 ≤ x.arr ∧ x.arr ≤ 1000000) (hd : -100000000 ≤ day ∧ day ≤ 100000000) :
    Calls Tryz.prog 69 #[encP p, encFl f, .int .i64 day] w fun e w' => ∃ v, e = .returned v ∧ ROwn datT 8 encDt w.heap.size w' v (f.lg.map (datL p.l f day)) ∧ Below w.heap.size w w' := by
  obtain ⟨DL, hDL⟩ : ∃ D : Lg → Dt, D = datL p.l f day := ⟨_, rfl⟩
  have HDL : Hid (∀ x, DL x = ⟨f.car, f.num, day, x.f, x.t, depL p.l x day, arrL p.l x day, x.eq⟩) := Lib.hid (by rw [hDL]; exact fun x => rfl)
  rw [← hDL]
  clear hDL
  obtain ⟨car, num, pf, pt, pd, A, c, lg⟩ := f
  dsimp only at *
  have hb1 := bel_alloc w (.cells #[.slice p.A p.l.length p.ca, .slice p.D p.ds.length p.cd] placesT)
  have hb2 := bel_alloc (w.alloc (.cells #[.slice p.A p.l.length p.ca, .slice p.D p.ds.length p.cd] placesT)) (.cells #[.string car, .int .i64 num, .int .i64 pf, .int .i64 pt, .int .i64 pd, .slice A lg.length c] fliT)
  have hb0 := hb1.trans (hb2.mono hb1.size)
  have p0 := bel_cell hb2 ((cells_new w #[.slice p.A p.l.length p.ca, .slice p.D p.ds.length p.cd] placesT 0).trans (show _ = some (.slice p.A p.l.length p.ca) from rfl))
  have p1 := bel_cell hb2 ((cells_new w #[.slice p.A p.l.length p.ca, .slice p.D p.ds.length p.cd] placesT 1).trans (show _ = some (.slice p.D p.ds.length p.cd) from rfl))
  have q0 := (cells_new (w.alloc (.cells #[.slice p.A p.l.length p.ca, .slice p.D p.ds.length p.cd] placesT)) #[.string car, .int .i64 num, .int .i64 pf, .int .i64 pt, .int .i64 pd, .slice A lg.length c] fliT 0).trans (show _ = some (.string car) from rfl)
  have q1 := (cells_new (w.alloc (.cells #[.slice p.A p.l.length p.ca, .slice p.D p.ds.length p.cd] placesT)) #[.string car, .int .i64 num, .int .i64 pf, .int .i64 pt, .int .i64 pd, .slice A lg.length c] fliT 1).trans (show _ = some (.int .i64 num) from rfl)
  have q5 := (cells_new (w.alloc (.cells #[.slice p.A p.l.length p.ca, .slice p.D p.ds.length p.cd] placesT)) #[.string car, .int .i64 num, .int .i64 pf, .int .i64 pt, .int .i64 pd, .slice A lg.length c] fliT 5).trans (show _ = some (.slice A lg.length c) from rfl)
  rw [World.size_alloc] at q0 q1 q5
  have hsz : ((w.alloc (.cells #[.slice p.A p.l.length p.ca, .slice p.D p.ds.length p.cd] placesT)).alloc (.cells #[.string car, .int .i64 num, .int .i64 pf, .int .i64 pt, .int .i64 pd, .slice A lg.length c] fliT)).heap.size = w.heap.size + 2 := by simp
  have HLL := Lib.hid (hL.more hb0)
  have HGG := Lib.hid (hG.more hb0)
  have HM := Lib.hid hm
  have HSZ := Lib.hid hsz
  have KU : Hid (∀ s m W, AirL W p.A p.l → (-1000000 ≤ m ∧ m ≤ 1000000) → Calls Tryz.prog 124 #[encP p, .string s, .int .i64 day, .int .i64 m] W fun e w' => e = .returned (.int .i64 (utcZ (airOf p.l s).off (airOf p.l s).shs (day * 1440 + m))) ∧ Below W.heap.size W w') := Lib.hid (fun s m W hA hm => rutc7_any p s day m W hl hA hz hd hm)
  clear hL hG hm hz hsz hb1 hb2
  go_enter Tryz.func69, Tryz.ntmps69
  go_wp2
  generalize hw5 : (w.alloc (.cells #[.slice p.A p.l.length p.ca, .slice p.D p.ds.length p.cd] placesT)).alloc (.cells #[.string car, .int .i64 num, .int .i64 pf, .int .i64 pt, .int .i64 pd, .slice A lg.length c] fliT) = w5 at *
  clear hw5
  have F0 := Lib.hid (bel_get q0)
  have F1 := Lib.hid (bel_get q1)
  have F5 := Lib.hid (bel_get q5)
  have Y0 := Lib.hid (bel_get p0)
  have Y1 := Lib.hid (bel_get p1)
  have HN : Hid (ROwn datT 8 encDt w5.heap.size w5 (.slice none 0 0) []) := Lib.hid (ROwn.nil (Nat.le_refl _))
  clear p0 p1 q0 q1 q5
  go_loopg [7, 8] lg.length (fun kx v7 vi wr => ∃ (v : Value) (k : Nat), v = v7 ∧ vi = .int .i64 k ∧ k + kx = lg.length ∧ Hid (ROwn datT 8 encDt w5.heap.size wr v ((lg.take k).map DL) ∧ SW w5 wr))
  case atStart => exact ⟨_, 0, rfl, rfl, by omega, Lib.hid ⟨HN.out, Below.refl _ _⟩⟩
  case round =>
    obtain ⟨v, k, rfl, rfl, hkx, HH⟩ := hrel
    clear HN
    have HKX := Lib.hid hkx
    have hSr : SW w5 wr := HH.out.2
    by_cases hlt : k < lg.length
    · clear hkx
      obtain ⟨b, o, x, rfl, hbl, hx, c0, c1, c2, c3, c4⟩ := LegL.get (HGG.out.more hSr) hlt
      have hmx := HM.out x (List.mem_of_getElem? hx)
      obtain ⟨dd, hdd⟩ : ∃ dd, dd = depL p.l x day := ⟨_, rfl⟩
      obtain ⟨aa, haa⟩ : ∃ aa, aa = arrL p.l x day := ⟨_, rfl⟩
      have HTk : Hid ((lg.take (k + 1)).map DL = (lg.take k).map DL ++ [(⟨car, num, day, x.f, x.t, dd, aa, x.eq⟩ : Dt)]) := Lib.hid (by
        rw [List.take_add_one, hx, List.map_append, hdd, haa]
        simp [HDL.out x])
      have hO := HH.out.1
      have HLL2 : Hid (((lg.take k).map DL).length ≤ 100000000) := Lib.hid (by have := List.length_take_le k lg; rw [List.length_map]; omega)
      have HV1 : Hid (∀ g, v.ownBlock = some g → w5.heap.size ≤ g ∧ g < wr.heap.size) := Lib.hid (fun g hg => hO.low hg)
      have hvN : v.ownBlock ≠ some wr.heap.size := fun h => by have := (HV1.out _ h).2; omega
      have hb6 := bel_alloc wr (.cells #[.string x.f, .string x.t, .int .i64 x.dep, .int .i64 x.arr, .string x.eq] legT)
      have HSW : Hid (∀ W, SX (wr.alloc (.cells #[.string x.f, .string x.t, .int .i64 x.dep, .int .i64 x.arr, .string x.eq] legT)) v W → SW w5 W) := Lib.hid (fun W h => Below.trans hSr ((hb6.mono hSr.size).trans (h.below (Nat.le_trans hSr.size hb6.size) (fun k' hk' hv => by have := (HV1.out _ hv).1; omega))))
      have y0 : ∀ W, SX (wr.alloc (.cells #[.string x.f, .string x.t, .int .i64 x.dep, .int .i64 x.arr, .string x.eq] legT)) v W → W.cell? ⟨w.heap.size, 0, none⟩ = some (.slice p.A p.l.length p.ca) := fun W h => Y0.out W (HSW.out W h)
      have y1 : ∀ W, SX (wr.alloc (.cells #[.string x.f, .string x.t, .int .i64 x.dep, .int .i64 x.arr, .string x.eq] legT)) v W → W.cell? ⟨w.heap.size, 1, none⟩ = some (.slice p.D p.ds.length p.cd) := fun W h => Y1.out W (HSW.out W h)
      have g0 : ∀ W, SX (wr.alloc (.cells #[.string x.f, .string x.t, .int .i64 x.dep, .int .i64 x.arr, .string x.eq] legT)) v W → W.cell? ⟨w.heap.size + 1, 0, none⟩ = some (.string car) := fun W h => F0.out W (HSW.out W h)
      have g1 : ∀ W, SX (wr.alloc (.cells #[.string x.f, .string x.t, .int .i64 x.dep, .int .i64 x.arr, .string x.eq] legT)) v W → W.cell? ⟨w.heap.size + 1, 1, none⟩ = some (.int .i64 num) := fun W h => F1.out W (HSW.out W h)
      have n0 : ∀ W, SX (wr.alloc (.cells #[.string x.f, .string x.t, .int .i64 x.dep, .int .i64 x.arr, .string x.eq] legT)) v W → W.cell? ⟨wr.heap.size, 0, none⟩ = some (Value.string x.f) := fun W h => SX.cell ((cells_new wr #[.string x.f, .string x.t, .int .i64 x.dep, .int .i64 x.arr, .string x.eq] legT 0).trans (show _ = some (Value.string x.f) from rfl)) hvN h
      have n1 : ∀ W, SX (wr.alloc (.cells #[.string x.f, .string x.t, .int .i64 x.dep, .int .i64 x.arr, .string x.eq] legT)) v W → W.cell? ⟨wr.heap.size, 1, none⟩ = some (Value.string x.t) := fun W h => SX.cell ((cells_new wr #[.string x.f, .string x.t, .int .i64 x.dep, .int .i64 x.arr, .string x.eq] legT 1).trans (show _ = some (Value.string x.t) from rfl)) hvN h
      have n2 : ∀ W, SX (wr.alloc (.cells #[.string x.f, .string x.t, .int .i64 x.dep, .int .i64 x.arr, .string x.eq] legT)) v W → W.cell? ⟨wr.heap.size, 2, none⟩ = some (Value.int .i64 x.dep) := fun W h => SX.cell ((cells_new wr #[.string x.f, .string x.t, .int .i64 x.dep, .int .i64 x.arr, .string x.eq] legT 2).trans (show _ = some (Value.int .i64 x.dep) from rfl)) hvN h
      have n3 : ∀ W, SX (wr.alloc (.cells #[.string x.f, .string x.t, .int .i64 x.dep, .int .i64 x.arr, .string x.eq] legT)) v W → W.cell? ⟨wr.heap.size, 3, none⟩ = some (Value.int .i64 x.arr) := fun W h => SX.cell ((cells_new wr #[.string x.f, .string x.t, .int .i64 x.dep, .int .i64 x.arr, .string x.eq] legT 3).trans (show _ = some (Value.int .i64 x.arr) from rfl)) hvN h
      have n4 : ∀ W, SX (wr.alloc (.cells #[.string x.f, .string x.t, .int .i64 x.dep, .int .i64 x.arr, .string x.eq] legT)) v W → W.cell? ⟨wr.heap.size, 4, none⟩ = some (Value.string x.eq) := fun W h => SX.cell ((cells_new wr #[.string x.f, .string x.t, .int .i64 x.dep, .int .i64 x.arr, .string x.eq] legT 4).trans (show _ = some (Value.string x.eq) from rfl)) hvN h
      have K1 : Hid (∀ W, SX (wr.alloc (.cells #[.string x.f, .string x.t, .int .i64 x.dep, .int .i64 x.arr, .string x.eq] legT)) v W → Calls Tryz.prog 124 #[encP p, .string x.f, .int .i64 day, .int .i64 x.dep] W fun e w' => e = .returned (.int .i64 dd) ∧ Below W.heap.size W w') := Lib.hid (fun W h => by rw [hdd]; exact KU.out x.f x.dep W (HLL.out.more (HSW.out W h)) hmx.1)
      have K2 : Hid (∀ W, SX (wr.alloc (.cells #[.string x.f, .string x.t, .int .i64 x.dep, .int .i64 x.arr, .string x.eq] legT)) v W → Calls Tryz.prog 124 #[encP p, .string x.t, .int .i64 day, .int .i64 x.arr] W fun e w' => e = .returned (.int .i64 aa) ∧ Below W.heap.size W w') := Lib.hid (fun W h => by rw [haa]; exact KU.out x.t x.arr W (HLL.out.more (HSW.out W h)) hmx.2)
      have i2 : (k : Int) < (lg.length : Int) := by omega
      have z5 := F5.out _ hSr
      have hO := hO.more (hb6.trans ((Below.refl _ (wr.alloc (.cells #[.string x.f, .string x.t, .int .i64 x.dep, .int .i64 x.arr, .string x.eq] legT))).drew.mono hb6.size))
      clear hx hbl hmx hdd haa
      go_upto_region 6 with (fail)
      generalize hw6 : wr.alloc (.cells #[.string x.f, .string x.t, .int .i64 x.dep, .int .i64 x.arr, .string x.eq] legT) = w6 at *
      clear hw6 c0 c1 c2 c3 c4 z5
      have hS : (SX w6 v) _ := But.of_below (Below.refl _ _).drew
      refine wp_region_held_drew (S := SX w6 v) (by kernel_rfl) hS (fun _ => ?_)
      refine wpAnyH_take (i := 0) (v := ?vL0) rfl (by kernel_rfl) (by kernel_rfl) (by kernel_rfl) (fun _ _ _ h => h) (Or.inl ⟨by rfl, ?hyL0⟩) hS ?restL0
      case hyL0 =>
        intro w hSw
        first | (go_simp; done) | (go_simp; with_reducible rfl)
      try simp only [Act.put, List.setIfInBounds_toArray, List.set_cons_zero, List.set_cons_succ]
      refine wpAnyH_take (i := 1) (v := ?vL1) rfl (by kernel_rfl) (by kernel_rfl) (by kernel_rfl) (fun _ _ _ h => h) (Or.inl ⟨by rfl, ?hyL1⟩) hS ?restL1
      case hyL1 =>
        intro w hSw
        first | (go_simp; done) | (go_simp; with_reducible rfl)
      try simp only [Act.put, List.setIfInBounds_toArray, List.set_cons_zero, List.set_cons_succ]
      refine wpAnyH_take (i := 2) (v := ?vL2) rfl (by kernel_rfl) (by kernel_rfl) (by kernel_rfl) (fun _ _ _ h => h) (Or.inl ⟨by rfl, ?hyL2⟩) hS ?restL2
      case hyL2 =>
        intro w hSw
        have k0 := g0 w hSw
        first | (go_simp; done) | (go_simp; with_reducible rfl)
      try simp only [Act.put, List.setIfInBounds_toArray, List.set_cons_zero, List.set_cons_succ]
      refine wpAnyH_take (i := 3) (v := ?vL3) rfl (by kernel_rfl) (by kernel_rfl) (by kernel_rfl) (fun _ _ _ h => h) (Or.inl ⟨by rfl, ?hyL3⟩) hS ?restL3
      case hyL3 =>
        intro w hSw
        first | (go_simp; done) | (go_simp; with_reducible rfl)
      try simp only [Act.put, List.setIfInBounds_toArray, List.set_cons_zero, List.set_cons_succ]
      refine wpAnyH_take (i := 4) (v := ?vL4) rfl (by kernel_rfl) (by kernel_rfl) (by kernel_rfl) (fun _ _ _ h => h) (Or.inl ⟨by rfl, ?hyL4⟩) hS ?restL4
      case hyL4 =>
        intro w hSw
        have k0 := g1 w hSw
        first | (go_simp; done) | (go_simp; with_reducible rfl)
      try simp only [Act.put, List.setIfInBounds_toArray, List.set_cons_zero, List.set_cons_succ]
      refine wpAnyH_take (i := 5) (v := ?vL5) rfl (by kernel_rfl) (by kernel_rfl) (by kernel_rfl) (fun _ _ _ h => h) (Or.inl ⟨by rfl, ?hyL5⟩) hS ?restL5
      case hyL5 =>
        intro w hSw
        first | (go_simp; done) | (go_simp; with_reducible rfl)
      try simp only [Act.put, List.setIfInBounds_toArray, List.set_cons_zero, List.set_cons_succ]
      refine wpAnyH_take (i := 6) (v := ?vL6) rfl (by kernel_rfl) (by kernel_rfl) (by kernel_rfl) (fun _ _ _ h => h) (Or.inl ⟨by rfl, ?hyL6⟩) hS ?restL6
      case hyL6 =>
        intro w hSw
        first | (go_simp; done) | (go_simp; with_reducible rfl)
      try simp only [Act.put, List.setIfInBounds_toArray, List.set_cons_zero, List.set_cons_succ]
      refine wpAnyH_take (i := 7) (v := ?vL7) rfl (by kernel_rfl) (by kernel_rfl) (by kernel_rfl) (fun _ _ _ h => h) (Or.inl ⟨by rfl, ?hyL7⟩) hS ?restL7
      case hyL7 =>
        intro w hSw
        have k0 := n0 w hSw
        first | (go_simp; done) | (go_simp; with_reducible rfl)
      try simp only [Act.put, List.setIfInBounds_toArray, List.set_cons_zero, List.set_cons_succ]
      refine wpAnyH_take (i := 8) (v := ?vL8) rfl (by kernel_rfl) (by kernel_rfl) (by kernel_rfl) (fun _ _ _ h => h) (Or.inl ⟨by rfl, ?hyL8⟩) hS ?restL8
      case hyL8 =>
        intro w hSw
        first | (go_simp; done) | (go_simp; with_reducible rfl)
      try simp only [Act.put, List.setIfInBounds_toArray, List.set_cons_zero, List.set_cons_succ]
      refine wpAnyH_take (i := 9) (v := ?vL9) rfl (by kernel_rfl) (by kernel_rfl) (by kernel_rfl) (fun _ _ _ h => h) (Or.inl ⟨by rfl, ?hyL9⟩) hS ?restL9
      case hyL9 =>
        intro w hSw
        have k0 := n1 w hSw
        first | (go_simp; done) | (go_simp; with_reducible rfl)
      try simp only [Act.put, List.setIfInBounds_toArray, List.set_cons_zero, List.set_cons_succ]
      refine wpAnyH_take (i := 10) (v := ?vL10) rfl (by kernel_rfl) (by kernel_rfl) (by kernel_rfl) (fun _ _ _ h => h) (Or.inl ⟨by rfl, ?hyL10⟩) hS ?restL10
      case hyL10 =>
        intro w hSw
        have k0 := y0 w hSw; have k1 := y1 w hSw
        first | (go_simp; done) | (go_simp; with_reducible rfl)
      try simp only [Act.put, List.setIfInBounds_toArray, List.set_cons_zero, List.set_cons_succ]
      refine wpAnyH_take (i := 11) (v := ?vL11) rfl (by kernel_rfl) (by kernel_rfl) (by kernel_rfl) (fun _ _ _ h => h) (Or.inl ⟨by rfl, ?hyL11⟩) hS ?restL11
      case hyL11 =>
        intro w hSw
        first | (go_simp; done) | (go_simp; with_reducible rfl)
      try simp only [Act.put, List.setIfInBounds_toArray, List.set_cons_zero, List.set_cons_succ]
      refine wpAnyH_take (i := 12) (v := ?vL12) rfl (by kernel_rfl) (by kernel_rfl) (by kernel_rfl) (fun _ _ _ h => h) (Or.inl ⟨by rfl, ?hyL12⟩) hS ?restL12
      case hyL12 =>
        intro w hSw
        have k0 := n0 w hSw
        first | (go_simp; done) | (go_simp; with_reducible rfl)
      try simp only [Act.put, List.setIfInBounds_toArray, List.set_cons_zero, List.set_cons_succ]
      refine wpAnyH_take (i := 13) (v := ?vL13) rfl (by kernel_rfl) (by kernel_rfl) (by kernel_rfl) (fun _ _ _ h => h) (Or.inl ⟨by rfl, ?hyL13⟩) hS ?restL13
      case hyL13 =>
        intro w hSw
        first | (go_simp; done) | (go_simp; with_reducible rfl)
      try simp only [Act.put, List.setIfInBounds_toArray, List.set_cons_zero, List.set_cons_succ]
      refine wpAnyH_take (i := 14) (v := ?vL14) rfl (by kernel_rfl) (by kernel_rfl) (by kernel_rfl) (fun _ _ _ h => h) (Or.inl ⟨by rfl, ?hyL14⟩) hS ?restL14
      case hyL14 =>
        intro w hSw
        first | (go_simp; done) | (go_simp; with_reducible rfl)
      try simp only [Act.put, List.setIfInBounds_toArray, List.set_cons_zero, List.set_cons_succ]
      refine wpAnyH_take (i := 15) (v := ?vL15) rfl (by kernel_rfl) (by kernel_rfl) (by kernel_rfl) (fun _ _ _ h => h) (Or.inl ⟨by rfl, ?hyL15⟩) hS ?restL15
      case hyL15 =>
        intro w hSw
        have k0 := n2 w hSw
        first | (go_simp; done) | (go_simp; with_reducible rfl)
      try simp only [Act.put, List.setIfInBounds_toArray, List.set_cons_zero, List.set_cons_succ]
      refine wpAnyH_take (i := 17) (v := ?vL17) rfl (by kernel_rfl) (by kernel_rfl) (by kernel_rfl) (fun _ _ _ h => h) (Or.inl ⟨by rfl, ?hyL17⟩) hS ?restL17
      case hyL17 =>
        intro w hSw
        have k0 := y0 w hSw; have k1 := y1 w hSw
        first | (go_simp; done) | (go_simp; with_reducible rfl)
      try simp only [Act.put, List.setIfInBounds_toArray, List.set_cons_zero, List.set_cons_succ]
      refine wpAnyH_take (i := 18) (v := ?vL18) rfl (by kernel_rfl) (by kernel_rfl) (by kernel_rfl) (fun _ _ _ h => h) (Or.inl ⟨by rfl, ?hyL18⟩) hS ?restL18
      case hyL18 =>
        intro w hSw
        first | (go_simp; done) | (go_simp; with_reducible rfl)
      try simp only [Act.put, List.setIfInBounds_toArray, List.set_cons_zero, List.set_cons_succ]
      refine wpAnyH_take (i := 19) (v := ?vL19) rfl (by kernel_rfl) (by kernel_rfl) (by kernel_rfl) (fun _ _ _ h => h) (Or.inl ⟨by rfl, ?hyL19⟩) hS ?restL19
      case hyL19 =>
        intro w hSw
        have k0 := n1 w hSw
        first | (go_simp; done) | (go_simp; with_reducible rfl)
      try simp only [Act.put, List.setIfInBounds_toArray, List.set_cons_zero, List.set_cons_succ]
      refine wpAnyH_take (i := 20) (v := ?vL20) rfl (by kernel_rfl) (by kernel_rfl) (by kernel_rfl) (fun _ _ _ h => h) (Or.inl ⟨by rfl, ?hyL20⟩) hS ?restL20
      case hyL20 =>
        intro w hSw
        first | (go_simp; done) | (go_simp; with_reducible rfl)
      try simp only [Act.put, List.setIfInBounds_toArray, List.set_cons_zero, List.set_cons_succ]
      refine wpAnyH_take (i := 21) (v := ?vL21) rfl (by kernel_rfl) (by kernel_rfl) (by kernel_rfl) (fun _ _ _ h => h) (Or.inl ⟨by rfl, ?hyL21⟩) hS ?restL21
      case hyL21 =>
        intro w hSw
        first | (go_simp; done) | (go_simp; with_reducible rfl)
      try simp only [Act.put, List.setIfInBounds_toArray, List.set_cons_zero, List.set_cons_succ]
      refine wpAnyH_take (i := 22) (v := ?vL22) rfl (by kernel_rfl) (by kernel_rfl) (by kernel_rfl) (fun _ _ _ h => h) (Or.inl ⟨by rfl, ?hyL22⟩) hS ?restL22
      case hyL22 =>
        intro w hSw
        have k0 := n3 w hSw
        first | (go_simp; done) | (go_simp; with_reducible rfl)
      try simp only [Act.put, List.setIfInBounds_toArray, List.set_cons_zero, List.set_cons_succ]
      refine wpAnyH_take (i := 24) (v := ?vL24) rfl (by kernel_rfl) (by kernel_rfl) (by kernel_rfl) (fun _ _ _ h => h) (Or.inl ⟨by rfl, ?hyL24⟩) hS ?restL24
      case hyL24 =>
        intro w hSw
        first | (go_simp; done) | (go_simp; with_reducible rfl)
      try simp only [Act.put, List.setIfInBounds_toArray, List.set_cons_zero, List.set_cons_succ]
      refine wpAnyH_take (i := 25) (v := ?vL25) rfl (by kernel_rfl) (by kernel_rfl) (by kernel_rfl) (fun _ _ _ h => h) (Or.inl ⟨by rfl, ?hyL25⟩) hS ?restL25
      case hyL25 =>
        intro w hSw
        have k0 := n4 w hSw
        first | (go_simp; done) | (go_simp; with_reducible rfl)
      try simp only [Act.put, List.setIfInBounds_toArray, List.set_cons_zero, List.set_cons_succ]
      refine wpAnyH_ready (rs := [16]) (by kernel_rfl) (by simp) ?_
      refine AllReadyH.cons rfl (fun K hK => ?_) AllReadyH.nil
      go_simp
      go_wp2_with ((go_at_call 124; with_reducible refine (K1.out _ hS).mono ?_; rintro e w' ⟨rfl, hb'⟩; have hO := hO.more hb'; have hS := hS.on hb'))
      refine hK.out _ _ hS (fun _ => ?_)
      clear hK K
      refine wpAnyH_ready (rs := [23]) (by kernel_rfl) (by simp) ?_
      refine AllReadyH.cons rfl (fun K hK => ?_) AllReadyH.nil
      go_simp
      go_wp2_with ((go_at_call 124; with_reducible refine (K2.out _ hS).mono ?_; rintro e w' ⟨rfl, hb'⟩; have hO := hO.more hb'; have hS := hS.on hb'))
      refine hK.out _ _ hS (fun _ => ?_)
      clear hK K
      refine wpAnyH_take (i := 26) (v := ?vL26) rfl (by kernel_rfl) (by kernel_rfl) (by kernel_rfl) (fun _ _ _ h => h) (Or.inl ⟨by rfl, ?hyL26⟩) hS ?restL26
      case hyL26 =>
        intro w hSw
        first | (go_simp; done) | (go_simp; with_reducible rfl)
      try simp only [Act.put, List.setIfInBounds_toArray, List.set_cons_zero, List.set_cons_succ]
      refine wpAnyH_ready (rs := [27]) (by kernel_rfl) (by simp) ?_
      refine AllReadyH.cons rfl (fun K hK => ?_) AllReadyH.nil
      go_simp
      have hSp := hS
      have hS := hS.on (bel_alloc _ (.cells #[.string car, .int .i64 num, .int .i64 day, .string x.f, .string x.t, .int .i64 dd, .int .i64 aa, .string x.eq] datT))
      refine hK.out _ _ hS (fun _ => ?_)
      clear hK K
      refine wpAnyH_ready (rs := [28]) (by kernel_rfl) (by simp) ?_
      refine AllReadyH.cons rfl (fun K hK => ?_) AllReadyH.nil
      refine step_rapp rtD rfl _ _ rfl hO rfl (bel_alloc _ _) _ (⟨car, num, day, x.f, x.t, dd, aa, x.eq⟩ : Dt) _ rfl (cs := #[.string car, .int .i64 num, .int .i64 day, .string x.f, .string x.t, .int .i64 dd, .int .i64 aa, .string x.eq]) rfl (heap_alloc_new _ _) HLL2.out ?_
      intro v8 w8 hO8 hC8
      go_simp
      have hS := hSp.trans hC8.but (fun _ _ h => h)
      refine hK.out _ _ hS (fun _ => ?_)
      clear hK K
      refine wpAnyH_take (i := 29) (v := ?vL29) rfl (by kernel_rfl) (by kernel_rfl) (by kernel_rfl) (fun _ _ _ h => h) (Or.inl ⟨by rfl, ?hyL29⟩) hS ?restL29
      case hyL29 =>
        intro w hSw
        first | (go_simp; done) | (go_simp; with_reducible rfl)
      try simp only [Act.put, List.setIfInBounds_toArray, List.set_cons_zero, List.set_cons_succ]
      refine wpAnyH_done (by kernel_rfl) ?_ _
      simp only [List.getElem_toArray, List.getElem_cons_succ, List.getElem_cons_zero, List.set_cons_zero, List.set_cons_succ]
      have HY : Hid (ROwn datT 8 encDt w5.heap.size w8 v8 ((lg.take (k + 1)).map DL) ∧ SW w5 w8) := Lib.hid ⟨by rw [HTk.out]; exact hO8, HSW.out _ hS⟩
      clear hO8 hC8 hS hSp hO
      go_wp2
      go_roundg (lg.length - (k + 1))
      case measure => have := HKX.out; omega
      case rel => exact ⟨_, k + 1, rfl, by go_num, by omega, HY⟩
    · have hk : k = lg.length := by omega
      have HR : Hid (ROwn datT 8 encDt w.heap.size wr v (lg.map DL) ∧ Below w.heap.size w wr) := Lib.hid ⟨⟨by
        have h := HH.out.1.own
        rw [hk, List.take_length] at h
        exact h.mono hb0.size, Nat.le_trans hb0.size hSr.size⟩, hb0.trans (Below.mono hSr hb0.size)⟩
      have z5 := F5.out _ hSr
      have i1 : ¬ (k : Int) < (lg.length : Int) := by omega
      clear HH hkx hk
      go_wp2
      go_ret
      exact ⟨v, rfl, HR.out⟩

theorem RowL.get8 {w : World} {A : Option Addr} {n c : Nat} {L : List Dt} (h : RowL 8 encDt w (.slice A n c) L) {k : Nat} (hk : k < L.length) : ∃ b o y, A = some ⟨b, o, none⟩ ∧ b < w.heap.size ∧ L[k]? = some y ∧ ∀ j u, (encDt y)[j]? = some u → w.cell? ⟨b, o + k * 8 + j, none⟩ = some u := by
  obtain ⟨b, o, h1, h2, h3⟩ := h.at rfl hk
  exact ⟨b, o, L[k], h1, h2, List.getElem?_eq_getElem hk, h3⟩
def ordD (L : List Dt) : Bool := ordT true 0 (L.map fun d => (d.dep, d.arr))
theorem ordD_legs (l : List Air) (f : FV) (day : Int) : ordD (f.lg.map (datL l f day)) = ordT true 0 (timL l f.lg day) := by
  unfold ordD timL
  rw [List.map_map]
  rfl
theorem ordD_at {L : List Dt} {k : Nat} {y : Dt} (h : L[k]? = some y) (first : Bool) (before : Int) :
    ordT first before ((L.map fun d => (d.dep, d.arr)).drop k) = if y.arr ≤ y.dep then false else if first = false ∧ y.dep < before then false else ordT false y.arr ((L.map fun d => (d.dep, d.arr)).drop (k + 1)) := by
  obtain ⟨hlt, rfl⟩ := List.getElem?_eq_some_iff.1 h
  have hl : k < (L.map fun d => (d.dep, d.arr)).length := by rw [List.length_map]; exact hlt
  rw [List.drop_eq_getElem_cons hl, List.getElem_map]
  rfl
set_option maxRecDepth 100000 in
set_option maxHeartbeats 8000000 in
theorem rordered_any (v : Value) (L : List Dt) (w : World) (hv : RowL 8 encDt w v L) (hn : L.length ≤ 1000) :
    Calls Tryz.prog 68 #[v] w fun e w' => e = .returned (.bool (ordD L)) ∧ Below w.heap.size w w' := by
  obtain ⟨A, c, rfl, hvc⟩ := id hv
  clear hvc
  have HV := Lib.hid hv
  clear hv
  generalize hD : (L.map fun d => (d.dep, d.arr)) = D at *
  have HD : Hid (ordD L = ordT true 0 D) := Lib.hid (by unfold ordD; rw [hD])
  have HAT : Hid (∀ (k : Nat) (y : Dt) (first : Bool) (before : Int), L[k]? = some y → ordT first before (D.drop k) = if y.arr ≤ y.dep then false else if first = false ∧ y.dep < before then false else ordT false y.arr (D.drop (k + 1))) := Lib.hid (by rw [← hD]; exact fun k y first before h => ordD_at h first before)
  have HLn : Hid (D.length = L.length) := Lib.hid (by rw [← hD, List.length_map])
  clear hD
  go_enter Tryz.func68, Tryz.ntmps68
  go_wp2
  go_loopw [3] (fun vi wr => ∃ (k : Nat) (before : Int), k ≤ L.length ∧ vi = .int .i64 k ∧ Hid (ordD L = ordT (decide (k = 0)) before (D.drop k)) ∧ Hid (∀ y, k ≠ 0 → L[k - 1]? = some y → y.arr = before) ∧ SW w wr) (fun vi _ => L.length - (intOf vi).toNat)
  case atStart => exact ⟨0, 0, Nat.zero_le _, rfl, HD, Lib.hid (fun y h => absurd rfl h), Below.refl _ _⟩
  case round =>
    obtain ⟨k, before, hk, rfl, HO, HB, hS⟩ := hrel
    by_cases hlt : k < L.length
    · obtain ⟨b, o, y, e1, hbl, hy, hc⟩ := RowL.get8 (HV.out.more hS) hlt
      cases e1
      have HST := Lib.hid (HO.out.trans (HAT.out k y _ _ hy))
      have i2 : (k : Int) < (L.length : Int) := by omega
      have f5 := SW.cell (hc 5 _ rfl)
      have f6 := SW.cell (hc 6 _ rfl)
      have HY : Hid (∀ z, k + 1 ≠ 0 → L[k + 1 - 1]? = some z → z.arr = y.arr) := Lib.hid (fun z _ hz => by rw [Nat.add_sub_cancel, hy] at hz; cases hz; rfl)
      clear hc hy
      by_cases h1 : y.arr ≤ y.dep
      · have HR := Lib.hid (HST.out.trans (if_pos h1))
        have d1 : decide (y.arr ≤ y.dep) = true := decide_eq_true h1
        clear HST HO
        go_wp2
        have hNe : Nonempty (Wd (SW wr)) := ⟨⟨_, SW.drew _⟩⟩
        refine quietS (S := SW wr) (by kernel_rfl) (by kernel_rfl) (SW.drew _) ?_
        repeat (first | go_big_quiet_skip | (go_big_quiet_want; go_big_quiet_op; first | go_big_quiet_on | go_big_quiet_call ((fail))))
        refine wpQuiet_nil ?_
        rintro W ⟨⟨_, hW⟩, rfl⟩
        go_wp2
        go_ret
        exact ⟨ret_bool HR.out.symm, Below.trans hS (Below.mono hW hS.size)⟩
      · have HS2 := Lib.hid (HST.out.trans (if_neg h1))
        have d1 : decide (y.arr ≤ y.dep) = false := decide_eq_false h1
        by_cases h0 : k = 0
        · have HR : Hid (ordD L = ordT (decide (k + 1 = 0)) y.arr (D.drop (k + 1))) := Lib.hid (by
            rw [HS2.out, if_neg (by simp [h0])]
            rw [show decide (k + 1 = 0) = false by simp])
          have d2 : decide (0 < k) = false := decide_eq_false (by omega)
          have i1 : ¬ (0 : Int) < (k : Int) := by omega
          clear HS2 HST h1 HO HB h0
          go_wp2
          have hNe : Nonempty (Wd (SW wr)) := ⟨⟨_, SW.drew _⟩⟩
          refine quietS (S := SW wr) (by kernel_rfl) (by kernel_rfl) (SW.drew _) ?_
          repeat (first | go_big_quiet_skip | (go_big_quiet_want; go_big_quiet_op; first | go_big_quiet_on | go_big_quiet_call ((fail))))
          refine wpQuiet_nil ?_
          rintro W ⟨⟨_, hW⟩, rfl⟩
          go_wp2
          go_roundw
          case rel => exact ⟨k + 1, y.arr, by omega, by go_num, HR, HY, Below.trans hS (Below.mono hW hS.size)⟩
          case measure => simp [intOf]; omega
        · have d2 : decide (0 < k) = true := decide_eq_true (by omega)
          have i1 : (0 : Int) < (k : Int) := by omega
          obtain ⟨b', o', z, e1, hbl', hz, hcz⟩ := RowL.get8 (HV.out.more hS) (show k - 1 < L.length by omega)
          cases e1
          obtain rfl := HB.out z h0 hz
          have i3 : ((k : Int) - 1) = ((k - 1 : Nat) : Int) := by omega
          have i4 : ((k - 1 : Nat) : Int) < (L.length : Int) := by omega
          have g6 := SW.cell (hcz 6 _ rfl)
          clear hcz hz HB HO
          by_cases h2 : y.dep < z.arr
          · have HR := Lib.hid (HS2.out.trans (if_pos ⟨by simp [h0], h2⟩))
            have d3 : decide (y.dep < z.arr) = true := decide_eq_true h2
            clear HS2 HST h1 h0
            generalize k - 1 = k1 at *
            go_wp2
            have hNe : Nonempty (Wd (SW wr)) := ⟨⟨_, SW.drew _⟩⟩
            refine quietS (S := SW wr) (by kernel_rfl) (by kernel_rfl) (SW.drew _) ?_
            repeat (first | go_big_quiet_skip | (go_big_quiet_want; go_big_quiet_op; first | go_big_quiet_on | go_big_quiet_call ((fail))))
            refine wpQuiet_nil ?_
            rintro W ⟨⟨_, hW⟩, rfl⟩
            go_wp2
            go_ret
            exact ⟨ret_bool HR.out.symm, Below.trans hS (Below.mono hW hS.size)⟩
          · have HR : Hid (ordD L = ordT (decide (k + 1 = 0)) y.arr (D.drop (k + 1))) := Lib.hid (by
              rw [HS2.out, if_neg (fun h => h2 h.2)]
              rw [show decide (k + 1 = 0) = false by simp])
            have d3 : decide (y.dep < z.arr) = false := decide_eq_false h2
            have HY := Lib.hid HY.out
            clear HS2 HST h1 h0
            generalize k - 1 = k1 at *
            go_wp2
            have hNe : Nonempty (Wd (SW wr)) := ⟨⟨_, SW.drew _⟩⟩
            refine quietS (S := SW wr) (by kernel_rfl) (by kernel_rfl) (SW.drew _) ?_
            repeat (first | go_big_quiet_skip | (go_big_quiet_want; go_big_quiet_op; first | go_big_quiet_on | go_big_quiet_call ((fail))))
            refine wpQuiet_nil ?_
            rintro W ⟨⟨_, hW⟩, rfl⟩
            go_wp2
            go_roundw
            case rel => exact ⟨k + 1, y.arr, by omega, by go_num, HR, HY, Below.trans hS (Below.mono hW hS.size)⟩
            case measure => simp [intOf]; omega
    · have HR : Hid (ordD L = true) := Lib.hid (by
        rw [HO.out, List.drop_of_length_le (by rw [HLn.out]; omega)]
        rfl)
      have i1 : ¬ (k : Int) < (L.length : Int) := by omega
      go_wp2
      go_ret
      exact ⟨ret_bool HR.out.symm, hS⟩

end Go.Proofs.YtfgmlbmjjihhfaaGreatDoor

/- Walk of the reference's distance. -/
namespace Go.Proofs.YtfgmlbmjjihhfaaGreatDoor
open Go.RowKit Go.Shelf
set_option linter.unusedSimpArgs false
set_option linter.unusedVariables false

theorem town_any (l : List Air) (s : ByteArray) : (findT l s).isSome = l.any fun b => decide (b.city = s) := by
  have e : (fun b : Air => decide (b.city = s)) = fun b => eqS b.city s := by
    funext b
    unfold eqS
    rw [eqB]
  rw [e]
  unfold findT
  rw [Bool.eq_iff_iff, List.find?_isSome, List.any_eq_true]

set_option maxRecDepth 100000 in
set_option maxHeartbeats 8000000 in
theorem rdistance_any (p : PV) (i : Nat) (d : Dst) (w : World) (hp : OkP p) (hL : PlL w p) (hi : p.ds[i]? = some d) :
    Calls Tryz.prog 49 #[encP p, .int .i64 (i : Int)] w fun e w' => ∃ v', e = .returned v' ∧ EOwn w.heap.size w' v' (okE (dstE p.l (p.ds.take i) d)) ∧ Below w.heap.size w w' := by
  obtain ⟨A, ca, l, D, cd, ds⟩ := p
  obtain ⟨hA, hD, hla, hld⟩ := hp
  obtain ⟨hLa, hLd⟩ := hL
  dsimp only at *
  have hil := (List.getElem?_eq_some_iff.1 hi).1
  obtain ⟨bb, off, d', rfl, hgl, hka, hd⟩ := hLd.at hil
  rw [hi] at hka
  obtain rfl := Option.some.inj hka
  have hb1 := bel_alloc w (.cells #[.slice A l.length ca, .slice (some ⟨bb, off, none⟩) ds.length cd] placesT)
  have hb2 := bel_alloc (w.alloc (.cells #[.slice A l.length ca, .slice (some ⟨bb, off, none⟩) ds.length cd] placesT)) (.cells #[.string d.f, .string d.t, .int .i64 d.m] dstT)
  have p0 := bel_cell hb2 ((cells_new w #[.slice A l.length ca, .slice (some ⟨bb, off, none⟩) ds.length cd] placesT 0).trans (show _ = some _ from rfl))
  have p1 := bel_cell hb2 ((cells_new w #[.slice A l.length ca, .slice (some ⟨bb, off, none⟩) ds.length cd] placesT 1).trans (show _ = some _ from rfl))
  have q0 := (cells_new (w.alloc (.cells #[.slice A l.length ca, .slice (some ⟨bb, off, none⟩) ds.length cd] placesT)) #[.string d.f, .string d.t, .int .i64 d.m] dstT 0).trans (show _ = some _ from rfl)
  have q1 := (cells_new (w.alloc (.cells #[.slice A l.length ca, .slice (some ⟨bb, off, none⟩) ds.length cd] placesT)) #[.string d.f, .string d.t, .int .i64 d.m] dstT 1).trans (show _ = some _ from rfl)
  have q2 := (cells_new (w.alloc (.cells #[.slice A l.length ca, .slice (some ⟨bb, off, none⟩) ds.length cd] placesT)) #[.string d.f, .string d.t, .int .i64 d.m] dstT 2).trans (show _ = some _ from rfl)
  rw [World.size_alloc] at q0 q1 q2
  have hb0 := hb1.trans (hb2.mono hb1.size)
  have hLa5 := hLa.more hb0
  have hLd5 := hLd.more hb0
  have hBw := hb0.size
  have i1 : (i : Int) < (ds.length : Int) := by omega
  obtain ⟨a0, a1, a2⟩ := hd
  have HAE : Hid (dstE l (ds.take i) d = [if l.any (fun b => decide (b.city = d.f)) && l.any (fun b => decide (b.city = d.t)) then 0 else 14, if (ds.take i).any (fun x => (decide (x.f = d.f) && decide (x.t = d.t)) || (decide (x.f = d.t) && decide (x.t = d.f))) then 6 else 0, if useB d && !decide (d.f = d.t) then 0 else 2]) := Lib.hid rfl
  go_enter Tryz.func49, Tryz.ntmps49
  go_upto_region 3 with fail
  clear a0 a1 a2 hLa hLd hgl hb1 hb2
  generalize hw5 : (w.alloc (.cells #[.slice A l.length ca, .slice (some ⟨bb, off, none⟩) ds.length cd] placesT)).alloc (.cells #[.string d.f, .string d.t, .int .i64 d.m] dstT) = w5 at *
  clear hw5
  have f0 := bel_get p0
  have f1 := bel_get p1
  have g0 := bel_get q0
  have g1 := bel_get q1
  have g2 := bel_get q2
  have KT : Hid (∀ s W, SW w5 W → Calls Tryz.prog 111 #[.agg #[.slice A l.length ca, .slice (some ⟨bb, off, none⟩) ds.length cd], .string s] W fun e w' => ∃ y : Air, e = .returned (.tuple #[.agg #[.string y.code, .string y.city, .string y.land, .int .i64 y.off, .slice y.A y.shs.length y.c], .bool (l.any fun b => decide (b.city = s))]) ∧ SW w5 w') :=
    Lib.hid (fun s W hW => (rtown_any ⟨A, ca, l, some ⟨bb, off, none⟩, cd, ds⟩ s W hla (hLa5.more hW)).mono (by rintro e w' ⟨rfl, hb⟩; exact ⟨(findT l s).getD airZ, by rw [← town_any], Below.trans hW (hb.mono hW.size)⟩))
  have hS0 : SW w5 w5 := Below.refl _ _
  have HU2 := Lib.hid (fun W => rusable_any d W)
  have HED := Lib.hid (eqB d.f d.t)
  rw [← HED.out] at HAE
  obtain ⟨kf, hkf⟩ : ∃ b, b = (l.any fun b => decide (b.city = d.f)) := ⟨_, rfl⟩
  obtain ⟨kt, hkt⟩ : ∃ b, b = (l.any fun b => decide (b.city = d.t)) := ⟨_, rfl⟩
  have KF := KT.out d.f
  have KG := KT.out d.t
  rw [← hkf] at KF HAE
  rw [← hkt] at KG HAE
  have KF := Lib.hid KF
  have KG := Lib.hid KG
  generalize useB d = us at *
  clear hLa5 hi KT hkf hkt hla
  have z0 := f0 _ hS0
  have z1 := f1 _ hS0
  have z2 := g0 _ hS0
  have z3 := g1 _ hS0
  go_upto_region 5 with (first
    | (go_at_call 111; refine (KG.out _ hS2).mono ?_; rintro e w3 ⟨y3, rfl, hS3⟩; have hS4 := Below.alloc hS3 hS3.size (.cells #[.string y3.code, .string y3.city, .string y3.land, .int .i64 y3.off, .slice y3.A y3.shs.length y3.c] airT))
    | (go_at_call 111; refine (KF.out _ hS0).mono ?_; rintro e w1 ⟨y1, rfl, hS1⟩; have hS2 : SW w5 (w1.alloc (.cells #[.string y1.code, .string y1.city, .string y1.land, .int .i64 y1.off, .slice y1.A y1.shs.length y1.c] airT)) := Below.alloc hS1 hS1.size _; have z0 := f0 _ hS2; have z1 := f1 _ hS2; have z2 := g0 _ hS2; have z3 := g1 _ hS2))
  have hS4 : SW w5 (w3.alloc (.cells #[.string y3.code, .string y3.city, .string y3.land, .int .i64 y3.off, .slice y3.A y3.shs.length y3.c] airT)) := Below.alloc hS3 hS3.size _
  generalize w3.alloc (.cells #[.string y3.code, .string y3.city, .string y3.land, .int .i64 y3.off, .slice y3.A y3.shs.length y3.c] airT) = w6 at *
  clear KF KG z0 z1 z2 z3
  go_cut [38] from 33 (fun v wx => v = .bool (!(kf && kt)) ∧ wx = w6)
  case first =>
    cases kf
    · go_wp2
      go_meet
      exact ⟨rfl, rfl⟩
    · go_wp2
      go_meet
      exact ⟨by cases kt <;> rfl, rfl⟩
  case rest =>
  obtain ⟨rfl, hwc⟩ := hcut
  obtain rfl := hwc.symm
  go_upto_if 38 with fail
  go_cut [5] from 33 (fun v wx => Hid (EOwn w5.heap.size wx v (okE [if (kf && kt) = true then 0 else 14]) ∧ SW w5 wx))
  case first =>
    cases hkk : (kf && kt) with
    | false =>
      have hN : EOwn w5.heap.size w6 (.slice none 0 0) [] := ROwn.nil hS4.size
      go_wp2_with (at_builtin; refine wpList_rapp rtE rfl _ _ rfl hN rfl (bel_alloc _ _) _ 14 _ rfl (cs := #[.int .i64 14]) rfl (heap_alloc_new _ _) (by simp) ?_; intro v' w' hO hC)
      go_meet
      exact Lib.hid ⟨by rw [hkk]; exact hO, Below.trans hS4 ((hC.below hN).mono (Nat.le_refl _))⟩
    | true =>
      go_wp2
      go_meet
      exact Lib.hid ⟨by rw [hkk]; exact ROwn.nil hS4.size, hS4⟩
  case rest =>
    have HC := Lib.hid hcut.out.1
    have hS9 : SW w5 wc := hcut.out.2
    generalize (if (kf && kt) = true then (0 : Int) else 14) = x0 at *
    clear hcut hS4
    go_wp2
    go_loopw [11, 12] (fun v7 vi wr => ∃ (k : Nat) (tw : Bool), k ≤ i ∧ vi = .int .i64 k ∧ v7 = .bool tw ∧ Hid (tw = (ds.take k).any (fun x => (decide (x.f = d.f) && decide (x.t = d.t)) || (decide (x.f = d.t) && decide (x.t = d.f)))) ∧ SW wc wr) (fun _ vi _ => i - (intOf vi).toNat)
    case atStart => exact ⟨0, false, Nat.zero_le _, rfl, rfl, Lib.hid rfl, Below.refl _ _⟩
    case round =>
      obtain ⟨k, tw, hk, rfl, rfl, HT, hS⟩ := hrel
      have hSr : SW w5 wr := Below.trans hS9 (Below.mono hS hS9.size)
      by_cases hlt : k < i
      · obtain ⟨bb', off', x, e, hgl', hkx, hx⟩ := (hLd5.more hSr).at (show k < ds.length by omega)
        cases e
        have HT2 := Lib.hid (any_take (fun x => (decide (x.f = d.f) && decide (x.t = d.t)) || (decide (x.f = d.t) && decide (x.t = d.f))) ds k x hkx)
        have i2 : (k : Int) < (i : Int) := by omega
        have i3 : (k : Int) < (ds.length : Int) := by omega
        have e1 := eqB x.f d.f
        have e2 := eqB x.t d.t
        have e3 := eqB x.f d.t
        have e4 := eqB x.t d.f
        obtain ⟨c0, c1, c2⟩ := hx
        have z0 := f0 _ hSr
        have z1 := f1 _ hSr
        have hSx : SW w5 (wr.alloc (.cells #[.string x.f, .string x.t, .int .i64 x.m] dstT)) := Below.alloc hSr hSr.size _
        have z2 := g0 _ hSx
        have z3 := g1 _ hSx
        have hSy : SW wc (wr.alloc (.cells #[.string x.f, .string x.t, .int .i64 x.m] dstT)) := Below.alloc hS hS.size _
        clear hkx hgl'
        cases tw with
        | true =>
          have HT3 : Hid (true = (ds.take (k + 1)).any (fun x => (decide (x.f = d.f) && decide (x.t = d.t)) || (decide (x.f = d.t) && decide (x.t = d.f)))) := Lib.hid (by rw [HT2.out, ← HT.out, ← e1, ← e2, ← e3, ← e4]; simp)
          clear HT2 e1 e2 e3 e4
          go_wp2
          go_roundw
          case rel => exact ⟨k + 1, true, by omega, by go_num, rfl, HT3, hSy⟩
          case measure => simp [intOf]; omega
        | false =>
          cases hff : (x.f.toList == d.f.toList) with
          | true =>
            cases htt : (x.t.toList == d.t.toList) with
            | true =>
              have HT3 : Hid (true = (ds.take (k + 1)).any (fun x => (decide (x.f = d.f) && decide (x.t = d.t)) || (decide (x.f = d.t) && decide (x.t = d.f)))) := Lib.hid (by rw [HT2.out, ← HT.out, ← e1, ← e2, ← e3, ← e4, hff, htt]; simp)
              clear HT2 e1 e2 e3 e4
              go_wp2
              go_roundw
              case rel => exact ⟨k + 1, true, by omega, by go_num, rfl, HT3, hSy⟩
              case measure => simp [intOf]; omega
            | false =>
              cases hft : (x.f.toList == d.t.toList) with
              | true =>
                have HT3 : Hid ((x.t.toList == d.f.toList) = (ds.take (k + 1)).any (fun x => (decide (x.f = d.f) && decide (x.t = d.t)) || (decide (x.f = d.t) && decide (x.t = d.f)))) := Lib.hid (by rw [HT2.out, ← HT.out, ← e1, ← e2, ← e3, ← e4, hff, htt, hft]; simp)
                clear HT2 e1 e2 e3 e4
                go_wp2
                go_roundw
                case rel => exact ⟨k + 1, (x.t.toList == d.f.toList), by omega, by go_num, rfl, HT3, hSy⟩
                case measure => simp [intOf]; omega
              | false =>
                have HT3 : Hid (false = (ds.take (k + 1)).any (fun x => (decide (x.f = d.f) && decide (x.t = d.t)) || (decide (x.f = d.t) && decide (x.t = d.f)))) := Lib.hid (by rw [HT2.out, ← HT.out, ← e1, ← e2, ← e3, ← e4, hff, htt, hft]; simp)
                clear HT2 e1 e2 e3 e4
                go_wp2
                go_roundw
                case rel => exact ⟨k + 1, false, by omega, by go_num, rfl, HT3, hSy⟩
                case measure => simp [intOf]; omega
          | false =>
            cases hft : (x.f.toList == d.t.toList) with
            | true =>
              have HT3 : Hid ((x.t.toList == d.f.toList) = (ds.take (k + 1)).any (fun x => (decide (x.f = d.f) && decide (x.t = d.t)) || (decide (x.f = d.t) && decide (x.t = d.f)))) := Lib.hid (by rw [HT2.out, ← HT.out, ← e1, ← e2, ← e3, ← e4, hff, hft]; simp)
              clear HT2 e1 e2 e3 e4
              go_wp2
              go_roundw
              case rel => exact ⟨k + 1, (x.t.toList == d.f.toList), by omega, by go_num, rfl, HT3, hSy⟩
              case measure => simp [intOf]; omega
            | false =>
              have HT3 : Hid (false = (ds.take (k + 1)).any (fun x => (decide (x.f = d.f) && decide (x.t = d.t)) || (decide (x.f = d.t) && decide (x.t = d.f)))) := Lib.hid (by rw [HT2.out, ← HT.out, ← e1, ← e2, ← e3, ← e4, hff, hft]; simp)
              clear HT2 e1 e2 e3 e4
              go_wp2
              go_roundw
              case rel => exact ⟨k + 1, false, by omega, by go_num, rfl, HT3, hSy⟩
              case measure => simp [intOf]; omega
      · have hki : k = i := by omega
        subst hki
        have hO := HC.out.more hS
        have HLn : Hid ((okE [x0]).length ≤ 1) := Lib.hid (by unfold okE; exact List.length_filter_le _ _)
        rw [← HT.out] at HAE
        have z2 := g0 _ hSr
        have z3 := g1 _ hSr
        have z4 := g2 _ hSr
        clear HT HC hLd5 hS9
        have HE3 : Hid (okE (dstE l (ds.take k) d) = okE [x0] ++ okE [if tw = true then 6 else 0] ++ okE [if (us && !(d.f.toList == d.t.toList)) = true then 0 else 2]) := Lib.hid (by rw [HAE.out, ← okE_app, ← okE_app]; rfl)
        clear HAE
        cases tw with
        | true =>
          cases us with
          | false =>
            have HF : Hid (okE (dstE l (ds.take k) d) = okE [x0] ++ [6] ++ [2]) := Lib.hid (by rw [HE3.out]; simp [okE])
            clear HE3
            go_wp2_with (first | (at_builtin; refine wpList_rapp rtE rfl _ _ rfl hOu rfl (bel_alloc _ _) _ (2 : Int) _ rfl (cs := #[.int .i64 2]) rfl (heap_alloc_new _ _) (by have := HLn.out; (try simp only [List.length_append, List.length_cons, List.length_nil]); omega) ?_; intro vb wb hOb hCb; have hSb : SW w5 wb := Below.trans hSu ((hCb.below hOu).mono (Nat.le_refl _))) | (go_at_call 112; refine (HU2.out _).mono ?_; rintro e wu ⟨rfl, hbu⟩; have hOu := hOa.more hbu; have hSu : SW w5 wu := Below.trans hSa (Below.mono hbu hSa.size); have z2 := g0 _ hSu; have z3 := g1 _ hSu) | (at_builtin; refine wpList_rapp rtE rfl _ _ rfl hO rfl (bel_alloc _ _) _ (6 : Int) _ rfl (cs := #[.int .i64 6]) rfl (heap_alloc_new _ _) (by have := HLn.out; omega) ?_; intro va wa hOa hCa; have hSa : SW w5 wa := Below.trans hSr ((hCa.below hO).mono (Nat.le_refl _)); have z2 := g0 _ hSa; have z3 := g1 _ hSa; have z4 := g2 _ hSa))
            go_ret
            exact ⟨_, rfl, ⟨by rw [HF.out]; exact hOb.own.mono hBw, Nat.le_trans hBw hSb.size⟩, hb0.trans (Below.mono hSb hBw)⟩
          | true =>
            cases hfe : (d.f.toList == d.t.toList) with
            | true =>
              have HF : Hid (okE (dstE l (ds.take k) d) = okE [x0] ++ [6] ++ [2]) := Lib.hid (by rw [HE3.out, hfe]; simp [okE])
              clear HE3
              go_wp2_with (first | (at_builtin; refine wpList_rapp rtE rfl _ _ rfl hOu rfl (bel_alloc _ _) _ (2 : Int) _ rfl (cs := #[.int .i64 2]) rfl (heap_alloc_new _ _) (by have := HLn.out; (try simp only [List.length_append, List.length_cons, List.length_nil]); omega) ?_; intro vb wb hOb hCb; have hSb : SW w5 wb := Below.trans hSu ((hCb.below hOu).mono (Nat.le_refl _))) | (go_at_call 112; refine (HU2.out _).mono ?_; rintro e wu ⟨rfl, hbu⟩; have hOu := hOa.more hbu; have hSu : SW w5 wu := Below.trans hSa (Below.mono hbu hSa.size); have z2 := g0 _ hSu; have z3 := g1 _ hSu) | (at_builtin; refine wpList_rapp rtE rfl _ _ rfl hO rfl (bel_alloc _ _) _ (6 : Int) _ rfl (cs := #[.int .i64 6]) rfl (heap_alloc_new _ _) (by have := HLn.out; omega) ?_; intro va wa hOa hCa; have hSa : SW w5 wa := Below.trans hSr ((hCa.below hO).mono (Nat.le_refl _)); have z2 := g0 _ hSa; have z3 := g1 _ hSa; have z4 := g2 _ hSa))
              go_ret
              exact ⟨_, rfl, ⟨by rw [HF.out]; exact hOb.own.mono hBw, Nat.le_trans hBw hSb.size⟩, hb0.trans (Below.mono hSb hBw)⟩
            | false =>
              have HF : Hid (okE (dstE l (ds.take k) d) = okE [x0] ++ [6]) := Lib.hid (by rw [HE3.out, hfe]; simp [okE])
              clear HE3
              go_wp2_with (first | (go_at_call 112; refine (HU2.out _).mono ?_; rintro e wu ⟨rfl, hbu⟩; have hOu := hOa.more hbu; have hSu : SW w5 wu := Below.trans hSa (Below.mono hbu hSa.size); have z2 := g0 _ hSu; have z3 := g1 _ hSu) | (at_builtin; refine wpList_rapp rtE rfl _ _ rfl hO rfl (bel_alloc _ _) _ (6 : Int) _ rfl (cs := #[.int .i64 6]) rfl (heap_alloc_new _ _) (by have := HLn.out; omega) ?_; intro va wa hOa hCa; have hSa : SW w5 wa := Below.trans hSr ((hCa.below hO).mono (Nat.le_refl _)); have z2 := g0 _ hSa; have z3 := g1 _ hSa; have z4 := g2 _ hSa))
              go_ret
              exact ⟨_, rfl, ⟨by rw [HF.out]; exact hOu.own.mono hBw, Nat.le_trans hBw hSu.size⟩, hb0.trans (Below.mono hSu hBw)⟩
        | false =>
          cases us with
          | false =>
            have HF : Hid (okE (dstE l (ds.take k) d) = okE [x0] ++ [2]) := Lib.hid (by rw [HE3.out]; simp [okE])
            clear HE3
            go_wp2_with (first | (at_builtin; refine wpList_rapp rtE rfl _ _ rfl hOu rfl (bel_alloc _ _) _ (2 : Int) _ rfl (cs := #[.int .i64 2]) rfl (heap_alloc_new _ _) (by have := HLn.out; (try simp only [List.length_append, List.length_cons, List.length_nil]); omega) ?_; intro vb wb hOb hCb; have hSb : SW w5 wb := Below.trans hSu ((hCb.below hOu).mono (Nat.le_refl _))) | (go_at_call 112; refine (HU2.out _).mono ?_; rintro e wu ⟨rfl, hbu⟩; have hOu := hO.more hbu; have hSu : SW w5 wu := Below.trans hSr (Below.mono hbu hSr.size); have z2 := g0 _ hSu; have z3 := g1 _ hSu))
            go_ret
            exact ⟨_, rfl, ⟨by rw [HF.out]; exact hOb.own.mono hBw, Nat.le_trans hBw hSb.size⟩, hb0.trans (Below.mono hSb hBw)⟩
          | true =>
            cases hfe : (d.f.toList == d.t.toList) with
            | true =>
              have HF : Hid (okE (dstE l (ds.take k) d) = okE [x0] ++ [2]) := Lib.hid (by rw [HE3.out, hfe]; simp [okE])
              clear HE3
              go_wp2_with (first | (at_builtin; refine wpList_rapp rtE rfl _ _ rfl hOu rfl (bel_alloc _ _) _ (2 : Int) _ rfl (cs := #[.int .i64 2]) rfl (heap_alloc_new _ _) (by have := HLn.out; (try simp only [List.length_append, List.length_cons, List.length_nil]); omega) ?_; intro vb wb hOb hCb; have hSb : SW w5 wb := Below.trans hSu ((hCb.below hOu).mono (Nat.le_refl _))) | (go_at_call 112; refine (HU2.out _).mono ?_; rintro e wu ⟨rfl, hbu⟩; have hOu := hO.more hbu; have hSu : SW w5 wu := Below.trans hSr (Below.mono hbu hSr.size); have z2 := g0 _ hSu; have z3 := g1 _ hSu))
              go_ret
              exact ⟨_, rfl, ⟨by rw [HF.out]; exact hOb.own.mono hBw, Nat.le_trans hBw hSb.size⟩, hb0.trans (Below.mono hSb hBw)⟩
            | false =>
              have HF : Hid (okE (dstE l (ds.take k) d) = okE [x0]) := Lib.hid (by rw [HE3.out, hfe]; simp [okE])
              clear HE3
              go_wp2_with (first | (go_at_call 112; refine (HU2.out _).mono ?_; rintro e wu ⟨rfl, hbu⟩; have hOu := hO.more hbu; have hSu : SW w5 wu := Below.trans hSr (Below.mono hbu hSr.size); have z2 := g0 _ hSu; have z3 := g1 _ hSu))
              go_ret
              exact ⟨_, rfl, ⟨by rw [HF.out]; exact hOu.own.mono hBw, Nat.le_trans hBw hSu.size⟩, hb0.trans (Below.mono hSu hBw)⟩

end Go.Proofs.YtfgmlbmjjihhfaaGreatDoor

/- Walks of the reference: digits, Decimal (a copy of TextG that stands without the rest of stage 1). -/
namespace Go.Proofs.YtfgmlbmjjihhfaaGreatDoor
open Go.RowKit
set_option linter.unusedSimpArgs false
set_option linter.unusedVariables false

def tenA : ByteArray := ⟨#[48, 49, 50, 51, 52, 53, 54, 55, 56, 57]⟩
theorem ten_all : ∀ n : Fin 10, (tenA.extract n.val (n.val + 1)).data.toList = [UInt8.ofNat (48 + n.val)] := by decide +kernel
theorem ten_cut (n m : Nat) (h : n < 10) (hm : m = n + 1) : (⟨#[48, 49, 50, 51, 52, 53, 54, 55, 56, 57]⟩ : ByteArray).extract n m = ⟨[UInt8.ofNat (48 + n)].toArray⟩ := by
  subst hm
  exact WideShapes.bytes_inj (ten_all ⟨n, h⟩)

theorem quiet_ex {P : Program} {f : FuncId} {args : Array Value} {w : World} {n : Nat} {v : Value} (h : ∀ W, Calls P f args W fun e w' => e = .returned v ∧ ∃ m, w' = W.drewN m) :
    Calls P f args (w.drewN n) fun e w'' => e = .returned v ∧ ∃ m, w'' = w.drewN m :=
  (h _).mono fun _ _ ⟨he, m, hm⟩ => ⟨he, n + m, by rw [hm, World.drewN_drewN]⟩
theorem dec_len (u : Nat) (h : u ≤ 9223372036854775807) : (⟨(Lib.decDigits u).toArray⟩ : ByteArray).size ≤ 21 := by
  have h1 := Lib.itoa_length_le (u : Int) (by omega) (by omega)
  have h2 : Lib.itoa (u : Int) = Lib.decDigits u := by
    unfold Lib.itoa
    rw [if_neg (by omega)]
    congr 1
  rw [h2] at h1
  simpa [ByteArray.size] using h1
def U64 (n : Nat) : Prop := n < 18446744073709551616
theorem u64_div (n : Nat) (h : U64 n) : IntKind.u64.wrap ((n : Int) / 10) = (n : Int) / 10 := by rw [IntKind.wrap_u64]; unfold U64 at h; omega

set_option maxRecDepth 100000 in
set_option maxHeartbeats 1000000 in
theorem rdigits_any : ∀ (n : Nat) (w : World), U64 n →
    Calls Tryz.prog 110 #[.int .u64 n] w fun e w' => e = .returned (.string ⟨(Lib.decDigits n).toArray⟩) ∧ ∃ k, w' = w.drewN k
  | n, w, hn => by
    by_cases h : n < 10
    · have HD : Hid (Lib.decDigits n = [UInt8.ofNat (48 + n)]) := Lib.hid (decDigits_small n h)
      have b1 : (n : Int) < 10 := by omega
      have HC := Lib.hid (ten_cut n (n + 1) h rfl)
      go_enter Tryz.func110, Tryz.ntmps110
      go_wp2
      go_ret
      exact ⟨by rw [HD.out, ← HC.out]; rfl, 0, rfl⟩
    · have ih : ∀ w, Calls Tryz.prog 110 #[.int .u64 ((n : Int) / 10)] w fun e w' => e = .returned (.string ⟨(Lib.decDigits (n / 10)).toArray⟩) ∧ ∃ k, w' = w.drewN k := by
        intro w
        rw [show ((n : Int) / 10) = ((n / 10 : Nat) : Int) from by omega]
        exact rdigits_any (n / 10) w (by unfold U64 at hn ⊢; omega)
      have HIH := Lib.hid ih
      have e1 := u64_div n hn
      have e2 : ((n : Int)).tmod 10 = (n : Int) % 10 := Int.tmod_eq_emod_of_nonneg (by omega)
      have e3 : IntKind.u64.wrap ((n : Int) % 10 + 1) = (n : Int) % 10 + 1 := by rw [IntKind.wrap_u64]; omega
      have HF : Hid ((⟨(Lib.decDigits (n / 10)).toArray⟩ : ByteArray) ++ (⟨#[48, 49, 50, 51, 52, 53, 54, 55, 56, 57]⟩ : ByteArray).extract ((n : Int) % 10).toNat ((n : Int) % 10 + 1).toNat = ⟨(Lib.decDigits n).toArray⟩) := Lib.hid (by
        rw [ten_cut ((n : Int) % 10).toNat ((n : Int) % 10 + 1).toNat (by omega) (by omega), decDigits_step n (by omega)]
        apply WideShapes.bytes_inj
        rw [show ((n : Int) % 10).toNat = n % 10 from by omega]
        simp)
      have hadd := fun W => run_string_add_sum (P := Tryz.prog) (w := W) (⟨(Lib.decDigits (n / 10)).toArray⟩ : ByteArray) ((⟨#[48, 49, 50, 51, 52, 53, 54, 55, 56, 57]⟩ : ByteArray).extract ((n : Int) % 10).toNat ((n : Int) % 10 + 1).toNat) (by
        have h1 := dec_len (n / 10) (by unfold U64 at hn; omega)
        have h2 : ((⟨#[48, 49, 50, 51, 52, 53, 54, 55, 56, 57]⟩ : ByteArray).extract ((n : Int) % 10).toNat ((n : Int) % 10 + 1).toNat).size ≤ 10 := by
          rw [ByteArray.size_extract]; show min _ 10 - _ ≤ 10; omega
        omega)
      clear ih hn
      have b1 : ¬ (n : Int) < 10 := by omega
      have c1 : (0 : Int) ≤ (n : Int) % 10 := by omega
      have c2 : (n : Int) % 10 < 10 := by omega
      have hsl := fun W => run_slice_string (P := Tryz.prog) W 9 (⟨#[48, 49, 50, 51, 52, 53, 54, 55, 56, 57]⟩ : ByteArray) .u64 .u64 ((n : Int) % 10) ((n : Int) % 10 + 1) Tryz.underlying9 c1 (by omega) (by show (n : Int) % 10 + 1 ≤ 10; omega)
      go_enter Tryz.func110, Tryz.ntmps110
      go_wp2_with (fail)
      go_quiet ((go_at_call 110; exact quiet_ex HIH.out))
      go_wp2
      go_ret
      exact ⟨by rw [← HF.out]; rfl, _, rfl⟩
termination_by n => n
decreasing_by omega

theorem neg_arg (n : Int) (h0 : -9223372036854775808 ≤ n) (hn : n < 0) : IntKind.u64.wrap (IntKind.u64.wrap (wrap64 (-wrap64 (n + 1))) + 1) = (n.natAbs : Int) := by
  have e1 : wrap64 (n + 1) = n + 1 := by unfold wrap64; omega
  have e2 : wrap64 (-(n + 1)) = -(n + 1) := by unfold wrap64; omega
  rw [e1, e2, IntKind.wrap_u64, IntKind.wrap_u64]
  omega
theorem pos_arg (n : Int) (h1 : n ≤ 9223372036854775807) (hn : ¬ n < 0) : IntKind.u64.wrap n = (n.toNat : Int) := by
  rw [IntKind.wrap_u64]
  omega
set_option maxRecDepth 100000 in
set_option maxHeartbeats 1000000 in
theorem rdecimal_any (n : Int) (w : World) (h0 : -9223372036854775808 ≤ n) (h1 : n ≤ 9223372036854775807) :
    Calls Tryz.prog 48 #[.int .i64 n] w fun e w' => e = .returned (.string ⟨(Lib.itoa n).toArray⟩) ∧ ∃ k, w' = w.drewN k := by
  by_cases hn : n < 0
  · have HC : Hid (∀ w, Calls Tryz.prog 110 #[.int .u64 (IntKind.u64.wrap (IntKind.u64.wrap (wrap64 (-wrap64 (n + 1))) + 1))] w fun e w' => e = .returned (.string ⟨(Lib.decDigits n.natAbs).toArray⟩) ∧ ∃ k, w' = w.drewN k) := Lib.hid (by
      intro w; rw [neg_arg n h0 hn]; exact rdigits_any n.natAbs w (by unfold U64; omega))
    have HF : Hid ((⟨#[45]⟩ : ByteArray) ++ (⟨(Lib.decDigits n.natAbs).toArray⟩ : ByteArray) = ⟨(Lib.itoa n).toArray⟩) := Lib.hid (by
      apply WideShapes.bytes_inj
      unfold Lib.itoa
      rw [if_pos hn]
      simp)
    have hlen : (⟨#[45]⟩ : ByteArray).size + (⟨(Lib.decDigits n.natAbs).toArray⟩ : ByteArray).size ≤ 9223372036854775807 := by
      have h2 := Lib.itoa_length_le n h0 h1
      unfold Lib.itoa at h2
      rw [if_pos hn] at h2
      have h3 : (⟨(Lib.decDigits n.natAbs).toArray⟩ : ByteArray).size = (Lib.decDigits n.natAbs).length := by simp [ByteArray.size]
      have h4 : (⟨#[45]⟩ : ByteArray).size = 1 := rfl
      simp only [List.length_cons] at h2
      omega
    have hadd := fun W => run_string_add_sum (P := Tryz.prog) (w := W) (⟨#[45]⟩ : ByteArray) (⟨(Lib.decDigits n.natAbs).toArray⟩ : ByteArray) hlen
    clear h0 h1 hlen
    go_enter Tryz.func48, Tryz.ntmps48
    go_wp2_with (go_at_call 110; refine (HC.out _).mono ?_; rintro e w' ⟨rfl, k, rfl⟩)
    go_ret
    exact ⟨by rw [← HF.out]; rfl, k, rfl⟩
  · have HC : Hid (∀ w, Calls Tryz.prog 110 #[.int .u64 (IntKind.u64.wrap n)] w fun e w' => e = .returned (.string ⟨(Lib.decDigits n.toNat).toArray⟩) ∧ ∃ k, w' = w.drewN k) := Lib.hid (by
      intro w; rw [pos_arg n h1 hn]; exact rdigits_any n.toNat w (by unfold U64; omega))
    have HF : Hid ((⟨(Lib.decDigits n.toNat).toArray⟩ : ByteArray) = ⟨(Lib.itoa n).toArray⟩) := Lib.hid (by
      unfold Lib.itoa
      rw [if_neg hn])
    clear h0 h1
    go_enter Tryz.func48, Tryz.ntmps48
    go_wp2_with (go_at_call 110; refine (HC.out _).mono ?_; rintro e w' ⟨rfl, k, rfl⟩)
    go_ret
    exact ⟨by rw [← HF.out]; rfl, k, rfl⟩
end Go.Proofs.YtfgmlbmjjihhfaaGreatDoor

/- Walk of the reference's Check of places. -/
namespace Go.Proofs.YtfgmlbmjjihhfaaGreatDoor
open Go.RowKit Go.Shelf
set_option linter.unusedSimpArgs false
set_option linter.unusedVariables false

theorem rdec_small (k : Nat) (h : k < 100) (w : World) : Calls Tryz.prog 48 #[.int .i64 (k : Int)] w fun e w' => e = .returned (.string (decA k)) ∧ Below w.heap.size w w' :=
  (rdecimal_any (k : Int) w (by omega) (by omega)).mono (by rintro e w' ⟨rfl, n, rfl⟩; exact ⟨rfl, below_drewN (Below.refl _ _) n⟩)
def tag (s : ByteArray) (es : List Int) : List Flt := es.map fun e => (e, s)
theorem tag_succ (s : ByteArray) (es : List Int) (k : Nat) (h : k < es.length) : tag s (es.take (k + 1)) = tag s (es.take k) ++ [(es[k], s)] := by
  unfold tag
  rw [← List.take_append_getElem h, List.map_append]
  rfl
theorem okE_le (es : List Int) : (okE es).length ≤ es.length := List.length_filter_le _ _
theorem airE_len (l : List Air) (a : Air) : (airE l a).length = 4 := rfl
theorem dstE_len (l : List Air) (L : List Dst) (d : Dst) : (dstE l L d).length = 3 := rfl

set_option maxRecDepth 100000 in
set_option maxHeartbeats 16000000 in
theorem rcheck6_any (p : PV) (w : World) (hp : OkP p) (hL : PlL w p) :
    Calls Tryz.prog 14 #[encP p] w fun e w' => ∃ v', e = .returned v' ∧ FOwn w.heap.size w' v' (chkP p) ∧ Below w.heap.size w w' := by
  have hb0 := bel_alloc w (.cells #[.slice p.A p.l.length p.ca, .slice p.D p.ds.length p.cd] placesT)
  have q0 := (cells_new w #[.slice p.A p.l.length p.ca, .slice p.D p.ds.length p.cd] placesT 0).trans (show _ = some _ from rfl)
  have q1 := (cells_new w #[.slice p.A p.l.length p.ca, .slice p.D p.ds.length p.cd] placesT 1).trans (show _ = some _ from rfl)
  have hL5 := hL.more hb0
  go_enter Tryz.func14, Tryz.ntmps14
  go_wp2
  generalize hw5 : w.alloc (.cells #[.slice p.A p.l.length p.ca, .slice p.D p.ds.length p.cd] placesT) = w5 at *
  clear hw5
  have y0 := bel_get q0
  have y1 := bel_get q1
  have KA : Hid (∀ (i : Nat) (a : Air) W, SW w5 W → p.l[i]? = some a → Calls Tryz.prog 47 #[.agg #[.slice p.A p.l.length p.ca, .slice p.D p.ds.length p.cd], .int .i64 (i : Int)] W fun e w' => ∃ v', e = .returned v' ∧ EOwn W.heap.size w' v' (okE (airE (p.l.take i) a)) ∧ Below W.heap.size W w') := Lib.hid (fun i a W hW hi => rairport_any p i a W hp (hL5.more hW) hi)
  have KD : Hid (∀ (i : Nat) (d : Dst) W, SW w5 W → p.ds[i]? = some d → Calls Tryz.prog 49 #[.agg #[.slice p.A p.l.length p.ca, .slice p.D p.ds.length p.cd], .int .i64 (i : Int)] W fun e w' => ∃ v', e = .returned v' ∧ EOwn W.heap.size w' v' (okE (dstE p.l (p.ds.take i) d)) ∧ Below W.heap.size W w') := Lib.hid (fun i d W hW hi => rdistance_any p i d W hp (hL5.more hW) hi)
  have hla := hp.la
  have hld := hp.ld
  have HC : Hid (chkP p = airF p.l p.l.length ++ dstF p.l p.ds p.ds.length) := Lib.hid rfl
  have HN : Hid (FOwn w5.heap.size w5 (.slice none 0 0) (airF p.l 0)) := Lib.hid (ROwn.nil (Nat.le_refl _))
  clear hL hL5 hp
  go_loopg [3, 4] p.l.length (fun kx v3 vi wr => ∃ (v : Value) (i : Nat), v = v3 ∧ vi = .int .i64 i ∧ i + kx = p.l.length ∧ Hid (FOwn w5.heap.size wr v (airF p.l i) ∧ SW w5 wr))
  case atStart => exact ⟨_, 0, rfl, rfl, by omega, Lib.hid ⟨HN.out, Below.refl _ _⟩⟩
  case round =>
    obtain ⟨v, i, rfl, rfl, hik, HH⟩ := hrel
    have HIK := Lib.hid hik
    have hSr : SW w5 wr := HH.out.2
    have z0 := y0 _ hSr
    have z1 := y1 _ hSr
    by_cases hlt : i < p.l.length
    · clear hik
      obtain ⟨a, hia⟩ : ∃ a, p.l[i]? = some a := ⟨_, List.getElem?_eq_getElem hlt⟩
      have i2 : (i : Int) < (p.l.length : Int) := by omega
      have KAi := Lib.hid (KA.out i a wr hSr hia)
      have HS := Lib.hid (airF_succ p.l i a hia)
      have HFL : Hid ((airF p.l i).length ≤ 1000) := Lib.hid (by have := airF_le p.l i; omega)
      have HEL : Hid ((okE (airE (p.l.take i) a)).length ≤ 4) := Lib.hid (Nat.le_trans (okE_le _) (by rw [airE_len]; omega))
      have hpk : pick (airW ++ decA i) (airE (p.l.take i) a) = tag (airW ++ decA i) (okE (airE (p.l.take i) a)) := rfl
      rw [hpk] at HS
      clear hia hpk
      generalize okE (airE (p.l.take i) a) = es at *
      go_wp2_with (go_at_call 47; refine KAi.out.mono ?_; rintro e w1 ⟨u, rfl, hU, hb1⟩; refine Hid.out ?_)
      have hO1 := HH.out.1.more hb1
      have hS1 : SW w5 w1 := Below.trans hSr (Below.mono hb1 hSr.size)
      have hUL : RowL 1 encE w1 u es := ROwn.rowL hU rtE.len
      have HUB : Hid (∀ k, u.ownBlock = some k → v.ownBlock ≠ some k) := Lib.hid (fun k hk hv => by have h1 := (hU.low hk).1; have h2 := (HH.out.1.low hv).2; omega)
      obtain ⟨AU, cu, rfl, hcu⟩ := hUL
      have HU : Hid (∀ k (hk : k < es.length), ∃ b o, AU = some ⟨b, o, none⟩ ∧ v.ownBlock ≠ some b ∧ w1.cell? ⟨b, o + k, none⟩ = some (.int .i64 es[k])) := Lib.hid (fun k hk => by
        rcases hcu with h | ⟨b, o, h1, h2, h3⟩
        · rw [h] at hk; simp at hk
        · subst h1
          have h4 := h3 k _ 0 _ (List.getElem?_eq_getElem hk) rfl
          rw [Nat.mul_one, Nat.add_zero] at h4
          exact ⟨b, o, rfl, HUB.out b rfl, h4⟩)
      have HJ0 : Hid (FOwn w5.heap.size w1 v (airF p.l i ++ tag (airW ++ decA i) (es.take 0)) ∧ Chg w1 w1 v v ∧ SW w5 w1) := Lib.hid ⟨by simpa [tag] using hO1, Chg.refl _ _, hS1⟩
      have KDc := Lib.hid (rdec_small i (by omega))
      clear hcu HUB hU hb1 hO1 hS1 KAi HH z0 z1
      refine Lib.hid ?_
      go_wp2
      go_loopg [3, 6] es.length (fun kq v3 vk wi => ∃ (v2 : Value) (k : Nat), v2 = v3 ∧ vk = .int .i64 k ∧ k + kq = es.length ∧ Hid (FOwn w5.heap.size wi v2 (airF p.l i ++ tag (airW ++ decA i) (es.take k)) ∧ Chg w1 wi v v2 ∧ SW w5 wi))
      case atStart => exact ⟨_, 0, rfl, rfl, by omega, HJ0⟩
      case round =>
        obtain ⟨v2, k, rfl, rfl, hkq, HJ⟩ := hrel
        clear HJ0
        have HKQ := Lib.hid hkq
        have hel4 : es.length ≤ 4 := HEL.out
        by_cases hlt2 : k < es.length
        · clear hkq
          obtain ⟨b, o, rfl, hvb, hcell⟩ := HU.out k hlt2
          have i3 : (k : Int) < (es.length : Int) := by omega
          have hc2 := HJ.out.2.1.cell hcell hvb
          have hv2b : v2.ownBlock ≠ some b := fun h => by
            rcases HJ.out.2.1.own b h with h1 | h1
            · exact hvb h1
            · have := World.block_lt_of_cell? _ _ hcell; simp at this; omega
          have HT := Lib.hid (tag_succ (airW ++ decA i) es k hlt2)
          have HLn : Hid ((airF p.l i ++ tag (airW ++ decA i) (es.take k)).length ≤ 100000000) := Lib.hid (by
            have h1 := HFL.out
            have h2 := HEL.out
            have h3 : (tag (airW ++ decA i) (es.take k)).length = (es.take k).length := List.length_map _
            have h4 := List.length_take_le k es
            rw [List.length_append]
            omega)
          have hadd : ∀ W : World, (Op.stringOp .add ⟨#[97, 105, 114, 112, 111, 114, 116, 32]⟩ (decA i)).run Tryz.prog W = .ok (.string (airW ++ decA i)) W := fun W => run_string_add_sum W _ _ (by have := decA_size i (by omega); have e : (⟨#[97, 105, 114, 112, 111, 114, 116, 32]⟩ : ByteArray).size = 8 := rfl; omega)
          have hO := HJ.out.1.more ((Below.refl _ wr).drew)
          generalize es[k] = x at *
          clear hcell
          have f0 : ∀ W, SX wr v2 W → W.cell? ⟨b, o + k, none⟩ = some (.int .i64 x) := fun W h => SX.cell hc2 hv2b h
          go_wp2
          have hS : (SX wr v2) _ := But.of_below (Below.refl _ _).drew
          refine wp_region_held_drew (S := SX wr v2) (by kernel_rfl) hS (fun _ => ?_)
          refine wpAnyH_take (i := 0) (v := ?vRA0) rfl (by kernel_rfl) (by kernel_rfl) (by kernel_rfl) (fun _ _ _ h => h) (Or.inl ⟨by rfl, ?hyRA0⟩) hS ?restRA0
          case hyRA0 =>
            intro w hSw
            first | (go_simp; done) | (go_simp; with_reducible rfl)
          try simp only [Act.put, List.setIfInBounds_toArray, List.set_cons_zero, List.set_cons_succ]
          refine wpAnyH_take (i := 1) (v := ?vRA1) rfl (by kernel_rfl) (by kernel_rfl) (by kernel_rfl) (fun _ _ _ h => h) (Or.inl ⟨by rfl, ?hyRA1⟩) hS ?restRA1
          case hyRA1 =>
            intro w hSw
            first | (go_simp; done) | (go_simp; with_reducible rfl)
          try simp only [Act.put, List.setIfInBounds_toArray, List.set_cons_zero, List.set_cons_succ]
          refine wpAnyH_take (i := 2) (v := ?vRA2) rfl (by kernel_rfl) (by kernel_rfl) (by kernel_rfl) (fun _ _ _ h => h) (Or.inl ⟨by rfl, ?hyRA2⟩) hS ?restRA2
          case hyRA2 =>
            intro w hSw
            first | (go_simp; done) | (go_simp; with_reducible rfl)
          try simp only [Act.put, List.setIfInBounds_toArray, List.set_cons_zero, List.set_cons_succ]
          refine wpAnyH_take (i := 3) (v := ?vRA3) rfl (by kernel_rfl) (by kernel_rfl) (by kernel_rfl) (fun _ _ _ h => h) (Or.inl ⟨by rfl, ?hyRA3⟩) hS ?restRA3
          case hyRA3 =>
            intro w hSw
            have k0 := f0 w hSw
            first | (go_simp; done) | (go_simp; with_reducible rfl)
          try simp only [Act.put, List.setIfInBounds_toArray, List.set_cons_zero, List.set_cons_succ]
          refine wpAnyH_take (i := 4) (v := ?vRA4) rfl (by kernel_rfl) (by kernel_rfl) (by kernel_rfl) (fun _ _ _ h => h) (Or.inl ⟨by rfl, ?hyRA4⟩) hS ?restRA4
          case hyRA4 =>
            intro w hSw
            have k0 := f0 w hSw
            first | (go_simp; done) | (go_simp; with_reducible rfl)
          try simp only [Act.put, List.setIfInBounds_toArray, List.set_cons_zero, List.set_cons_succ]
          refine wpAnyH_take (i := 5) (v := ?vRA5) rfl (by kernel_rfl) (by kernel_rfl) (by kernel_rfl) (fun _ _ _ h => h) (Or.inl ⟨by rfl, ?hyRA5⟩) hS ?restRA5
          case hyRA5 =>
            intro w hSw
            first | (go_simp; done) | (go_simp; with_reducible rfl)
          try simp only [Act.put, List.setIfInBounds_toArray, List.set_cons_zero, List.set_cons_succ]
          refine wpAnyH_ready (rs := [6]) (by kernel_rfl) (by simp) ?_
          refine AllReadyH.cons rfl (fun K hK => ?_) AllReadyH.nil
          go_simp
          go_wp2_with ((go_at_call 48; refine (KDc.out _).mono ?_; rintro e w' ⟨rfl, hb'⟩; have hO := hO.more hb'; have hS := hS.on hb'))
          refine hK.out _ _ hS (fun _ => ?_)
          clear hK K
          refine wpAnyH_take (i := 7) (v := ?vRA7) rfl (by kernel_rfl) (by kernel_rfl) (by kernel_rfl) (fun _ _ _ h => h) (Or.inl ⟨by rfl, ?hyRA7⟩) hS ?restRA7
          case hyRA7 =>
            intro w hSw
            have kadd := hadd w
            first | (go_simp; done) | (go_simp; with_reducible rfl)
          try simp only [Act.put, List.setIfInBounds_toArray, List.set_cons_zero, List.set_cons_succ]
          refine wpAnyH_take (i := 8) (v := ?vRA8) rfl (by kernel_rfl) (by kernel_rfl) (by kernel_rfl) (fun _ _ _ h => h) (Or.inl ⟨by rfl, ?hyRA8⟩) hS ?restRA8
          case hyRA8 =>
            intro w hSw
            first | (go_simp; done) | (go_simp; with_reducible rfl)
          try simp only [Act.put, List.setIfInBounds_toArray, List.set_cons_zero, List.set_cons_succ]
          refine wpAnyH_ready (rs := [9]) (by kernel_rfl) (by simp) ?_
          refine AllReadyH.cons rfl (fun K hK => ?_) AllReadyH.nil
          go_simp
          have hSp := hS
          have hS := hS.on (bel_alloc _ (.cells #[.int .i64 x, .string (airW ++ decA i)] fltT))
          refine hK.out _ _ hS (fun _ => ?_)
          clear hK K
          refine wpAnyH_ready (rs := [10]) (by kernel_rfl) (by simp) ?_
          refine AllReadyH.cons rfl (fun K hK => ?_) AllReadyH.nil
          refine step_rapp rtF rfl _ _ rfl hO rfl (bel_alloc _ _) _ (x, airW ++ decA i) _ rfl (cs := #[.int .i64 x, .string (airW ++ decA i)]) rfl (heap_alloc_new _ _) HLn.out ?_
          intro v8 w8 hO8 hC8
          go_simp
          have hS := hSp.trans hC8.but (fun _ _ h => h)
          refine hK.out _ _ hS (fun _ => ?_)
          clear hK K
          refine wpAnyH_take (i := 11) (v := ?vRA11) rfl (by kernel_rfl) (by kernel_rfl) (by kernel_rfl) (fun _ _ _ h => h) (Or.inl ⟨by rfl, ?hyRA11⟩) hS ?restRA11
          case hyRA11 =>
            intro w hSw
            first | (go_simp; done) | (go_simp; with_reducible rfl)
          try simp only [Act.put, List.setIfInBounds_toArray, List.set_cons_zero, List.set_cons_succ]
          refine wpAnyH_done (by kernel_rfl) ?_ _
          simp only [List.getElem_toArray, List.getElem_cons_succ, List.getElem_cons_zero, List.set_cons_zero, List.set_cons_succ]
          have HX : Hid (FOwn w5.heap.size w8 v8 (airF p.l i ++ tag (airW ++ decA i) (es.take (k + 1))) ∧ Chg w1 w8 v v8 ∧ SW w5 w8) := Lib.hid ⟨by rw [HT.out, ← List.append_assoc]; exact hO8, HJ.out.2.1.trans ⟨hS, fun g hg => by
              rcases hC8.own g hg with h1 | h1
              · exact .inl h1
              · exact .inr (Nat.le_trans hSp.size h1)⟩, Below.trans HJ.out.2.2 (hS.below HJ.out.1.base (fun k hk hv => by have := (HJ.out.1.low hv).1; omega))⟩
          clear hO8 hC8 hS hSp hO
          go_wp2
          go_roundg (es.length - (k + 1))
          case measure => have := HKQ.out; omega
          case rel => exact ⟨_, k + 1, rfl, by go_num, by omega, HX⟩
        · have HX : Hid (FOwn w5.heap.size wr v2 (airF p.l (i + 1)) ∧ SW w5 wr) := Lib.hid ⟨by
              rw [HS.out]
              have := HJ.out.1
              rwa [List.take_of_length_le (by omega)] at this, HJ.out.2.2⟩
          clear HJ hkq
          go_wp2
          go_roundg (p.l.length - (i + 1))
          case measure => have := HIK.out; omega
          case rel => exact ⟨_, i + 1, rfl, by go_num, by omega, HX⟩
    · have HN2 : Hid (FOwn w5.heap.size wr v (airF p.l p.l.length ++ dstF p.l p.ds 0) ∧ SW w5 wr) := Lib.hid ⟨by
          rw [dstF_zero, List.append_nil, ← show i = p.l.length by omega]
          exact HH.out.1, hSr⟩
      clear hik HH
      go_wp2
      go_loopg [3, 7] p.ds.length (fun kx v3 vi wr => ∃ (v : Value) (i : Nat), v = v3 ∧ vi = .int .i64 i ∧ i + kx = p.ds.length ∧ Hid (FOwn w5.heap.size wr v (airF p.l p.l.length ++ dstF p.l p.ds i) ∧ SW w5 wr))
      case atStart => exact ⟨_, 0, rfl, rfl, by omega, HN2⟩
      case round =>
        obtain ⟨v, i, rfl, rfl, hik, HH⟩ := hrel
        have HIK := Lib.hid hik
        have hSr : SW w5 wr := HH.out.2
        have z0 := y0 _ hSr
        have z1 := y1 _ hSr
        by_cases hlt : i < p.ds.length
        · clear hik
          obtain ⟨a, hia⟩ : ∃ a, p.ds[i]? = some a := ⟨_, List.getElem?_eq_getElem hlt⟩
          have i2 : (i : Int) < (p.ds.length : Int) := by omega
          have KAi := Lib.hid (KD.out i a wr hSr hia)
          have HS := Lib.hid (dstF_succ p.l p.ds i a hia)
          have HFL : Hid ((airF p.l p.l.length ++ dstF p.l p.ds i).length ≤ 1000) := Lib.hid (by have := airF_le p.l p.l.length; have := dstF_le p.l p.ds i; rw [List.length_append]; omega)
          have HEL : Hid ((okE (dstE p.l (p.ds.take i) a)).length ≤ 4) := Lib.hid (Nat.le_trans (okE_le _) (by rw [dstE_len]; omega))
          have hpk : pick (dstW ++ decA i) (dstE p.l (p.ds.take i) a) = tag (dstW ++ decA i) (okE (dstE p.l (p.ds.take i) a)) := rfl
          rw [hpk] at HS
          clear hia hpk
          generalize okE (dstE p.l (p.ds.take i) a) = es at *
          go_wp2_with (go_at_call 49; refine KAi.out.mono ?_; rintro e w1 ⟨u, rfl, hU, hb1⟩; refine Hid.out ?_)
          have hO1 := HH.out.1.more hb1
          have hS1 : SW w5 w1 := Below.trans hSr (Below.mono hb1 hSr.size)
          have hUL : RowL 1 encE w1 u es := ROwn.rowL hU rtE.len
          have HUB : Hid (∀ k, u.ownBlock = some k → v.ownBlock ≠ some k) := Lib.hid (fun k hk hv => by have h1 := (hU.low hk).1; have h2 := (HH.out.1.low hv).2; omega)
          obtain ⟨AU, cu, rfl, hcu⟩ := hUL
          have HU : Hid (∀ k (hk : k < es.length), ∃ b o, AU = some ⟨b, o, none⟩ ∧ v.ownBlock ≠ some b ∧ w1.cell? ⟨b, o + k, none⟩ = some (.int .i64 es[k])) := Lib.hid (fun k hk => by
            rcases hcu with h | ⟨b, o, h1, h2, h3⟩
            · rw [h] at hk; simp at hk
            · subst h1
              have h4 := h3 k _ 0 _ (List.getElem?_eq_getElem hk) rfl
              rw [Nat.mul_one, Nat.add_zero] at h4
              exact ⟨b, o, rfl, HUB.out b rfl, h4⟩)
          have HJ0 : Hid (FOwn w5.heap.size w1 v (airF p.l p.l.length ++ dstF p.l p.ds i ++ tag (dstW ++ decA i) (es.take 0)) ∧ Chg w1 w1 v v ∧ SW w5 w1) := Lib.hid ⟨by simpa [tag] using hO1, Chg.refl _ _, hS1⟩
          have KDc := Lib.hid (rdec_small i (by omega))
          clear hcu HUB hU hb1 hO1 hS1 KAi HH z0 z1
          refine Lib.hid ?_
          go_wp2
          go_loopg [3, 9] es.length (fun kq v3 vk wi => ∃ (v2 : Value) (k : Nat), v2 = v3 ∧ vk = .int .i64 k ∧ k + kq = es.length ∧ Hid (FOwn w5.heap.size wi v2 (airF p.l p.l.length ++ dstF p.l p.ds i ++ tag (dstW ++ decA i) (es.take k)) ∧ Chg w1 wi v v2 ∧ SW w5 wi))
          case atStart => exact ⟨_, 0, rfl, rfl, by omega, HJ0⟩
          case round =>
            obtain ⟨v2, k, rfl, rfl, hkq, HJ⟩ := hrel
            clear HJ0
            have HKQ := Lib.hid hkq
            have hel4 : es.length ≤ 4 := HEL.out
            by_cases hlt2 : k < es.length
            · clear hkq
              obtain ⟨b, o, rfl, hvb, hcell⟩ := HU.out k hlt2
              have i3 : (k : Int) < (es.length : Int) := by omega
              have hc2 := HJ.out.2.1.cell hcell hvb
              have hv2b : v2.ownBlock ≠ some b := fun h => by
                rcases HJ.out.2.1.own b h with h1 | h1
                · exact hvb h1
                · have := World.block_lt_of_cell? _ _ hcell; simp at this; omega
              have HT := Lib.hid (tag_succ (dstW ++ decA i) es k hlt2)
              have HLn : Hid ((airF p.l p.l.length ++ dstF p.l p.ds i ++ tag (dstW ++ decA i) (es.take k)).length ≤ 100000000) := Lib.hid (by
                have h1 := HFL.out
                have h2 := HEL.out
                have h3 : (tag (dstW ++ decA i) (es.take k)).length = (es.take k).length := List.length_map _
                have h4 := List.length_take_le k es
                rw [List.length_append]
                omega)
              have hadd : ∀ W : World, (Op.stringOp .add ⟨#[100, 105, 115, 116, 97, 110, 99, 101, 32]⟩ (decA i)).run Tryz.prog W = .ok (.string (dstW ++ decA i)) W := fun W => run_string_add_sum W _ _ (by have := decA_size i (by omega); have e : (⟨#[100, 105, 115, 116, 97, 110, 99, 101, 32]⟩ : ByteArray).size = 9 := rfl; omega)
              have hO := HJ.out.1.more ((Below.refl _ wr).drew)
              generalize es[k] = x at *
              clear hcell
              have f0 : ∀ W, SX wr v2 W → W.cell? ⟨b, o + k, none⟩ = some (.int .i64 x) := fun W h => SX.cell hc2 hv2b h
              go_wp2
              have hS : (SX wr v2) _ := But.of_below (Below.refl _ _).drew
              refine wp_region_held_drew (S := SX wr v2) (by kernel_rfl) hS (fun _ => ?_)
              refine wpAnyH_take (i := 0) (v := ?vRB0) rfl (by kernel_rfl) (by kernel_rfl) (by kernel_rfl) (fun _ _ _ h => h) (Or.inl ⟨by rfl, ?hyRB0⟩) hS ?restRB0
              case hyRB0 =>
                intro w hSw
                first | (go_simp; done) | (go_simp; with_reducible rfl)
              try simp only [Act.put, List.setIfInBounds_toArray, List.set_cons_zero, List.set_cons_succ]
              refine wpAnyH_take (i := 1) (v := ?vRB1) rfl (by kernel_rfl) (by kernel_rfl) (by kernel_rfl) (fun _ _ _ h => h) (Or.inl ⟨by rfl, ?hyRB1⟩) hS ?restRB1
              case hyRB1 =>
                intro w hSw
                first | (go_simp; done) | (go_simp; with_reducible rfl)
              try simp only [Act.put, List.setIfInBounds_toArray, List.set_cons_zero, List.set_cons_succ]
              refine wpAnyH_take (i := 2) (v := ?vRB2) rfl (by kernel_rfl) (by kernel_rfl) (by kernel_rfl) (fun _ _ _ h => h) (Or.inl ⟨by rfl, ?hyRB2⟩) hS ?restRB2
              case hyRB2 =>
                intro w hSw
                first | (go_simp; done) | (go_simp; with_reducible rfl)
              try simp only [Act.put, List.setIfInBounds_toArray, List.set_cons_zero, List.set_cons_succ]
              refine wpAnyH_take (i := 3) (v := ?vRB3) rfl (by kernel_rfl) (by kernel_rfl) (by kernel_rfl) (fun _ _ _ h => h) (Or.inl ⟨by rfl, ?hyRB3⟩) hS ?restRB3
              case hyRB3 =>
                intro w hSw
                have k0 := f0 w hSw
                first | (go_simp; done) | (go_simp; with_reducible rfl)
              try simp only [Act.put, List.setIfInBounds_toArray, List.set_cons_zero, List.set_cons_succ]
              refine wpAnyH_take (i := 4) (v := ?vRB4) rfl (by kernel_rfl) (by kernel_rfl) (by kernel_rfl) (fun _ _ _ h => h) (Or.inl ⟨by rfl, ?hyRB4⟩) hS ?restRB4
              case hyRB4 =>
                intro w hSw
                have k0 := f0 w hSw
                first | (go_simp; done) | (go_simp; with_reducible rfl)
              try simp only [Act.put, List.setIfInBounds_toArray, List.set_cons_zero, List.set_cons_succ]
              refine wpAnyH_take (i := 5) (v := ?vRB5) rfl (by kernel_rfl) (by kernel_rfl) (by kernel_rfl) (fun _ _ _ h => h) (Or.inl ⟨by rfl, ?hyRB5⟩) hS ?restRB5
              case hyRB5 =>
                intro w hSw
                first | (go_simp; done) | (go_simp; with_reducible rfl)
              try simp only [Act.put, List.setIfInBounds_toArray, List.set_cons_zero, List.set_cons_succ]
              refine wpAnyH_ready (rs := [6]) (by kernel_rfl) (by simp) ?_
              refine AllReadyH.cons rfl (fun K hK => ?_) AllReadyH.nil
              go_simp
              go_wp2_with ((go_at_call 48; refine (KDc.out _).mono ?_; rintro e w' ⟨rfl, hb'⟩; have hO := hO.more hb'; have hS := hS.on hb'))
              refine hK.out _ _ hS (fun _ => ?_)
              clear hK K
              refine wpAnyH_take (i := 7) (v := ?vRB7) rfl (by kernel_rfl) (by kernel_rfl) (by kernel_rfl) (fun _ _ _ h => h) (Or.inl ⟨by rfl, ?hyRB7⟩) hS ?restRB7
              case hyRB7 =>
                intro w hSw
                have kadd := hadd w
                first | (go_simp; done) | (go_simp; with_reducible rfl)
              try simp only [Act.put, List.setIfInBounds_toArray, List.set_cons_zero, List.set_cons_succ]
              refine wpAnyH_take (i := 8) (v := ?vRB8) rfl (by kernel_rfl) (by kernel_rfl) (by kernel_rfl) (fun _ _ _ h => h) (Or.inl ⟨by rfl, ?hyRB8⟩) hS ?restRB8
              case hyRB8 =>
                intro w hSw
                first | (go_simp; done) | (go_simp; with_reducible rfl)
              try simp only [Act.put, List.setIfInBounds_toArray, List.set_cons_zero, List.set_cons_succ]
              refine wpAnyH_ready (rs := [9]) (by kernel_rfl) (by simp) ?_
              refine AllReadyH.cons rfl (fun K hK => ?_) AllReadyH.nil
              go_simp
              have hSp := hS
              have hS := hS.on (bel_alloc _ (.cells #[.int .i64 x, .string (dstW ++ decA i)] fltT))
              refine hK.out _ _ hS (fun _ => ?_)
              clear hK K
              refine wpAnyH_ready (rs := [10]) (by kernel_rfl) (by simp) ?_
              refine AllReadyH.cons rfl (fun K hK => ?_) AllReadyH.nil
              refine step_rapp rtF rfl _ _ rfl hO rfl (bel_alloc _ _) _ (x, dstW ++ decA i) _ rfl (cs := #[.int .i64 x, .string (dstW ++ decA i)]) rfl (heap_alloc_new _ _) HLn.out ?_
              intro v8 w8 hO8 hC8
              go_simp
              have hS := hSp.trans hC8.but (fun _ _ h => h)
              refine hK.out _ _ hS (fun _ => ?_)
              clear hK K
              refine wpAnyH_take (i := 11) (v := ?vRB11) rfl (by kernel_rfl) (by kernel_rfl) (by kernel_rfl) (fun _ _ _ h => h) (Or.inl ⟨by rfl, ?hyRB11⟩) hS ?restRB11
              case hyRB11 =>
                intro w hSw
                first | (go_simp; done) | (go_simp; with_reducible rfl)
              try simp only [Act.put, List.setIfInBounds_toArray, List.set_cons_zero, List.set_cons_succ]
              refine wpAnyH_done (by kernel_rfl) ?_ _
              simp only [List.getElem_toArray, List.getElem_cons_succ, List.getElem_cons_zero, List.set_cons_zero, List.set_cons_succ]
              have HX : Hid (FOwn w5.heap.size w8 v8 (airF p.l p.l.length ++ dstF p.l p.ds i ++ tag (dstW ++ decA i) (es.take (k + 1))) ∧ Chg w1 w8 v v8 ∧ SW w5 w8) := Lib.hid ⟨by rw [HT.out, ← List.append_assoc]; exact hO8, HJ.out.2.1.trans ⟨hS, fun g hg => by
                  rcases hC8.own g hg with h1 | h1
                  · exact .inl h1
                  · exact .inr (Nat.le_trans hSp.size h1)⟩, Below.trans HJ.out.2.2 (hS.below HJ.out.1.base (fun k hk hv => by have := (HJ.out.1.low hv).1; omega))⟩
              clear hO8 hC8 hS hSp hO
              go_wp2
              go_roundg (es.length - (k + 1))
              case measure => have := HKQ.out; omega
              case rel => exact ⟨_, k + 1, rfl, by go_num, by omega, HX⟩
            · have HX : Hid (FOwn w5.heap.size wr v2 (airF p.l p.l.length ++ dstF p.l p.ds (i + 1)) ∧ SW w5 wr) := Lib.hid ⟨by
                  rw [HS.out]
                  have := HJ.out.1
                  rwa [List.take_of_length_le (by omega), List.append_assoc] at this, HJ.out.2.2⟩
              clear HJ hkq
              go_wp2
              go_roundg (p.ds.length - (i + 1))
              case measure => have := HIK.out; omega
              case rel => exact ⟨_, i + 1, rfl, by go_num, by omega, HX⟩
        · have HR : Hid (FOwn w.heap.size wr v (chkP p) ∧ Below w.heap.size w wr) := Lib.hid ⟨⟨by
              rw [HC.out, ← show i = p.ds.length by omega]
              exact HH.out.1.own.mono hb0.size, Nat.le_trans hb0.size hSr.size⟩, hb0.trans (Below.mono hSr hb0.size)⟩
          clear hik HH
          go_wp2
          go_ret
          exact ⟨v, rfl, HR.out⟩
      

end Go.Proofs.YtfgmlbmjjihhfaaGreatDoor

/- Walk of Normal: the loop that gathers a period's canonical form. -/
namespace Go.Proofs.YtfgmlbmjjihhfaaGreatDoor.Per
open Go.RowKit Go.Shelf
set_option linter.unusedSimpArgs false
set_option linter.unusedVariables false
attribute [local go_sem] Oper.semAt_some
attribute [local simp] wide_fn

theorem set_heap {W : World} {B : Nat} {cs : Array Value} {t : TypeId} (h : W.heap[B]? = some (.cells cs t (0, 0))) (j : Nat) (u : Value) : (W.setCell ⟨B, j, none⟩ u).heap[B]? = some (.cells (cs.setIfInBounds j u) t (0, 0)) := by
  obtain ⟨hlt, hk⟩ := Array.getElem?_eq_some_iff.1 h
  show (W.heap.modify B _)[B]? = _
  rw [Array.getElem?_eq_getElem (by rw [Array.size_modify]; exact hlt), Array.getElem_modify_self, hk]
  rfl
theorem BoxAt.set0 {W : World} {B : Nat} {p : Per} (h : BoxAt W B p) (x : Int) : BoxAt (W.setCell ⟨B, 0, none⟩ (.int .i64 x)) B (x, p.2.1, p.2.2) := set_heap h 0 _
theorem BoxAt.set1 {W : World} {B : Nat} {p : Per} (h : BoxAt W B p) (x : Int) : BoxAt (W.setCell ⟨B, 1, none⟩ (.int .i64 x)) B (p.1, x, p.2.2) := set_heap h 1 _
theorem BoxAt.set2 {W : World} {B : Nat} {p : Per} (h : BoxAt W B p) (x : Int) : BoxAt (W.setCell ⟨B, 2, none⟩ (.int .i64 x)) B (p.1, p.2.1, x) := set_heap h 2 _
theorem BoxAt.frozen {W : World} {B : Nat} {p : Per} (h : BoxAt W B p) (j : Nat) : W.frozen? ⟨B, j, none⟩ = false := by simp [World.frozen?, show W.heap[B]? = _ from h]
theorem keeps_below {B : Nat} {W W' : World} (h : Below W.heap.size W W') : KeepsFrom B W W' := ⟨h.size, fun k o _ hk _ => (h.block k (Array.getElem?_eq_some_iff.1 hk).1).trans hk⟩

theorem or_bit (m k : Nat) (hm : m < 128) (hk : k < 7) : bits .or .i64 (m : Int) (IntKind.i64.wrap (2 ^ k)) = ((m ||| 2 ^ k : Nat) : Int) := by
  have h1 := Nat.pow_le_pow_right (n := 2) (by omega) (show k ≤ 6 by omega)
  have e : (2 : Int) ^ k = ((2 ^ k : Nat) : Int) := by simp
  rw [e]
  generalize 2 ^ k = y at *
  rw [wraps7 _ (by omega) (by omega)]
  exact or7 m _ hm (by omega)

end Go.Proofs.YtfgmlbmjjihhfaaGreatDoor.Per
