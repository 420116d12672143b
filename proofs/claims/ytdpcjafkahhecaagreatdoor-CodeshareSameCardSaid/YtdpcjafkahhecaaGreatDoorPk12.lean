/- Words and walks that the laws below ask: ZonE, FliR, FliK, PlainA, TextB, TextC, Build, TextD, FliM, PlaF, PlaG, FliX. -/
import Derived.Deep.AppendLies
import Derived.Lib.UnsafeStr
import Derived.Lib.BufferWrite
import Derived.BigQuiet
import Derived.Deep.QuietTactic
import Derived.Deep.RegionLaw
import Derived.Lib.Bytealg
import Derived.Test.YtdpcjafkahhecaaGreatDoorChecked
import Derived.Lib.Strings
import Derived.Lib.Slices
import Derived.Lib.Walk
import Derived.Lib.Builder
import Derived.Lib.AppendStr
import Derived.Laws.Externs
import Derived.Shelf.GgClosure.StringsIndexFunc
import Derived.Test.YtdpcjafkahhecaaGreatDoorPk1
import Derived.Test.YtdpcjafkahhecaaGreatDoorPk2
import Derived.Test.YtdpcjafkahhecaaGreatDoorPk3
import Derived.Test.YtdpcjafkahhecaaGreatDoorPk4
import Derived.Test.YtdpcjafkahhecaaGreatDoorPk5
import Derived.Test.YtdpcjafkahhecaaGreatDoorPk6
import Derived.Test.YtdpcjafkahhecaaGreatDoorPk7
import Derived.Test.YtdpcjafkahhecaaGreatDoorPk9
import Derived.Test.YtdpcjafkahhecaaGreatDoorPk11
/- Walks of the reference's Offset, Local, UTC, times, Exists and Twice. -/
namespace Go.Proofs.YtdpcjafkahhecaaGreatDoor.Zon
open Go.RowKit Go.Shelf
set_option linter.unusedSimpArgs false
set_option linter.unusedVariables false

set_option maxRecDepth 100000 in
set_option maxHeartbeats 2000000 in
theorem rutc_any (o : Int) (A : Option Addr) (c : Nat) (l : Shs) (x : Int) (w : World) (ok : OkZ o l) (hL : ShL w A l) (hu : -1099511627776 ≤ x ∧ x ≤ 1099511627776) :
    Calls Tryz.prog 129 #[encZ o A l.length c, .int .i64 x] w fun e w' => e = .returned (.int .i64 (utcZ o l x)) ∧ Below w.heap.size w w' := by
  have hb0 := bel_alloc w (.cells #[.int .i64 o, .slice A l.length c] zoneT)
  have z0 := cells_new w #[.int .i64 o, .slice A l.length c] zoneT 0
  have z1 := cells_new w #[.int .i64 o, .slice A l.length c] zoneT 1
  simp only [List.getElem?_toArray, List.getElem?_cons_zero, List.getElem?_cons_succ] at z0 z1
  have hL0 := hL.more hb0
  have HU := Lib.hid (rut_is ok x)
  have hl := ok.len
  have ho := ok.off
  have hat := ok.at'
  have hsh := ok.shift
  clear hL ok
  generalize utcZ o l x = res at *
  go_enter Tryz.func129, Tryz.ntmps129
  go_wp2
  generalize hw0 : w.alloc (.cells #[.int .i64 o, .slice A l.length c] zoneT) = w0 at *
  go_loopw [5, 6] (fun vu vi wr => ∃ (k : Nat) (u : Int), k ≤ l.length ∧ vi = .int .i64 k ∧ vu = .int .i64 u ∧ Hid (rut l x (l.length - k) k u = res) ∧ Below w0.heap.size w0 wr) (fun _ vi _ => l.length - (intOf vi).toNat)
  case atStart => exact ⟨0, x - o, Nat.zero_le _, rfl, rfl, HU, Below.refl _ _⟩
  case round =>
    obtain ⟨k, u, hk, rfl, rfl, HK, hb⟩ := hrel
    have y1 := bel_cell hb z1
    by_cases hlt : k < l.length
    · obtain ⟨g, off, rfl, hgl, hcc⟩ := hL0.at hlt
      have i2 : (k : Int) < (l.length : Int) := by omega
      obtain ⟨g0, g1⟩ := hcc k hlt
      have HS := Lib.hid ((rut_step l x u k _ rfl hlt).symm.trans HK.out)
      have ha := hat k hlt
      have hf := hsh k hlt
      clear hcc hL0 hw0 HK hat hsh HU
      generalize shA l k = a at *
      generalize shF l k = f at *
      by_cases h : u < a
      · rw [if_pos h] at HS
        have gk0 := bel_cell hb g0
        go_wp2
        go_ret
        exact ⟨by rw [← HS.out]; rfl, hb0.trans (hb.mono hb0.size)⟩
      · rw [if_neg h] at HS
        have gk0 := bel_cell hb g0
        have q1 := SW.cell y1
        have q2 := SW.cell gk0
        have q3 := SW.cell (bel_cell hb g1)
        go_wp2
        have hNe : Nonempty (Wd (SW wr)) := ⟨⟨_, SW.drew _⟩⟩
        refine quietS (S := SW wr) (by kernel_rfl) (by kernel_rfl) (SW.drew _) ?_
        repeat (first | go_big_quiet_skip | (go_big_quiet_want; go_big_quiet_op; first | go_big_quiet_on | go_big_quiet_call ((fail))))
        refine wpQuiet_nil ?_
        rintro W ⟨⟨_, hW⟩, rfl⟩
        all_goals
          go_wp2
          go_roundw
          case rel => exact ⟨k + 1, max a (x - f), by omega, by go_num, by (first | rfl | (congr 1; omega)), HS, hb.trans (hW.mono hb.size)⟩
          case measure => simp [intOf]; omega
    · obtain rfl : k = l.length := by omega
      go_wp2
      go_ret
      exact ⟨by rw [← HK.out, rut_end _ _ _ _ _ (by omega)]; rfl, hb0.trans (hb.mono hb0.size)⟩

end Go.Proofs.YtdpcjafkahhecaaGreatDoor.Zon

/- Walks of the reference's utc, legs and ordered. -/
namespace Go.Proofs.YtdpcjafkahhecaaGreatDoor
open Go.RowKit Go.Shelf
set_option linter.unusedSimpArgs false
set_option linter.unusedVariables false

theorem airOf_sh {w : World} {A : Option Addr} {l : List Air} (h : AirL w A l) (s : ByteArray) : ShL w (airOf l s).A (airOf l s).shs := by
  unfold airOf
  cases hc : findC l s with
  | none => exact .inl rfl
  | some a =>
    obtain ⟨k, hk⟩ := List.getElem?_of_mem (List.mem_of_find?_eq_some hc)
    obtain ⟨_, _, a', _, _, hka, ha⟩ := h.at (List.getElem?_eq_some_iff.1 hk).1
    rw [hk] at hka
    obtain rfl := Option.some.inj hka
    exact ha.sh
set_option maxRecDepth 100000 in
set_option maxHeartbeats 4000000 in
theorem rutc7_any (p : PV) (s : ByteArray) (day m : Int) (w : World) (hl : p.l.length ≤ 40) (hL : AirL w p.A p.l) (hz : ∀ a ∈ p.l, OkZ a.off a.shs) (hd : -100000000 ≤ day ∧ day ≤ 100000000) (hm : -1000000 ≤ m ∧ m ≤ 1000000) :
    Calls Tryz.prog 121 #[encP p, .string s, .int .i64 day, .int .i64 m] w fun e w' => e = .returned (.int .i64 (utcZ (airOf p.l s).off (airOf p.l s).shs (day * 1440 + m))) ∧ Below w.heap.size w w' := by
  have hb0 := bel_alloc w (.cells #[.slice p.A p.l.length p.ca, .slice p.D p.ds.length p.cd] placesT)
  have q0 := (cells_new w #[.slice p.A p.l.length p.ca, .slice p.D p.ds.length p.cd] placesT 0).trans (show _ = some (.slice p.A p.l.length p.ca) from rfl)
  have q1 := (cells_new w #[.slice p.A p.l.length p.ca, .slice p.D p.ds.length p.cd] placesT 1).trans (show _ = some (.slice p.D p.ds.length p.cd) from rfl)
  have KF := Lib.hid (rfind_any p s _ hl (hL.more hb0))
  have hok := okZ_of hz s
  have hsh := airOf_sh (hL.more hb0) s
  have e : (findC p.l s).getD airZ = airOf p.l s := rfl
  rw [e] at KF
  generalize airOf p.l s = a at *
  generalize (findC p.l s).isSome = b at *
  have KU := Lib.hid (fun W h => Zon.rutc_any a.off a.A a.c a.shs (day * 1440 + m) W hok h (by omega))
  generalize hr : utcZ a.off a.shs (day * 1440 + m) = r at *
  have HSH := Lib.hid hsh
  clear hok hsh hL hz e hr
  go_enter Tryz.func121, Tryz.ntmps121
  go_wp2_with (first
    | (go_at_call 129; refine (KU.out _ ((HSH.out.more hb1).more (bel_alloc w1 (.cells #[.string a.code, .string a.city, .string a.land, .int .i64 a.off, .slice a.A a.shs.length a.c] airT)))).mono ?_; rintro e w2 ⟨rfl, hb2⟩)
    | (go_at_call 91; refine KF.out.mono ?_; rintro e w1 ⟨rfl, hb1⟩))
  go_ret
  have h1 := hb0.trans (Below.mono hb1 hb0.size)
  have h2 := h1.alloc h1.size (.cells #[.string a.code, .string a.city, .string a.land, .int .i64 a.off, .slice a.A a.shs.length a.c] airT)
  exact ⟨rfl, h2.trans (Below.mono hb2 h2.size)⟩

set_option maxRecDepth 100000 in
set_option maxHeartbeats 8000000 in
theorem rlegs7_any (p : PV) (f : FV) (day : Int) (w : World) (hl : p.l.length ≤ 40) (hL : AirL w p.A p.l) (hz : ∀ a ∈ p.l, OkZ a.off a.shs) (hG : LegL w (.slice f.A f.lg.length f.c) f.lg) (hn : f.lg.length ≤ 100)
    (hm : ∀ x ∈ f.lg, (-1000000 ≤ x.dep ∧ x.dep ≤ 1000000) ∧ -1000000 ≤ x.arr ∧ x.arr ≤ 1000000) (hd : -100000000 ≤ day ∧ day ≤ 100000000) :
    Calls Tryz.prog 96 #[encP p, encFl f, .int .i64 day] w fun e w' => ∃ v, e = .returned v ∧ ROwn datT 8 encDt w.heap.size w' v (f.lg.map (datL p.l f day)) ∧ Below w.heap.size w w' := by
  obtain ⟨DL, hDL⟩ : ∃ D : Lg → Dt, D = datL p.l f day := ⟨_, rfl⟩
  have HDL : Hid (∀ x, DL x = ⟨f.car, f.num, day, x.f, x.t, depL p.l x day, arrL p.l x day, x.eq⟩) := Lib.hid (by rw [hDL]; exact fun x => rfl)
  rw [← hDL]
  clear hDL
  obtain ⟨car, num, pf, pt, pd, A, c, lg⟩ := f
  dsimp only at *
  have hb1 := bel_alloc w (.cells #[.slice p.A p.l.length p.ca, .slice p.D p.ds.length p.cd] placesT)
  have hb2 := bel_alloc (w.alloc (.cells #[.slice p.A p.l.length p.ca, .slice p.D p.ds.length p.cd] placesT)) (.cells #[.string car, .int .i64 num, .int .i64 pf, .int .i64 pt, .int .i64 pd, .slice A lg.length c] fliT)
  have hb0 := hb1.trans (hb2.mono hb1.size)
  have p0 := bel_cell hb2 ((cells_new w #[.slice p.A p.l.length p.ca, .slice p.D p.ds.length p.cd] placesT 0).trans (show _ = some (.slice p.A p.l.length p.ca) from rfl))
  have p1 := bel_cell hb2 ((cells_new w #[.slice p.A p.l.length p.ca, .slice p.D p.ds.length p.cd] placesT 1).trans (show _ = some (.slice p.D p.ds.length p.cd) from rfl))
  have q0 := (cells_new (w.alloc (.cells #[.slice p.A p.l.length p.ca, .slice p.D p.ds.length p.cd] placesT)) #[.string car, .int .i64 num, .int .i64 pf, .int .i64 pt, .int .i64 pd, .slice A lg.length c] fliT 0).trans (show _ = some (.string car) from rfl)
  have q1 := (cells_new (w.alloc (.cells #[.slice p.A p.l.length p.ca, .slice p.D p.ds.length p.cd] placesT)) #[.string car, .int .i64 num, .int .i64 pf, .int .i64 pt, .int .i64 pd, .slice A lg.length c] fliT 1).trans (show _ = some (.int .i64 num) from rfl)
  have q5 := (cells_new (w.alloc (.cells #[.slice p.A p.l.length p.ca, .slice p.D p.ds.length p.cd] placesT)) #[.string car, .int .i64 num, .int .i64 pf, .int .i64 pt, .int .i64 pd, .slice A lg.length c] fliT 5).trans (show _ = some (.slice A lg.length c) from rfl)
  rw [World.size_alloc] at q0 q1 q5
  have hsz : ((w.alloc (.cells #[.slice p.A p.l.length p.ca, .slice p.D p.ds.length p.cd] placesT)).alloc (.cells #[.string car, .int .i64 num, .int .i64 pf, .int .i64 pt, .int .i64 pd, .slice A lg.length c] fliT)).heap.size = w.heap.size + 2 := by simp
  have HLL := Lib.hid (hL.more hb0)
  have HGG := Lib.hid (hG.more hb0)
  have HM := Lib.hid hm
  have HSZ := Lib.hid hsz
  have KU : Hid (∀ s m W, AirL W p.A p.l → (-1000000 ≤ m ∧ m ≤ 1000000) → Calls Tryz.prog 121 #[encP p, .string s, .int .i64 day, .int .i64 m] W fun e w' => e = .returned (.int .i64 (utcZ (airOf p.l s).off (airOf p.l s).shs (day * 1440 + m))) ∧ Below W.heap.size W w') := Lib.hid (fun s m W hA hm => rutc7_any p s day m W hl hA hz hd hm)
  clear hL hG hm hz hsz hb1 hb2
  go_enter Tryz.func96, Tryz.ntmps96
  go_wp2
  generalize hw5 : (w.alloc (.cells #[.slice p.A p.l.length p.ca, .slice p.D p.ds.length p.cd] placesT)).alloc (.cells #[.string car, .int .i64 num, .int .i64 pf, .int .i64 pt, .int .i64 pd, .slice A lg.length c] fliT) = w5 at *
  clear hw5
  have F0 := Lib.hid (bel_get q0)
  have F1 := Lib.hid (bel_get q1)
  have F5 := Lib.hid (bel_get q5)
  have Y0 := Lib.hid (bel_get p0)
  have Y1 := Lib.hid (bel_get p1)
  have HN : Hid (ROwn datT 8 encDt w5.heap.size w5 (.slice none 0 0) []) := Lib.hid (ROwn.nil (Nat.le_refl _))
  clear p0 p1 q0 q1 q5
  go_loopg [7, 8] lg.length (fun kx v7 vi wr => ∃ (v : Value) (k : Nat), v = v7 ∧ vi = .int .i64 k ∧ k + kx = lg.length ∧ Hid (ROwn datT 8 encDt w5.heap.size wr v ((lg.take k).map DL) ∧ SW w5 wr))
  case atStart => exact ⟨_, 0, rfl, rfl, by omega, Lib.hid ⟨HN.out, Below.refl _ _⟩⟩
  case round =>
    obtain ⟨v, k, rfl, rfl, hkx, HH⟩ := hrel
    clear HN
    have HKX := Lib.hid hkx
    have hSr : SW w5 wr := HH.out.2
    by_cases hlt : k < lg.length
    · clear hkx
      obtain ⟨b, o, x, rfl, hbl, hx, c0, c1, c2, c3, c4⟩ := LegL.get (HGG.out.more hSr) hlt
      have hmx := HM.out x (List.mem_of_getElem? hx)
      obtain ⟨dd, hdd⟩ : ∃ dd, dd = depL p.l x day := ⟨_, rfl⟩
      obtain ⟨aa, haa⟩ : ∃ aa, aa = arrL p.l x day := ⟨_, rfl⟩
      have HTk : Hid ((lg.take (k + 1)).map DL = (lg.take k).map DL ++ [(⟨car, num, day, x.f, x.t, dd, aa, x.eq⟩ : Dt)]) := Lib.hid (by
        rw [List.take_add_one, hx, List.map_append, hdd, haa]
        simp [HDL.out x])
      have hO := HH.out.1
      have HLL2 : Hid (((lg.take k).map DL).length ≤ 100000000) := Lib.hid (by have := List.length_take_le k lg; rw [List.length_map]; omega)
      have HV1 : Hid (∀ g, v.ownBlock = some g → w5.heap.size ≤ g ∧ g < wr.heap.size) := Lib.hid (fun g hg => hO.low hg)
      have hvN : v.ownBlock ≠ some wr.heap.size := fun h => by have := (HV1.out _ h).2; omega
      have hb6 := bel_alloc wr (.cells #[.string x.f, .string x.t, .int .i64 x.dep, .int .i64 x.arr, .string x.eq] legT)
      have HSW : Hid (∀ W, SX (wr.alloc (.cells #[.string x.f, .string x.t, .int .i64 x.dep, .int .i64 x.arr, .string x.eq] legT)) v W → SW w5 W) := Lib.hid (fun W h => Below.trans hSr ((hb6.mono hSr.size).trans (h.below (Nat.le_trans hSr.size hb6.size) (fun k' hk' hv => by have := (HV1.out _ hv).1; omega))))
      have y0 : ∀ W, SX (wr.alloc (.cells #[.string x.f, .string x.t, .int .i64 x.dep, .int .i64 x.arr, .string x.eq] legT)) v W → W.cell? ⟨w.heap.size, 0, none⟩ = some (.slice p.A p.l.length p.ca) := fun W h => Y0.out W (HSW.out W h)
      have y1 : ∀ W, SX (wr.alloc (.cells #[.string x.f, .string x.t, .int .i64 x.dep, .int .i64 x.arr, .string x.eq] legT)) v W → W.cell? ⟨w.heap.size, 1, none⟩ = some (.slice p.D p.ds.length p.cd) := fun W h => Y1.out W (HSW.out W h)
      have g0 : ∀ W, SX (wr.alloc (.cells #[.string x.f, .string x.t, .int .i64 x.dep, .int .i64 x.arr, .string x.eq] legT)) v W → W.cell? ⟨w.heap.size + 1, 0, none⟩ = some (.string car) := fun W h => F0.out W (HSW.out W h)
      have g1 : ∀ W, SX (wr.alloc (.cells #[.string x.f, .string x.t, .int .i64 x.dep, .int .i64 x.arr, .string x.eq] legT)) v W → W.cell? ⟨w.heap.size + 1, 1, none⟩ = some (.int .i64 num) := fun W h => F1.out W (HSW.out W h)
      have n0 : ∀ W, SX (wr.alloc (.cells #[.string x.f, .string x.t, .int .i64 x.dep, .int .i64 x.arr, .string x.eq] legT)) v W → W.cell? ⟨wr.heap.size, 0, none⟩ = some (Value.string x.f) := fun W h => SX.cell ((cells_new wr #[.string x.f, .string x.t, .int .i64 x.dep, .int .i64 x.arr, .string x.eq] legT 0).trans (show _ = some (Value.string x.f) from rfl)) hvN h
      have n1 : ∀ W, SX (wr.alloc (.cells #[.string x.f, .string x.t, .int .i64 x.dep, .int .i64 x.arr, .string x.eq] legT)) v W → W.cell? ⟨wr.heap.size, 1, none⟩ = some (Value.string x.t) := fun W h => SX.cell ((cells_new wr #[.string x.f, .string x.t, .int .i64 x.dep, .int .i64 x.arr, .string x.eq] legT 1).trans (show _ = some (Value.string x.t) from rfl)) hvN h
      have n2 : ∀ W, SX (wr.alloc (.cells #[.string x.f, .string x.t, .int .i64 x.dep, .int .i64 x.arr, .string x.eq] legT)) v W → W.cell? ⟨wr.heap.size, 2, none⟩ = some (Value.int .i64 x.dep) := fun W h => SX.cell ((cells_new wr #[.string x.f, .string x.t, .int .i64 x.dep, .int .i64 x.arr, .string x.eq] legT 2).trans (show _ = some (Value.int .i64 x.dep) from rfl)) hvN h
      have n3 : ∀ W, SX (wr.alloc (.cells #[.string x.f, .string x.t, .int .i64 x.dep, .int .i64 x.arr, .string x.eq] legT)) v W → W.cell? ⟨wr.heap.size, 3, none⟩ = some (Value.int .i64 x.arr) := fun W h => SX.cell ((cells_new wr #[.string x.f, .string x.t, .int .i64 x.dep, .int .i64 x.arr, .string x.eq] legT 3).trans (show _ = some (Value.int .i64 x.arr) from rfl)) hvN h
      have n4 : ∀ W, SX (wr.alloc (.cells #[.string x.f, .string x.t, .int .i64 x.dep, .int .i64 x.arr, .string x.eq] legT)) v W → W.cell? ⟨wr.heap.size, 4, none⟩ = some (Value.string x.eq) := fun W h => SX.cell ((cells_new wr #[.string x.f, .string x.t, .int .i64 x.dep, .int .i64 x.arr, .string x.eq] legT 4).trans (show _ = some (Value.string x.eq) from rfl)) hvN h
      have K1 : Hid (∀ W, SX (wr.alloc (.cells #[.string x.f, .string x.t, .int .i64 x.dep, .int .i64 x.arr, .string x.eq] legT)) v W → Calls Tryz.prog 121 #[encP p, .string x.f, .int .i64 day, .int .i64 x.dep] W fun e w' => e = .returned (.int .i64 dd) ∧ Below W.heap.size W w') := Lib.hid (fun W h => by rw [hdd]; exact KU.out x.f x.dep W (HLL.out.more (HSW.out W h)) hmx.1)
      have K2 : Hid (∀ W, SX (wr.alloc (.cells #[.string x.f, .string x.t, .int .i64 x.dep, .int .i64 x.arr, .string x.eq] legT)) v W → Calls Tryz.prog 121 #[encP p, .string x.t, .int .i64 day, .int .i64 x.arr] W fun e w' => e = .returned (.int .i64 aa) ∧ Below W.heap.size W w') := Lib.hid (fun W h => by rw [haa]; exact KU.out x.t x.arr W (HLL.out.more (HSW.out W h)) hmx.2)
      have i2 : (k : Int) < (lg.length : Int) := by omega
      have z5 := F5.out _ hSr
      have hO := hO.more (hb6.trans ((Below.refl _ (wr.alloc (.cells #[.string x.f, .string x.t, .int .i64 x.dep, .int .i64 x.arr, .string x.eq] legT))).drew.mono hb6.size))
      clear hx hbl hmx hdd haa
      go_upto_region 6 with (fail)
      generalize hw6 : wr.alloc (.cells #[.string x.f, .string x.t, .int .i64 x.dep, .int .i64 x.arr, .string x.eq] legT) = w6 at *
      clear hw6 c0 c1 c2 c3 c4 z5
      have hS : (SX w6 v) _ := But.of_below (Below.refl _ _).drew
      refine wp_region_held_drew (S := SX w6 v) (by kernel_rfl) hS (fun _ => ?_)
      refine wpAnyH_take (i := 0) (v := ?vL0) rfl (by kernel_rfl) (by kernel_rfl) (by kernel_rfl) (fun _ _ _ h => h) (Or.inl ⟨by rfl, ?hyL0⟩) hS ?restL0
      case hyL0 =>
        intro w hSw
        first | (go_simp; done) | (go_simp; with_reducible rfl)
      try simp only [Act.put, List.setIfInBounds_toArray, List.set_cons_zero, List.set_cons_succ]
      refine wpAnyH_take (i := 1) (v := ?vL1) rfl (by kernel_rfl) (by kernel_rfl) (by kernel_rfl) (fun _ _ _ h => h) (Or.inl ⟨by rfl, ?hyL1⟩) hS ?restL1
      case hyL1 =>
        intro w hSw
        first | (go_simp; done) | (go_simp; with_reducible rfl)
      try simp only [Act.put, List.setIfInBounds_toArray, List.set_cons_zero, List.set_cons_succ]
      refine wpAnyH_take (i := 2) (v := ?vL2) rfl (by kernel_rfl) (by kernel_rfl) (by kernel_rfl) (fun _ _ _ h => h) (Or.inl ⟨by rfl, ?hyL2⟩) hS ?restL2
      case hyL2 =>
        intro w hSw
        have k0 := g0 w hSw
        first | (go_simp; done) | (go_simp; with_reducible rfl)
      try simp only [Act.put, List.setIfInBounds_toArray, List.set_cons_zero, List.set_cons_succ]
      refine wpAnyH_take (i := 3) (v := ?vL3) rfl (by kernel_rfl) (by kernel_rfl) (by kernel_rfl) (fun _ _ _ h => h) (Or.inl ⟨by rfl, ?hyL3⟩) hS ?restL3
      case hyL3 =>
        intro w hSw
        first | (go_simp; done) | (go_simp; with_reducible rfl)
      try simp only [Act.put, List.setIfInBounds_toArray, List.set_cons_zero, List.set_cons_succ]
      refine wpAnyH_take (i := 4) (v := ?vL4) rfl (by kernel_rfl) (by kernel_rfl) (by kernel_rfl) (fun _ _ _ h => h) (Or.inl ⟨by rfl, ?hyL4⟩) hS ?restL4
      case hyL4 =>
        intro w hSw
        have k0 := g1 w hSw
        first | (go_simp; done) | (go_simp; with_reducible rfl)
      try simp only [Act.put, List.setIfInBounds_toArray, List.set_cons_zero, List.set_cons_succ]
      refine wpAnyH_take (i := 5) (v := ?vL5) rfl (by kernel_rfl) (by kernel_rfl) (by kernel_rfl) (fun _ _ _ h => h) (Or.inl ⟨by rfl, ?hyL5⟩) hS ?restL5
      case hyL5 =>
        intro w hSw
        first | (go_simp; done) | (go_simp; with_reducible rfl)
      try simp only [Act.put, List.setIfInBounds_toArray, List.set_cons_zero, List.set_cons_succ]
      refine wpAnyH_take (i := 6) (v := ?vL6) rfl (by kernel_rfl) (by kernel_rfl) (by kernel_rfl) (fun _ _ _ h => h) (Or.inl ⟨by rfl, ?hyL6⟩) hS ?restL6
      case hyL6 =>
        intro w hSw
        first | (go_simp; done) | (go_simp; with_reducible rfl)
      try simp only [Act.put, List.setIfInBounds_toArray, List.set_cons_zero, List.set_cons_succ]
      refine wpAnyH_take (i := 7) (v := ?vL7) rfl (by kernel_rfl) (by kernel_rfl) (by kernel_rfl) (fun _ _ _ h => h) (Or.inl ⟨by rfl, ?hyL7⟩) hS ?restL7
      case hyL7 =>
        intro w hSw
        have k0 := n0 w hSw
        first | (go_simp; done) | (go_simp; with_reducible rfl)
      try simp only [Act.put, List.setIfInBounds_toArray, List.set_cons_zero, List.set_cons_succ]
      refine wpAnyH_take (i := 8) (v := ?vL8) rfl (by kernel_rfl) (by kernel_rfl) (by kernel_rfl) (fun _ _ _ h => h) (Or.inl ⟨by rfl, ?hyL8⟩) hS ?restL8
      case hyL8 =>
        intro w hSw
        first | (go_simp; done) | (go_simp; with_reducible rfl)
      try simp only [Act.put, List.setIfInBounds_toArray, List.set_cons_zero, List.set_cons_succ]
      refine wpAnyH_take (i := 9) (v := ?vL9) rfl (by kernel_rfl) (by kernel_rfl) (by kernel_rfl) (fun _ _ _ h => h) (Or.inl ⟨by rfl, ?hyL9⟩) hS ?restL9
      case hyL9 =>
        intro w hSw
        have k0 := n1 w hSw
        first | (go_simp; done) | (go_simp; with_reducible rfl)
      try simp only [Act.put, List.setIfInBounds_toArray, List.set_cons_zero, List.set_cons_succ]
      refine wpAnyH_take (i := 10) (v := ?vL10) rfl (by kernel_rfl) (by kernel_rfl) (by kernel_rfl) (fun _ _ _ h => h) (Or.inl ⟨by rfl, ?hyL10⟩) hS ?restL10
      case hyL10 =>
        intro w hSw
        have k0 := y0 w hSw; have k1 := y1 w hSw
        first | (go_simp; done) | (go_simp; with_reducible rfl)
      try simp only [Act.put, List.setIfInBounds_toArray, List.set_cons_zero, List.set_cons_succ]
      refine wpAnyH_take (i := 11) (v := ?vL11) rfl (by kernel_rfl) (by kernel_rfl) (by kernel_rfl) (fun _ _ _ h => h) (Or.inl ⟨by rfl, ?hyL11⟩) hS ?restL11
      case hyL11 =>
        intro w hSw
        first | (go_simp; done) | (go_simp; with_reducible rfl)
      try simp only [Act.put, List.setIfInBounds_toArray, List.set_cons_zero, List.set_cons_succ]
      refine wpAnyH_take (i := 12) (v := ?vL12) rfl (by kernel_rfl) (by kernel_rfl) (by kernel_rfl) (fun _ _ _ h => h) (Or.inl ⟨by rfl, ?hyL12⟩) hS ?restL12
      case hyL12 =>
        intro w hSw
        have k0 := n0 w hSw
        first | (go_simp; done) | (go_simp; with_reducible rfl)
      try simp only [Act.put, List.setIfInBounds_toArray, List.set_cons_zero, List.set_cons_succ]
      refine wpAnyH_take (i := 13) (v := ?vL13) rfl (by kernel_rfl) (by kernel_rfl) (by kernel_rfl) (fun _ _ _ h => h) (Or.inl ⟨by rfl, ?hyL13⟩) hS ?restL13
      case hyL13 =>
        intro w hSw
        first | (go_simp; done) | (go_simp; with_reducible rfl)
      try simp only [Act.put, List.setIfInBounds_toArray, List.set_cons_zero, List.set_cons_succ]
      refine wpAnyH_take (i := 14) (v := ?vL14) rfl (by kernel_rfl) (by kernel_rfl) (by kernel_rfl) (fun _ _ _ h => h) (Or.inl ⟨by rfl, ?hyL14⟩) hS ?restL14
      case hyL14 =>
        intro w hSw
        first | (go_simp; done) | (go_simp; with_reducible rfl)
      try simp only [Act.put, List.setIfInBounds_toArray, List.set_cons_zero, List.set_cons_succ]
      refine wpAnyH_take (i := 15) (v := ?vL15) rfl (by kernel_rfl) (by kernel_rfl) (by kernel_rfl) (fun _ _ _ h => h) (Or.inl ⟨by rfl, ?hyL15⟩) hS ?restL15
      case hyL15 =>
        intro w hSw
        have k0 := n2 w hSw
        first | (go_simp; done) | (go_simp; with_reducible rfl)
      try simp only [Act.put, List.setIfInBounds_toArray, List.set_cons_zero, List.set_cons_succ]
      refine wpAnyH_take (i := 17) (v := ?vL17) rfl (by kernel_rfl) (by kernel_rfl) (by kernel_rfl) (fun _ _ _ h => h) (Or.inl ⟨by rfl, ?hyL17⟩) hS ?restL17
      case hyL17 =>
        intro w hSw
        have k0 := y0 w hSw; have k1 := y1 w hSw
        first | (go_simp; done) | (go_simp; with_reducible rfl)
      try simp only [Act.put, List.setIfInBounds_toArray, List.set_cons_zero, List.set_cons_succ]
      refine wpAnyH_take (i := 18) (v := ?vL18) rfl (by kernel_rfl) (by kernel_rfl) (by kernel_rfl) (fun _ _ _ h => h) (Or.inl ⟨by rfl, ?hyL18⟩) hS ?restL18
      case hyL18 =>
        intro w hSw
        first | (go_simp; done) | (go_simp; with_reducible rfl)
      try simp only [Act.put, List.setIfInBounds_toArray, List.set_cons_zero, List.set_cons_succ]
      refine wpAnyH_take (i := 19) (v := ?vL19) rfl (by kernel_rfl) (by kernel_rfl) (by kernel_rfl) (fun _ _ _ h => h) (Or.inl ⟨by rfl, ?hyL19⟩) hS ?restL19
      case hyL19 =>
        intro w hSw
        have k0 := n1 w hSw
        first | (go_simp; done) | (go_simp; with_reducible rfl)
      try simp only [Act.put, List.setIfInBounds_toArray, List.set_cons_zero, List.set_cons_succ]
      refine wpAnyH_take (i := 20) (v := ?vL20) rfl (by kernel_rfl) (by kernel_rfl) (by kernel_rfl) (fun _ _ _ h => h) (Or.inl ⟨by rfl, ?hyL20⟩) hS ?restL20
      case hyL20 =>
        intro w hSw
        first | (go_simp; done) | (go_simp; with_reducible rfl)
      try simp only [Act.put, List.setIfInBounds_toArray, List.set_cons_zero, List.set_cons_succ]
      refine wpAnyH_take (i := 21) (v := ?vL21) rfl (by kernel_rfl) (by kernel_rfl) (by kernel_rfl) (fun _ _ _ h => h) (Or.inl ⟨by rfl, ?hyL21⟩) hS ?restL21
      case hyL21 =>
        intro w hSw
        first | (go_simp; done) | (go_simp; with_reducible rfl)
      try simp only [Act.put, List.setIfInBounds_toArray, List.set_cons_zero, List.set_cons_succ]
      refine wpAnyH_take (i := 22) (v := ?vL22) rfl (by kernel_rfl) (by kernel_rfl) (by kernel_rfl) (fun _ _ _ h => h) (Or.inl ⟨by rfl, ?hyL22⟩) hS ?restL22
      case hyL22 =>
        intro w hSw
        have k0 := n3 w hSw
        first | (go_simp; done) | (go_simp; with_reducible rfl)
      try simp only [Act.put, List.setIfInBounds_toArray, List.set_cons_zero, List.set_cons_succ]
      refine wpAnyH_take (i := 24) (v := ?vL24) rfl (by kernel_rfl) (by kernel_rfl) (by kernel_rfl) (fun _ _ _ h => h) (Or.inl ⟨by rfl, ?hyL24⟩) hS ?restL24
      case hyL24 =>
        intro w hSw
        first | (go_simp; done) | (go_simp; with_reducible rfl)
      try simp only [Act.put, List.setIfInBounds_toArray, List.set_cons_zero, List.set_cons_succ]
      refine wpAnyH_take (i := 25) (v := ?vL25) rfl (by kernel_rfl) (by kernel_rfl) (by kernel_rfl) (fun _ _ _ h => h) (Or.inl ⟨by rfl, ?hyL25⟩) hS ?restL25
      case hyL25 =>
        intro w hSw
        have k0 := n4 w hSw
        first | (go_simp; done) | (go_simp; with_reducible rfl)
      try simp only [Act.put, List.setIfInBounds_toArray, List.set_cons_zero, List.set_cons_succ]
      refine wpAnyH_ready (rs := [16]) (by kernel_rfl) (by simp) ?_
      refine AllReadyH.cons rfl (fun K hK => ?_) AllReadyH.nil
      go_simp
      go_wp2_with ((go_at_call 121; with_reducible refine (K1.out _ hS).mono ?_; rintro e w' ⟨rfl, hb'⟩; have hO := hO.more hb'; have hS := hS.on hb'))
      refine hK.out _ _ hS (fun _ => ?_)
      clear hK K
      refine wpAnyH_ready (rs := [23]) (by kernel_rfl) (by simp) ?_
      refine AllReadyH.cons rfl (fun K hK => ?_) AllReadyH.nil
      go_simp
      go_wp2_with ((go_at_call 121; with_reducible refine (K2.out _ hS).mono ?_; rintro e w' ⟨rfl, hb'⟩; have hO := hO.more hb'; have hS := hS.on hb'))
      refine hK.out _ _ hS (fun _ => ?_)
      clear hK K
      refine wpAnyH_take (i := 26) (v := ?vL26) rfl (by kernel_rfl) (by kernel_rfl) (by kernel_rfl) (fun _ _ _ h => h) (Or.inl ⟨by rfl, ?hyL26⟩) hS ?restL26
      case hyL26 =>
        intro w hSw
        first | (go_simp; done) | (go_simp; with_reducible rfl)
      try simp only [Act.put, List.setIfInBounds_toArray, List.set_cons_zero, List.set_cons_succ]
      refine wpAnyH_ready (rs := [27]) (by kernel_rfl) (by simp) ?_
      refine AllReadyH.cons rfl (fun K hK => ?_) AllReadyH.nil
      go_simp
      have hSp := hS
      have hS := hS.on (bel_alloc _ (.cells #[.string car, .int .i64 num, .int .i64 day, .string x.f, .string x.t, .int .i64 dd, .int .i64 aa, .string x.eq] datT))
      refine hK.out _ _ hS (fun _ => ?_)
      clear hK K
      refine wpAnyH_ready (rs := [28]) (by kernel_rfl) (by simp) ?_
      refine AllReadyH.cons rfl (fun K hK => ?_) AllReadyH.nil
      refine step_rapp rtD rfl _ _ rfl hO rfl (bel_alloc _ _) _ (⟨car, num, day, x.f, x.t, dd, aa, x.eq⟩ : Dt) _ rfl (cs := #[.string car, .int .i64 num, .int .i64 day, .string x.f, .string x.t, .int .i64 dd, .int .i64 aa, .string x.eq]) rfl (heap_alloc_new _ _) HLL2.out ?_
      intro v8 w8 hO8 hC8
      go_simp
      have hS := hSp.trans hC8.but (fun _ _ h => h)
      refine hK.out _ _ hS (fun _ => ?_)
      clear hK K
      refine wpAnyH_take (i := 29) (v := ?vL29) rfl (by kernel_rfl) (by kernel_rfl) (by kernel_rfl) (fun _ _ _ h => h) (Or.inl ⟨by rfl, ?hyL29⟩) hS ?restL29
      case hyL29 =>
        intro w hSw
        first | (go_simp; done) | (go_simp; with_reducible rfl)
      try simp only [Act.put, List.setIfInBounds_toArray, List.set_cons_zero, List.set_cons_succ]
      refine wpAnyH_done (by kernel_rfl) ?_ _
      simp only [List.getElem_toArray, List.getElem_cons_succ, List.getElem_cons_zero, List.set_cons_zero, List.set_cons_succ]
      have HY : Hid (ROwn datT 8 encDt w5.heap.size w8 v8 ((lg.take (k + 1)).map DL) ∧ SW w5 w8) := Lib.hid ⟨by rw [HTk.out]; exact hO8, HSW.out _ hS⟩
      clear hO8 hC8 hS hSp hO
      go_wp2
      go_roundg (lg.length - (k + 1))
      case measure => have := HKX.out; omega
      case rel => exact ⟨_, k + 1, rfl, by go_num, by omega, HY⟩
    · have hk : k = lg.length := by omega
      have HR : Hid (ROwn datT 8 encDt w.heap.size wr v (lg.map DL) ∧ Below w.heap.size w wr) := Lib.hid ⟨⟨by
        have h := HH.out.1.own
        rw [hk, List.take_length] at h
        exact h.mono hb0.size, Nat.le_trans hb0.size hSr.size⟩, hb0.trans (Below.mono hSr hb0.size)⟩
      have z5 := F5.out _ hSr
      have i1 : ¬ (k : Int) < (lg.length : Int) := by omega
      clear HH hkx hk
      go_wp2
      go_ret
      exact ⟨v, rfl, HR.out⟩

theorem RowL.get8 {w : World} {A : Option Addr} {n c : Nat} {L : List Dt} (h : RowL 8 encDt w (.slice A n c) L) {k : Nat} (hk : k < L.length) : ∃ b o y, A = some ⟨b, o, none⟩ ∧ b < w.heap.size ∧ L[k]? = some y ∧ ∀ j u, (encDt y)[j]? = some u → w.cell? ⟨b, o + k * 8 + j, none⟩ = some u := by
  obtain ⟨b, o, h1, h2, h3⟩ := h.at rfl hk
  exact ⟨b, o, L[k], h1, h2, List.getElem?_eq_getElem hk, h3⟩
def ordD (L : List Dt) : Bool := ordT true 0 (L.map fun d => (d.dep, d.arr))
theorem ordD_legs (l : List Air) (f : FV) (day : Int) : ordD (f.lg.map (datL l f day)) = ordT true 0 (timL l f.lg day) := by
  unfold ordD timL
  rw [List.map_map]
  rfl
theorem ordD_at {L : List Dt} {k : Nat} {y : Dt} (h : L[k]? = some y) (first : Bool) (before : Int) :
    ordT first before ((L.map fun d => (d.dep, d.arr)).drop k) = if y.arr ≤ y.dep then false else if first = false ∧ y.dep < before then false else ordT false y.arr ((L.map fun d => (d.dep, d.arr)).drop (k + 1)) := by
  obtain ⟨hlt, rfl⟩ := List.getElem?_eq_some_iff.1 h
  have hl : k < (L.map fun d => (d.dep, d.arr)).length := by rw [List.length_map]; exact hlt
  rw [List.drop_eq_getElem_cons hl, List.getElem_map]
  rfl
set_option maxRecDepth 100000 in
set_option maxHeartbeats 8000000 in
theorem rordered_any (v : Value) (L : List Dt) (w : World) (hv : RowL 8 encDt w v L) (hn : L.length ≤ 1000) :
    Calls Tryz.prog 95 #[v] w fun e w' => e = .returned (.bool (ordD L)) ∧ Below w.heap.size w w' := by
  obtain ⟨A, c, rfl, hvc⟩ := id hv
  clear hvc
  have HV := Lib.hid hv
  clear hv
  generalize hD : (L.map fun d => (d.dep, d.arr)) = D at *
  have HD : Hid (ordD L = ordT true 0 D) := Lib.hid (by unfold ordD; rw [hD])
  have HAT : Hid (∀ (k : Nat) (y : Dt) (first : Bool) (before : Int), L[k]? = some y → ordT first before (D.drop k) = if y.arr ≤ y.dep then false else if first = false ∧ y.dep < before then false else ordT false y.arr (D.drop (k + 1))) := Lib.hid (by rw [← hD]; exact fun k y first before h => ordD_at h first before)
  have HLn : Hid (D.length = L.length) := Lib.hid (by rw [← hD, List.length_map])
  clear hD
  go_enter Tryz.func95, Tryz.ntmps95
  go_wp2
  go_loopw [3] (fun vi wr => ∃ (k : Nat) (before : Int), k ≤ L.length ∧ vi = .int .i64 k ∧ Hid (ordD L = ordT (decide (k = 0)) before (D.drop k)) ∧ Hid (∀ y, k ≠ 0 → L[k - 1]? = some y → y.arr = before) ∧ SW w wr) (fun vi _ => L.length - (intOf vi).toNat)
  case atStart => exact ⟨0, 0, Nat.zero_le _, rfl, HD, Lib.hid (fun y h => absurd rfl h), Below.refl _ _⟩
  case round =>
    obtain ⟨k, before, hk, rfl, HO, HB, hS⟩ := hrel
    by_cases hlt : k < L.length
    · obtain ⟨b, o, y, e1, hbl, hy, hc⟩ := RowL.get8 (HV.out.more hS) hlt
      cases e1
      have HST := Lib.hid (HO.out.trans (HAT.out k y _ _ hy))
      have i2 : (k : Int) < (L.length : Int) := by omega
      have f5 := SW.cell (hc 5 _ rfl)
      have f6 := SW.cell (hc 6 _ rfl)
      have HY : Hid (∀ z, k + 1 ≠ 0 → L[k + 1 - 1]? = some z → z.arr = y.arr) := Lib.hid (fun z _ hz => by rw [Nat.add_sub_cancel, hy] at hz; cases hz; rfl)
      clear hc hy
      by_cases h1 : y.arr ≤ y.dep
      · have HR := Lib.hid (HST.out.trans (if_pos h1))
        have d1 : decide (y.arr ≤ y.dep) = true := decide_eq_true h1
        clear HST HO
        go_wp2
        have hNe : Nonempty (Wd (SW wr)) := ⟨⟨_, SW.drew _⟩⟩
        refine quietS (S := SW wr) (by kernel_rfl) (by kernel_rfl) (SW.drew _) ?_
        repeat (first | go_big_quiet_skip | (go_big_quiet_want; go_big_quiet_op; first | go_big_quiet_on | go_big_quiet_call ((fail))))
        refine wpQuiet_nil ?_
        rintro W ⟨⟨_, hW⟩, rfl⟩
        go_wp2
        go_ret
        exact ⟨ret_bool HR.out.symm, Below.trans hS (Below.mono hW hS.size)⟩
      · have HS2 := Lib.hid (HST.out.trans (if_neg h1))
        have d1 : decide (y.arr ≤ y.dep) = false := decide_eq_false h1
        by_cases h0 : k = 0
        · have HR : Hid (ordD L = ordT (decide (k + 1 = 0)) y.arr (D.drop (k + 1))) := Lib.hid (by
            rw [HS2.out, if_neg (by simp [h0])]
            rw [show decide (k + 1 = 0) = false by simp])
          have d2 : decide (0 < k) = false := decide_eq_false (by omega)
          have i1 : ¬ (0 : Int) < (k : Int) := by omega
          clear HS2 HST h1 HO HB h0
          go_wp2
          have hNe : Nonempty (Wd (SW wr)) := ⟨⟨_, SW.drew _⟩⟩
          refine quietS (S := SW wr) (by kernel_rfl) (by kernel_rfl) (SW.drew _) ?_
          repeat (first | go_big_quiet_skip | (go_big_quiet_want; go_big_quiet_op; first | go_big_quiet_on | go_big_quiet_call ((fail))))
          refine wpQuiet_nil ?_
          rintro W ⟨⟨_, hW⟩, rfl⟩
          go_wp2
          go_roundw
          case rel => exact ⟨k + 1, y.arr, by omega, by go_num, HR, HY, Below.trans hS (Below.mono hW hS.size)⟩
          case measure => simp [intOf]; omega
        · have d2 : decide (0 < k) = true := decide_eq_true (by omega)
          have i1 : (0 : Int) < (k : Int) := by omega
          obtain ⟨b', o', z, e1, hbl', hz, hcz⟩ := RowL.get8 (HV.out.more hS) (show k - 1 < L.length by omega)
          cases e1
          obtain rfl := HB.out z h0 hz
          have i3 : ((k : Int) - 1) = ((k - 1 : Nat) : Int) := by omega
          have i4 : ((k - 1 : Nat) : Int) < (L.length : Int) := by omega
          have g6 := SW.cell (hcz 6 _ rfl)
          clear hcz hz HB HO
          by_cases h2 : y.dep < z.arr
          · have HR := Lib.hid (HS2.out.trans (if_pos ⟨by simp [h0], h2⟩))
            have d3 : decide (y.dep < z.arr) = true := decide_eq_true h2
            clear HS2 HST h1 h0
            generalize k - 1 = k1 at *
            go_wp2
            have hNe : Nonempty (Wd (SW wr)) := ⟨⟨_, SW.drew _⟩⟩
            refine quietS (S := SW wr) (by kernel_rfl) (by kernel_rfl) (SW.drew _) ?_
            repeat (first | go_big_quiet_skip | (go_big_quiet_want; go_big_quiet_op; first | go_big_quiet_on | go_big_quiet_call ((fail))))
            refine wpQuiet_nil ?_
            rintro W ⟨⟨_, hW⟩, rfl⟩
            go_wp2
            go_ret
            exact ⟨ret_bool HR.out.symm, Below.trans hS (Below.mono hW hS.size)⟩
          · have HR : Hid (ordD L = ordT (decide (k + 1 = 0)) y.arr (D.drop (k + 1))) := Lib.hid (by
              rw [HS2.out, if_neg (fun h => h2 h.2)]
              rw [show decide (k + 1 = 0) = false by simp])
            have d3 : decide (y.dep < z.arr) = false := decide_eq_false h2
            have HY := Lib.hid HY.out
            clear HS2 HST h1 h0
            generalize k - 1 = k1 at *
            go_wp2
            have hNe : Nonempty (Wd (SW wr)) := ⟨⟨_, SW.drew _⟩⟩
            refine quietS (S := SW wr) (by kernel_rfl) (by kernel_rfl) (SW.drew _) ?_
            repeat (first | go_big_quiet_skip | (go_big_quiet_want; go_big_quiet_op; first | go_big_quiet_on | go_big_quiet_call ((fail))))
            refine wpQuiet_nil ?_
            rintro W ⟨⟨_, hW⟩, rfl⟩
            go_wp2
            go_roundw
            case rel => exact ⟨k + 1, y.arr, by omega, by go_num, HR, HY, Below.trans hS (Below.mono hW hS.size)⟩
            case measure => simp [intOf]; omega
    · have HR : Hid (ordD L = true) := Lib.hid (by
        rw [HO.out, List.drop_of_length_le (by rw [HLn.out]; omega)]
        rfl)
      have i1 : ¬ (k : Int) < (L.length : Int) := by omega
      go_wp2
      go_ret
      exact ⟨ret_bool HR.out.symm, hS⟩

end Go.Proofs.YtdpcjafkahhecaaGreatDoor

/- Walk of checkPrint. -/
namespace Go.Proofs.YtdpcjafkahhecaaGreatDoor
open Go.RowKit Go.Shelf
set_option linter.unusedSimpArgs false
set_option linter.unusedVariables false

end Go.Proofs.YtdpcjafkahhecaaGreatDoor

/- Plain facts on quoted texts and lines: lists of bytes alone; nothing of the program. -/
namespace Go.Proofs.YtdpcjafkahhecaaGreatDoor

/-- a byte that is written in hexadecimal digits, one that is written behind a backslash -/
def hxB (c : UInt8) : Bool := decide ((c.toNat : Int) < 32 ∨ 126 < (c.toNat : Int))
/-- the value of a hexadecimal digit, or -1 -/
def hexV (c : UInt8) : Int := if 48 ≤ c.toNat ∧ c.toNat ≤ 57 then (c.toNat : Int) - 48 else if 97 ≤ c.toNat ∧ c.toNat ≤ 102 then (c.toNat : Int) - 87 else -1
/-- the byte that two hexadecimal digits say, and its width: 0 if Quote doesn't write it so -/
def hexB (a b : UInt8) : UInt8 := UInt8.ofNat (16 * hexV a + hexV b).toNat
def hb2 (a b : UInt8) : UInt8 × Nat := if hexV a < 0 ∨ hexV b < 0 then (0, 0) else if hxB (hexB a b) then (hexB a b, 4) else (0, 0)
end Go.Proofs.YtdpcjafkahhecaaGreatDoor

/- Walks of Quote, of its reference, and of their parts. -/
namespace Go.Proofs.YtdpcjafkahhecaaGreatDoor
open Go.RowKit
set_option linter.unusedSimpArgs false
set_option linter.unusedVariables false

end Go.Proofs.YtdpcjafkahhecaaGreatDoor

/- Walks of Unquote, of its reference, and of their parts. -/
namespace Go.Proofs.YtdpcjafkahhecaaGreatDoor
open Go.RowKit
set_option linter.unusedSimpArgs false
set_option linter.unusedVariables false

def lenOf : Value → Nat
  | .string r => r.size
  | _ => 0

end Go.Proofs.YtdpcjafkahhecaaGreatDoor

/- strings.Builder's WriteByte and WriteString at this translation (the shelf's contracts for them do not lie here: one branch of copyCheck is refused by the loader). The walks follow the shelf's own. -/
namespace Go.Proofs.YtdpcjafkahhecaaGreatDoor
open Go.RowKit
set_option linter.unusedSimpArgs false
set_option linter.unusedVariables false

end Go.Proofs.YtdpcjafkahhecaaGreatDoor

/- Walks of isPlain, word, Join. -/
namespace Go.Proofs.YtdpcjafkahhecaaGreatDoor
open Go.RowKit
set_option linter.unusedSimpArgs false
set_option linter.unusedVariables false

end Go.Proofs.YtdpcjafkahhecaaGreatDoor

/- Plain facts on flights as text. -/
namespace Go.Proofs.YtdpcjafkahhecaaGreatDoor
open Go.RowKit Go.Shelf
set_option linter.unusedSimpArgs false
set_option linter.unusedVariables false

def perT (f : FV) : ByteArray := ⟨(Per.perL (f.pf, f.pt, f.pd)).toArray⟩
theorem cnt_bd {n : Nat} (h : cntB n = true) : 1 ≤ n ∧ n ≤ 6 := by simpa [cntB] using h
theorem min_bd {n : Int} (h : minB n = true) : -1440 ≤ n ∧ n ≤ 5759 := by simpa [minB] using h
end Go.Proofs.YtdpcjafkahhecaaGreatDoor

/- Walk of the law's sample. -/
namespace Go.Proofs.YtdpcjafkahhecaaGreatDoor
open Go.RowKit Go.Shelf
set_option linter.unusedSimpArgs false
set_option linter.unusedVariables false

def cellsA (l : List Air) : List Value := l.flatMap fun a => [.string a.code, .string a.city, .string a.land, .int .i64 a.off, .slice a.A a.shs.length a.c]
theorem cellsA_at : ∀ (l : List Air) (i : Nat) (a : Air), l[i]? = some a → (cellsA l)[i * 5]? = some (.string a.code) ∧ (cellsA l)[i * 5 + 1]? = some (.string a.city) ∧ (cellsA l)[i * 5 + 2]? = some (.string a.land) ∧ (cellsA l)[i * 5 + 3]? = some (.int .i64 a.off) ∧ (cellsA l)[i * 5 + 4]? = some (.slice a.A a.shs.length a.c)
  | [], i, a, h => by simp at h
  | x :: r, 0, a, h => by simp at h; subst h; simp [cellsA]
  | x :: r, i + 1, a, h => by
    have ih := cellsA_at r i a (by simpa using h)
    have e : cellsA (x :: r) = .string x.code :: .string x.city :: .string x.land :: .int .i64 x.off :: .slice x.A x.shs.length x.c :: cellsA r := by simp [cellsA]
    rw [e, show (i + 1) * 5 = i * 5 + 1 + 1 + 1 + 1 + 1 by omega, show i * 5 + 1 + 1 + 1 + 1 + 1 + 1 = (i * 5 + 1) + 1 + 1 + 1 + 1 + 1 by omega, show i * 5 + 1 + 1 + 1 + 1 + 1 + 2 = (i * 5 + 2) + 1 + 1 + 1 + 1 + 1 by omega, show i * 5 + 1 + 1 + 1 + 1 + 1 + 3 = (i * 5 + 3) + 1 + 1 + 1 + 1 + 1 by omega, show i * 5 + 1 + 1 + 1 + 1 + 1 + 4 = (i * 5 + 4) + 1 + 1 + 1 + 1 + 1 by omega]
    simp only [List.getElem?_cons_succ]
    exact ih
def cellsD (l : List Dst) : List Value := l.flatMap fun a => [.string a.f, .string a.t, .int .i64 a.m]
theorem cellsD_at : ∀ (l : List Dst) (i : Nat) (a : Dst), l[i]? = some a → (cellsD l)[i * 3]? = some (.string a.f) ∧ (cellsD l)[i * 3 + 1]? = some (.string a.t) ∧ (cellsD l)[i * 3 + 2]? = some (.int .i64 a.m)
  | [], i, a, h => by simp at h
  | x :: r, 0, a, h => by simp at h; subst h; simp [cellsD]
  | x :: r, i + 1, a, h => by
    have ih := cellsD_at r i a (by simpa using h)
    have e : cellsD (x :: r) = .string x.f :: .string x.t :: .int .i64 x.m :: cellsD r := by simp [cellsD]
    rw [e, show (i + 1) * 3 = i * 3 + 1 + 1 + 1 by omega, show i * 3 + 1 + 1 + 1 + 1 = (i * 3 + 1) + 1 + 1 + 1 by omega, show i * 3 + 1 + 1 + 1 + 2 = (i * 3 + 2) + 1 + 1 + 1 by omega]
    simp only [List.getElem?_cons_succ]
    exact ih
theorem AirL.new (w : World) (l : List Air) (h : ∀ a ∈ l, a.shs = []) : AirL (w.alloc (.cells (cellsA l).toArray airT)) (some ⟨w.heap.size, 0, none⟩) l := by
  refine .inr ⟨w.heap.size, 0, rfl, by simp, fun i a hi => ?_⟩
  obtain ⟨c0, c1, c2, c3, c4⟩ := cellsA_at l i a hi
  refine ⟨?_, ?_, ?_, ?_, ?_, .inl (h a (List.mem_of_getElem? hi))⟩
  all_goals rw [cells_new, List.getElem?_toArray]
  · rw [Nat.zero_add]; exact c0
  · rw [Nat.zero_add]; exact c1
  · rw [Nat.zero_add]; exact c2
  · rw [Nat.zero_add]; exact c3
  · rw [Nat.zero_add]; exact c4
theorem DstL.new (w : World) (l : List Dst) : DstL (w.alloc (.cells (cellsD l).toArray dstT)) (some ⟨w.heap.size, 0, none⟩) l := by
  refine .inr ⟨w.heap.size, 0, rfl, by simp, fun i a hi => ?_⟩
  obtain ⟨c0, c1, c2⟩ := cellsD_at l i a hi
  refine ⟨?_, ?_, ?_⟩
  all_goals rw [cells_new, List.getElem?_toArray]
  · rw [Nat.zero_add]; exact c0
  · rw [Nat.zero_add]; exact c1
  · rw [Nat.zero_add]; exact c2
end Go.Proofs.YtdpcjafkahhecaaGreatDoor

/- Walk of Check of places. -/
namespace Go.Proofs.YtdpcjafkahhecaaGreatDoor
open Go.RowKit Go.Shelf
set_option linter.unusedSimpArgs false
set_option linter.unusedVariables false

theorem chk_nil {p : PV} (h : chkP p = []) : (∀ (k : Nat) (a : Air), p.l[k]? = some a → okE (airE (p.l.take k) a) = []) := by
  intro k a hk
  have h1 : airF p.l p.l.length = [] := (List.append_eq_nil_iff.1 h).1
  unfold airF at h1
  rw [List.flatMap_eq_nil_iff] at h1
  have := h1 k (List.mem_range.2 (List.getElem?_eq_some_iff.1 hk).1)
  rw [hk] at this
  unfold pick at this
  exact List.map_eq_nil_iff.1 this

end Go.Proofs.YtdpcjafkahhecaaGreatDoor

/- Plain facts on flights without violations. -/
namespace Go.Proofs.YtdpcjafkahhecaaGreatDoor
open Go.RowKit Go.Shelf
set_option linter.unusedSimpArgs false
set_option linter.unusedVariables false

/-- places without violations have zones without violations -/
theorem chk_okZ {p : PV} (h : chkP p = []) : ∀ a ∈ p.l, OkZ a.off a.shs := by
  intro a ha
  obtain ⟨k, hk⟩ := List.getElem?_of_mem ha
  have h1 := chk_nil h k a hk
  have h2 := List.filter_eq_nil_iff.1 h1 (errZ a.off a.shs) (by simp [airE])
  exact errZ_ok (by simpa using h2)
theorem chk_few {p : PV} (h : chkP p = []) : ∀ a ∈ p.l, a.shs.length ≤ 300 := fun a ha => Nat.le_trans (chk_okZ h a ha).len (by omega)
/-- without a violation of legs all times are in bounds, and each leg continues those before it -/
theorem lgs_at {l : List Air} {lg : List Lg} (h : lgsF l lg lg.length = []) {k : Nat} {x : Lg} (hk : lg[k]? = some x) : okE (lgEs l (lg.take k) x) = [] := by
  have hlt := (List.getElem?_eq_some_iff.1 hk).1
  unfold lgsF at h
  have h2 := List.flatMap_eq_nil_iff.1 h k (List.mem_range.2 hlt)
  rw [hk] at h2
  simpa [pick] using h2
theorem lgs_times {l : List Air} {lg : List Lg} (h : lgsF l lg lg.length = []) {x : Lg} (hx : x ∈ lg) : (-1000000 ≤ x.dep ∧ x.dep ≤ 1000000) ∧ -1000000 ≤ x.arr ∧ x.arr ≤ 1000000 := by
  obtain ⟨k, hk⟩ := List.getElem?_of_mem hx
  have h3 := lgs_at h hk
  have h4 : (if (!(minB x.dep && minB x.arr)) = true then (2 : Int) else 0) = 0 := by
    have := List.filter_eq_nil_iff.1 h3 (if (!(minB x.dep && minB x.arr)) = true then (2 : Int) else 0) (by simp [lgEs])
    simpa using this
  cases h5 : minB x.dep <;> cases h6 : minB x.arr <;> rw [h5, h6] at h4 <;> simp at h4
  have m1 := min_bd h5
  have m2 := min_bd h6
  omega
theorem lgs_next {l : List Air} {lg : List Lg} (h : lgsF l lg lg.length = []) {k : Nat} {x : Lg} (hk : lg[k]? = some x) : nextB (lg.take k) x = true := by
  have h3 := lgs_at h hk
  have h4 : (if (!nextB (lg.take k) x) = true then (15 : Int) else 0) = 0 := by
    have := List.filter_eq_nil_iff.1 h3 (if (!nextB (lg.take k) x) = true then (15 : Int) else 0) (by simp [lgEs])
    simpa using this
  cases h5 : nextB (lg.take k) x
  · rw [h5] at h4; simp at h4
  · rfl
theorem lgs_meet {l : List Air} {lg : List Lg} (h : lgsF l lg lg.length = []) {k : Nat} {x y : Lg} (hk : lg[k]? = some x) (h0 : k ≠ 0) (hy : lg[k - 1]? = some y) : (x.f.toList == y.t.toList) = true := by
  have h3 := lgs_next h hk
  unfold nextB at h3
  rw [Bool.and_eq_true] at h3
  have hlt := (List.getElem?_eq_some_iff.1 hk).1
  have h4 := h3.1
  unfold badF at h4
  rw [List.getLast?_eq_getElem?, List.length_take, Nat.min_eq_left (by omega), List.getElem?_take, if_pos (by omega), hy] at h4
  simpa using h4
theorem chF_nil {l : List Air} {f : FV} (h : chF l f = []) : cntB f.lg.length = true ∧ hdF f = [] ∧ lgsF l f.lg f.lg.length = [] ∧ timF l f = [] := by
  unfold chF at h
  by_cases hc : cntB f.lg.length = true
  · rw [if_pos hc] at h
    by_cases h0 : (hdF f ++ lgsF l f.lg f.lg.length).length = 0
    · rw [if_pos h0] at h
      have h1 := List.eq_nil_of_length_eq_zero h0
      exact ⟨hc, (List.append_eq_nil_iff.1 h1).1, (List.append_eq_nil_iff.1 h1).2, h⟩
    · rw [if_neg h0] at h
      rw [h] at h0
      exact absurd rfl h0
  · rw [if_neg hc] at h
    have := (List.append_eq_nil_iff.1 h).2
    simp [pick, okE] at this
theorem badD_all {l : List Air} {lg : List Lg} : ∀ {D : List Int}, badD l lg D = [] → ∀ d ∈ D, ordT true 0 (timL l lg d) = true
  | [], _, d, hd => by simp at hd
  | e :: r, h, d, hd => by
    unfold badD at h
    cases ho : ordT true 0 (timL l lg e)
    · rw [ho] at h; simp at h
    · rw [ho] at h
      rcases List.mem_cons.1 hd with rfl | hd
      · exact ho
      · exact badD_all (by simpa using h) d hd
theorem ordT_all : ∀ (L : List (Int × Int)) (first : Bool) (before : Int), ordT first before L = true → ∀ (k : Nat) (d a : Int), L[k]? = some (d, a) → d < a ∧ (k = 0 → first = false → before ≤ d) ∧ (∀ d' a', k ≠ 0 → L[k - 1]? = some (d', a') → a' ≤ d)
  | [], _, _, _, k, d, a, hk => by simp at hk
  | (d0, a0) :: r, first, before, h, k, d, a, hk => by
    unfold ordT at h
    by_cases h1 : a0 ≤ d0
    · rw [if_pos h1] at h; cases h
    rw [if_neg h1] at h
    by_cases h2 : first = false ∧ d0 < before
    · rw [if_pos h2] at h; cases h
    rw [if_neg h2] at h
    match k, hk with
    | 0, hk =>
      simp at hk
      obtain ⟨rfl, rfl⟩ := hk
      exact ⟨by omega, fun _ hf => by by_cases h3 : d0 < before; exact absurd ⟨hf, h3⟩ h2; omega, fun _ _ h0 => absurd rfl h0⟩
    | k + 1, hk =>
      have hk2 : r[k]? = some (d, a) := by simpa using hk
      obtain ⟨r1, r2, r3⟩ := ordT_all r false a0 h k d a hk2
      refine ⟨r1, fun h0 => by omega, fun d' a' _ hy => ?_⟩
      match k, r2, r3, hy with
      | 0, r2, r3, hy =>
        simp at hy
        obtain ⟨rfl, rfl⟩ := hy
        exact r2 rfl rfl
      | j + 1, r2, r3, hy => exact r3 d' a' (by omega) (by simpa using hy)
/-- on a day of a flight without violations the times of its legs are ordered -/
theorem chF_ord {l : List Air} {f : FV} (h : chF l f = []) {day : Int} (hd : Per.hasQ (f.pf, f.pt, f.pd) day = true) {k : Nat} {x : Lg} (hk : f.lg[k]? = some x) :
    depL l x day < arrL l x day ∧ (∀ y, k ≠ 0 → f.lg[k - 1]? = some y → arrL l y day ≤ depL l x day) := by
  have h1 := (chF_nil h).2.2.2
  have h2 := badD_all h1 day ((Per.daysQ_mem _ _).2 hd)
  have h3 := ordT_all _ _ _ h2 k (depL l x day) (arrL l x day) (by unfold timL; rw [List.getElem?_map, hk]; rfl)
  exact ⟨h3.1, fun y h0 hy => h3.2.2 (depL l y day) (arrL l y day) h0 (by unfold timL; rw [List.getElem?_map, hy]; rfl)⟩

end Go.Proofs.YtdpcjafkahhecaaGreatDoor
