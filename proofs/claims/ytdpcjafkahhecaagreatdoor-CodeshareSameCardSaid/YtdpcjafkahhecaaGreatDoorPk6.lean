/- Words and walks that the laws below ask: FliJ, SgB, SchA, SchB. -/
import Derived.BigRegion
import Derived.Shelf.Abstract
import Derived.Test.YtdpcjafkahhecaaGreatDoorPk4
import Derived.Test.YtdpcjafkahhecaaGreatDoorPk5
/- Walk of Legs. -/
namespace Go.Proofs.YtdpcjafkahhecaaGreatDoor
open Go.RowKit Go.Shelf
set_option linter.unusedSimpArgs false
set_option linter.unusedVariables false

/-- a leg on a day -/
structure Dt where
  car : ByteArray
  num : Int
  day : Int
  f : ByteArray
  t : ByteArray
  dep : Int
  arr : Int
  eq : ByteArray
abbrev datT : TypeId := 127
def encDt (d : Dt) : List Value := [.string d.car, .int .i64 d.num, .int .i64 d.day, .string d.f, .string d.t, .int .i64 d.dep, .int .i64 d.arr, .string d.eq]
theorem rtD : RT Tryz.prog 122 datT 8 encDt where
  ht := Tryz.underlying122
  info := ⟨.agg #[.string noB, .int .i64 0, .int .i64 0, .string noB, .string noB, .int .i64 0, .int .i64 0, .string noB], 96, by kernel_rfl, rfl, by omega⟩
  len x := rfl
  one x u hu := by simp [encDt] at hu; rcases hu with rfl | rfl | rfl | rfl | rfl | rfl | rfl | rfl <;> rfl
  pos := by omega
def datL (l : List Air) (f : FV) (day : Int) (x : Lg) : Dt := ⟨f.car, f.num, day, x.f, x.t, depL l x day, arrL l x day, x.eq⟩
def legE (f : FV) (day : Int) : Int := if Per.hasQ (f.pf, f.pt, f.pd) day then 0 else 12
def legF (l : List Air) (f : FV) (day : Int) : List Dt := if Per.hasQ (f.pf, f.pt, f.pd) day then f.lg.map (datL l f day) else []
theorem has_bd {q : Int × Int × Int} {d : Int} (h : Per.hasQ q d = true) : 0 ≤ d ∧ d < 36525 := days_bd ((Per.daysQ_mem _ _).2 h)

set_option maxRecDepth 100000 in
set_option maxHeartbeats 8000000 in
theorem legs_any (p : PV) (f : FV) (day : Int) (w : World) (hl : p.l.length ≤ 40) (hL : AirL w p.A p.l) (hs : ∀ a ∈ p.l, a.shs.length ≤ 300) (hz : ∀ a ∈ p.l, OkZ a.off a.shs) (hG : LegL w (.slice f.A f.lg.length f.c) f.lg) (hn : f.lg.length ≤ 100)
    (hm : ∀ x ∈ f.lg, (-1000000 ≤ x.dep ∧ x.dep ≤ 1000000) ∧ -1000000 ≤ x.arr ∧ x.arr ≤ 1000000) (hd1 : -9223372036854775808 ≤ day) (hd2 : day ≤ 9223372036854775807) :
    Calls Tryz.prog 74 #[encP p, encFl f, .int .i64 day] w fun e w' => ∃ v, e = .returned (.tuple #[v, .int .i64 (legE f day)]) ∧ ROwn datT 8 encDt w.heap.size w' v (legF p.l f day) ∧ Below w.heap.size w w' := by
  have hb1 := bel_alloc w (.cells #[.slice p.A p.l.length p.ca, .slice p.D p.ds.length p.cd] placesT)
  have hb2 := bel_alloc (w.alloc (.cells #[.slice p.A p.l.length p.ca, .slice p.D p.ds.length p.cd] placesT)) (.cells #[.string f.car, .int .i64 f.num, .int .i64 f.pf, .int .i64 f.pt, .int .i64 f.pd, .slice f.A f.lg.length f.c] fliT)
  have hb0 := hb1.trans (hb2.mono hb1.size)
  have p0 := bel_cell hb2 ((cells_new w #[.slice p.A p.l.length p.ca, .slice p.D p.ds.length p.cd] placesT 0).trans (show _ = some (.slice p.A p.l.length p.ca) from rfl))
  have p1 := bel_cell hb2 ((cells_new w #[.slice p.A p.l.length p.ca, .slice p.D p.ds.length p.cd] placesT 1).trans (show _ = some (.slice p.D p.ds.length p.cd) from rfl))
  have q0 := (cells_new (w.alloc (.cells #[.slice p.A p.l.length p.ca, .slice p.D p.ds.length p.cd] placesT)) #[.string f.car, .int .i64 f.num, .int .i64 f.pf, .int .i64 f.pt, .int .i64 f.pd, .slice f.A f.lg.length f.c] fliT 0).trans (show _ = some (.string f.car) from rfl)
  have q1 := (cells_new (w.alloc (.cells #[.slice p.A p.l.length p.ca, .slice p.D p.ds.length p.cd] placesT)) #[.string f.car, .int .i64 f.num, .int .i64 f.pf, .int .i64 f.pt, .int .i64 f.pd, .slice f.A f.lg.length f.c] fliT 1).trans (show _ = some (.int .i64 f.num) from rfl)
  have q5 := (cells_new (w.alloc (.cells #[.slice p.A p.l.length p.ca, .slice p.D p.ds.length p.cd] placesT)) #[.string f.car, .int .i64 f.num, .int .i64 f.pf, .int .i64 f.pt, .int .i64 f.pd, .slice f.A f.lg.length f.c] fliT 5).trans (show _ = some (.slice f.A f.lg.length f.c) from rfl)
  rw [World.size_alloc] at q0 q1 q5
  have HZ := Lib.hid hz
  have HM := Lib.hid hm
  have KH := Lib.hid (fun w => Per.has_any f.pf f.pt f.pd day w hd1 hd2)
  cases hh : Per.hasQ (f.pf, f.pt, f.pd) day with
  | false =>
    have HE : Hid (legE f day = 12 ∧ legF p.l f day = []) := Lib.hid ⟨by rw [legE, hh]; rfl, by rw [legF, hh]; rfl⟩
    rw [hh] at KH
    clear hh hz hm
    go_enter Tryz.func74, Tryz.ntmps74
    go_wp2_with (go_at_call 50; refine (KH.out _).mono ?_; rintro e w1 ⟨rfl, hbh⟩)
    have h1 := hb0.trans (Below.mono hbh hb0.size)
    exact bodyPost_ret (results_tmp2 rfl _ _ _) rfl ⟨_, by rw [HE.out.1]; rfl, by rw [HE.out.2]; exact ROwn.nil h1.size, h1⟩
  | true =>
    have hdb := has_bd hh
    have HE : Hid (legE f day = 0 ∧ legF p.l f day = f.lg.map (datL p.l f day)) := Lib.hid ⟨by rw [legE, hh]; rfl, by rw [legF, hh]; rfl⟩
    rw [hh] at KH
    have KN := Lib.hid (fun w hA hG => nonstops_any p f.A f.c f.lg w hl hA hs hG hn)
    have HL := Lib.hid (hL.more hb0)
    have HG := Lib.hid (hG.more hb0)
    have HD := Lib.hid hdb
    clear hh hz hm hL hG hd1 hd2 hdb
    go_enter Tryz.func74, Tryz.ntmps74
    go_wp2_with (first | (go_at_call 109; refine (KN.out _ (HL.out.more hbh) (HG.out.more hbh)).mono ?_; rintro e w2 ⟨v1, N1, rfl, hv1, hLn, hN, hbn⟩; obtain ⟨A1, c1, rfl, hvc⟩ := id (hv1.rowL rtN.len); rw [hLn]) | (go_at_call 50; refine (KH.out _).mono ?_; rintro e w1 ⟨rfl, hbh⟩; have r0 := bel_cell hbh p0; have r1 := bel_cell hbh p1; have r5 := bel_cell hbh q5))
    have hS0 : Below w.heap.size w w2 := hb0.trans ((hbh.mono hb0.size).trans (hbn.mono (Nat.le_trans hb0.size hbh.size)))
    have HV := Lib.hid (hv1.rowL rtN.len)
    have HN := Lib.hid hN
    have HLn := Lib.hid hLn
    have c0 := bel_cell hbn (bel_cell hbh q0)
    have c1' := bel_cell hbn (bel_cell hbh q1)
    have hsz : w.heap.size + 2 ≤ w2.heap.size := by have h1 := hbh.size; have h2 := hbn.size; rw [World.size_alloc, World.size_alloc] at h1; omega
    have HNil : Hid (ROwn datT 8 encDt w2.heap.size w2 (.slice none 0 0) []) := Lib.hid (ROwn.nil (Nat.le_refl _))
    clear hv1 hN hLn hvc KN KH q0 q1 q5 p0 p1 r0 r1 r5
    go_loopg [8, 21] f.lg.length (fun kx v8 vi wr => ∃ (v : Value) (k : Nat), v = v8 ∧ vi = .int .i64 k ∧ k + kx = f.lg.length ∧ Hid (ROwn datT 8 encDt w2.heap.size wr v ((f.lg.take k).map (datL p.l f day)) ∧ SW w2 wr))
    case atStart => exact ⟨_, 0, rfl, rfl, by omega, Lib.hid ⟨HNil.out, Below.refl _ _⟩⟩
    case round =>
      obtain ⟨v, k, rfl, rfl, hkx, HH⟩ := hrel
      clear HNil
      have HKX := Lib.hid hkx
      have hSr : SW w2 wr := HH.out.2
      by_cases hlt : k < f.lg.length
      · clear hkx
        obtain ⟨x, hx⟩ : ∃ x, f.lg[k]? = some x := ⟨_, List.getElem?_eq_getElem hlt⟩
        obtain ⟨b, o, n, e1, hbl, hnk, hc⟩ := RowL.get9 (HV.out.more hSr) (show k < N1.length by have := HLn.out; omega)
        cases e1
        have hns := HN.out k x n hx hnk
        have hzf := okZ_of HZ.out x.f
        have hzt := okZ_of HZ.out x.t
        have hmx := HM.out x (List.mem_of_getElem? hx)
        have hdb := HD.out
        obtain ⟨dd, hdd⟩ : ∃ dd, dd = utcZ n.fo n.fs (day * 1440 + n.x.dep) := ⟨_, rfl⟩
        obtain ⟨aa, haa⟩ : ∃ aa, aa = utcZ n.ti n.ts (day * 1440 + n.x.arr) := ⟨_, rfl⟩
        have HX : Hid (datL p.l f day x = (⟨f.car, f.num, day, n.x.f, n.x.t, dd, aa, n.x.eq⟩ : Dt)) := Lib.hid (by unfold datL depL arrL; rw [hdd, haa, hns.fo, hns.fs, hns.ti, hns.ts, hns.ex])
        have HTk : Hid ((f.lg.take (k + 1)).map (datL p.l f day) = (f.lg.take k).map (datL p.l f day) ++ [(⟨f.car, f.num, day, n.x.f, n.x.t, dd, aa, n.x.eq⟩ : Dt)]) := Lib.hid (by
          rw [List.take_add_one, hx, List.map_append, ← HX.out]; rfl)
        have hO := HH.out.1
        have HLL : Hid (((f.lg.take k).map (datL p.l f day)).length ≤ 100000000) := Lib.hid (by have := List.length_take_le k f.lg; rw [List.length_map]; omega)
        have HV1 : Hid (∀ g, v.ownBlock = some g → w2.heap.size ≤ g ∧ g < wr.heap.size) := Lib.hid (fun g hg => hO.low hg)
        have hvf : v.ownBlock ≠ some (w.heap.size + 1) := fun h => by have := (HV1.out _ h).1; omega
        have hvn : v.ownBlock ≠ some wr.heap.size := fun h => by have := (HV1.out _ h).2; omega
        have hb6 := bel_alloc wr (.cells (encNS n).toArray nonT)
        have g0 : ∀ W, SX (wr.alloc (.cells (encNS n).toArray nonT)) v W → W.cell? ⟨w.heap.size + 1, 0, none⟩ = some (.string f.car) := fun W h => SX.cell (bel_cell hb6 (bel_cell hSr c0)) hvf h
        have g1 : ∀ W, SX (wr.alloc (.cells (encNS n).toArray nonT)) v W → W.cell? ⟨w.heap.size + 1, 1, none⟩ = some (.int .i64 f.num) := fun W h => SX.cell (bel_cell hb6 (bel_cell hSr c1')) hvf h
        have n0 : ∀ W, SX (wr.alloc (.cells (encNS n).toArray nonT)) v W → W.cell? ⟨wr.heap.size, 0, none⟩ = some (Value.string n.x.f) := fun W h => SX.cell ((cells_new wr (encNS n).toArray nonT 0).trans (show _ = some (Value.string n.x.f) from rfl)) hvn h
        have n1 : ∀ W, SX (wr.alloc (.cells (encNS n).toArray nonT)) v W → W.cell? ⟨wr.heap.size, 1, none⟩ = some (Value.string n.x.t) := fun W h => SX.cell ((cells_new wr (encNS n).toArray nonT 1).trans (show _ = some (Value.string n.x.t) from rfl)) hvn h
        have n2 : ∀ W, SX (wr.alloc (.cells (encNS n).toArray nonT)) v W → W.cell? ⟨wr.heap.size, 2, none⟩ = some (Value.int .i64 n.x.dep) := fun W h => SX.cell ((cells_new wr (encNS n).toArray nonT 2).trans (show _ = some (Value.int .i64 n.x.dep) from rfl)) hvn h
        have n3 : ∀ W, SX (wr.alloc (.cells (encNS n).toArray nonT)) v W → W.cell? ⟨wr.heap.size, 3, none⟩ = some (Value.int .i64 n.x.arr) := fun W h => SX.cell ((cells_new wr (encNS n).toArray nonT 3).trans (show _ = some (Value.int .i64 n.x.arr) from rfl)) hvn h
        have n4 : ∀ W, SX (wr.alloc (.cells (encNS n).toArray nonT)) v W → W.cell? ⟨wr.heap.size, 4, none⟩ = some (Value.string n.x.eq) := fun W h => SX.cell ((cells_new wr (encNS n).toArray nonT 4).trans (show _ = some (Value.string n.x.eq) from rfl)) hvn h
        have n5 : ∀ W, SX (wr.alloc (.cells (encNS n).toArray nonT)) v W → W.cell? ⟨wr.heap.size, 5, none⟩ = some (Value.int .i64 n.fo) := fun W h => SX.cell ((cells_new wr (encNS n).toArray nonT 5).trans (show _ = some (Value.int .i64 n.fo) from rfl)) hvn h
        have n6 : ∀ W, SX (wr.alloc (.cells (encNS n).toArray nonT)) v W → W.cell? ⟨wr.heap.size, 6, none⟩ = some (Value.slice n.fA n.fs.length n.fc) := fun W h => SX.cell ((cells_new wr (encNS n).toArray nonT 6).trans (show _ = some (Value.slice n.fA n.fs.length n.fc) from rfl)) hvn h
        have n7 : ∀ W, SX (wr.alloc (.cells (encNS n).toArray nonT)) v W → W.cell? ⟨wr.heap.size, 7, none⟩ = some (Value.int .i64 n.ti) := fun W h => SX.cell ((cells_new wr (encNS n).toArray nonT 7).trans (show _ = some (Value.int .i64 n.ti) from rfl)) hvn h
        have n8 : ∀ W, SX (wr.alloc (.cells (encNS n).toArray nonT)) v W → W.cell? ⟨wr.heap.size, 8, none⟩ = some (Value.slice n.tA n.ts.length n.tc) := fun W h => SX.cell ((cells_new wr (encNS n).toArray nonT 8).trans (show _ = some (Value.slice n.tA n.ts.length n.tc) from rfl)) hvn h
        have HSW : Hid (∀ W, SX (wr.alloc (.cells (encNS n).toArray nonT)) v W → Below w2.heap.size w2 W) := Lib.hid (fun W h => Below.trans hSr (((hb6.mono hSr.size)).trans (h.below (Nat.le_trans hSr.size hb6.size) (fun k' hk' hv => by have := (HV1.out _ hv).1; omega))))
        have K1 : Hid (∀ W, SX (wr.alloc (.cells (encNS n).toArray nonT)) v W → Calls Tryz.prog 110 #[encN n, .int .i64 day] W fun e w' => e = .returned (.int .i64 dd) ∧ Below W.heap.size W w') :=
          Lib.hid (fun W hW => by rw [hdd]; exact departure_any n day W (by rw [hns.fo, hns.fs]; exact hzf) (hns.shf.1.more (HSW.out W hW)) (by omega) (by rw [hns.ex]; exact hmx.1))
        have K2 : Hid (∀ W, SX (wr.alloc (.cells (encNS n).toArray nonT)) v W → Calls Tryz.prog 111 #[encN n, .int .i64 day] W fun e w' => e = .returned (.int .i64 aa) ∧ Below W.heap.size W w') :=
          Lib.hid (fun W hW => by rw [haa]; exact arrival_any n day W (by rw [hns.ti, hns.ts]; exact hzt) (hns.sht.1.more (HSW.out W hW)) (by omega) (by rw [hns.ex]; exact hmx.2))
        have i2 : (k : Int) < (f.lg.length : Int) := by omega
        have z0 := hc 0 _ rfl
        have z1 := hc 1 _ rfl
        have z2 := hc 2 _ rfl
        have z3 := hc 3 _ rfl
        have z4 := hc 4 _ rfl
        have z5 := hc 5 _ rfl
        have z6 := hc 6 _ rfl
        have z7 := hc 7 _ rfl
        have z8 := hc 8 _ rfl
        rw [Nat.add_zero] at z0
        have hO := hO.more (hb6.trans ((Below.refl _ (wr.alloc (.cells (encNS n).toArray nonT))).drew.mono hb6.size))
        clear hns hx hnk hc hzf hzt hmx hdd haa hdb HX
        unfold encNS at *
        go_upto_region 7 with (fail)
        generalize hw6 : wr.alloc (.cells [.string n.x.f, .string n.x.t, .int .i64 n.x.dep, .int .i64 n.x.arr, .string n.x.eq, .int .i64 n.fo, .slice n.fA n.fs.length n.fc, .int .i64 n.ti, .slice n.tA n.ts.length n.tc].toArray nonT) = w6 at *
        have hS : (SX w6 v) _ := But.of_below (Below.refl _ _).drew
        refine wp_region_held_drew (S := SX w6 v) (by kernel_rfl) hS (fun _ => ?_)
        refine wpAnyH_take (i := 0) (v := ?vL0) rfl (by kernel_rfl) (by kernel_rfl) (by kernel_rfl) (fun _ _ _ h => h) (Or.inl ⟨by rfl, ?hyL0⟩) hS ?restL0
        case hyL0 =>
          intro w hSw
          first | (go_simp; done) | (go_simp; with_reducible rfl)
        try simp only [Act.put, List.setIfInBounds_toArray, List.set_cons_zero, List.set_cons_succ]
        refine wpAnyH_take (i := 1) (v := ?vL1) rfl (by kernel_rfl) (by kernel_rfl) (by kernel_rfl) (fun _ _ _ h => h) (Or.inl ⟨by rfl, ?hyL1⟩) hS ?restL1
        case hyL1 =>
          intro w hSw
          first | (go_simp; done) | (go_simp; with_reducible rfl)
        try simp only [Act.put, List.setIfInBounds_toArray, List.set_cons_zero, List.set_cons_succ]
        refine wpAnyH_take (i := 2) (v := ?vL2) rfl (by kernel_rfl) (by kernel_rfl) (by kernel_rfl) (fun _ _ _ h => h) (Or.inl ⟨by rfl, ?hyL2⟩) hS ?restL2
        case hyL2 =>
          intro w hSw
          have k0 := g0 w hSw; have k1 := g1 w hSw; have k2 := n0 w hSw; have k3 := n1 w hSw; have k4 := n2 w hSw; have k5 := n3 w hSw; have k6 := n4 w hSw; have k7 := n5 w hSw; have k8 := n6 w hSw; have k9 := n7 w hSw; have k10 := n8 w hSw
          first | (go_simp; done) | (go_simp; with_reducible rfl)
        try simp only [Act.put, List.setIfInBounds_toArray, List.set_cons_zero, List.set_cons_succ]
        refine wpAnyH_take (i := 3) (v := ?vL3) rfl (by kernel_rfl) (by kernel_rfl) (by kernel_rfl) (fun _ _ _ h => h) (Or.inl ⟨by rfl, ?hyL3⟩) hS ?restL3
        case hyL3 =>
          intro w hSw
          first | (go_simp; done) | (go_simp; with_reducible rfl)
        try simp only [Act.put, List.setIfInBounds_toArray, List.set_cons_zero, List.set_cons_succ]
        refine wpAnyH_take (i := 4) (v := ?vL4) rfl (by kernel_rfl) (by kernel_rfl) (by kernel_rfl) (fun _ _ _ h => h) (Or.inl ⟨by rfl, ?hyL4⟩) hS ?restL4
        case hyL4 =>
          intro w hSw
          have k0 := g0 w hSw; have k1 := g1 w hSw; have k2 := n0 w hSw; have k3 := n1 w hSw; have k4 := n2 w hSw; have k5 := n3 w hSw; have k6 := n4 w hSw; have k7 := n5 w hSw; have k8 := n6 w hSw; have k9 := n7 w hSw; have k10 := n8 w hSw
          first | (go_simp; done) | (go_simp; with_reducible rfl)
        try simp only [Act.put, List.setIfInBounds_toArray, List.set_cons_zero, List.set_cons_succ]
        refine wpAnyH_take (i := 5) (v := ?vL5) rfl (by kernel_rfl) (by kernel_rfl) (by kernel_rfl) (fun _ _ _ h => h) (Or.inl ⟨by rfl, ?hyL5⟩) hS ?restL5
        case hyL5 =>
          intro w hSw
          first | (go_simp; done) | (go_simp; with_reducible rfl)
        try simp only [Act.put, List.setIfInBounds_toArray, List.set_cons_zero, List.set_cons_succ]
        refine wpAnyH_take (i := 6) (v := ?vL6) rfl (by kernel_rfl) (by kernel_rfl) (by kernel_rfl) (fun _ _ _ h => h) (Or.inl ⟨by rfl, ?hyL6⟩) hS ?restL6
        case hyL6 =>
          intro w hSw
          first | (go_simp; done) | (go_simp; with_reducible rfl)
        try simp only [Act.put, List.setIfInBounds_toArray, List.set_cons_zero, List.set_cons_succ]
        refine wpAnyH_take (i := 7) (v := ?vL7) rfl (by kernel_rfl) (by kernel_rfl) (by kernel_rfl) (fun _ _ _ h => h) (Or.inl ⟨by rfl, ?hyL7⟩) hS ?restL7
        case hyL7 =>
          intro w hSw
          first | (go_simp; done) | (go_simp; with_reducible rfl)
        try simp only [Act.put, List.setIfInBounds_toArray, List.set_cons_zero, List.set_cons_succ]
        refine wpAnyH_take (i := 8) (v := ?vL8) rfl (by kernel_rfl) (by kernel_rfl) (by kernel_rfl) (fun _ _ _ h => h) (Or.inl ⟨by rfl, ?hyL8⟩) hS ?restL8
        case hyL8 =>
          intro w hSw
          have k0 := g0 w hSw; have k1 := g1 w hSw; have k2 := n0 w hSw; have k3 := n1 w hSw; have k4 := n2 w hSw; have k5 := n3 w hSw; have k6 := n4 w hSw; have k7 := n5 w hSw; have k8 := n6 w hSw; have k9 := n7 w hSw; have k10 := n8 w hSw
          first | (go_simp; done) | (go_simp; with_reducible rfl)
        try simp only [Act.put, List.setIfInBounds_toArray, List.set_cons_zero, List.set_cons_succ]
        refine wpAnyH_take (i := 9) (v := ?vL9) rfl (by kernel_rfl) (by kernel_rfl) (by kernel_rfl) (fun _ _ _ h => h) (Or.inl ⟨by rfl, ?hyL9⟩) hS ?restL9
        case hyL9 =>
          intro w hSw
          first | (go_simp; done) | (go_simp; with_reducible rfl)
        try simp only [Act.put, List.setIfInBounds_toArray, List.set_cons_zero, List.set_cons_succ]
        refine wpAnyH_take (i := 10) (v := ?vL10) rfl (by kernel_rfl) (by kernel_rfl) (by kernel_rfl) (fun _ _ _ h => h) (Or.inl ⟨by rfl, ?hyL10⟩) hS ?restL10
        case hyL10 =>
          intro w hSw
          first | (go_simp; done) | (go_simp; with_reducible rfl)
        try simp only [Act.put, List.setIfInBounds_toArray, List.set_cons_zero, List.set_cons_succ]
        refine wpAnyH_take (i := 11) (v := ?vL11) rfl (by kernel_rfl) (by kernel_rfl) (by kernel_rfl) (fun _ _ _ h => h) (Or.inl ⟨by rfl, ?hyL11⟩) hS ?restL11
        case hyL11 =>
          intro w hSw
          have k0 := g0 w hSw; have k1 := g1 w hSw; have k2 := n0 w hSw; have k3 := n1 w hSw; have k4 := n2 w hSw; have k5 := n3 w hSw; have k6 := n4 w hSw; have k7 := n5 w hSw; have k8 := n6 w hSw; have k9 := n7 w hSw; have k10 := n8 w hSw
          first | (go_simp; done) | (go_simp; with_reducible rfl)
        try simp only [Act.put, List.setIfInBounds_toArray, List.set_cons_zero, List.set_cons_succ]
        refine wpAnyH_take (i := 12) (v := ?vL12) rfl (by kernel_rfl) (by kernel_rfl) (by kernel_rfl) (fun _ _ _ h => h) (Or.inl ⟨by rfl, ?hyL12⟩) hS ?restL12
        case hyL12 =>
          intro w hSw
          have k0 := g0 w hSw; have k1 := g1 w hSw; have k2 := n0 w hSw; have k3 := n1 w hSw; have k4 := n2 w hSw; have k5 := n3 w hSw; have k6 := n4 w hSw; have k7 := n5 w hSw; have k8 := n6 w hSw; have k9 := n7 w hSw; have k10 := n8 w hSw
          first | (go_simp; done) | (go_simp; with_reducible rfl)
        try simp only [Act.put, List.setIfInBounds_toArray, List.set_cons_zero, List.set_cons_succ]
        refine wpAnyH_take (i := 13) (v := ?vL13) rfl (by kernel_rfl) (by kernel_rfl) (by kernel_rfl) (fun _ _ _ h => h) (Or.inl ⟨by rfl, ?hyL13⟩) hS ?restL13
        case hyL13 =>
          intro w hSw
          first | (go_simp; done) | (go_simp; with_reducible rfl)
        try simp only [Act.put, List.setIfInBounds_toArray, List.set_cons_zero, List.set_cons_succ]
        refine wpAnyH_take (i := 15) (v := ?vL15) rfl (by kernel_rfl) (by kernel_rfl) (by kernel_rfl) (fun _ _ _ h => h) (Or.inl ⟨by rfl, ?hyL15⟩) hS ?restL15
        case hyL15 =>
          intro w hSw
          have k0 := g0 w hSw; have k1 := g1 w hSw; have k2 := n0 w hSw; have k3 := n1 w hSw; have k4 := n2 w hSw; have k5 := n3 w hSw; have k6 := n4 w hSw; have k7 := n5 w hSw; have k8 := n6 w hSw; have k9 := n7 w hSw; have k10 := n8 w hSw
          first | (go_simp; done) | (go_simp; with_reducible rfl)
        try simp only [Act.put, List.setIfInBounds_toArray, List.set_cons_zero, List.set_cons_succ]
        refine wpAnyH_take (i := 16) (v := ?vL16) rfl (by kernel_rfl) (by kernel_rfl) (by kernel_rfl) (fun _ _ _ h => h) (Or.inl ⟨by rfl, ?hyL16⟩) hS ?restL16
        case hyL16 =>
          intro w hSw
          first | (go_simp; done) | (go_simp; with_reducible rfl)
        try simp only [Act.put, List.setIfInBounds_toArray, List.set_cons_zero, List.set_cons_succ]
        refine wpAnyH_take (i := 18) (v := ?vL18) rfl (by kernel_rfl) (by kernel_rfl) (by kernel_rfl) (fun _ _ _ h => h) (Or.inl ⟨by rfl, ?hyL18⟩) hS ?restL18
        case hyL18 =>
          intro w hSw
          first | (go_simp; done) | (go_simp; with_reducible rfl)
        try simp only [Act.put, List.setIfInBounds_toArray, List.set_cons_zero, List.set_cons_succ]
        refine wpAnyH_take (i := 19) (v := ?vL19) rfl (by kernel_rfl) (by kernel_rfl) (by kernel_rfl) (fun _ _ _ h => h) (Or.inl ⟨by rfl, ?hyL19⟩) hS ?restL19
        case hyL19 =>
          intro w hSw
          first | (go_simp; done) | (go_simp; with_reducible rfl)
        try simp only [Act.put, List.setIfInBounds_toArray, List.set_cons_zero, List.set_cons_succ]
        refine wpAnyH_take (i := 20) (v := ?vL20) rfl (by kernel_rfl) (by kernel_rfl) (by kernel_rfl) (fun _ _ _ h => h) (Or.inl ⟨by rfl, ?hyL20⟩) hS ?restL20
        case hyL20 =>
          intro w hSw
          have k0 := g0 w hSw; have k1 := g1 w hSw; have k2 := n0 w hSw; have k3 := n1 w hSw; have k4 := n2 w hSw; have k5 := n3 w hSw; have k6 := n4 w hSw; have k7 := n5 w hSw; have k8 := n6 w hSw; have k9 := n7 w hSw; have k10 := n8 w hSw
          first | (go_simp; done) | (go_simp; with_reducible rfl)
        try simp only [Act.put, List.setIfInBounds_toArray, List.set_cons_zero, List.set_cons_succ]
        refine wpAnyH_ready (rs := [14]) (by kernel_rfl) (by simp) ?_
        refine AllReadyH.cons rfl (fun K hK => ?_) AllReadyH.nil
        go_simp
        go_wp2_with ((go_at_call 110; refine (K1.out _ hS).mono ?_; rintro e w' ⟨rfl, hb'⟩; have hO := hO.more hb'; have hS := hS.on hb'))
        refine hK.out _ _ hS (fun _ => ?_)
        clear hK K
        refine wpAnyH_ready (rs := [17]) (by kernel_rfl) (by simp) ?_
        refine AllReadyH.cons rfl (fun K hK => ?_) AllReadyH.nil
        go_simp
        go_wp2_with ((go_at_call 111; refine (K2.out _ hS).mono ?_; rintro e w' ⟨rfl, hb'⟩; have hO := hO.more hb'; have hS := hS.on hb'))
        refine hK.out _ _ hS (fun _ => ?_)
        clear hK K
        refine wpAnyH_take (i := 21) (v := ?vL21) rfl (by kernel_rfl) (by kernel_rfl) (by kernel_rfl) (fun _ _ _ h => h) (Or.inl ⟨by rfl, ?hyL21⟩) hS ?restL21
        case hyL21 =>
          intro w hSw
          first | (go_simp; done) | (go_simp; with_reducible rfl)
        try simp only [Act.put, List.setIfInBounds_toArray, List.set_cons_zero, List.set_cons_succ]
        refine wpAnyH_ready (rs := [22]) (by kernel_rfl) (by simp) ?_
        refine AllReadyH.cons rfl (fun K hK => ?_) AllReadyH.nil
        go_simp
        have hSp := hS
        have hS := hS.on (bel_alloc _ (.cells #[.string f.car, .int .i64 f.num, .int .i64 day, .string n.x.f, .string n.x.t, .int .i64 dd, .int .i64 aa, .string n.x.eq] datT))
        refine hK.out _ _ hS (fun _ => ?_)
        clear hK K
        refine wpAnyH_ready (rs := [23]) (by kernel_rfl) (by simp) ?_
        refine AllReadyH.cons rfl (fun K hK => ?_) AllReadyH.nil
        refine step_rapp rtD rfl _ _ rfl hO rfl (bel_alloc _ _) _ (⟨f.car, f.num, day, n.x.f, n.x.t, dd, aa, n.x.eq⟩ : Dt) _ rfl (cs := #[.string f.car, .int .i64 f.num, .int .i64 day, .string n.x.f, .string n.x.t, .int .i64 dd, .int .i64 aa, .string n.x.eq]) rfl (heap_alloc_new _ _) HLL.out ?_
        intro v8 w8 hO8 hC8
        go_simp
        have hS := hSp.trans hC8.but (fun _ _ h => h)
        refine hK.out _ _ hS (fun _ => ?_)
        clear hK K
        refine wpAnyH_take (i := 24) (v := ?vL24) rfl (by kernel_rfl) (by kernel_rfl) (by kernel_rfl) (fun _ _ _ h => h) (Or.inl ⟨by rfl, ?hyL24⟩) hS ?restL24
        case hyL24 =>
          intro w hSw
          first | (go_simp; done) | (go_simp; with_reducible rfl)
        try simp only [Act.put, List.setIfInBounds_toArray, List.set_cons_zero, List.set_cons_succ]
        refine wpAnyH_done (by kernel_rfl) ?_ _
        simp only [List.getElem_toArray, List.getElem_cons_succ, List.getElem_cons_zero, List.set_cons_zero, List.set_cons_succ]
        have HY : Hid (ROwn datT 8 encDt w2.heap.size w8 v8 ((f.lg.take (k + 1)).map (datL p.l f day)) ∧ SW w2 w8) := Lib.hid ⟨by rw [HTk.out]; exact hO8, HSW.out _ hS⟩
        clear hO8 hC8 hS hSp hO
        go_wp2
        go_roundg (f.lg.length - (k + 1))
        case measure => have := HKX.out; omega
        case rel => exact ⟨_, k + 1, rfl, by go_num, by omega, HY⟩
      · have hk : k = f.lg.length := by omega
        have HR : Hid (ROwn datT 8 encDt w.heap.size wr v (f.lg.map (datL p.l f day)) ∧ Below w.heap.size w wr) := Lib.hid ⟨⟨by
          have h := HH.out.1.own
          rw [hk, List.take_length] at h
          exact h.mono hS0.size, Nat.le_trans hS0.size hSr.size⟩, hS0.trans (Below.mono hSr hS0.size)⟩
        clear HH hkx hk
        go_wp2
        exact bodyPost_ret (results_tmp2 rfl _ _ _) rfl ⟨v, by rw [HE.out.1]; rfl, by rw [HE.out.2]; exact HR.out.1, HR.out.2⟩

end Go.Proofs.YtdpcjafkahhecaaGreatDoor

/- Segments as plain data; walk of the reference's seg. -/
namespace Go.Proofs.YtdpcjafkahhecaaGreatDoor
open Go.RowKit Go.Shelf
set_option linter.unusedSimpArgs false
set_option linter.unusedVariables false

/-- a segment -/
structure Sg where
  car : ByteArray
  num : Int
  day : Int
  f : ByteArray
  t : ByteArray
  dep : Int
  arr : Int
abbrev segT : TypeId := 34
def encSg (s : Sg) : List Value := [.string s.car, .int .i64 s.num, .int .i64 s.day, .string s.f, .string s.t, .int .i64 s.dep, .int .i64 s.arr]
abbrev encS7 (s : Sg) : Value := .agg #[.string s.car, .int .i64 s.num, .int .i64 s.day, .string s.f, .string s.t, .int .i64 s.dep, .int .i64 s.arr]
theorem rtG : RT Tryz.prog 42 segT 7 encSg where
  ht := Tryz.underlying42
  info := ⟨.agg #[.string noB, .int .i64 0, .int .i64 0, .string noB, .string noB, .int .i64 0, .int .i64 0], 80, by kernel_rfl, rfl, by omega⟩
  len x := rfl
  one x u hu := by simp [encSg] at hu; rcases hu with rfl | rfl | rfl | rfl | rfl | rfl | rfl <;> rfl
  pos := by omega
/-- the segment from leg a to leg b -/
def sgOf (a b : Dt) : Sg := ⟨a.car, a.num, a.day, a.f, b.t, a.dep, b.arr⟩
/-- the segments of the first i legs -/
def segsI (L : List Dt) (i : Nat) : List Sg := (List.range i).flatMap fun j => match L[j]? with
  | some a => (L.drop j).map (sgOf a)
  | none => []
def segsL (L : List Dt) : List Sg := segsI L L.length
theorem segsI_succ {L : List Dt} {i : Nat} {a : Dt} (h : L[i]? = some a) : segsI L (i + 1) = segsI L i ++ (L.drop i).map (sgOf a) := by
  simp [segsI, List.range_succ, h]
theorem segsI_le (L : List Dt) : ∀ i, (segsI L i).length ≤ i * L.length
  | 0 => by simp [segsI]
  | i + 1 => by
    have ih := segsI_le L i
    have e : segsI L (i + 1) = segsI L i ++ (match L[i]? with | some a => (L.drop i).map (sgOf a) | none => []) := by simp [segsI, List.range_succ]
    rw [e, List.length_append, Nat.add_mul]
    cases L[i]? with
    | none => simp; omega
    | some a => simp; omega
theorem RowL.at8 {w : World} {A : Option Addr} {n c : Nat} {L : List Dt} (h : RowL 8 encDt w (.slice A n c) L) {k : Nat} {y : Dt} (hk : L[k]? = some y) : ∃ b o, A = some ⟨b, o, none⟩ ∧ b < w.heap.size ∧ ∀ j u, (encDt y)[j]? = some u → w.cell? ⟨b, o + k * 8 + j, none⟩ = some u := by
  obtain ⟨hlt, rfl⟩ := List.getElem?_eq_some_iff.1 hk
  obtain ⟨b, o, h1, h2, h3⟩ := h.at rfl hlt
  exact ⟨b, o, h1, h2, h3⟩

/-- seven stores into a block of a segment -/
def S7 (w : World) (N : Nat) (v0 v1 v2 v3 v4 v5 v6 : Value) : World := ((((((w.setCell ⟨N, 0, none⟩ v0).setCell ⟨N, 1, none⟩ v1).setCell ⟨N, 2, none⟩ v2).setCell ⟨N, 3, none⟩ v3).setCell ⟨N, 4, none⟩ v4).setCell ⟨N, 5, none⟩ v5).setCell ⟨N, 6, none⟩ v6
theorem S7.heap {w : World} {N : Nat} {a0 a1 a2 a3 a4 a5 a6 : Value} (h : w.heap[N]? = some (.cells #[a0, a1, a2, a3, a4, a5, a6] segT (0, 0))) (v0 v1 v2 v3 v4 v5 v6 : Value) : (S7 w N v0 v1 v2 v3 v4 v5 v6).heap[N]? = some (.cells #[v0, v1, v2, v3, v4, v5, v6] segT (0, 0)) := by
  have e1 : (w.setCell ⟨N, 0, none⟩ v0).heap[N]? = some (.cells #[v0, a1, a2, a3, a4, a5, a6] segT (0, 0)) := heap_setCell_same w N 0 _ segT v0 h
  have e2 : ((w.setCell ⟨N, 0, none⟩ v0).setCell ⟨N, 1, none⟩ v1).heap[N]? = some (.cells #[v0, v1, a2, a3, a4, a5, a6] segT (0, 0)) := heap_setCell_same (w.setCell ⟨N, 0, none⟩ v0) N 1 _ segT v1 e1
  have e3 : (((w.setCell ⟨N, 0, none⟩ v0).setCell ⟨N, 1, none⟩ v1).setCell ⟨N, 2, none⟩ v2).heap[N]? = some (.cells #[v0, v1, v2, a3, a4, a5, a6] segT (0, 0)) := heap_setCell_same ((w.setCell ⟨N, 0, none⟩ v0).setCell ⟨N, 1, none⟩ v1) N 2 _ segT v2 e2
  have e4 : ((((w.setCell ⟨N, 0, none⟩ v0).setCell ⟨N, 1, none⟩ v1).setCell ⟨N, 2, none⟩ v2).setCell ⟨N, 3, none⟩ v3).heap[N]? = some (.cells #[v0, v1, v2, v3, a4, a5, a6] segT (0, 0)) := heap_setCell_same (((w.setCell ⟨N, 0, none⟩ v0).setCell ⟨N, 1, none⟩ v1).setCell ⟨N, 2, none⟩ v2) N 3 _ segT v3 e3
  have e5 : (((((w.setCell ⟨N, 0, none⟩ v0).setCell ⟨N, 1, none⟩ v1).setCell ⟨N, 2, none⟩ v2).setCell ⟨N, 3, none⟩ v3).setCell ⟨N, 4, none⟩ v4).heap[N]? = some (.cells #[v0, v1, v2, v3, v4, a5, a6] segT (0, 0)) := heap_setCell_same ((((w.setCell ⟨N, 0, none⟩ v0).setCell ⟨N, 1, none⟩ v1).setCell ⟨N, 2, none⟩ v2).setCell ⟨N, 3, none⟩ v3) N 4 _ segT v4 e4
  have e6 : ((((((w.setCell ⟨N, 0, none⟩ v0).setCell ⟨N, 1, none⟩ v1).setCell ⟨N, 2, none⟩ v2).setCell ⟨N, 3, none⟩ v3).setCell ⟨N, 4, none⟩ v4).setCell ⟨N, 5, none⟩ v5).heap[N]? = some (.cells #[v0, v1, v2, v3, v4, v5, a6] segT (0, 0)) := heap_setCell_same (((((w.setCell ⟨N, 0, none⟩ v0).setCell ⟨N, 1, none⟩ v1).setCell ⟨N, 2, none⟩ v2).setCell ⟨N, 3, none⟩ v3).setCell ⟨N, 4, none⟩ v4) N 5 _ segT v5 e5
  have e7 : (((((((w.setCell ⟨N, 0, none⟩ v0).setCell ⟨N, 1, none⟩ v1).setCell ⟨N, 2, none⟩ v2).setCell ⟨N, 3, none⟩ v3).setCell ⟨N, 4, none⟩ v4).setCell ⟨N, 5, none⟩ v5).setCell ⟨N, 6, none⟩ v6).heap[N]? = some (.cells #[v0, v1, v2, v3, v4, v5, v6] segT (0, 0)) := heap_setCell_same ((((((w.setCell ⟨N, 0, none⟩ v0).setCell ⟨N, 1, none⟩ v1).setCell ⟨N, 2, none⟩ v2).setCell ⟨N, 3, none⟩ v3).setCell ⟨N, 4, none⟩ v4).setCell ⟨N, 5, none⟩ v5) N 6 _ segT v6 e6
  exact e7
theorem S7.but (w : World) (N : Nat) (v0 v1 v2 v3 v4 v5 v6 : Value) : But w (S7 w N v0 v1 v2 v3 v4 v5 v6) (fun k => k = N) :=
  ((((((But.setCell w N 0 v0).trans (But.setCell _ N 1 v1) (fun _ _ h => h)).trans (But.setCell _ N 2 v2) (fun _ _ h => h)).trans (But.setCell _ N 3 v3) (fun _ _ h => h)).trans (But.setCell _ N 4 v4) (fun _ _ h => h)).trans (But.setCell _ N 5 v5) (fun _ _ h => h)).trans (But.setCell _ N 6 v6) (fun _ _ h => h)

set_option maxRecDepth 100000 in
set_option maxHeartbeats 8000000 in
theorem rseg_any (A : Option Addr) (c : Nat) (L : List Dt) (i k : Nat) (a b : Dt) (w : World) (hn : L.length ≤ 1000) (hv : RowL 8 encDt w (.slice A L.length c) L) (hi : L[i]? = some a) (hk : L[k]? = some b) :
    Calls Tryz.prog 73 #[.slice A L.length c, .int .i64 (i : Int), .int .i64 (k : Int)] w fun e w' => e = .returned (encS7 (sgOf a b)) ∧ Below w.heap.size w w' := by
  have hil := (List.getElem?_eq_some_iff.1 hi).1
  have hkl := (List.getElem?_eq_some_iff.1 hk).1
  have hb0 := bel_alloc w (.cells #[.string noB, .int .i64 0, .int .i64 0, .string noB, .string noB, .int .i64 0, .int .i64 0] segT)
  have hN := heap_alloc_new w (.cells #[.string noB, .int .i64 0, .int .i64 0, .string noB, .string noB, .int .i64 0, .int .i64 0] segT)
  obtain ⟨g, o, rfl, hgl, ca⟩ := RowL.at8 (hv.more hb0) hi
  obtain ⟨g', o', e, hgl', cb⟩ := RowL.at8 (hv.more hb0) hk
  cases e
  have i1 : (i : Int) < (L.length : Int) := by omega
  have i2 : (k : Int) < (L.length : Int) := by omega
  have a0 := ca 0 _ rfl
  have a1 := ca 1 _ rfl
  have a2 := ca 2 _ rfl
  have a3 := ca 3 _ rfl
  have a5 := ca 5 _ rfl
  have b4 := cb 4 _ rfl
  have b6 := cb 6 _ rfl
  rw [Nat.add_zero] at a0
  clear ca cb hi hk hv
  go_enter Tryz.func73, Tryz.ntmps73
  go_upto_region 1 with fail
  have n0 := (cell_of_row _ _ 0 _ _ (0, 0) hN).trans (show _ = some _ from rfl)
  have n1 := (cell_of_row _ _ 1 _ _ (0, 0) hN).trans (show _ = some _ from rfl)
  have n2 := (cell_of_row _ _ 2 _ _ (0, 0) hN).trans (show _ = some _ from rfl)
  have n3 := (cell_of_row _ _ 3 _ _ (0, 0) hN).trans (show _ = some _ from rfl)
  have n4 := (cell_of_row _ _ 4 _ _ (0, 0) hN).trans (show _ = some _ from rfl)
  have n5 := (cell_of_row _ _ 5 _ _ (0, 0) hN).trans (show _ = some _ from rfl)
  have n6 := (cell_of_row _ _ 6 _ _ (0, 0) hN).trans (show _ = some _ from rfl)
  have z0 := frozen_of_row _ _ 0 _ _ hN
  have z1 := frozen_of_row _ _ 1 _ _ hN
  have z2 := frozen_of_row _ _ 2 _ _ hN
  have z3 := frozen_of_row _ _ 3 _ _ hN
  have z4 := frozen_of_row _ _ 4 _ _ hN
  have z5 := frozen_of_row _ _ 5 _ _ hN
  have z6 := frozen_of_row _ _ 6 _ _ hN
  generalize hw5 : w.alloc (.cells #[.string noB, .int .i64 0, .int .i64 0, .string noB, .string noB, .int .i64 0, .int .i64 0] segT) = w5 at *
  clear hw5
  have HN := Lib.hid hN
  clear hN
  obtain ⟨W7, hW7⟩ : ∃ W, W = S7 w5 w.heap.size (.string a.car) (.int .i64 a.num) (.int .i64 a.day) (.string a.f) (.string b.t) (.int .i64 a.dep) (.int .i64 b.arr) := ⟨_, rfl⟩
  have hx : W7.heap[w.heap.size]? = some (.cells #[.string a.car, .int .i64 a.num, .int .i64 a.day, .string a.f, .string b.t, .int .i64 a.dep, .int .i64 b.arr] segT (0, 0)) := by rw [hW7]; exact S7.heap HN.out _ _ _ _ _ _ _
  have hbt : But w5 W7 (fun k => k = w.heap.size) := by rw [hW7]; exact S7.but _ _ _ _ _ _ _ _ _
  have hbw : Below w.heap.size w W7.drew := (hb0.trans (hbt.below hb0.size (fun k hk => by omega))).drew
  have hxd : W7.drew.heap[w.heap.size]? = some (.cells #[.string a.car, .int .i64 a.num, .int .i64 a.day, .string a.f, .string b.t, .int .i64 a.dep, .int .i64 b.arr] segT (0, 0)) := hx
  have HW := Lib.hid hW7
  have HX := Lib.hid hxd
  have HBW := Lib.hid hbw
  clear hW7 hx hxd hbw hbt
  go_region
  clear n0 n1 n2 n3 n4 n5 n6 z0 z1 z2 z3 z4 z5 z6 a0 a1 a2 a3 a5 b4 b6
  have hq : S7 w5 w.heap.size (.string a.car) (.int .i64 a.num) (.int .i64 a.day) (.string a.f) (.string b.t) (.int .i64 a.dep) (.int .i64 b.arr) = W7 := HW.out.symm
  unfold S7 at hq
  rw [hq]
  clear hq
  have hx := HX.out
  generalize W7.drew = W at *
  have c0 := (cell_of_row W _ 0 _ _ (0, 0) hx).trans (show _ = some _ from rfl)
  have c1 := (cell_of_row W _ 1 _ _ (0, 0) hx).trans (show _ = some _ from rfl)
  have c2 := (cell_of_row W _ 2 _ _ (0, 0) hx).trans (show _ = some _ from rfl)
  have c3 := (cell_of_row W _ 3 _ _ (0, 0) hx).trans (show _ = some _ from rfl)
  have c4 := (cell_of_row W _ 4 _ _ (0, 0) hx).trans (show _ = some _ from rfl)
  have c5 := (cell_of_row W _ 5 _ _ (0, 0) hx).trans (show _ = some _ from rfl)
  have c6 := (cell_of_row W _ 6 _ _ (0, 0) hx).trans (show _ = some _ from rfl)
  clear hx
  go_wp2
  refine bodyPost_ret (v := encS7 (sgOf a b)) ?_ rfl ⟨rfl, HBW.out⟩
  simp [results, Tryz.results73, go_sem, c0, c1, c2, c3, c4, c5, c6, sgOf]
end Go.Proofs.YtdpcjafkahhecaaGreatDoor

/- Timetables as plain data; walk of the reference's On. -/
namespace Go.Proofs.YtdpcjafkahhecaaGreatDoor
open Go.RowKit Go.Shelf
set_option linter.unusedSimpArgs false
set_option linter.unusedVariables false

def encF6 (f : FV) : List Value := [.string f.car, .int .i64 f.num, .int .i64 f.pf, .int .i64 f.pt, .int .i64 f.pd, .slice f.A f.lg.length f.c]
theorem RowL.at6 {w : World} {A : Option Addr} {n c : Nat} {L : List FV} (h : RowL 6 encF6 w (.slice A n c) L) {k : Nat} {y : FV} (hk : L[k]? = some y) : ∃ b o, A = some ⟨b, o, none⟩ ∧ b < w.heap.size ∧ ∀ j u, (encF6 y)[j]? = some u → w.cell? ⟨b, o + k * 6 + j, none⟩ = some u := by
  obtain ⟨hlt, rfl⟩ := List.getElem?_eq_some_iff.1 hk
  obtain ⟨b, o, h1, h2, h3⟩ := h.at rfl hlt
  exact ⟨b, o, h1, h2, h3⟩
/-- whether a flight is the one that is asked for on a day -/
def onB (car : ByteArray) (num day : Int) (f : FV) : Bool := (f.car.toList == car.toList) && ((f.num == num) && Per.hasQ (f.pf, f.pt, f.pd) day)
/-- no flight -/
def fliZ : FV := ⟨noB, 0, 0, 0, 0, none, 0, []⟩
/-- the flight that is operated on a day -/
def onF (l : List FV) (car : ByteArray) (num day : Int) : Option FV := l.find? (onB car num day)
theorem onF_some {l : List FV} {car : ByteArray} {num day : Int} {k : Nat} {f : FV} (hk : l[k]? = some f) (hp : onB car num day f = true) (hno : ∀ (j : Nat) (g : FV), j < k → l[j]? = some g → onB car num day g = false) : onF l car num day = some f := by
  unfold onF
  obtain ⟨hlt, rfl⟩ := List.getElem?_eq_some_iff.1 hk
  rw [List.find?_eq_some_iff_getElem]
  refine ⟨hp, k, hlt, rfl, fun j hj => ?_⟩
  rw [hno j _ hj (List.getElem?_eq_getElem (by omega))]
  rfl
theorem onF_none {l : List FV} {car : ByteArray} {num day : Int} (hno : ∀ (j : Nat) (g : FV), j < l.length → l[j]? = some g → onB car num day g = false) : onF l car num day = none := by
  unfold onF
  rw [List.find?_eq_none]
  intro x hx
  obtain ⟨k, hk⟩ := List.getElem?_of_mem hx
  rw [hno k x (List.getElem?_eq_some_iff.1 hk).1 hk]
  simp

theorem lt_of_cell2 {w : World} {n : Nat} {o : Obj} (h : w.heap[n]? = some o) : n < w.heap.size := by
  by_cases e : n < w.heap.size
  · exact e
  · rw [Array.getElem?_eq_none (by omega)] at h; cases h
/-- six stores into a block of a flight -/
def S6 (w : World) (N : Nat) (v0 v1 v2 v3 v4 v5 : Value) : World := (((((w.setCell ⟨N, 0, none⟩ v0).setCell ⟨N, 1, none⟩ v1).setCell ⟨N, 2, none⟩ v2).setCell ⟨N, 3, none⟩ v3).setCell ⟨N, 4, none⟩ v4).setCell ⟨N, 5, none⟩ v5
theorem S6.heap {w : World} {N : Nat} {a0 a1 a2 a3 a4 a5 : Value} (h : w.heap[N]? = some (.cells #[a0, a1, a2, a3, a4, a5] fliT (0, 0))) (v0 v1 v2 v3 v4 v5 : Value) : (S6 w N v0 v1 v2 v3 v4 v5).heap[N]? = some (.cells #[v0, v1, v2, v3, v4, v5] fliT (0, 0)) := by
  have e1 : (w.setCell ⟨N, 0, none⟩ v0).heap[N]? = some (.cells #[v0, a1, a2, a3, a4, a5] fliT (0, 0)) := heap_setCell_same w N 0 _ fliT v0 h
  have e2 : ((w.setCell ⟨N, 0, none⟩ v0).setCell ⟨N, 1, none⟩ v1).heap[N]? = some (.cells #[v0, v1, a2, a3, a4, a5] fliT (0, 0)) := heap_setCell_same _ N 1 _ fliT v1 e1
  have e3 : (((w.setCell ⟨N, 0, none⟩ v0).setCell ⟨N, 1, none⟩ v1).setCell ⟨N, 2, none⟩ v2).heap[N]? = some (.cells #[v0, v1, v2, a3, a4, a5] fliT (0, 0)) := heap_setCell_same _ N 2 _ fliT v2 e2
  have e4 : ((((w.setCell ⟨N, 0, none⟩ v0).setCell ⟨N, 1, none⟩ v1).setCell ⟨N, 2, none⟩ v2).setCell ⟨N, 3, none⟩ v3).heap[N]? = some (.cells #[v0, v1, v2, v3, a4, a5] fliT (0, 0)) := heap_setCell_same _ N 3 _ fliT v3 e3
  have e5 : (((((w.setCell ⟨N, 0, none⟩ v0).setCell ⟨N, 1, none⟩ v1).setCell ⟨N, 2, none⟩ v2).setCell ⟨N, 3, none⟩ v3).setCell ⟨N, 4, none⟩ v4).heap[N]? = some (.cells #[v0, v1, v2, v3, v4, a5] fliT (0, 0)) := heap_setCell_same _ N 4 _ fliT v4 e4
  exact heap_setCell_same _ N 5 _ fliT v5 e5
theorem S6.but (w : World) (N : Nat) (v0 v1 v2 v3 v4 v5 : Value) : But w (S6 w N v0 v1 v2 v3 v4 v5) (fun k => k = N) :=
  (((((But.setCell w N 0 v0).trans (But.setCell _ N 1 v1) (fun _ _ h => h)).trans (But.setCell _ N 2 v2) (fun _ _ h => h)).trans (But.setCell _ N 3 v3) (fun _ _ h => h)).trans (But.setCell _ N 4 v4) (fun _ _ h => h)).trans (But.setCell _ N 5 v5) (fun _ _ h => h)

set_option maxRecDepth 100000 in
set_option maxHeartbeats 8000000 in
theorem ron_any (v : Value) (l : List FV) (car : ByteArray) (num day : Int) (w : World) (hv : RowL 6 encF6 w v l) (hn : l.length ≤ 1000) (h0 : -9223372036854775808 ≤ day) (h1 : day ≤ 9223372036854775807) :
    Calls Tryz.prog 47 #[v, .string car, .int .i64 num, .int .i64 day] w fun e w' => e = .returned (.tuple #[encFl ((onF l car num day).getD fliZ), .bool (onF l car num day).isSome]) ∧ Below w.heap.size w w' := by
  have hb0 := bel_alloc w (.cells #[.string noB, .int .i64 0, .int .i64 0, .int .i64 0, .int .i64 0, .slice none 0 0] fliT)
  have hN := heap_alloc_new w (.cells #[.string noB, .int .i64 0, .int .i64 0, .int .i64 0, .int .i64 0, .slice none 0 0] fliT)
  obtain ⟨A, c, rfl, hvc⟩ := id hv
  have HV := Lib.hid (hv.more hb0)
  have HH := Lib.hid (fun (q : Int × Int × Int) W => Per.rhas_any q.1 q.2.1 q.2.2 day W h0 h1)
  clear hv hvc
  go_enter Tryz.func47, Tryz.ntmps47
  go_upto_region 2 with fail
  generalize hw5 : w.alloc (.cells #[.string noB, .int .i64 0, .int .i64 0, .int .i64 0, .int .i64 0, .slice none 0 0] fliT) = w5 at *
  clear hw5
  have HN := Lib.hid hN
  have HLT5 : Hid (w.heap.size < w5.heap.size) := Lib.hid (lt_of_cell2 hN)
  clear hN
  go_loopw [10] (fun vi wr => ∃ k : Nat, k ≤ l.length ∧ vi = .int .i64 k ∧ Hid (∀ (j : Nat) (g : FV), j < k → l[j]? = some g → onB car num day g = false) ∧ SW w5 wr) (fun vi _ => l.length - (intOf vi).toNat)
  case atStart => exact ⟨0, Nat.zero_le _, rfl, Lib.hid (fun j g h => absurd h (by omega)), Below.refl _ _⟩
  case round =>
    obtain ⟨k, hk, rfl, HK, hS⟩ := hrel
    by_cases hlt : k < l.length
    · obtain ⟨f, hf⟩ : ∃ f, l[k]? = some f := ⟨_, List.getElem?_eq_getElem hlt⟩
      obtain ⟨b, o, e1, hbl, hc⟩ := RowL.at6 (HV.out.more hS) hf
      cases e1
      have i2 : (k : Int) < (l.length : Int) := by omega
      have d0 := hc 0 _ rfl
      have d1 := hc 1 _ rfl
      have d2 := hc 2 _ rfl
      have d3 := hc 3 _ rfl
      have d4 := hc 4 _ rfl
      have d5 := hc 5 _ rfl
      rw [Nat.add_zero] at d0
      have HQ := Lib.hid (HH.out (f.pf, f.pt, f.pd))
      have HF := Lib.hid hf
      clear hc hf hbl
      have HX : Hid (onB car num day f = false → ∀ (j : Nat) (g : FV), j < k + 1 → l[j]? = some g → onB car num day g = false) := Lib.hid (fun h j g hj hg => by
        by_cases e : j = k
        · subst e
          rw [HF.out] at hg
          cases hg
          exact h
        · exact HK.out j g (by omega) hg)
      cases h1 : (f.car.toList == car.toList) with
      | false =>
        have HY := Lib.hid (HX.out (by unfold onB; rw [h1]; rfl))
        go_wp2
        go_roundw
        case rel => exact ⟨k + 1, by omega, by go_num, HY, hS⟩
        case measure => simp [intOf]; omega
      | true =>
      cases h2 : (f.num == num) with
      | false =>
        have HY := Lib.hid (HX.out (by unfold onB; rw [h1, h2]; rfl))
        go_wp2
        go_roundw
        case rel => exact ⟨k + 1, by omega, by go_num, HY, hS⟩
        case measure => simp [intOf]; omega
      | true =>
      cases h3 : Per.hasQ (f.pf, f.pt, f.pd) day with
      | false =>
        have HY := Lib.hid (HX.out (by unfold onB; rw [h1, h2, h3]; rfl))
        dsimp only at HQ
        rw [h3] at HQ
        go_wp2_with (go_at_call 51; refine (HQ.out _).mono ?_; rintro e w1 ⟨rfl, hb1⟩)
        go_roundw
        case rel => exact ⟨k + 1, by omega, by go_num, HY, Below.trans hS (Below.mono hb1 hS.size)⟩
        case measure => simp [intOf]; omega
      | true =>
        have HR : Hid (onF l car num day = some f) := Lib.hid (onF_some HF.out (by unfold onB; rw [h1, h2, h3]; rfl) HK.out)
        dsimp only at HQ
        rw [h3] at HQ
        go_upto_region 5 with (go_at_call 51; refine (HQ.out _).mono ?_; rintro e w1 ⟨rfl, hb1⟩)
        have hSq : SW w5 w1 := Below.trans hS (Below.mono hb1 hS.size)
        have d0 := bel_cell (Below.mono hb1 (Nat.le_refl _)) d0
        have d1 := bel_cell (Below.mono hb1 (Nat.le_refl _)) d1
        have d2 := bel_cell (Below.mono hb1 (Nat.le_refl _)) d2
        have d3 := bel_cell (Below.mono hb1 (Nat.le_refl _)) d3
        have d4 := bel_cell (Below.mono hb1 (Nat.le_refl _)) d4
        have d5 := bel_cell (Below.mono hb1 (Nat.le_refl _)) d5
        have hx := (hSq.block _ HLT5.out).trans HN.out
        have n0 := (cell_of_row _ _ 0 _ _ (0, 0) hx).trans (show _ = some _ from rfl)
        have n1 := (cell_of_row _ _ 1 _ _ (0, 0) hx).trans (show _ = some _ from rfl)
        have n2 := (cell_of_row _ _ 2 _ _ (0, 0) hx).trans (show _ = some _ from rfl)
        have n3 := (cell_of_row _ _ 3 _ _ (0, 0) hx).trans (show _ = some _ from rfl)
        have n4 := (cell_of_row _ _ 4 _ _ (0, 0) hx).trans (show _ = some _ from rfl)
        have n5 := (cell_of_row _ _ 5 _ _ (0, 0) hx).trans (show _ = some _ from rfl)
        have z0 := frozen_of_row _ _ 0 _ _ hx
        have z1 := frozen_of_row _ _ 1 _ _ hx
        have z2 := frozen_of_row _ _ 2 _ _ hx
        have z3 := frozen_of_row _ _ 3 _ _ hx
        have z4 := frozen_of_row _ _ 4 _ _ hx
        have z5 := frozen_of_row _ _ 5 _ _ hx
        have hwb := hb0.trans (Below.mono hSq hb0.size)
        have HX2 : Hid (∀ W, W = S6 w1 w.heap.size (.string f.car) (.int .i64 f.num) (.int .i64 f.pf) (.int .i64 f.pt) (.int .i64 f.pd) (.slice f.A f.lg.length f.c) → W.heap[w.heap.size]? = some (.cells #[.string f.car, .int .i64 f.num, .int .i64 f.pf, .int .i64 f.pt, .int .i64 f.pd, .slice f.A f.lg.length f.c] fliT (0, 0)) ∧ Below w.heap.size w W) := Lib.hid (fun W h => by rw [h]; exact ⟨S6.heap hx _ _ _ _ _ _, hwb.trans ((S6.but _ _ _ _ _ _ _ _).below hwb.size (fun k hk => by omega))⟩)
        clear hx hwb
        go_wp2
        obtain ⟨hxx, hbb⟩ := HX2.out _ rfl
        unfold S6 at hxx hbb
        generalize hWW : (((((w1.setCell ⟨w.heap.size, 0, none⟩ (.string f.car)).setCell ⟨w.heap.size, 1, none⟩ (.int .i64 f.num)).setCell ⟨w.heap.size, 2, none⟩ (.int .i64 f.pf)).setCell ⟨w.heap.size, 3, none⟩ (.int .i64 f.pt)).setCell ⟨w.heap.size, 4, none⟩ (.int .i64 f.pd)).setCell ⟨w.heap.size, 5, none⟩ (.slice f.A f.lg.length f.c) = WW at *
        clear hWW n0 n1 n2 n3 n4 n5 z0 z1 z2 z3 z4 z5
        have c0 := (cell_of_row WW _ 0 _ _ (0, 0) hxx).trans (show _ = some _ from rfl)
        have c1 := (cell_of_row WW _ 1 _ _ (0, 0) hxx).trans (show _ = some _ from rfl)
        have c2 := (cell_of_row WW _ 2 _ _ (0, 0) hxx).trans (show _ = some _ from rfl)
        have c3 := (cell_of_row WW _ 3 _ _ (0, 0) hxx).trans (show _ = some _ from rfl)
        have c4 := (cell_of_row WW _ 4 _ _ (0, 0) hxx).trans (show _ = some _ from rfl)
        have c5 := (cell_of_row WW _ 5 _ _ (0, 0) hxx).trans (show _ = some _ from rfl)
        rw [HR.out]
        refine bodyPost_ret (v := .tuple #[encFl f, .bool true]) ?_ rfl ⟨rfl, hbb⟩
        simp [results, Tryz.results47, go_sem, c0, c1, c2, c3, c4, c5]
    · have hk' : k = l.length := by omega
      have HR : Hid (onF l car num day = none) := Lib.hid (onF_none (by rw [← hk']; exact HK.out))
      have i2 : ¬ (k : Int) < (l.length : Int) := by omega
      go_upto_region 6 with fail
      have hx := (hS.block _ HLT5.out).trans HN.out
      have n0 := (cell_of_row _ _ 0 _ _ (0, 0) hx).trans (show _ = some _ from rfl)
      have n1 := (cell_of_row _ _ 1 _ _ (0, 0) hx).trans (show _ = some _ from rfl)
      have n2 := (cell_of_row _ _ 2 _ _ (0, 0) hx).trans (show _ = some _ from rfl)
      have n3 := (cell_of_row _ _ 3 _ _ (0, 0) hx).trans (show _ = some _ from rfl)
      have n4 := (cell_of_row _ _ 4 _ _ (0, 0) hx).trans (show _ = some _ from rfl)
      have n5 := (cell_of_row _ _ 5 _ _ (0, 0) hx).trans (show _ = some _ from rfl)
      have z0 := frozen_of_row _ _ 0 _ _ hx
      have z1 := frozen_of_row _ _ 1 _ _ hx
      have z2 := frozen_of_row _ _ 2 _ _ hx
      have z3 := frozen_of_row _ _ 3 _ _ hx
      have z4 := frozen_of_row _ _ 4 _ _ hx
      have z5 := frozen_of_row _ _ 5 _ _ hx
      have hwb := hb0.trans (Below.mono hS hb0.size)
      have HX2 : Hid (∀ W, W = S6 wr w.heap.size (.string noB) (.int .i64 0) (.int .i64 0) (.int .i64 0) (.int .i64 0) (.slice none 0 0) → W.heap[w.heap.size]? = some (.cells #[.string noB, .int .i64 0, .int .i64 0, .int .i64 0, .int .i64 0, .slice none 0 0] fliT (0, 0)) ∧ Below w.heap.size w W) := Lib.hid (fun W h => by rw [h]; exact ⟨S6.heap hx _ _ _ _ _ _, hwb.trans ((S6.but _ _ _ _ _ _ _ _).below hwb.size (fun k hk => by omega))⟩)
      clear hx hwb
      go_wp2
      obtain ⟨hxx, hbb⟩ := HX2.out _ rfl
      unfold S6 at hxx hbb
      generalize hWW : (((((wr.setCell ⟨w.heap.size, 0, none⟩ (.string noB)).setCell ⟨w.heap.size, 1, none⟩ (.int .i64 0)).setCell ⟨w.heap.size, 2, none⟩ (.int .i64 0)).setCell ⟨w.heap.size, 3, none⟩ (.int .i64 0)).setCell ⟨w.heap.size, 4, none⟩ (.int .i64 0)).setCell ⟨w.heap.size, 5, none⟩ (.slice none 0 0) = WW at *
      clear hWW n0 n1 n2 n3 n4 n5 z0 z1 z2 z3 z4 z5
      have c0 := (cell_of_row WW _ 0 _ _ (0, 0) hxx).trans (show _ = some _ from rfl)
      have c1 := (cell_of_row WW _ 1 _ _ (0, 0) hxx).trans (show _ = some _ from rfl)
      have c2 := (cell_of_row WW _ 2 _ _ (0, 0) hxx).trans (show _ = some _ from rfl)
      have c3 := (cell_of_row WW _ 3 _ _ (0, 0) hxx).trans (show _ = some _ from rfl)
      have c4 := (cell_of_row WW _ 4 _ _ (0, 0) hxx).trans (show _ = some _ from rfl)
      have c5 := (cell_of_row WW _ 5 _ _ (0, 0) hxx).trans (show _ = some _ from rfl)
      rw [HR.out]
      refine bodyPost_ret (v := .tuple #[encFl fliZ, .bool false]) ?_ rfl ⟨rfl, hbb⟩
      simp [results, Tryz.results47, go_sem, c0, c1, c2, c3, c4, c5, fliZ]

end Go.Proofs.YtdpcjafkahhecaaGreatDoor

/- Walks of slices.IndexFunc over flights and over segments. -/
namespace Go.Proofs.YtdpcjafkahhecaaGreatDoor
open Go.RowKit Go.Shelf
set_option linter.unusedSimpArgs false
set_option linter.unusedVariables false

/-- the slice value v holds the flights l, with their legs -/
structure TblL (w : World) (v : Value) (l : List FV) : Prop where
  row : RowL 6 encF6 w v l
  legs : ∀ f ∈ l, LegL w (.slice f.A f.lg.length f.c) f.lg
theorem TblL.more {w w' : World} {v : Value} {l : List FV} (h : TblL w v l) (hb : Below w.heap.size w w') : TblL w' v l := ⟨h.row.more hb, fun f hf => (h.legs f hf).more hb⟩

/-- r is the first place at which p is true, or -1 -/
def IdxF (p : FV → Bool) (L : List FV) (r : Int) : Prop := (r = -1 ∧ ∀ x ∈ L, p x = false) ∨ (∃ (k : Nat) (y : FV), r = (k : Int) ∧ L[k]? = some y ∧ p y = true ∧ ∀ (j : Nat) (z : FV), j < k → L[j]? = some z → p z = false)
set_option maxHeartbeats 4000000 in
set_option maxRecDepth 100000 in
theorem indexF_any (g : Nat) (cb : Array Value) (A : Option Addr) (c : Nat) (L : List FV) (p : FV → Bool) (w : World) (eg : ∀ args w, (callFunc g args).run Tryz.prog w = .ok (.enter g args) w) (hl : L.length ≤ 100000)
    (hv : RowL 6 encF6 w (.slice A L.length c) L)
    (hf : ∀ (a : FV) (W : World), a ∈ L → Below w.heap.size w W → Calls Tryz.prog g (#[encFl a] ++ cb) W fun e w' => e = .returned (.bool (p a)) ∧ Below W.heap.size W w') :
    Calls Tryz.prog 114 #[.slice A L.length c, .func (.func g) #[] cb] w fun e w' => ∃ r : Int, e = .returned (.int .i64 r) ∧ Hid (IdxF p L r) ∧ Below w.heap.size w w' := by
  have HF := Lib.hid hf
  have HC := Lib.hid hv
  clear hf hv
  go_enter Tryz.func114, Tryz.ntmps114
  go_wp2
  go_loopw [8] (fun vi wr => ∃ k : Nat, k ≤ L.length ∧ vi = .int .i64 k ∧ Hid (∀ (j : Nat) (z : FV), j < k → L[j]? = some z → p z = false) ∧ Below w.heap.size w wr) (fun vi _ => L.length - (intOf vi).toNat)
  case atStart => exact ⟨0, Nat.zero_le _, rfl, Lib.hid (fun j z h => by omega), Below.refl _ _⟩
  case round =>
    obtain ⟨k, hk, rfl, HK, hb⟩ := hrel
    by_cases hlt : k < L.length
    · obtain ⟨y, hy⟩ : ∃ y, L[k]? = some y := ⟨_, List.getElem?_eq_getElem hlt⟩
      obtain ⟨b, o, e1, hbl, hcc⟩ := RowL.at6 (HC.out.more hb) hy
      cases e1
      have z0 := hcc 0 _ rfl
      have z1 := hcc 1 _ rfl
      have z2 := hcc 2 _ rfl
      have z3 := hcc 3 _ rfl
      have z4 := hcc 4 _ rfl
      have z5 := hcc 5 _ rfl
      rw [Nat.add_zero] at z0
      have i2 : (k : Int) < (L.length : Int) := by omega
      have hcl := HF.out y wr (List.mem_of_getElem? hy) hb
      have HY := Lib.hid hy
      clear hcc hy hbl
      cases hp : p y <;> rw [hp] at hcl
      · have HK2 : Hid (∀ (j : Nat) (z : FV), j < k + 1 → L[j]? = some z → p z = false) := Lib.hid (fun j z hj hz => by
          by_cases e : j = k
          · subst e; rw [HY.out] at hz; cases hz; exact hp
          · exact HK.out j z (by omega) hz)
        clear hp
        go_wp2_with (refine hcl.mono ?_; rintro e w' ⟨rfl, hb'⟩)
        go_roundw
        case rel => exact ⟨k + 1, by omega, by go_num, HK2, hb.trans (hb'.mono hb.size)⟩
        case measure => simp [intOf]; omega
      · have HR : Hid (IdxF p L (k : Int)) := Lib.hid (.inr ⟨k, y, rfl, HY.out, hp, HK.out⟩)
        clear hp
        go_wp2_with (refine hcl.mono ?_; rintro e w' ⟨rfl, hb'⟩)
        go_ret
        exact ⟨_, rfl, HR, hb.trans (hb'.mono hb.size)⟩
    · have HR : Hid (IdxF p L (-1)) := Lib.hid (.inl ⟨rfl, fun x hx => by
        obtain ⟨j, hj⟩ := List.getElem?_of_mem hx
        exact HK.out j x (by have := (List.getElem?_eq_some_iff.1 hj).1; omega) hj⟩)
      go_wp2
      go_ret
      exact ⟨-1, rfl, HR, hb⟩

theorem RowL.at7 {w : World} {A : Option Addr} {n c : Nat} {L : List Sg} (h : RowL 7 encSg w (.slice A n c) L) {k : Nat} {y : Sg} (hk : L[k]? = some y) : ∃ b o, A = some ⟨b, o, none⟩ ∧ b < w.heap.size ∧ ∀ j u, (encSg y)[j]? = some u → w.cell? ⟨b, o + k * 7 + j, none⟩ = some u := by
  obtain ⟨hlt, rfl⟩ := List.getElem?_eq_some_iff.1 hk
  obtain ⟨b, o, h1, h2, h3⟩ := h.at rfl hlt
  exact ⟨b, o, h1, h2, h3⟩

/-- r is the first place at which p is true, or -1 -/
def IdxS (p : Sg → Bool) (L : List Sg) (r : Int) : Prop := (r = -1 ∧ ∀ x ∈ L, p x = false) ∨ (∃ (k : Nat) (y : Sg), r = (k : Int) ∧ L[k]? = some y ∧ p y = true ∧ ∀ (j : Nat) (z : Sg), j < k → L[j]? = some z → p z = false)
set_option maxHeartbeats 4000000 in
set_option maxRecDepth 100000 in
theorem indexS_any (g : Nat) (cb : Array Value) (A : Option Addr) (c : Nat) (L : List Sg) (p : Sg → Bool) (w : World) (eg : ∀ args w, (callFunc g args).run Tryz.prog w = .ok (.enter g args) w) (hl : L.length ≤ 100000)
    (hv : RowL 7 encSg w (.slice A L.length c) L)
    (hf : ∀ (a : Sg) (W : World), a ∈ L → Below w.heap.size w W → Calls Tryz.prog g (#[encS7 a] ++ cb) W fun e w' => e = .returned (.bool (p a)) ∧ Below W.heap.size W w') :
    Calls Tryz.prog 108 #[.slice A L.length c, .func (.func g) #[] cb] w fun e w' => ∃ r : Int, e = .returned (.int .i64 r) ∧ Hid (IdxS p L r) ∧ Below w.heap.size w w' := by
  have HF := Lib.hid hf
  have HC := Lib.hid hv
  clear hf hv
  go_enter Tryz.func108, Tryz.ntmps108
  go_wp2
  go_loopw [8] (fun vi wr => ∃ k : Nat, k ≤ L.length ∧ vi = .int .i64 k ∧ Hid (∀ (j : Nat) (z : Sg), j < k → L[j]? = some z → p z = false) ∧ Below w.heap.size w wr) (fun vi _ => L.length - (intOf vi).toNat)
  case atStart => exact ⟨0, Nat.zero_le _, rfl, Lib.hid (fun j z h => by omega), Below.refl _ _⟩
  case round =>
    obtain ⟨k, hk, rfl, HK, hb⟩ := hrel
    by_cases hlt : k < L.length
    · obtain ⟨y, hy⟩ : ∃ y, L[k]? = some y := ⟨_, List.getElem?_eq_getElem hlt⟩
      obtain ⟨b, o, e1, hbl, hcc⟩ := RowL.at7 (HC.out.more hb) hy
      cases e1
      have z0 := hcc 0 _ rfl
      have z1 := hcc 1 _ rfl
      have z2 := hcc 2 _ rfl
      have z3 := hcc 3 _ rfl
      have z4 := hcc 4 _ rfl
      have z5 := hcc 5 _ rfl
      have z6 := hcc 6 _ rfl
      rw [Nat.add_zero] at z0
      have i2 : (k : Int) < (L.length : Int) := by omega
      have hcl := HF.out y wr (List.mem_of_getElem? hy) hb
      have HY := Lib.hid hy
      clear hcc hy hbl
      cases hp : p y <;> rw [hp] at hcl
      · have HK2 : Hid (∀ (j : Nat) (z : Sg), j < k + 1 → L[j]? = some z → p z = false) := Lib.hid (fun j z hj hz => by
          by_cases e : j = k
          · subst e; rw [HY.out] at hz; cases hz; exact hp
          · exact HK.out j z (by omega) hz)
        clear hp
        go_wp2_with (refine hcl.mono ?_; rintro e w' ⟨rfl, hb'⟩)
        go_roundw
        case rel => exact ⟨k + 1, by omega, by go_num, HK2, hb.trans (hb'.mono hb.size)⟩
        case measure => simp [intOf]; omega
      · have HR : Hid (IdxS p L (k : Int)) := Lib.hid (.inr ⟨k, y, rfl, HY.out, hp, HK.out⟩)
        clear hp
        go_wp2_with (refine hcl.mono ?_; rintro e w' ⟨rfl, hb'⟩)
        go_ret
        exact ⟨_, rfl, HR, hb.trans (hb'.mono hb.size)⟩
    · have HR : Hid (IdxS p L (-1)) := Lib.hid (.inl ⟨rfl, fun x hx => by
        obtain ⟨j, hj⟩ := List.getElem?_of_mem hx
        exact HK.out j x (by have := (List.getElem?_eq_some_iff.1 hj).1; omega) hj⟩)
      go_wp2
      go_ret
      exact ⟨-1, rfl, HR, hb⟩

end Go.Proofs.YtdpcjafkahhecaaGreatDoor
