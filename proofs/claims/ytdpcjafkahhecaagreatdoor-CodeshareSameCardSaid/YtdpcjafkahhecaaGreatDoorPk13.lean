/- Words and walks that the laws below ask: FliS, ShrA. -/
import Derived.Test.YtdpcjafkahhecaaGreatDoorPk6
import Derived.Test.YtdpcjafkahhecaaGreatDoorPk7
import Derived.Test.YtdpcjafkahhecaaGreatDoorPk9
import Derived.Test.YtdpcjafkahhecaaGreatDoorPk12
/- Walk of the reference's Check of flights. -/
namespace Go.Proofs.YtdpcjafkahhecaaGreatDoor
open Go.RowKit Go.Shelf
set_option linter.unusedSimpArgs false
set_option linter.unusedVariables false

theorem wh_pick (s : ByteArray) (b : Bool) (e : Int) (he : e ≠ 0) : pick s [wh b e] = if b = true then [(e, s)] else [] := by
  cases b
  · rfl
  · exact pick_one s e he

set_option maxRecDepth 100000 in
set_option maxHeartbeats 16000000 in
theorem rfcheck_any (p : PV) (f : FV) (w : World) (hl : p.l.length ≤ 40) (hL : AirL w p.A p.l) (hz : ∀ a ∈ p.l, OkZ a.off a.shs) (hG : LegL w (.slice f.A f.lg.length f.c) f.lg) (hn : f.lg.length ≤ 100)
    (hc0 : f.car.size ≤ maxLen) (ho : ∀ x ∈ f.lg, OkG x) (hpf : -9223372036854775808 ≤ f.pf ∧ f.pf ≤ 9223372036854775807) :
    Calls Tryz.prog 58 #[encP p, encFl f] w fun e w' => ∃ v, e = .returned v ∧ FOwn w.heap.size w' v (chF p.l f) ∧ Below w.heap.size w w' := by
  have KH := Lib.hid (fun W => rhead_any f W hc0)
  have KLg : Hid (∀ d W, (∀ x ∈ f.lg, (-1000000 ≤ x.dep ∧ x.dep ≤ 1000000) ∧ -1000000 ≤ x.arr ∧ x.arr ≤ 1000000) → AirL W p.A p.l → LegL W (.slice f.A f.lg.length f.c) f.lg → (0 ≤ d ∧ d < 36525) → Calls Tryz.prog 96 #[encP p, encFl f, .int .i64 d] W fun e w' => ∃ v, e = .returned v ∧ ROwn datT 8 encDt W.heap.size w' v (f.lg.map (datL p.l f d)) ∧ Below W.heap.size W w') := Lib.hid (fun d W hm hA hG2 hd => rlegs7_any p f d W hl hA hz hG2 hn hm (by omega))
  obtain ⟨DL, hDL⟩ : ∃ D : Int → List Dt, D = fun d => f.lg.map (datL p.l f d) := ⟨_, rfl⟩
  have HDO : Hid (∀ d, ordD (DL d) = ordT true 0 (timL p.l f.lg d)) := Lib.hid (by rw [hDL]; exact fun d => ordD_legs p.l f d)
  have HDN : Hid (∀ d, (DL d).length ≤ 1000) := Lib.hid (by rw [hDL]; intro d; rw [List.length_map]; omega)
  have KLg : Hid (∀ d W, (∀ x ∈ f.lg, (-1000000 ≤ x.dep ∧ x.dep ≤ 1000000) ∧ -1000000 ≤ x.arr ∧ x.arr ≤ 1000000) → AirL W p.A p.l → LegL W (.slice f.A f.lg.length f.c) f.lg → (0 ≤ d ∧ d < 36525) → Calls Tryz.prog 96 #[encP p, encFl f, .int .i64 d] W fun e w' => ∃ v, e = .returned v ∧ ROwn datT 8 encDt W.heap.size w' v (DL d) ∧ Below W.heap.size W w') := Lib.hid (by rw [hDL]; exact KLg.out)
  clear hDL
  obtain ⟨HF, hHF⟩ : ∃ H, H = hdF f := ⟨_, rfl⟩
  obtain ⟨HR, hHR⟩ : ∃ H, H = hdR f := ⟨_, rfl⟩
  obtain ⟨CF, hCF⟩ : ∃ H, H = chF p.l f := ⟨_, rfl⟩
  obtain ⟨D, hD⟩ : ∃ D, D = Per.daysQ (f.pf, f.pt, f.pd) := ⟨_, rfl⟩
  have HBT : Hid (∀ x ∈ f.lg, (lgsF p.l f.lg f.lg.length = []) → (-1000000 ≤ x.dep ∧ x.dep ≤ 1000000) ∧ -1000000 ≤ x.arr ∧ x.arr ≤ 1000000) := Lib.hid (fun x hx h => lgs_times h hx)
  have HHR : Hid (HR = HF ++ pick lgsW [if (!cntB f.lg.length) = true then 4 else 0]) := Lib.hid (by rw [hHR, hHF]; rfl)
  have HCF : Hid (CF = if cntB f.lg.length = true then (if (HF ++ lgsF p.l f.lg f.lg.length).length = 0 then badD p.l f.lg D else HF ++ lgsF p.l f.lg f.lg.length) else HF ++ pick lgsW [4]) := Lib.hid (by rw [hCF, hHF, hD]; rfl)
  have HHL : Hid (HF.length ≤ 3) := Lib.hid (by rw [hHF]; exact hdF_le _)
  have HB : Hid (∀ d ∈ D, 0 ≤ d ∧ d < 36525) := Lib.hid (by rw [hD]; exact fun d => days_bd)
  have HDl : D.length ≤ 800 := by rw [hD]; exact Per.daysQ_len _
  have KD := Lib.hid (fun W => Per.rdays_any f.pf f.pt f.pd W hpf.1 hpf.2)
  rw [← hHR] at KH
  rw [← hD] at KD
  rw [← hCF]
  clear hHF hHR hCF hD
  obtain ⟨car, num, pf, pt, pd, A, c, lg⟩ := f
  dsimp only at *
  have hb1 := bel_alloc w (.cells #[.slice p.A p.l.length p.ca, .slice p.D p.ds.length p.cd] placesT)
  have hb2 := bel_alloc (w.alloc (.cells #[.slice p.A p.l.length p.ca, .slice p.D p.ds.length p.cd] placesT)) (.cells #[.string car, .int .i64 num, .int .i64 pf, .int .i64 pt, .int .i64 pd, .slice A lg.length c] fliT)
  have hb0 := hb1.trans (hb2.mono hb1.size)
  have p0 := bel_cell hb2 ((cells_new w #[.slice p.A p.l.length p.ca, .slice p.D p.ds.length p.cd] placesT 0).trans (show _ = some (.slice p.A p.l.length p.ca) from rfl))
  have p1 := bel_cell hb2 ((cells_new w #[.slice p.A p.l.length p.ca, .slice p.D p.ds.length p.cd] placesT 1).trans (show _ = some (.slice p.D p.ds.length p.cd) from rfl))
  have q0 := (cells_new (w.alloc (.cells #[.slice p.A p.l.length p.ca, .slice p.D p.ds.length p.cd] placesT)) #[.string car, .int .i64 num, .int .i64 pf, .int .i64 pt, .int .i64 pd, .slice A lg.length c] fliT 0).trans (show _ = some (Value.string car) from rfl)
  have q1 := (cells_new (w.alloc (.cells #[.slice p.A p.l.length p.ca, .slice p.D p.ds.length p.cd] placesT)) #[.string car, .int .i64 num, .int .i64 pf, .int .i64 pt, .int .i64 pd, .slice A lg.length c] fliT 1).trans (show _ = some (Value.int .i64 num) from rfl)
  have q2 := (cells_new (w.alloc (.cells #[.slice p.A p.l.length p.ca, .slice p.D p.ds.length p.cd] placesT)) #[.string car, .int .i64 num, .int .i64 pf, .int .i64 pt, .int .i64 pd, .slice A lg.length c] fliT 2).trans (show _ = some (Value.int .i64 pf) from rfl)
  have q3 := (cells_new (w.alloc (.cells #[.slice p.A p.l.length p.ca, .slice p.D p.ds.length p.cd] placesT)) #[.string car, .int .i64 num, .int .i64 pf, .int .i64 pt, .int .i64 pd, .slice A lg.length c] fliT 3).trans (show _ = some (Value.int .i64 pt) from rfl)
  have q4 := (cells_new (w.alloc (.cells #[.slice p.A p.l.length p.ca, .slice p.D p.ds.length p.cd] placesT)) #[.string car, .int .i64 num, .int .i64 pf, .int .i64 pt, .int .i64 pd, .slice A lg.length c] fliT 4).trans (show _ = some (Value.int .i64 pd) from rfl)
  have q5 := (cells_new (w.alloc (.cells #[.slice p.A p.l.length p.ca, .slice p.D p.ds.length p.cd] placesT)) #[.string car, .int .i64 num, .int .i64 pf, .int .i64 pt, .int .i64 pd, .slice A lg.length c] fliT 5).trans (show _ = some (Value.slice A lg.length c) from rfl)
  rw [World.size_alloc] at q0 q1 q2 q3 q4 q5
  have HSZ : Hid (((w.alloc (.cells #[.slice p.A p.l.length p.ca, .slice p.D p.ds.length p.cd] placesT)).alloc (.cells #[.string car, .int .i64 num, .int .i64 pf, .int .i64 pt, .int .i64 pd, .slice A lg.length c] fliT)).heap.size = w.heap.size + 2) := Lib.hid (by simp)
  have HLL := Lib.hid (hL.more hb0)
  have HGG := Lib.hid (hG.more hb0)
  have HO := Lib.hid ho
  clear hL hG ho hz hc0 hpf
  go_enter Tryz.func58, Tryz.ntmps58
  go_upto_region 1 with (fail)
  generalize hw5 : (w.alloc (.cells #[.slice p.A p.l.length p.ca, .slice p.D p.ds.length p.cd] placesT)).alloc (.cells #[.string car, .int .i64 num, .int .i64 pf, .int .i64 pt, .int .i64 pd, .slice A lg.length c] fliT) = w5 at *
  clear hw5 hb1 hb2
  have F0 := Lib.hid (bel_get q0)
  have F1 := Lib.hid (bel_get q1)
  have F2 := Lib.hid (bel_get q2)
  have F3 := Lib.hid (bel_get q3)
  have F4 := Lib.hid (bel_get q4)
  have F5 := Lib.hid (bel_get q5)
  have Y0 := Lib.hid (bel_get p0)
  have Y1 := Lib.hid (bel_get p1)
  clear p0 p1 q0 q1 q2 q3 q4 q5
  have hS0 : SW w5 w5 := Below.refl _ _
  have k0 := F0.out _ hS0
  have k1 := F1.out _ hS0
  have k2 := F2.out _ hS0
  have k3 := F3.out _ hS0
  have k4 := F4.out _ hS0
  have k5 := F5.out _ hS0
  go_upto_region 2 with (go_at_call 89; refine (KH.out _).mono ?_; rintro e w1 ⟨v1, rfl, hO1, hS1⟩)
  have hS1 : SW w5 w1 := hS1
  have k5 := F5.out _ hS1
  clear hS0 k0 k1 k2 k3 k4
  cases hcn : cntB lg.length with
  | false =>
    have HR2 : Hid (CF = HR) := Lib.hid (by rw [HCF.out, if_neg (by rw [hcn]; simp), HHR.out, hcn]; rfl)
    have hc2 : lg.length < 1 ∨ 6 < lg.length := by
      unfold cntB at hcn
      rw [Bool.and_eq_false_iff, decide_eq_false_iff_not, decide_eq_false_iff_not] at hcn
      omega
    clear hcn
    by_cases h1 : (lg.length : Int) < 1
    all_goals
      have i6 : ((lg.length : Int) < 1) ∨ (6 : Int) < (lg.length : Int) := by omega
      first | (have i7 : (6 : Int) < (lg.length : Int) := by omega) | skip
      go_wp2
      go_ret
      exact ⟨v1, rfl, by rw [HR2.out]; exact ⟨hO1.own.mono hb0.size, Nat.le_trans hb0.size hO1.base⟩, hb0.trans (Below.mono hS1 hb0.size)⟩
  | true =>
    have hc2 := cnt_bd hcn
    have HR2 : Hid (HR = HF) := Lib.hid (by rw [HHR.out, hcn]; simp [pick_zero])
    have HC2 : Hid (CF = if (HF ++ lgsF p.l lg lg.length).length = 0 then badD p.l lg D else HF ++ lgsF p.l lg lg.length) := Lib.hid (by rw [HCF.out, if_pos hcn])
    rw [HR2.out] at hO1
    have HI : Hid (FOwn w5.heap.size w1 v1 (HF ++ lgsF p.l lg 0) ∧ SW w5 w1) := Lib.hid ⟨by simpa [lgsF] using hO1, hS1⟩
    have h1 : ¬ (lg.length : Int) < 1 := by omega
    have h6 : ¬ (6 : Int) < (lg.length : Int) := by omega
    clear hcn hO1 HCF HHR HR2 KH
    go_wp2
    clear k5 hS1
    go_loopg [5, 6] lg.length (fun kx v5 vi wr => ∃ (v : Value) (k : Nat), v = v5 ∧ vi = .int .i64 k ∧ k + kx = lg.length ∧ Hid (FOwn w5.heap.size wr v (HF ++ lgsF p.l lg k) ∧ SW w5 wr))
    case atStart => exact ⟨_, 0, rfl, rfl, by omega, HI⟩
    case round =>
      obtain ⟨v, k, rfl, rfl, hkx, HH⟩ := hrel
      clear HI
      have HKX := Lib.hid hkx
      by_cases hlt : k < lg.length
      · clear hkx
        obtain ⟨b, o, x, rfl, hbl, hx, c0, c1, c2, c3, c4⟩ := LegL.get (HGG.out.more HH.out.2) hlt
        have hox := HO.out x (List.mem_of_getElem? hx)
        have hO := HH.out.1
        have hSr : SW w5 wr := HH.out.2
        have HV1 : Hid (∀ g, v.ownBlock = some g → w5.heap.size ≤ g ∧ g < wr.heap.size) := Lib.hid (fun g hg => hO.low hg)
        have hvN : v.ownBlock ≠ some wr.heap.size := fun h => by have := (HV1.out _ h).2; omega
        have hb6 := bel_alloc wr (.cells #[.string x.f, .string x.t, .int .i64 x.dep, .int .i64 x.arr, .string x.eq] legT)
        have n0 := (cells_new wr #[.string x.f, .string x.t, .int .i64 x.dep, .int .i64 x.arr, .string x.eq] legT 0).trans (show _ = some (Value.string x.f) from rfl)
        have n1 := (cells_new wr #[.string x.f, .string x.t, .int .i64 x.dep, .int .i64 x.arr, .string x.eq] legT 1).trans (show _ = some (Value.string x.t) from rfl)
        have n2 := (cells_new wr #[.string x.f, .string x.t, .int .i64 x.dep, .int .i64 x.arr, .string x.eq] legT 2).trans (show _ = some (Value.int .i64 x.dep) from rfl)
        have n3 := (cells_new wr #[.string x.f, .string x.t, .int .i64 x.dep, .int .i64 x.arr, .string x.eq] legT 3).trans (show _ = some (Value.int .i64 x.arr) from rfl)
        have n4 := (cells_new wr #[.string x.f, .string x.t, .int .i64 x.dep, .int .i64 x.arr, .string x.eq] legT 4).trans (show _ = some (Value.string x.eq) from rfl)
        have KDc := Lib.hid (rdec_small k (by omega) (wr.alloc (.cells #[.string x.f, .string x.t, .int .i64 x.dep, .int .i64 x.arr, .string x.eq] legT)))
        have KE := Lib.hid (fun w => rcode_any x.eq 3 3 w hox.eq)
        have KF1 : Hid (∀ W, SW w5 W → Calls Tryz.prog 91 #[encP p, .string x.f] W fun e w' => e = .returned (.tuple #[encA (airOf p.l x.f), .bool (findC p.l x.f).isSome]) ∧ Below W.heap.size W w') := Lib.hid (fun W h => rfind_any p x.f W hl (HLL.out.more h))
        have KF2 : Hid (∀ W, SW w5 W → Calls Tryz.prog 91 #[encP p, .string x.t] W fun e w' => e = .returned (.tuple #[encA (airOf p.l x.t), .bool (findC p.l x.t).isSome]) ∧ Below W.heap.size W w') := Lib.hid (fun W h => rfind_any p x.t W hl (HLL.out.more h))
        have KX : Hid (∀ W, SW w5 W → Calls Tryz.prog 92 #[.slice (some ⟨b, o, none⟩) lg.length c, .int .i64 (k : Int)] W fun e w' => e = .returned (.bool (!nextB (lg.take k) x)) ∧ Below W.heap.size W w') := Lib.hid (fun W h => rbroken_any (some ⟨b, o, none⟩) c lg k x W (by omega) (HGG.out.more h) hx)
        have KM1 := Lib.hid (rout_any x.dep)
        have KM2 := Lib.hid (rout_any x.arr)
        have hle : lgEs p.l (lg.take k) x = [wh (!codeB x.eq 3 3) 5, wh (!((findC p.l x.f).isSome && (findC p.l x.t).isSome)) 14, wh (!nextB (lg.take k) x) 15, wh (!(minB x.dep && minB x.arr)) 2] := rfl
        have HTk : Hid (HF ++ lgsF p.l lg (k + 1) = HF ++ lgsF p.l lg k ++ pick (legW ++ decA k) [wh (!codeB x.eq 3 3) 5] ++ pick (legW ++ decA k) [wh (!((findC p.l x.f).isSome && (findC p.l x.t).isSome)) 14] ++ pick (legW ++ decA k) [wh (!nextB (lg.take k) x) 15] ++ pick (legW ++ decA k) [wh (!(minB x.dep && minB x.arr)) 2]) := Lib.hid (by
          rw [lgsF_succ p.l lg k x hx, hle]
          simp only [List.append_assoc, ← pick_app, List.cons_append, List.nil_append])
        have HFL : Hid ((HF ++ lgsF p.l lg k).length ≤ 1000) := Lib.hid (by have h1 := lgsF_le p.l lg k; have h2 := HHL.out; rw [List.length_append]; omega)
        have hadd : ∀ W : World, (Op.stringOp .add ⟨#[108, 101, 103, 32]⟩ (decA k)).run Tryz.prog W = .ok (.string (legW ++ decA k)) W := fun W => run_string_add_sum W _ _ (by have := decA_size k (by omega); have e : (⟨#[108, 101, 103, 32]⟩ : ByteArray).size = 4 := rfl; omega)
        have i2 : (k : Int) < (lg.length : Int) := by omega
        have k5 := F5.out _ hSr
        generalize airOf p.l x.f = a1 at *
        generalize airOf p.l x.t = a2 at *
        generalize (findC p.l x.f).isSome = kf at *
        generalize (findC p.l x.t).isSome = kt at *
        generalize codeB x.eq 3 3 = ke at *
        generalize nextB (lg.take k) x = kn at *
        generalize minB x.dep = md at *
        generalize minB x.arr = ma at *
        generalize hBL : HF ++ lgsF p.l lg k = BL at *
        clear hx hox hbl hle hBL HH
        generalize hnm : legW ++ decA k = nm at *
        clear hnm
        go_upto_region 9 with (go_at_call 42; refine KDc.out.mono ?_; rintro e w6 ⟨rfl, hbd⟩)
        have hbx : Below wr.heap.size wr w6 := hb6.trans (Below.mono hbd hb6.size)
        have hO := hO.more hbx
        have HS6 : Hid (SW w5 w6) := Lib.hid (Below.trans hSr (hbx.mono hSr.size))
        have n0 := bel_cell hbd n0
        have n1 := bel_cell hbd n1
        have n2 := bel_cell hbd n2
        have n3 := bel_cell hbd n3
        have n4 := bel_cell hbd n4
        have HO6 := Lib.hid hO
        have HSW : Hid (∀ W u, Chg w6 W v u → SW w5 W) := Lib.hid (fun W u h => Below.trans HS6.out (h.below HO6.out))
        have N0 : Hid (∀ W u, Chg w6 W v u → W.cell? ⟨wr.heap.size, 0, none⟩ = some (.string x.f)) := Lib.hid (fun W u h => h.cell n0 hvN)
        have N1 : Hid (∀ W u, Chg w6 W v u → W.cell? ⟨wr.heap.size, 1, none⟩ = some (.string x.t)) := Lib.hid (fun W u h => h.cell n1 hvN)
        have N2 : Hid (∀ W u, Chg w6 W v u → W.cell? ⟨wr.heap.size, 2, none⟩ = some (.int .i64 x.dep)) := Lib.hid (fun W u h => h.cell n2 hvN)
        have N3 : Hid (∀ W u, Chg w6 W v u → W.cell? ⟨wr.heap.size, 3, none⟩ = some (.int .i64 x.arr)) := Lib.hid (fun W u h => h.cell n3 hvN)
        clear k5 c0 c1 c2 c3 c4 hb6 hbd hbx hSr n0 n1 n2 n3 hadd KDc
        go_upto_if 46 with (go_at_call 90; refine (KE.out _).mono ?_; rintro e w' ⟨rfl, rfl⟩)
        go_cut [5] from 28 to 98 (fun u wx => Hid (FOwn w5.heap.size wx u (BL ++ pick nm [wh (!ke) 5]) ∧ Chg w6 wx v u))
        case first =>
          have HLn : Hid (BL.length ≤ 100000000) := Lib.hid (by have := HFL.out; omega)
          cases ke with
          | true =>
            go_wp2
            go_meet
            exact Lib.hid ⟨by rw [wh_pick _ _ _ (by omega)]; simpa using hO, Chg.refl _ _⟩
          | false =>
            go_wp2_with (at_builtin; refine wpList_rapp rtF rfl _ _ rfl hO rfl (bel_alloc _ _) _ (5, nm) _ rfl (cs := #[.int .i64 5, .string nm]) rfl (heap_alloc_new _ _) HLn.out ?_; intro v1 w1 hO1 hC1)
            go_meet
            exact Lib.hid ⟨by rw [wh_pick _ _ _ (by omega)]; exact hO1, hC1⟩
        case rest =>
          have hO := hcut.out.1
          have hC := hcut.out.2
          have hS := HSW.out _ _ hC
          have m0 := N0.out _ _ hC
          have m1 := N1.out _ _ hC
          have y0 := Y0.out _ hS
          have y1 := Y1.out _ hS
          clear hcut n4 HO6
          go_upto_region 13 with (first | (go_at_call 91; with_reducible refine (KF2.out _ hS7).mono ?_; rintro e w8 ⟨rfl, hb8⟩) | (go_at_call 91; with_reducible refine (KF1.out _ hS).mono ?_; rintro e w7 ⟨rfl, hb7⟩; have hS7 : SW w5 (w7.alloc (.cells #[.string a1.code, .string a1.city, .string a1.land, .int .i64 a1.off, .slice a1.A a1.shs.length a1.c] airT)) := Below.alloc (Below.trans hS (Below.mono hb7 hS.size)) (Nat.le_trans hS.size hb7.size) _; have y0 := Y0.out _ hS7; have y1 := Y1.out _ hS7; have m1 := bel_cell (bel_alloc w7 (.cells #[.string a1.code, .string a1.city, .string a1.land, .int .i64 a1.off, .slice a1.A a1.shs.length a1.c] airT)) (bel_cell hb7 m1)))
          have hb9 : Below wc.heap.size wc (w8.alloc (.cells #[.string a2.code, .string a2.city, .string a2.land, .int .i64 a2.off, .slice a2.A a2.shs.length a2.c] airT)) := (((Below.alloc hb7 hb7.size (.cells #[.string a1.code, .string a1.city, .string a1.land, .int .i64 a1.off, .slice a1.A a1.shs.length a1.c] airT)).trans (Below.mono hb8 (Nat.le_trans hb7.size (bel_alloc w7 (.cells #[.string a1.code, .string a1.city, .string a1.land, .int .i64 a1.off, .slice a1.A a1.shs.length a1.c] airT)).size))).alloc (Nat.le_trans hb7.size (Nat.le_trans (bel_alloc w7 (.cells #[.string a1.code, .string a1.city, .string a1.land, .int .i64 a1.off, .slice a1.A a1.shs.length a1.c] airT)).size hb8.size)) (.cells #[.string a2.code, .string a2.city, .string a2.land, .int .i64 a2.off, .slice a2.A a2.shs.length a2.c] airT))
          have hO := hO.more hb9
          have hC := hC.trans (Chg.of_below hb9)
          generalize hw9 : w8.alloc (.cells #[.string a2.code, .string a2.city, .string a2.land, .int .i64 a2.off, .slice a2.A a2.shs.length a2.c] airT) = w9 at *
          clear hb9 m0 m1 y0 y1 hS hS7 hb7 hb8 hw9
          go_cut [71] from 28 to 98 (fun v71 wx => v71 = .bool (!(kf && kt)) ∧ wx = w9)
          case first =>
            cases kf with
            | false =>
              go_wp2
              go_meet
              exact ⟨rfl, rfl⟩
            | true =>
              go_wp2
              go_meet
              exact ⟨rfl, rfl⟩
          case rest =>
            obtain ⟨rfl, hwc⟩ := hcut
            obtain rfl := hwc
            generalize (kf && kt) = kb at *
            go_upto_if 71 with fail
            go_cut [5] from 28 to 98 (fun u wx => Hid (FOwn w5.heap.size wx u (BL ++ pick nm [wh (!ke) 5] ++ pick nm [wh (!kb) 14]) ∧ Chg w6 wx v u))
            case first =>
              have HLn : Hid ((BL ++ pick nm [wh (!ke) 5]).length ≤ 100000000) := Lib.hid (by have h9 := HFL.out; have h0 := pick_le nm [wh (!ke) 5]; have h1 := pick_le nm [wh (!kb) 14]; have h2 := pick_le nm [wh (!kn) 15]; simp only [List.length_append, List.length_cons, List.length_nil] at h0 h1 h2 ⊢; omega)
              cases kb with
              | true =>
                go_wp2
                go_meet
                exact Lib.hid ⟨by rw [wh_pick nm (!true) 14 (by omega)]; simpa using hO, hC⟩
              | false =>
                go_wp2_with (at_builtin; refine wpList_rapp rtF rfl _ _ rfl hO rfl (bel_alloc _ _) _ (14, nm) _ rfl (cs := #[.int .i64 14, .string nm]) rfl (heap_alloc_new _ _) HLn.out ?_; intro v1 w1 hO1 hC1)
                go_meet
                exact Lib.hid ⟨by rw [wh_pick nm (!false) 14 (by omega)]; exact hO1, hC.trans hC1⟩
            case rest =>
              have hO := hcut.out.1
              have hC := hcut.out.2
              have hS := HSW.out _ _ hC
              have k5 := F5.out _ hS
              clear hcut
              go_upto_if 80 with (go_at_call 92; refine (KX.out _ hS).mono ?_; rintro e w2 ⟨rfl, hb2⟩)
              have hO := hO.more hb2
              have hC := hC.trans (Chg.of_below hb2)
              clear hb2 hS k5
              go_cut [5] from 28 to 98 (fun u wx => Hid (FOwn w5.heap.size wx u (BL ++ pick nm [wh (!ke) 5] ++ pick nm [wh (!kb) 14] ++ pick nm [wh (!kn) 15]) ∧ Chg w6 wx v u))
              case first =>
                have HLn : Hid ((BL ++ pick nm [wh (!ke) 5] ++ pick nm [wh (!kb) 14]).length ≤ 100000000) := Lib.hid (by have h9 := HFL.out; have h0 := pick_le nm [wh (!ke) 5]; have h1 := pick_le nm [wh (!kb) 14]; have h2 := pick_le nm [wh (!kn) 15]; simp only [List.length_append, List.length_cons, List.length_nil] at h0 h1 h2 ⊢; omega)
                cases kn with
                | true =>
                  go_wp2
                  go_meet
                  exact Lib.hid ⟨by rw [wh_pick nm (!true) 15 (by omega)]; simpa using hO, hC⟩
                | false =>
                  go_wp2_with (at_builtin; refine wpList_rapp rtF rfl _ _ rfl hO rfl (bel_alloc _ _) _ (15, nm) _ rfl (cs := #[.int .i64 15, .string nm]) rfl (heap_alloc_new _ _) HLn.out ?_; intro v1 w1 hO1 hC1)
                  go_meet
                  exact Lib.hid ⟨by rw [wh_pick nm (!false) 15 (by omega)]; exact hO1, hC.trans hC1⟩
              case rest =>
                have hO := hcut.out.1
                have hC := hcut.out.2
                have m2 := N2.out _ _ hC
                have m3 := N3.out _ _ hC
                clear hcut
                go_upto_region 17 with fail
                go_cut [93] from 28 to 98 (fun v93 wx => v93 = .bool (!(md && ma)) ∧ wx = wc)
                case first =>
                  cases md with
                  | false =>
                    go_wp2_with (go_at_call 93; first | (with_reducible refine (KM1.out _).mono ?_; rintro e w' ⟨rfl, rfl⟩) | (with_reducible refine (KM2.out _).mono ?_; rintro e w' ⟨rfl, rfl⟩))
                    go_meet
                    exact ⟨rfl, rfl⟩
                  | true =>
                    go_wp2_with (go_at_call 93; first | (with_reducible refine (KM1.out _).mono ?_; rintro e w' ⟨rfl, rfl⟩) | (with_reducible refine (KM2.out _).mono ?_; rintro e w' ⟨rfl, rfl⟩))
                    go_meet
                    exact ⟨rfl, rfl⟩
                case rest =>
                  obtain ⟨rfl, hwc⟩ := hcut
                  obtain rfl := hwc
                  clear m2 m3
                  generalize (md && ma) = mb at *
                  go_upto_if 93 with fail
                  have HLn : Hid ((BL ++ pick nm [wh (!ke) 5] ++ pick nm [wh (!kb) 14] ++ pick nm [wh (!kn) 15]).length ≤ 100000000) := Lib.hid (by have h9 := HFL.out; have h0 := pick_le nm [wh (!ke) 5]; have h1 := pick_le nm [wh (!kb) 14]; have h2 := pick_le nm [wh (!kn) 15]; simp only [List.length_append, List.length_cons, List.length_nil] at h0 h1 h2 ⊢; omega)
                  cases mb with
                  | true =>
                    have HY : Hid (FOwn w5.heap.size wc _ (HF ++ lgsF p.l lg (k + 1)) ∧ SW w5 wc) := Lib.hid ⟨by rw [HTk.out, wh_pick nm (!true) 2 (by omega)]; simpa using hO, HSW.out _ _ hC⟩
                    clear hO hC
                    go_wp2
                    go_roundg (lg.length - (k + 1))
                    case measure => have := HKX.out; omega
                    case rel => exact ⟨_, k + 1, rfl, by go_num, by omega, HY⟩
                  | false =>
                    go_wp2_with (at_builtin; refine wpList_rapp rtF rfl _ _ rfl hO rfl (bel_alloc _ _) _ (2, nm) _ rfl (cs := #[.int .i64 2, .string nm]) rfl (heap_alloc_new _ _) HLn.out ?_; intro v9 w9 hO1 hC1)
                    have HY : Hid (FOwn w5.heap.size w9 v9 (HF ++ lgsF p.l lg (k + 1)) ∧ SW w5 w9) := Lib.hid ⟨by rw [HTk.out, wh_pick nm (!false) 2 (by omega)]; exact hO1, HSW.out _ _ (hC.trans hC1)⟩
                    clear hO hC hO1 hC1
                    go_roundg (lg.length - (k + 1))
                    case measure => have := HKX.out; omega
                    case rel => exact ⟨_, k + 1, rfl, by go_num, by omega, HY⟩
      · have hk : k = lg.length := by omega
        have hO := HH.out.1
        have hSr : SW w5 wr := HH.out.2
        have HBT2 : Hid (HF ++ lgsF p.l lg k = [] → ∀ x ∈ lg, (-1000000 ≤ x.dep ∧ x.dep ≤ 1000000) ∧ -1000000 ≤ x.arr ∧ x.arr ≤ 1000000) := Lib.hid (by
          rw [hk]
          exact fun h x hx => HBT.out x hx (List.append_eq_nil_iff.1 h).2)
        have HC3 : Hid (CF = if (HF ++ lgsF p.l lg k).length = 0 then badD p.l lg (D.drop 0) else HF ++ lgsF p.l lg k) := Lib.hid (by rw [HC2.out, hk]; rfl)
        have HBL : Hid ((HF ++ lgsF p.l lg k).length ≤ 1000) := Lib.hid (by have h1 := lgsF_le p.l lg k; have h2 := HHL.out; rw [List.length_append]; omega)
        generalize hBL : HF ++ lgsF p.l lg k = BL at *
        have i1 : ¬ (k : Int) < (lg.length : Int) := by omega
        have k5 := F5.out _ hSr
        have k2 := F2.out _ hSr
        have k3 := F3.out _ hSr
        have k4 := F4.out _ hSr
        clear HH hkx hk hBL HC2 HBT
        go_wp2_with (go_at_call 94; refine (KD.out _).mono ?_; rintro e w2 ⟨v2, rfl, ⟨A2, c2, rfl, hI⟩, hbd⟩)
        have hO := hO.more hbd
        have hS2 : SW w5 w2 := Below.trans hSr (Below.mono hbd hSr.size)
        have HI2 := Lib.hid hI
        clear hI hbd k5 k2 k3 k4 hSr
        go_loopg [5, 14] D.length (fun kx v5 vi wr => ∃ (u : Value) (j : Nat) (Lc : List Flt), u = v5 ∧ vi = .int .i64 j ∧ j + kx = D.length ∧ Hid (FOwn w5.heap.size wr u Lc ∧ SW w5 wr ∧ Lc.length ≤ 1000) ∧ Hid (Lc.length = 0 → BL = [] ∧ SW w2 wr) ∧ Hid (CF = if Lc.length = 0 then badD p.l lg (D.drop j) else Lc))
        case atStart => exact ⟨_, 0, BL, rfl, rfl, by omega, Lib.hid ⟨hO, hS2, HBL.out⟩, Lib.hid (fun h => ⟨List.eq_nil_of_length_eq_zero h, Below.refl _ _⟩), HC3⟩
        case round =>
          obtain ⟨u, j, Lc, rfl, rfl, hjx, HH, HZ, HC⟩ := hrel
          have HJX := Lib.hid hjx
          have hO := HH.out.1
          have hS : SW w5 wr := HH.out.2.1
          clear HC3 HBL hS2
          obtain ⟨Au, cu, rfl, hvc⟩ := id (hO.rowL rtF.len)
          clear hvc
          by_cases hl0 : Lc.length = 0
          · obtain ⟨hBN, hSw2⟩ := HZ.out hl0
            have HCb : Hid (CF = badD p.l lg (D.drop j)) := Lib.hid (by rw [HC.out, if_pos hl0])
            have hLn := List.eq_nil_of_length_eq_zero hl0
            subst hLn
            have HT := Lib.hid (HBT2.out hBN)
            by_cases hlt2 : j < D.length
            · have i4 : (j : Int) < (D.length : Int) := by omega
              obtain ⟨b, o, rfl, hlb, hc⟩ : ∃ b o, A2 = some ⟨b, o, none⟩ ∧ b < w2.heap.size ∧ w2.cell? ⟨b, o + j, none⟩ = some (.int .i64 D[j]) := by
                rcases HI2.out with h | ⟨b, o, h1, h2, h3⟩
                · rw [h] at hlt2; simp at hlt2
                · exact ⟨b, o, h1, h2, h3 j hlt2⟩
              have hcr := bel_cell hSw2 hc
              have HB2 := Lib.hid (HCb.out.trans (badD_at hlt2))
              have hd := HB.out _ (List.getElem_mem hlt2)
              have HNX : Hid (j + 1 + (D.length - (j + 1)) = D.length) := Lib.hid (by omega)
              generalize D[j] = d at *
              have hBo := HDO.out d
              have KL2 : Hid (∀ W, SW wr W → Calls Tryz.prog 96 #[encP p, .agg #[.string car, .int .i64 num, .int .i64 pf, .int .i64 pt, .int .i64 pd, .slice A lg.length c], .int .i64 d] W fun e w' => ∃ v, e = .returned v ∧ RowL 8 encDt w' v (DL d) ∧ SW wr w') := Lib.hid (fun W h => (KLg.out d W HT.out (HLL.out.more (Below.trans hS (Below.mono h hS.size))) (HGG.out.more (Below.trans hS (Below.mono h hS.size))) hd).mono (by rintro e w' ⟨v, rfl, h1, h2⟩; exact ⟨v, rfl, h1.rowL rtD.len, Below.trans h (Below.mono h2 h.size)⟩))
              have KO2 : Hid (∀ u W, RowL 8 encDt W u (DL d) → SW wr W → Calls Tryz.prog 95 #[u] W fun e w' => e = .returned (.bool (ordT true 0 (timL p.l lg d))) ∧ SW wr w') := Lib.hid (fun u W hu h => (rordered_any u (DL d) W hu (HDN.out d)).mono (by rintro e w' ⟨rfl, h2⟩; exact ⟨by rw [hBo], Below.trans h (Below.mono h2 h.size)⟩))
              have KPr := Lib.hid (rprint_any d)
              generalize ordT true 0 (timL p.l lg d) = ob at *
              have e0 := bel_get hcr
              have e1 : ∀ W, SW wr W → W.cell? ⟨w.heap.size, 0, none⟩ = some (.slice p.A p.l.length p.ca) := fun W h => Y0.out W (Below.trans hS (Below.mono h hS.size))
              have e2 : ∀ W, SW wr W → W.cell? ⟨w.heap.size, 1, none⟩ = some (.slice p.D p.ds.length p.cd) := fun W h => Y1.out W (Below.trans hS (Below.mono h hS.size))
              have g0 : ∀ W, SW wr W → W.cell? ⟨w.heap.size + 1, 0, none⟩ = some (.string car) := fun W h => F0.out W (Below.trans hS (Below.mono h hS.size))
              have g1 : ∀ W, SW wr W → W.cell? ⟨w.heap.size + 1, 1, none⟩ = some (.int .i64 num) := fun W h => F1.out W (Below.trans hS (Below.mono h hS.size))
              have g2 : ∀ W, SW wr W → W.cell? ⟨w.heap.size + 1, 2, none⟩ = some (.int .i64 pf) := fun W h => F2.out W (Below.trans hS (Below.mono h hS.size))
              have g3 : ∀ W, SW wr W → W.cell? ⟨w.heap.size + 1, 3, none⟩ = some (.int .i64 pt) := fun W h => F3.out W (Below.trans hS (Below.mono h hS.size))
              have g4 : ∀ W, SW wr W → W.cell? ⟨w.heap.size + 1, 4, none⟩ = some (.int .i64 pd) := fun W h => F4.out W (Below.trans hS (Below.mono h hS.size))
              have g5 : ∀ W, SW wr W → W.cell? ⟨w.heap.size + 1, 5, none⟩ = some (.slice A lg.length c) := fun W h => F5.out W (Below.trans hS (Below.mono h hS.size))
              have HBN := Lib.hid hBN
              clear hjx HH HZ HC hBN hc hcr hBo HCb hl0 hlb
              go_upto_region 23 with (fail)
              have HSk : Hid (SW w5 wr) := Lib.hid hS
              have hS : (SW wr) _ := SW.drew _
              refine wp_region_held_drew (S := SW wr) (by kernel_rfl) hS (fun _ => ?_)
              refine wpAnyH_take (i := 0) (v := ?vD0) rfl (by kernel_rfl) (by kernel_rfl) (by kernel_rfl) (fun _ _ _ h => h) (Or.inl ⟨by rfl, ?hyD0⟩) hS ?restD0
              case hyD0 =>
                intro w hSw
                have k0 := e1 w hSw; have k1 := e2 w hSw
                first | (go_simp; done) | (go_simp; with_reducible rfl)
              try simp only [Act.put, List.setIfInBounds_toArray, List.set_cons_zero, List.set_cons_succ]
              refine wpAnyH_take (i := 1) (v := ?vD1) rfl (by kernel_rfl) (by kernel_rfl) (by kernel_rfl) (fun _ _ _ h => h) (Or.inl ⟨by rfl, ?hyD1⟩) hS ?restD1
              case hyD1 =>
                intro w hSw
                have k0 := g0 w hSw; have k1 := g1 w hSw; have k2 := g2 w hSw; have k3 := g3 w hSw; have k4 := g4 w hSw; have k5 := g5 w hSw
                first | (go_simp; done) | (go_simp; with_reducible rfl)
              try simp only [Act.put, List.setIfInBounds_toArray, List.set_cons_zero, List.set_cons_succ]
              refine wpAnyH_take (i := 2) (v := ?vD2) rfl (by kernel_rfl) (by kernel_rfl) (by kernel_rfl) (fun _ _ _ h => h) (Or.inl ⟨by rfl, ?hyD2⟩) hS ?restD2
              case hyD2 =>
                intro w hSw
                first | (go_simp; done) | (go_simp; with_reducible rfl)
              try simp only [Act.put, List.setIfInBounds_toArray, List.set_cons_zero, List.set_cons_succ]
              refine wpAnyH_take (i := 3) (v := ?vD3) rfl (by kernel_rfl) (by kernel_rfl) (by kernel_rfl) (fun _ _ _ h => h) (Or.inl ⟨by rfl, ?hyD3⟩) hS ?restD3
              case hyD3 =>
                intro w hSw
                first | (go_simp; done) | (go_simp; with_reducible rfl)
              try simp only [Act.put, List.setIfInBounds_toArray, List.set_cons_zero, List.set_cons_succ]
              refine wpAnyH_take (i := 4) (v := ?vD4) rfl (by kernel_rfl) (by kernel_rfl) (by kernel_rfl) (fun _ _ _ h => h) (Or.inl ⟨by rfl, ?hyD4⟩) hS ?restD4
              case hyD4 =>
                intro w hSw
                first | (go_simp; done) | (go_simp; with_reducible rfl)
              try simp only [Act.put, List.setIfInBounds_toArray, List.set_cons_zero, List.set_cons_succ]
              refine wpAnyH_take (i := 5) (v := ?vD5) rfl (by kernel_rfl) (by kernel_rfl) (by kernel_rfl) (fun _ _ _ h => h) (Or.inl ⟨by rfl, ?hyD5⟩) hS ?restD5
              case hyD5 =>
                intro w hSw
                have k0 := e0 w hSw
                first | (go_simp; done) | (go_simp; with_reducible rfl)
              try simp only [Act.put, List.setIfInBounds_toArray, List.set_cons_zero, List.set_cons_succ]
              refine wpAnyH_ready (rs := [6]) (by kernel_rfl) (by simp) ?_
              refine AllReadyH.cons rfl (fun K hK => ?_) AllReadyH.nil
              go_simp
              go_wp2_with ((go_at_call 96; refine (KL2.out _ hS).mono ?_; rintro e w7 ⟨u7, rfl, hD7, hS⟩))
              refine hK.out _ _ hS (fun _ => ?_)
              clear hK K
              refine wpAnyH_ready (rs := [7]) (by kernel_rfl) (by simp) ?_
              refine AllReadyH.cons rfl (fun K hK => ?_) AllReadyH.nil
              go_simp
              go_wp2_with ((go_at_call 95; refine (KO2.out u7 _ hD7 hS).mono ?_; rintro e w8 ⟨rfl, hS⟩))
              refine hK.out _ _ hS (fun _ => ?_)
              clear hK K
              refine wpAnyH_take (i := 8) (v := ?vD8) rfl (by kernel_rfl) (by kernel_rfl) (by kernel_rfl) (fun _ _ _ h => h) (Or.inl ⟨by rfl, ?hyD8⟩) hS ?restD8
              case hyD8 =>
                intro w hSw
                first | (go_simp; done) | (go_simp; with_reducible rfl)
              try simp only [Act.put, List.setIfInBounds_toArray, List.set_cons_zero, List.set_cons_succ]
              refine wpAnyH_done (by kernel_rfl) ?_ _
              simp only [List.getElem_toArray, List.getElem_cons_succ, List.getElem_cons_zero, List.set_cons_zero, List.set_cons_succ]
              have hSk : SW w5 w8 := Below.trans HSk.out (Below.mono hS HSk.out.size)
              have hO := hO.more hS
              have z0 := e0 _ hS
              have hS2w : SW w2 w8 := Below.trans hSw2 (Below.mono hS hSw2.size)
              clear hSw2
              cases ob with
              | true =>
                have HR : Hid (CF = badD p.l lg (D.drop (j + 1))) := Lib.hid (by rw [HB2.out]; rfl)
                go_wp2
                go_roundg (D.length - (j + 1))
                case measure => have := HJX.out; omega
                case rel => exact ⟨_, j + 1, [], rfl, by go_num, HNX.out, Lib.hid ⟨hO, hSk, by simp⟩, Lib.hid (fun _ => ⟨HBN.out, hS2w⟩), HR⟩
              | false =>
                obtain ⟨X, hX⟩ : ∃ X, X = (⟨(printL d).toArray⟩ : ByteArray) := ⟨_, rfl⟩
                rw [← hX] at KPr
                have HR : Hid (CF = [(13, dayW ++ X)]) := Lib.hid (by rw [HB2.out, hX]; rfl)
                have hzX : X.size ≤ 10 := by rw [hX]; exact Per.print_len10 d
                have A1 := fun W => run_string_add_sum (P := Tryz.prog) (w := W) (⟨#[100, 97, 121, 32]⟩ : ByteArray) X (by show 4 + X.size ≤ _; omega)
                clear hX
                go_wp2_with (first
                  | (go_at_call 97; refine (KPr.out _).mono ?_; rintro e w9 ⟨rfl, hb9⟩; have hO := hO.more hb9; have hSk : SW w5 w9 := Below.trans hSk (Below.mono hb9 hSk.size))
                  | (at_builtin; refine wpList_rapp rtF rfl _ _ rfl hO rfl (bel_alloc _ _) _ (13, dayW ++ X) _ rfl (cs := #[.int .i64 13, .string (dayW ++ X)]) rfl (heap_alloc_new _ _) (by simp) ?_; intro v9 w10 hO1 hC1))
                have hSz : SW w5 w10 := Below.trans hSk (hC1.below hO)
                go_roundg (D.length - (j + 1))
                case measure => have := HJX.out; omega
                case rel => exact ⟨_, j + 1, [(13, dayW ++ X)], rfl, by go_num, HNX.out, Lib.hid ⟨hO1, hSz, by simp⟩, Lib.hid (fun h => by simp at h), Lib.hid (by rw [HR.out]; rfl)⟩
            · have HR : Hid (CF = []) := Lib.hid (by rw [HCb.out, List.drop_of_length_le (by omega)]; rfl)
              have i4 : ¬ (j : Int) < (D.length : Int) := by omega
              clear HH HZ HC hl0 hjx hBN HCb
              go_wp2
              go_ret
              exact ⟨_, rfl, by rw [HR.out]; exact ⟨hO.own.mono hb0.size, Nat.le_trans hb0.size hO.base⟩, hb0.trans (Below.mono hS hb0.size)⟩
          · have HR : Hid (CF = Lc) := Lib.hid (by rw [HC.out, if_neg hl0])
            have i4 : ((Lc.length : Int) == 0) = false := by rw [beq_eq_false_iff_ne]; omega
            clear HH HZ HC hl0 hjx
            go_wp2
            go_ret
            exact ⟨_, rfl, by rw [HR.out]; exact ⟨hO.own.mono hb0.size, Nat.le_trans hb0.size hO.base⟩, hb0.trans (Below.mono hS hb0.size)⟩

end Go.Proofs.YtdpcjafkahhecaaGreatDoor

/- Shares as plain data; slices.IndexFunc over shares; what fits a segment: the program's and the reference's. -/
namespace Go.Proofs.YtdpcjafkahhecaaGreatDoor
open Go.RowKit Go.Shelf
set_option linter.unusedSimpArgs false
set_option linter.unusedVariables false

/-- a share: op and am are the carrier and the number that operate it -/
structure Sh where
  car : ByteArray
  num : Int
  pf : Int
  pt : Int
  pd : Int
  op : ByteArray
  am : Int
  f : ByteArray
  t : ByteArray
abbrev shT : TypeId := 60
def encSh9 (s : Sh) : List Value := [.string s.car, .int .i64 s.num, .int .i64 s.pf, .int .i64 s.pt, .int .i64 s.pd, .string s.op, .int .i64 s.am, .string s.f, .string s.t]
abbrev encSh (s : Sh) : Value := .agg #[.string s.car, .int .i64 s.num, .int .i64 s.pf, .int .i64 s.pt, .int .i64 s.pd, .string s.op, .int .i64 s.am, .string s.f, .string s.t]
def shareB (s : Sh) (car : ByteArray) (num day : Int) (f t : ByteArray) : Bool := (s.car.toList == car.toList) && ((s.num == num) && ((s.f.toList == f.toList) && ((s.t.toList == t.toList) && Per.hasQ (s.pf, s.pt, s.pd) day)))
theorem RowL.at9 {w : World} {A : Option Addr} {n c : Nat} {L : List Sh} (h : RowL 9 encSh9 w (.slice A n c) L) {k : Nat} {y : Sh} (hk : L[k]? = some y) : ∃ b o, A = some ⟨b, o, none⟩ ∧ b < w.heap.size ∧ ∀ j u, (encSh9 y)[j]? = some u → w.cell? ⟨b, o + k * 9 + j, none⟩ = some u := by
  obtain ⟨hlt, rfl⟩ := List.getElem?_eq_some_iff.1 hk
  obtain ⟨b, o, h1, h2, h3⟩ := h.at rfl hlt
  exact ⟨b, o, h1, h2, h3⟩

/-- r is the first place at which p is true, or -1 -/
def IdxH (p : Sh → Bool) (L : List Sh) (r : Int) : Prop := (r = -1 ∧ ∀ x ∈ L, p x = false) ∨ (∃ (k : Nat) (y : Sh), r = (k : Int) ∧ L[k]? = some y ∧ p y = true ∧ ∀ (j : Nat) (z : Sh), j < k → L[j]? = some z → p z = false)
set_option maxHeartbeats 4000000 in
set_option maxRecDepth 100000 in
theorem indexH_any (g : Nat) (cb : Array Value) (A : Option Addr) (c : Nat) (L : List Sh) (p : Sh → Bool) (w : World) (eg : ∀ args w, (callFunc g args).run Tryz.prog w = .ok (.enter g args) w) (hl : L.length ≤ 100000)
    (hv : RowL 9 encSh9 w (.slice A L.length c) L)
    (hf : ∀ (a : Sh) (W : World), a ∈ L → Below w.heap.size w W → Calls Tryz.prog g (#[encSh a] ++ cb) W fun e w' => e = .returned (.bool (p a)) ∧ Below W.heap.size W w') :
    Calls Tryz.prog 44 #[.slice A L.length c, .func (.func g) #[] cb] w fun e w' => ∃ r : Int, e = .returned (.int .i64 r) ∧ Hid (IdxH p L r) ∧ Below w.heap.size w w' := by
  have HF := Lib.hid hf
  have HC := Lib.hid hv
  clear hf hv
  go_enter Tryz.func44, Tryz.ntmps44
  go_wp2
  go_loopw [8] (fun vi wr => ∃ k : Nat, k ≤ L.length ∧ vi = .int .i64 k ∧ Hid (∀ (j : Nat) (z : Sh), j < k → L[j]? = some z → p z = false) ∧ Below w.heap.size w wr) (fun vi _ => L.length - (intOf vi).toNat)
  case atStart => exact ⟨0, Nat.zero_le _, rfl, Lib.hid (fun j z h => by omega), Below.refl _ _⟩
  case round =>
    obtain ⟨k, hk, rfl, HK, hb⟩ := hrel
    by_cases hlt : k < L.length
    · obtain ⟨y, hy⟩ : ∃ y, L[k]? = some y := ⟨_, List.getElem?_eq_getElem hlt⟩
      obtain ⟨b, o, e1, hbl, hcc⟩ := RowL.at9 (HC.out.more hb) hy
      cases e1
      have z0 := hcc 0 _ rfl
      have z1 := hcc 1 _ rfl
      have z2 := hcc 2 _ rfl
      have z3 := hcc 3 _ rfl
      have z4 := hcc 4 _ rfl
      have z5 := hcc 5 _ rfl
      have z6 := hcc 6 _ rfl
      have z7 := hcc 7 _ rfl
      have z8 := hcc 8 _ rfl
      rw [Nat.add_zero] at z0
      have i2 : (k : Int) < (L.length : Int) := by omega
      have hcl := HF.out y wr (List.mem_of_getElem? hy) hb
      have HY := Lib.hid hy
      clear hcc hy hbl
      cases hp : p y <;> rw [hp] at hcl
      · have HK2 : Hid (∀ (j : Nat) (z : Sh), j < k + 1 → L[j]? = some z → p z = false) := Lib.hid (fun j z hj hz => by
          by_cases e : j = k
          · subst e; rw [HY.out] at hz; cases hz; exact hp
          · exact HK.out j z (by omega) hz)
        clear hp
        go_wp2_with (refine hcl.mono ?_; rintro e w' ⟨rfl, hb'⟩)
        go_roundw
        case rel => exact ⟨k + 1, by omega, by go_num, HK2, hb.trans (hb'.mono hb.size)⟩
        case measure => simp [intOf]; omega
      · have HR : Hid (IdxH p L (k : Int)) := Lib.hid (.inr ⟨k, y, rfl, HY.out, hp, HK.out⟩)
        clear hp
        go_wp2_with (refine hcl.mono ?_; rintro e w' ⟨rfl, hb'⟩)
        go_ret
        exact ⟨_, rfl, HR, hb.trans (hb'.mono hb.size)⟩
    · have HR : Hid (IdxH p L (-1)) := Lib.hid (.inl ⟨rfl, fun x hx => by
        obtain ⟨j, hj⟩ := List.getElem?_of_mem hx
        exact HK.out j x (by have := (List.getElem?_eq_some_iff.1 hj).1; omega) hj⟩)
      go_wp2
      go_ret
      exact ⟨-1, rfl, HR, hb⟩

theorem IdxH.find {p : Sh → Bool} {L : List Sh} {r : Int} (h : IdxH p L r) : (r = -1 ∧ L.find? p = none) ∨ ∃ (k : Nat) (y : Sh), r = (k : Int) ∧ L[k]? = some y ∧ L.find? p = some y := by
  rcases h with ⟨h1, h2⟩ | ⟨k, y, h1, h2, h3, h4⟩
  · exact .inl ⟨h1, List.find?_eq_none.2 (fun x hx => by rw [h2 x hx]; simp)⟩
  · refine .inr ⟨k, y, h1, h2, ?_⟩
    obtain ⟨hlt, rfl⟩ := List.getElem?_eq_some_iff.1 h2
    rw [List.find?_eq_some_iff_getElem]
    refine ⟨h3, k, hlt, rfl, fun j hj => ?_⟩
    rw [h4 j _ hj (List.getElem?_eq_getElem (by omega))]
    rfl

set_option maxRecDepth 100000 in
set_option maxHeartbeats 4000000 in
theorem fits_any (s : Sh) (q : Sg) (W : World) (hd : -9223372036854775808 ≤ q.day ∧ q.day ≤ 9223372036854775807) :
    Calls Tryz.prog 46 #[encSh s, encS7 q] W fun e w' => e = .returned (.bool (shareB s q.car q.num q.day q.f q.t)) ∧ Below W.heap.size W w' := by
  have hb0 := bel_alloc W (.cells #[.string s.car, .int .i64 s.num, .int .i64 s.pf, .int .i64 s.pt, .int .i64 s.pd, .string s.op, .int .i64 s.am, .string s.f, .string s.t] shT)
  have u0 := (cells_new W #[.string s.car, .int .i64 s.num, .int .i64 s.pf, .int .i64 s.pt, .int .i64 s.pd, .string s.op, .int .i64 s.am, .string s.f, .string s.t] shT 0).trans (show _ = some (Value.string s.car) from rfl)
  have u1 := (cells_new W #[.string s.car, .int .i64 s.num, .int .i64 s.pf, .int .i64 s.pt, .int .i64 s.pd, .string s.op, .int .i64 s.am, .string s.f, .string s.t] shT 1).trans (show _ = some (Value.int .i64 s.num) from rfl)
  have u2 := (cells_new W #[.string s.car, .int .i64 s.num, .int .i64 s.pf, .int .i64 s.pt, .int .i64 s.pd, .string s.op, .int .i64 s.am, .string s.f, .string s.t] shT 2).trans (show _ = some (Value.int .i64 s.pf) from rfl)
  have u3 := (cells_new W #[.string s.car, .int .i64 s.num, .int .i64 s.pf, .int .i64 s.pt, .int .i64 s.pd, .string s.op, .int .i64 s.am, .string s.f, .string s.t] shT 3).trans (show _ = some (Value.int .i64 s.pt) from rfl)
  have u4 := (cells_new W #[.string s.car, .int .i64 s.num, .int .i64 s.pf, .int .i64 s.pt, .int .i64 s.pd, .string s.op, .int .i64 s.am, .string s.f, .string s.t] shT 4).trans (show _ = some (Value.int .i64 s.pd) from rfl)
  have u5 := (cells_new W #[.string s.car, .int .i64 s.num, .int .i64 s.pf, .int .i64 s.pt, .int .i64 s.pd, .string s.op, .int .i64 s.am, .string s.f, .string s.t] shT 5).trans (show _ = some (Value.string s.op) from rfl)
  have u6 := (cells_new W #[.string s.car, .int .i64 s.num, .int .i64 s.pf, .int .i64 s.pt, .int .i64 s.pd, .string s.op, .int .i64 s.am, .string s.f, .string s.t] shT 6).trans (show _ = some (Value.int .i64 s.am) from rfl)
  have u7 := (cells_new W #[.string s.car, .int .i64 s.num, .int .i64 s.pf, .int .i64 s.pt, .int .i64 s.pd, .string s.op, .int .i64 s.am, .string s.f, .string s.t] shT 7).trans (show _ = some (Value.string s.f) from rfl)
  have u8 := (cells_new W #[.string s.car, .int .i64 s.num, .int .i64 s.pf, .int .i64 s.pt, .int .i64 s.pd, .string s.op, .int .i64 s.am, .string s.f, .string s.t] shT 8).trans (show _ = some (Value.string s.t) from rfl)
  have hb5 := bel_alloc (W.alloc (.cells #[.string s.car, .int .i64 s.num, .int .i64 s.pf, .int .i64 s.pt, .int .i64 s.pd, .string s.op, .int .i64 s.am, .string s.f, .string s.t] shT)) (.cells #[.string q.car, .int .i64 q.num, .int .i64 q.day, .string q.f, .string q.t, .int .i64 q.dep, .int .i64 q.arr] segT)
  have v0 := (cells_new (W.alloc (.cells #[.string s.car, .int .i64 s.num, .int .i64 s.pf, .int .i64 s.pt, .int .i64 s.pd, .string s.op, .int .i64 s.am, .string s.f, .string s.t] shT)) #[.string q.car, .int .i64 q.num, .int .i64 q.day, .string q.f, .string q.t, .int .i64 q.dep, .int .i64 q.arr] segT 0).trans (show _ = some (Value.string q.car) from rfl)
  have v1 := (cells_new (W.alloc (.cells #[.string s.car, .int .i64 s.num, .int .i64 s.pf, .int .i64 s.pt, .int .i64 s.pd, .string s.op, .int .i64 s.am, .string s.f, .string s.t] shT)) #[.string q.car, .int .i64 q.num, .int .i64 q.day, .string q.f, .string q.t, .int .i64 q.dep, .int .i64 q.arr] segT 1).trans (show _ = some (Value.int .i64 q.num) from rfl)
  have v2 := (cells_new (W.alloc (.cells #[.string s.car, .int .i64 s.num, .int .i64 s.pf, .int .i64 s.pt, .int .i64 s.pd, .string s.op, .int .i64 s.am, .string s.f, .string s.t] shT)) #[.string q.car, .int .i64 q.num, .int .i64 q.day, .string q.f, .string q.t, .int .i64 q.dep, .int .i64 q.arr] segT 2).trans (show _ = some (Value.int .i64 q.day) from rfl)
  have v3 := (cells_new (W.alloc (.cells #[.string s.car, .int .i64 s.num, .int .i64 s.pf, .int .i64 s.pt, .int .i64 s.pd, .string s.op, .int .i64 s.am, .string s.f, .string s.t] shT)) #[.string q.car, .int .i64 q.num, .int .i64 q.day, .string q.f, .string q.t, .int .i64 q.dep, .int .i64 q.arr] segT 3).trans (show _ = some (Value.string q.f) from rfl)
  have v4 := (cells_new (W.alloc (.cells #[.string s.car, .int .i64 s.num, .int .i64 s.pf, .int .i64 s.pt, .int .i64 s.pd, .string s.op, .int .i64 s.am, .string s.f, .string s.t] shT)) #[.string q.car, .int .i64 q.num, .int .i64 q.day, .string q.f, .string q.t, .int .i64 q.dep, .int .i64 q.arr] segT 4).trans (show _ = some (Value.string q.t) from rfl)
  have v5 := (cells_new (W.alloc (.cells #[.string s.car, .int .i64 s.num, .int .i64 s.pf, .int .i64 s.pt, .int .i64 s.pd, .string s.op, .int .i64 s.am, .string s.f, .string s.t] shT)) #[.string q.car, .int .i64 q.num, .int .i64 q.day, .string q.f, .string q.t, .int .i64 q.dep, .int .i64 q.arr] segT 5).trans (show _ = some (Value.int .i64 q.dep) from rfl)
  have v6 := (cells_new (W.alloc (.cells #[.string s.car, .int .i64 s.num, .int .i64 s.pf, .int .i64 s.pt, .int .i64 s.pd, .string s.op, .int .i64 s.am, .string s.f, .string s.t] shT)) #[.string q.car, .int .i64 q.num, .int .i64 q.day, .string q.f, .string q.t, .int .i64 q.dep, .int .i64 q.arr] segT 6).trans (show _ = some (Value.int .i64 q.arr) from rfl)
  have u0 := bel_cell hb5 u0
  have u1 := bel_cell hb5 u1
  have u2 := bel_cell hb5 u2
  have u3 := bel_cell hb5 u3
  have u4 := bel_cell hb5 u4
  have u5 := bel_cell hb5 u5
  have u6 := bel_cell hb5 u6
  have u7 := bel_cell hb5 u7
  have u8 := bel_cell hb5 u8
  have hbb := hb0.trans (hb5.mono hb0.size)
  have HH := Lib.hid (fun (q : Int × Int × Int) (day : Int) (h0 : -9223372036854775808 ≤ day) (h1 : day ≤ 9223372036854775807) W => Per.has_any q.1 q.2.1 q.2.2 day W h0 h1)
  have HQ := Lib.hid (HH.out (s.pf, s.pt, s.pd) q.day hd.1 hd.2)
  dsimp only at HQ
  clear HH hb0 hb5
  cases h1 : (s.car.toList == q.car.toList) with
  | false =>
    have HR : Hid (shareB s q.car q.num q.day q.f q.t = false) := Lib.hid (by unfold shareB; rw [h1]; rfl)
    go_enter Tryz.func46, Tryz.ntmps46
    go_wp2
    go_ret
    exact ⟨ret_bool HR.out.symm, hbb⟩
  | true =>
  cases h2 : (s.num == q.num) with
  | false =>
    have HR : Hid (shareB s q.car q.num q.day q.f q.t = false) := Lib.hid (by unfold shareB; rw [h1, h2]; rfl)
    go_enter Tryz.func46, Tryz.ntmps46
    go_wp2
    go_ret
    exact ⟨ret_bool HR.out.symm, hbb⟩
  | true =>
  cases h3 : (s.f.toList == q.f.toList) with
  | false =>
    have HR : Hid (shareB s q.car q.num q.day q.f q.t = false) := Lib.hid (by unfold shareB; rw [h1, h2, h3]; rfl)
    go_enter Tryz.func46, Tryz.ntmps46
    go_wp2
    go_ret
    exact ⟨ret_bool HR.out.symm, hbb⟩
  | true =>
  cases h4 : (s.t.toList == q.t.toList) with
  | false =>
    have HR : Hid (shareB s q.car q.num q.day q.f q.t = false) := Lib.hid (by unfold shareB; rw [h1, h2, h3, h4]; rfl)
    go_enter Tryz.func46, Tryz.ntmps46
    go_wp2
    go_ret
    exact ⟨ret_bool HR.out.symm, hbb⟩
  | true =>
    have HR : Hid (shareB s q.car q.num q.day q.f q.t = Per.hasQ (s.pf, s.pt, s.pd) q.day) := Lib.hid (by unfold shareB; rw [h1, h2, h3, h4]; rfl)
    go_enter Tryz.func46, Tryz.ntmps46
    go_wp2_with (go_at_call 50; refine (HQ.out _).mono ?_; rintro e w1 ⟨rfl, hb1⟩)
    go_ret
    exact ⟨ret_bool HR.out.symm, hbb.trans (hb1.mono hbb.size)⟩
set_option maxRecDepth 100000 in
set_option maxHeartbeats 4000000 in
theorem rfits_any (s : Sh) (car : ByteArray) (num day : Int) (f t : ByteArray) (W : World) (hd : -9223372036854775808 ≤ day ∧ day ≤ 9223372036854775807) :
    Calls Tryz.prog 55 #[encSh s, .string car, .int .i64 num, .int .i64 day, .string f, .string t] W fun e w' => e = .returned (.bool (shareB s car num day f t)) ∧ Below W.heap.size W w' := by
  have hbb := bel_alloc W (.cells #[.string s.car, .int .i64 s.num, .int .i64 s.pf, .int .i64 s.pt, .int .i64 s.pd, .string s.op, .int .i64 s.am, .string s.f, .string s.t] shT)
  have u0 := (cells_new W #[.string s.car, .int .i64 s.num, .int .i64 s.pf, .int .i64 s.pt, .int .i64 s.pd, .string s.op, .int .i64 s.am, .string s.f, .string s.t] shT 0).trans (show _ = some (Value.string s.car) from rfl)
  have u1 := (cells_new W #[.string s.car, .int .i64 s.num, .int .i64 s.pf, .int .i64 s.pt, .int .i64 s.pd, .string s.op, .int .i64 s.am, .string s.f, .string s.t] shT 1).trans (show _ = some (Value.int .i64 s.num) from rfl)
  have u2 := (cells_new W #[.string s.car, .int .i64 s.num, .int .i64 s.pf, .int .i64 s.pt, .int .i64 s.pd, .string s.op, .int .i64 s.am, .string s.f, .string s.t] shT 2).trans (show _ = some (Value.int .i64 s.pf) from rfl)
  have u3 := (cells_new W #[.string s.car, .int .i64 s.num, .int .i64 s.pf, .int .i64 s.pt, .int .i64 s.pd, .string s.op, .int .i64 s.am, .string s.f, .string s.t] shT 3).trans (show _ = some (Value.int .i64 s.pt) from rfl)
  have u4 := (cells_new W #[.string s.car, .int .i64 s.num, .int .i64 s.pf, .int .i64 s.pt, .int .i64 s.pd, .string s.op, .int .i64 s.am, .string s.f, .string s.t] shT 4).trans (show _ = some (Value.int .i64 s.pd) from rfl)
  have u5 := (cells_new W #[.string s.car, .int .i64 s.num, .int .i64 s.pf, .int .i64 s.pt, .int .i64 s.pd, .string s.op, .int .i64 s.am, .string s.f, .string s.t] shT 5).trans (show _ = some (Value.string s.op) from rfl)
  have u6 := (cells_new W #[.string s.car, .int .i64 s.num, .int .i64 s.pf, .int .i64 s.pt, .int .i64 s.pd, .string s.op, .int .i64 s.am, .string s.f, .string s.t] shT 6).trans (show _ = some (Value.int .i64 s.am) from rfl)
  have u7 := (cells_new W #[.string s.car, .int .i64 s.num, .int .i64 s.pf, .int .i64 s.pt, .int .i64 s.pd, .string s.op, .int .i64 s.am, .string s.f, .string s.t] shT 7).trans (show _ = some (Value.string s.f) from rfl)
  have u8 := (cells_new W #[.string s.car, .int .i64 s.num, .int .i64 s.pf, .int .i64 s.pt, .int .i64 s.pd, .string s.op, .int .i64 s.am, .string s.f, .string s.t] shT 8).trans (show _ = some (Value.string s.t) from rfl)
  have HH := Lib.hid (fun (q : Int × Int × Int) (day : Int) (h0 : -9223372036854775808 ≤ day) (h1 : day ≤ 9223372036854775807) W => Per.rhas_any q.1 q.2.1 q.2.2 day W h0 h1)
  have HQ := Lib.hid (HH.out (s.pf, s.pt, s.pd) day hd.1 hd.2)
  dsimp only at HQ
  clear HH
  cases h1 : (s.car.toList == car.toList) with
  | false =>
    have HR : Hid (shareB s car num day f t = false) := Lib.hid (by unfold shareB; rw [h1]; rfl)
    go_enter Tryz.func55, Tryz.ntmps55
    go_wp2
    go_ret
    exact ⟨ret_bool HR.out.symm, hbb⟩
  | true =>
  cases h2 : (s.num == num) with
  | false =>
    have HR : Hid (shareB s car num day f t = false) := Lib.hid (by unfold shareB; rw [h1, h2]; rfl)
    go_enter Tryz.func55, Tryz.ntmps55
    go_wp2
    go_ret
    exact ⟨ret_bool HR.out.symm, hbb⟩
  | true =>
  cases h3 : (s.f.toList == f.toList) with
  | false =>
    have HR : Hid (shareB s car num day f t = false) := Lib.hid (by unfold shareB; rw [h1, h2, h3]; rfl)
    go_enter Tryz.func55, Tryz.ntmps55
    go_wp2
    go_ret
    exact ⟨ret_bool HR.out.symm, hbb⟩
  | true =>
  cases h4 : (s.t.toList == t.toList) with
  | false =>
    have HR : Hid (shareB s car num day f t = false) := Lib.hid (by unfold shareB; rw [h1, h2, h3, h4]; rfl)
    go_enter Tryz.func55, Tryz.ntmps55
    go_wp2
    go_ret
    exact ⟨ret_bool HR.out.symm, hbb⟩
  | true =>
    have HR : Hid (shareB s car num day f t = Per.hasQ (s.pf, s.pt, s.pd) day) := Lib.hid (by unfold shareB; rw [h1, h2, h3, h4]; rfl)
    go_enter Tryz.func55, Tryz.ntmps55
    go_wp2_with (go_at_call 51; refine (HQ.out _).mono ?_; rintro e w1 ⟨rfl, hb1⟩)
    go_ret
    exact ⟨ret_bool HR.out.symm, hbb.trans (hb1.mono hbb.size)⟩
set_option maxRecDepth 100000 in
set_option maxHeartbeats 4000000 in
theorem oper1_any (s : Sh) (q : Sg) (B : Nat) (W : World) (hd : -9223372036854775808 ≤ q.day ∧ q.day ≤ 9223372036854775807)
    (hz : ∀ j u, (encSg q)[j]? = some u → W.cell? ⟨B, j, none⟩ = some u) :
    Calls Tryz.prog 45 #[encSh s, .pointer (some ⟨B, 0, none⟩)] W fun e w' => e = .returned (.bool (shareB s q.car q.num q.day q.f q.t)) ∧ Below W.heap.size W w' := by
  have hb0 := bel_alloc W (.cells #[.string s.car, .int .i64 s.num, .int .i64 s.pf, .int .i64 s.pt, .int .i64 s.pd, .string s.op, .int .i64 s.am, .string s.f, .string s.t] shT)
  have u0 := (cells_new W #[.string s.car, .int .i64 s.num, .int .i64 s.pf, .int .i64 s.pt, .int .i64 s.pd, .string s.op, .int .i64 s.am, .string s.f, .string s.t] shT 0).trans (show _ = some (Value.string s.car) from rfl)
  have u1 := (cells_new W #[.string s.car, .int .i64 s.num, .int .i64 s.pf, .int .i64 s.pt, .int .i64 s.pd, .string s.op, .int .i64 s.am, .string s.f, .string s.t] shT 1).trans (show _ = some (Value.int .i64 s.num) from rfl)
  have u2 := (cells_new W #[.string s.car, .int .i64 s.num, .int .i64 s.pf, .int .i64 s.pt, .int .i64 s.pd, .string s.op, .int .i64 s.am, .string s.f, .string s.t] shT 2).trans (show _ = some (Value.int .i64 s.pf) from rfl)
  have u3 := (cells_new W #[.string s.car, .int .i64 s.num, .int .i64 s.pf, .int .i64 s.pt, .int .i64 s.pd, .string s.op, .int .i64 s.am, .string s.f, .string s.t] shT 3).trans (show _ = some (Value.int .i64 s.pt) from rfl)
  have u4 := (cells_new W #[.string s.car, .int .i64 s.num, .int .i64 s.pf, .int .i64 s.pt, .int .i64 s.pd, .string s.op, .int .i64 s.am, .string s.f, .string s.t] shT 4).trans (show _ = some (Value.int .i64 s.pd) from rfl)
  have u5 := (cells_new W #[.string s.car, .int .i64 s.num, .int .i64 s.pf, .int .i64 s.pt, .int .i64 s.pd, .string s.op, .int .i64 s.am, .string s.f, .string s.t] shT 5).trans (show _ = some (Value.string s.op) from rfl)
  have u6 := (cells_new W #[.string s.car, .int .i64 s.num, .int .i64 s.pf, .int .i64 s.pt, .int .i64 s.pd, .string s.op, .int .i64 s.am, .string s.f, .string s.t] shT 6).trans (show _ = some (Value.int .i64 s.am) from rfl)
  have u7 := (cells_new W #[.string s.car, .int .i64 s.num, .int .i64 s.pf, .int .i64 s.pt, .int .i64 s.pd, .string s.op, .int .i64 s.am, .string s.f, .string s.t] shT 7).trans (show _ = some (Value.string s.f) from rfl)
  have u8 := (cells_new W #[.string s.car, .int .i64 s.num, .int .i64 s.pf, .int .i64 s.pt, .int .i64 s.pd, .string s.op, .int .i64 s.am, .string s.f, .string s.t] shT 8).trans (show _ = some (Value.string s.t) from rfl)
  have z0 := bel_cell hb0 (hz 0 _ rfl)
  have z1 := bel_cell hb0 (hz 1 _ rfl)
  have z2 := bel_cell hb0 (hz 2 _ rfl)
  have z3 := bel_cell hb0 (hz 3 _ rfl)
  have z4 := bel_cell hb0 (hz 4 _ rfl)
  have z5 := bel_cell hb0 (hz 5 _ rfl)
  have z6 := bel_cell hb0 (hz 6 _ rfl)
  have HF := Lib.hid (fun W => fits_any s q W hd)
  clear hz
  go_enter Tryz.func45, Tryz.ntmps45
  go_wp2_with (go_at_call 46; refine (HF.out _).mono ?_; rintro e w1 ⟨rfl, hb1⟩)
  go_ret
  exact ⟨rfl, hb0.trans (hb1.mono hb0.size)⟩
theorem eg_oper1 : ∀ args w, (callFunc 45 args).run Tryz.prog w = .ok (.enter 45 args) w := enters_of Tryz.func45 (by kernel_rfl) rfl

end Go.Proofs.YtdpcjafkahhecaaGreatDoor
