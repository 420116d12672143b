/- Words and walks that the laws below ask: PerG, FliS, SamF, FliV. -/
import Derived.Test.YtfgmlbmjjihhfaaGreatDoorPk3
import Derived.Test.YtfgmlbmjjihhfaaGreatDoorPk4
import Derived.Test.YtfgmlbmjjihhfaaGreatDoorPk9
import Derived.Test.YtfgmlbmjjihhfaaGreatDoorPk10
import Derived.Test.YtfgmlbmjjihhfaaGreatDoorPk11
/- Plain contracts of the loops over an iterator; equal lists; the reference's Days, Count. -/
namespace Go.Proofs.YtfgmlbmjjihhfaaGreatDoor.Per
open Go.RowKit
set_option linter.unusedSimpArgs false
set_option linter.unusedVariables false

theorem days_any (p : Per) (w : World) : Calls Tryz.prog 106 #[encQ p] w fun e W' => ∃ v, e = .returned v ∧ IntL W' v (daysQ p) ∧ Below w.heap.size w W' :=
  (callsIn_wide.1 (days_in p w)).mono (by rintro e w' ⟨v, rfl, h, hb⟩; exact ⟨v, rfl, .of_own h, hb⟩)
/-! ### equal lists -/
theorem take_stepI (a b : List Int) (k : Nat) (h1 : k < a.length) (h2 : k < b.length) (h : a.take k = b.take k) (he : a[k] = b[k]) : a.take (k + 1) = b.take (k + 1) := by
  rw [List.take_succ_eq_append_getElem h1, List.take_succ_eq_append_getElem h2, h, he]
theorem not_sameI (a b : List Int) (k : Nat) (h1 : k < a.length) (h2 : k < b.length) (he : a[k] ≠ b[k]) : a ≠ b := by
  rintro rfl; exact he rfl
def sameI (a b : List Int) : Bool := decide (a = b)
/-! ### the reference's Days -/
theorem Box3.more1 {w : World} {p : Per} {W W' : World} (h : Box3 w w.heap.size p W) (hb : Below (w.heap.size + 1) W W') : Box3 w w.heap.size p W' :=
  ⟨(hb.cell (p := ⟨w.heap.size, 0, none⟩) (by simp)).trans h.1, (hb.cell (p := ⟨w.heap.size, 1, none⟩) (by simp)).trans h.2.1, (hb.cell (p := ⟨w.heap.size, 2, none⟩) (by simp)).trans h.2.2.1, h.2.2.2.trans (hb.mono (by omega))⟩
set_option maxHeartbeats 2000000 in
theorem rdays_any (f t d : Int) (w : World) (hf : -9223372036854775808 ≤ f) (hf2 : f ≤ 9223372036854775807) : Calls Tryz.prog 67 #[encQ (f, t, d)] w fun e w' => ∃ v, e = .returned v ∧ IntL w' v (daysQ (f, t, d)) ∧ Below w.heap.size w w' := by
  have hB : Box3 w w.heap.size (f, t, d) (w.alloc (.cells #[.int .i64 f, .int .i64 t, .int .i64 d] 27)) := Box3.new w (f, t, d) _
  have hsz : (w.alloc (.cells #[.int .i64 f, .int .i64 t, .int .i64 d] 27)).heap.size = w.heap.size + 1 := by simp
  cases h : okQ (f, t, d)
  · have he := errQ_two h
    have HD := Lib.hid (daysQ_no h)
    have CV := Lib.hid (fun W => rcheck_any f t d W)
    generalize errQ (f, t, d) = z at *
    clear h
    go_enter Tryz.func67, Tryz.ntmps67
    go_wp2
    go_loopw [3, 4] (fun vo vd wr => vo = .slice none 0 0 ∧ vd = .int .i64 f ∧ Box3 w w.heap.size (f, t, d) wr) (fun _ _ _ => 0)
    case atStart => exact ⟨rfl, rfl, hB⟩
    case round =>
      obtain ⟨rfl, rfl, hb⟩ := hrel
      obtain ⟨c0, c1, c2, c3⟩ := hb
      go_wp2_with (go_at_call 121; refine (CV.out _).mono ?_; rintro e w' ⟨rfl, hb⟩)
      go_ret
      exact ⟨_, rfl, by rw [HD.out]; exact ⟨none, 0, rfl, .inl rfl⟩, c3.trans (hb.mono c3.size)⟩
  · have he := errQ_ok h
    have HD := Lib.hid (daysQ_yes h)
    have hq := okQ_yes h
    have q0 : 0 ≤ f := hq.1
    have q1 : f ≤ t := hq.2.1
    have q2 : t < 36525 := hq.2.2.1
    have q3 : t - f < 800 := hq.2.2.2.1
    have hlen : lenQ (f, t, d) = (t - f + 1).toNat := rfl
    have CV := Lib.hid (fun W => rcheck_any f t d W)
    rw [he] at CV
    have HH := Lib.hid (daysQ_has (f, t, d))
    clear he hq
    go_enter Tryz.func67, Tryz.ntmps67
    go_wp2
    go_loopw [3, 4] (fun vo vd wr => ∃ k : Nat, k ≤ lenQ (f, t, d) ∧ vd = .int .i64 (f + k) ∧ IOwn 3 (w.heap.size + 1) wr vo (daysTo (f, t, d) k) ∧ Box3 w w.heap.size (f, t, d) wr) (fun _ vd _ => (t + 1 - intOf vd).toNat)
    case atStart => exact ⟨0, Nat.zero_le _, by simp, IOwn.nil (by simp), hB⟩
    case round =>
      obtain ⟨k, hk, rfl, hO, hb⟩ := hrel
      have hb0 := hb
      obtain ⟨c0, c1, c2, c3⟩ := hb
      by_cases hlt : k < lenQ (f, t, d)
      · have x3 : f + (k : Int) ≤ t := by omega
        have CH := Lib.hid (fun W => rhas_any f t d (f + k) W (by omega) (by omega))
        rw [show hasQ (f, t, d) (f + k) = wdB d (f + k) from HH.out k h hlt] at CH
        have hll := daysTo_len (f, t, d) k
        cases hw : wdB d (f + k)
        · have HN := Lib.hid (daysTo_miss (f, t, d) k hw)
          rw [hw] at CH
          clear hw
          go_wp2_with (first | (go_at_call 121; refine (CV.out _).mono ?_; rintro e w2 ⟨rfl, hb1⟩; have hb2 := hb0.more hb1; have d0 := hb2.1; have d1 := hb2.2.1; have d2 := hb2.2.2.1; have hO2 := hO.more hb1) | (go_at_call 75; refine (CH.out _).mono ?_; rintro e w3 ⟨rfl, hb3⟩))
          go_roundw
          case rel => exact ⟨k + 1, by omega, by congr 1; omega, by rw [HN.out]; exact hO2.more hb3, hb2.more hb3⟩
          case measure => simp [intOf]; omega
        · have HN := Lib.hid (daysTo_hit (f, t, d) k hw)
          rw [hw] at CH
          clear hw
          go_wp2_with (first | (go_at_call 121; refine (CV.out _).mono ?_; rintro e w2 ⟨rfl, hb1⟩; have hb2 := hb0.more hb1; have d0 := hb2.1; have d1 := hb2.2.1; have d2 := hb2.2.2.1; have hO2 := hO.more hb1) | (go_at_call 75; refine (CH.out _).mono ?_; rintro e w3 ⟨rfl, hb3⟩; have hO3 := hO2.more hb3) | (refine wpList_iapp rfl _ _ rfl _ (daysTo (f, t, d) k) rfl (hO3.alloc _) _ (f + k) 1 rfl (heap_alloc_new _ _) (by omega) ?_; intro v' w4 hO4 hb4))
          go_roundw
          case rel => exact ⟨k + 1, by omega, by congr 1; omega, by rw [HN.out]; exact hO4, ((hb2.more hb3).more (bel_alloc _ _)).more1 hb4⟩
          case measure => simp [intOf]; omega
      · have e : k = lenQ (f, t, d) := by omega
        subst e
        go_wp2_with (go_at_call 121; refine (CV.out _).mono ?_; rintro e w2 ⟨rfl, hb1⟩; have hb2 := hb0.more hb1; have d1 := hb2.2.1)
        go_ret
        exact ⟨_, rfl, by rw [HD.out]; exact .of_own (hO.more hb1).own, hb2.2.2.2⟩

end Go.Proofs.YtfgmlbmjjihhfaaGreatDoor.Per

/- Walk of the reference's Check of flights. -/
namespace Go.Proofs.YtfgmlbmjjihhfaaGreatDoor
open Go.RowKit Go.Shelf
set_option linter.unusedSimpArgs false
set_option linter.unusedVariables false

theorem wh_pick (s : ByteArray) (b : Bool) (e : Int) (he : e ≠ 0) : pick s [wh b e] = if b = true then [(e, s)] else [] := by
  cases b
  · rfl
  · exact pick_one s e he

set_option maxRecDepth 100000 in
set_option maxHeartbeats 16000000 in
theorem rfcheck_any (p : PV) (f : FV) (w : World) (hl : p.l.length ≤ 40) (hL : AirL w p.A p.l) (hz : ∀ a ∈ p.l, OkZ a.off a.shs) (hG : LegL w (.slice f.A f.lg.length f.c) f.lg) (hn : f.lg.length ≤ 100)
    (hc0 : f.car.size ≤ maxLen) (ho : ∀ x ∈ f.lg, OkG x) (hpf : -9223372036854775808 ≤ f.pf ∧ f.pf ≤ 9223372036854775807) :
    Calls Tryz.prog 18 #[encP p, encFl f] w fun e w' => ∃ v, e = .returned v ∧ FOwn w.heap.size w' v (chF p.l f) ∧ Below w.heap.size w w' := by
  have KH := Lib.hid (fun W => rhead_any f W hc0)
  have KLg : Hid (∀ d W, (∀ x ∈ f.lg, (-1000000 ≤ x.dep ∧ x.dep ≤ 1000000) ∧ -1000000 ≤ x.arr ∧ x.arr ≤ 1000000) → AirL W p.A p.l → LegL W (.slice f.A f.lg.length f.c) f.lg → (0 ≤ d ∧ d < 36525) → Calls Tryz.prog 69 #[encP p, encFl f, .int .i64 d] W fun e w' => ∃ v, e = .returned v ∧ ROwn datT 8 encDt W.heap.size w' v (f.lg.map (datL p.l f d)) ∧ Below W.heap.size W w') := Lib.hid (fun d W hm hA hG2 hd => rlegs7_any p f d W hl hA hz hG2 hn hm (by omega))
  obtain ⟨DL, hDL⟩ : ∃ D : Int → List Dt, D = fun d => f.lg.map (datL p.l f d) := ⟨_, rfl⟩
  have HDO : Hid (∀ d, ordD (DL d) = ordT true 0 (timL p.l f.lg d)) := Lib.hid (by rw [hDL]; exact fun d => ordD_legs p.l f d)
  have HDN : Hid (∀ d, (DL d).length ≤ 1000) := Lib.hid (by rw [hDL]; intro d; rw [List.length_map]; omega)
  have KLg : Hid (∀ d W, (∀ x ∈ f.lg, (-1000000 ≤ x.dep ∧ x.dep ≤ 1000000) ∧ -1000000 ≤ x.arr ∧ x.arr ≤ 1000000) → AirL W p.A p.l → LegL W (.slice f.A f.lg.length f.c) f.lg → (0 ≤ d ∧ d < 36525) → Calls Tryz.prog 69 #[encP p, encFl f, .int .i64 d] W fun e w' => ∃ v, e = .returned v ∧ ROwn datT 8 encDt W.heap.size w' v (DL d) ∧ Below W.heap.size W w') := Lib.hid (by rw [hDL]; exact KLg.out)
  clear hDL
  obtain ⟨HF, hHF⟩ : ∃ H, H = hdF f := ⟨_, rfl⟩
  obtain ⟨HR, hHR⟩ : ∃ H, H = hdR f := ⟨_, rfl⟩
  obtain ⟨CF, hCF⟩ : ∃ H, H = chF p.l f := ⟨_, rfl⟩
  obtain ⟨D, hD⟩ : ∃ D, D = Per.daysQ (f.pf, f.pt, f.pd) := ⟨_, rfl⟩
  have HBT : Hid (∀ x ∈ f.lg, (lgsF p.l f.lg f.lg.length = []) → (-1000000 ≤ x.dep ∧ x.dep ≤ 1000000) ∧ -1000000 ≤ x.arr ∧ x.arr ≤ 1000000) := Lib.hid (fun x hx h => lgs_times h hx)
  have HHR : Hid (HR = HF ++ pick lgsW [if (!cntB f.lg.length) = true then 4 else 0]) := Lib.hid (by rw [hHR, hHF]; rfl)
  have HCF : Hid (CF = if cntB f.lg.length = true then (if (HF ++ lgsF p.l f.lg f.lg.length).length = 0 then badD p.l f.lg D else HF ++ lgsF p.l f.lg f.lg.length) else HF ++ pick lgsW [4]) := Lib.hid (by rw [hCF, hHF, hD]; rfl)
  have HHL : Hid (HF.length ≤ 3) := Lib.hid (by rw [hHF]; exact hdF_le _)
  have HB : Hid (∀ d ∈ D, 0 ≤ d ∧ d < 36525) := Lib.hid (by rw [hD]; exact fun d => days_bd)
  have HDl : D.length ≤ 800 := by rw [hD]; exact Per.daysQ_len _
  have KD := Lib.hid (fun W => Per.rdays_any f.pf f.pt f.pd W hpf.1 hpf.2)
  rw [← hHR] at KH
  rw [← hD] at KD
  rw [← hCF]
  clear hHF hHR hCF hD
  obtain ⟨car, num, pf, pt, pd, A, c, lg⟩ := f
  dsimp only at *
  have hb1 := bel_alloc w (.cells #[.slice p.A p.l.length p.ca, .slice p.D p.ds.length p.cd] placesT)
  have hb2 := bel_alloc (w.alloc (.cells #[.slice p.A p.l.length p.ca, .slice p.D p.ds.length p.cd] placesT)) (.cells #[.string car, .int .i64 num, .int .i64 pf, .int .i64 pt, .int .i64 pd, .slice A lg.length c] fliT)
  have hb0 := hb1.trans (hb2.mono hb1.size)
  have p0 := bel_cell hb2 ((cells_new w #[.slice p.A p.l.length p.ca, .slice p.D p.ds.length p.cd] placesT 0).trans (show _ = some (.slice p.A p.l.length p.ca) from rfl))
  have p1 := bel_cell hb2 ((cells_new w #[.slice p.A p.l.length p.ca, .slice p.D p.ds.length p.cd] placesT 1).trans (show _ = some (.slice p.D p.ds.length p.cd) from rfl))
  have q0 := (cells_new (w.alloc (.cells #[.slice p.A p.l.length p.ca, .slice p.D p.ds.length p.cd] placesT)) #[.string car, .int .i64 num, .int .i64 pf, .int .i64 pt, .int .i64 pd, .slice A lg.length c] fliT 0).trans (show _ = some (Value.string car) from rfl)
  have q1 := (cells_new (w.alloc (.cells #[.slice p.A p.l.length p.ca, .slice p.D p.ds.length p.cd] placesT)) #[.string car, .int .i64 num, .int .i64 pf, .int .i64 pt, .int .i64 pd, .slice A lg.length c] fliT 1).trans (show _ = some (Value.int .i64 num) from rfl)
  have q2 := (cells_new (w.alloc (.cells #[.slice p.A p.l.length p.ca, .slice p.D p.ds.length p.cd] placesT)) #[.string car, .int .i64 num, .int .i64 pf, .int .i64 pt, .int .i64 pd, .slice A lg.length c] fliT 2).trans (show _ = some (Value.int .i64 pf) from rfl)
  have q3 := (cells_new (w.alloc (.cells #[.slice p.A p.l.length p.ca, .slice p.D p.ds.length p.cd] placesT)) #[.string car, .int .i64 num, .int .i64 pf, .int .i64 pt, .int .i64 pd, .slice A lg.length c] fliT 3).trans (show _ = some (Value.int .i64 pt) from rfl)
  have q4 := (cells_new (w.alloc (.cells #[.slice p.A p.l.length p.ca, .slice p.D p.ds.length p.cd] placesT)) #[.string car, .int .i64 num, .int .i64 pf, .int .i64 pt, .int .i64 pd, .slice A lg.length c] fliT 4).trans (show _ = some (Value.int .i64 pd) from rfl)
  have q5 := (cells_new (w.alloc (.cells #[.slice p.A p.l.length p.ca, .slice p.D p.ds.length p.cd] placesT)) #[.string car, .int .i64 num, .int .i64 pf, .int .i64 pt, .int .i64 pd, .slice A lg.length c] fliT 5).trans (show _ = some (Value.slice A lg.length c) from rfl)
  rw [World.size_alloc] at q0 q1 q2 q3 q4 q5
  have HSZ : Hid (((w.alloc (.cells #[.slice p.A p.l.length p.ca, .slice p.D p.ds.length p.cd] placesT)).alloc (.cells #[.string car, .int .i64 num, .int .i64 pf, .int .i64 pt, .int .i64 pd, .slice A lg.length c] fliT)).heap.size = w.heap.size + 2) := Lib.hid (by simp)
  have HLL := Lib.hid (hL.more hb0)
  have HGG := Lib.hid (hG.more hb0)
  have HO := Lib.hid ho
  clear hL hG ho hz hc0 hpf
  go_enter Tryz.func18, Tryz.ntmps18
  go_upto_region 1 with (fail)
  generalize hw5 : (w.alloc (.cells #[.slice p.A p.l.length p.ca, .slice p.D p.ds.length p.cd] placesT)).alloc (.cells #[.string car, .int .i64 num, .int .i64 pf, .int .i64 pt, .int .i64 pd, .slice A lg.length c] fliT) = w5 at *
  clear hw5 hb1 hb2
  have F0 := Lib.hid (bel_get q0)
  have F1 := Lib.hid (bel_get q1)
  have F2 := Lib.hid (bel_get q2)
  have F3 := Lib.hid (bel_get q3)
  have F4 := Lib.hid (bel_get q4)
  have F5 := Lib.hid (bel_get q5)
  have Y0 := Lib.hid (bel_get p0)
  have Y1 := Lib.hid (bel_get p1)
  clear p0 p1 q0 q1 q2 q3 q4 q5
  have hS0 : SW w5 w5 := Below.refl _ _
  have k0 := F0.out _ hS0
  have k1 := F1.out _ hS0
  have k2 := F2.out _ hS0
  have k3 := F3.out _ hS0
  have k4 := F4.out _ hS0
  have k5 := F5.out _ hS0
  go_upto_region 2 with (go_at_call 62; refine (KH.out _).mono ?_; rintro e w1 ⟨v1, rfl, hO1, hS1⟩)
  have hS1 : SW w5 w1 := hS1
  have k5 := F5.out _ hS1
  clear hS0 k0 k1 k2 k3 k4
  cases hcn : cntB lg.length with
  | false =>
    have HR2 : Hid (CF = HR) := Lib.hid (by rw [HCF.out, if_neg (by rw [hcn]; simp), HHR.out, hcn]; rfl)
    have hc2 : lg.length < 1 ∨ 6 < lg.length := by
      unfold cntB at hcn
      rw [Bool.and_eq_false_iff, decide_eq_false_iff_not, decide_eq_false_iff_not] at hcn
      omega
    clear hcn
    by_cases h1 : (lg.length : Int) < 1
    all_goals
      have i6 : ((lg.length : Int) < 1) ∨ (6 : Int) < (lg.length : Int) := by omega
      first | (have i7 : (6 : Int) < (lg.length : Int) := by omega) | skip
      go_wp2
      go_ret
      exact ⟨v1, rfl, by rw [HR2.out]; exact ⟨hO1.own.mono hb0.size, Nat.le_trans hb0.size hO1.base⟩, hb0.trans (Below.mono hS1 hb0.size)⟩
  | true =>
    have hc2 := cnt_bd hcn
    have HR2 : Hid (HR = HF) := Lib.hid (by rw [HHR.out, hcn]; simp [pick_zero])
    have HC2 : Hid (CF = if (HF ++ lgsF p.l lg lg.length).length = 0 then badD p.l lg D else HF ++ lgsF p.l lg lg.length) := Lib.hid (by rw [HCF.out, if_pos hcn])
    rw [HR2.out] at hO1
    have HI : Hid (FOwn w5.heap.size w1 v1 (HF ++ lgsF p.l lg 0) ∧ SW w5 w1) := Lib.hid ⟨by simpa [lgsF] using hO1, hS1⟩
    have h1 : ¬ (lg.length : Int) < 1 := by omega
    have h6 : ¬ (6 : Int) < (lg.length : Int) := by omega
    clear hcn hO1 HCF HHR HR2 KH
    go_wp2
    clear k5 hS1
    go_loopg [5, 6] lg.length (fun kx v5 vi wr => ∃ (v : Value) (k : Nat), v = v5 ∧ vi = .int .i64 k ∧ k + kx = lg.length ∧ Hid (FOwn w5.heap.size wr v (HF ++ lgsF p.l lg k) ∧ SW w5 wr))
    case atStart => exact ⟨_, 0, rfl, rfl, by omega, HI⟩
    case round =>
      obtain ⟨v, k, rfl, rfl, hkx, HH⟩ := hrel
      clear HI
      have HKX := Lib.hid hkx
      by_cases hlt : k < lg.length
      · clear hkx
        obtain ⟨b, o, x, rfl, hbl, hx, c0, c1, c2, c3, c4⟩ := LegL.get (HGG.out.more HH.out.2) hlt
        have hox := HO.out x (List.mem_of_getElem? hx)
        have hO := HH.out.1
        have hSr : SW w5 wr := HH.out.2
        have HV1 : Hid (∀ g, v.ownBlock = some g → w5.heap.size ≤ g ∧ g < wr.heap.size) := Lib.hid (fun g hg => hO.low hg)
        have hvN : v.ownBlock ≠ some wr.heap.size := fun h => by have := (HV1.out _ h).2; omega
        have hb6 := bel_alloc wr (.cells #[.string x.f, .string x.t, .int .i64 x.dep, .int .i64 x.arr, .string x.eq] legT)
        have n0 := (cells_new wr #[.string x.f, .string x.t, .int .i64 x.dep, .int .i64 x.arr, .string x.eq] legT 0).trans (show _ = some (Value.string x.f) from rfl)
        have n1 := (cells_new wr #[.string x.f, .string x.t, .int .i64 x.dep, .int .i64 x.arr, .string x.eq] legT 1).trans (show _ = some (Value.string x.t) from rfl)
        have n2 := (cells_new wr #[.string x.f, .string x.t, .int .i64 x.dep, .int .i64 x.arr, .string x.eq] legT 2).trans (show _ = some (Value.int .i64 x.dep) from rfl)
        have n3 := (cells_new wr #[.string x.f, .string x.t, .int .i64 x.dep, .int .i64 x.arr, .string x.eq] legT 3).trans (show _ = some (Value.int .i64 x.arr) from rfl)
        have n4 := (cells_new wr #[.string x.f, .string x.t, .int .i64 x.dep, .int .i64 x.arr, .string x.eq] legT 4).trans (show _ = some (Value.string x.eq) from rfl)
        have KDc := Lib.hid (rdec_small k (by omega) (wr.alloc (.cells #[.string x.f, .string x.t, .int .i64 x.dep, .int .i64 x.arr, .string x.eq] legT)))
        have KE := Lib.hid (fun w => rcode_any x.eq 3 3 w hox.eq)
        have KF1 : Hid (∀ W, SW w5 W → Calls Tryz.prog 64 #[encP p, .string x.f] W fun e w' => e = .returned (.tuple #[encA (airOf p.l x.f), .bool (findC p.l x.f).isSome]) ∧ Below W.heap.size W w') := Lib.hid (fun W h => rfind_any p x.f W hl (HLL.out.more h))
        have KF2 : Hid (∀ W, SW w5 W → Calls Tryz.prog 64 #[encP p, .string x.t] W fun e w' => e = .returned (.tuple #[encA (airOf p.l x.t), .bool (findC p.l x.t).isSome]) ∧ Below W.heap.size W w') := Lib.hid (fun W h => rfind_any p x.t W hl (HLL.out.more h))
        have KX : Hid (∀ W, SW w5 W → Calls Tryz.prog 65 #[.slice (some ⟨b, o, none⟩) lg.length c, .int .i64 (k : Int)] W fun e w' => e = .returned (.bool (!nextB (lg.take k) x)) ∧ Below W.heap.size W w') := Lib.hid (fun W h => rbroken_any (some ⟨b, o, none⟩) c lg k x W (by omega) (HGG.out.more h) hx)
        have KM1 := Lib.hid (rout_any x.dep)
        have KM2 := Lib.hid (rout_any x.arr)
        have hle : lgEs p.l (lg.take k) x = [wh (!codeB x.eq 3 3) 5, wh (!((findC p.l x.f).isSome && (findC p.l x.t).isSome)) 14, wh (!nextB (lg.take k) x) 15, wh (!(minB x.dep && minB x.arr)) 2] := rfl
        have HTk : Hid (HF ++ lgsF p.l lg (k + 1) = HF ++ lgsF p.l lg k ++ pick (legW ++ decA k) [wh (!codeB x.eq 3 3) 5] ++ pick (legW ++ decA k) [wh (!((findC p.l x.f).isSome && (findC p.l x.t).isSome)) 14] ++ pick (legW ++ decA k) [wh (!nextB (lg.take k) x) 15] ++ pick (legW ++ decA k) [wh (!(minB x.dep && minB x.arr)) 2]) := Lib.hid (by
          rw [lgsF_succ p.l lg k x hx, hle]
          simp only [List.append_assoc, ← pick_app, List.cons_append, List.nil_append])
        have HFL : Hid ((HF ++ lgsF p.l lg k).length ≤ 1000) := Lib.hid (by have h1 := lgsF_le p.l lg k; have h2 := HHL.out; rw [List.length_append]; omega)
        have hadd : ∀ W : World, (Op.stringOp .add ⟨#[108, 101, 103, 32]⟩ (decA k)).run Tryz.prog W = .ok (.string (legW ++ decA k)) W := fun W => run_string_add_sum W _ _ (by have := decA_size k (by omega); have e : (⟨#[108, 101, 103, 32]⟩ : ByteArray).size = 4 := rfl; omega)
        have i2 : (k : Int) < (lg.length : Int) := by omega
        have k5 := F5.out _ hSr
        generalize airOf p.l x.f = a1 at *
        generalize airOf p.l x.t = a2 at *
        generalize (findC p.l x.f).isSome = kf at *
        generalize (findC p.l x.t).isSome = kt at *
        generalize codeB x.eq 3 3 = ke at *
        generalize nextB (lg.take k) x = kn at *
        generalize minB x.dep = md at *
        generalize minB x.arr = ma at *
        generalize hBL : HF ++ lgsF p.l lg k = BL at *
        clear hx hox hbl hle hBL HH
        generalize hnm : legW ++ decA k = nm at *
        clear hnm
        go_upto_region 9 with (go_at_call 48; refine KDc.out.mono ?_; rintro e w6 ⟨rfl, hbd⟩)
        have hbx : Below wr.heap.size wr w6 := hb6.trans (Below.mono hbd hb6.size)
        have hO := hO.more hbx
        have HS6 : Hid (SW w5 w6) := Lib.hid (Below.trans hSr (hbx.mono hSr.size))
        have n0 := bel_cell hbd n0
        have n1 := bel_cell hbd n1
        have n2 := bel_cell hbd n2
        have n3 := bel_cell hbd n3
        have n4 := bel_cell hbd n4
        have HO6 := Lib.hid hO
        have HSW : Hid (∀ W u, Chg w6 W v u → SW w5 W) := Lib.hid (fun W u h => Below.trans HS6.out (h.below HO6.out))
        have N0 : Hid (∀ W u, Chg w6 W v u → W.cell? ⟨wr.heap.size, 0, none⟩ = some (.string x.f)) := Lib.hid (fun W u h => h.cell n0 hvN)
        have N1 : Hid (∀ W u, Chg w6 W v u → W.cell? ⟨wr.heap.size, 1, none⟩ = some (.string x.t)) := Lib.hid (fun W u h => h.cell n1 hvN)
        have N2 : Hid (∀ W u, Chg w6 W v u → W.cell? ⟨wr.heap.size, 2, none⟩ = some (.int .i64 x.dep)) := Lib.hid (fun W u h => h.cell n2 hvN)
        have N3 : Hid (∀ W u, Chg w6 W v u → W.cell? ⟨wr.heap.size, 3, none⟩ = some (.int .i64 x.arr)) := Lib.hid (fun W u h => h.cell n3 hvN)
        clear k5 c0 c1 c2 c3 c4 hb6 hbd hbx hSr n0 n1 n2 n3 hadd KDc
        go_upto_if 46 with (go_at_call 63; refine (KE.out _).mono ?_; rintro e w' ⟨rfl, rfl⟩)
        go_cut [5] from 28 to 98 (fun u wx => Hid (FOwn w5.heap.size wx u (BL ++ pick nm [wh (!ke) 5]) ∧ Chg w6 wx v u))
        case first =>
          have HLn : Hid (BL.length ≤ 100000000) := Lib.hid (by have := HFL.out; omega)
          cases ke with
          | true =>
            go_wp2
            go_meet
            exact Lib.hid ⟨by rw [wh_pick _ _ _ (by omega)]; simpa using hO, Chg.refl _ _⟩
          | false =>
            go_wp2_with (at_builtin; refine wpList_rapp rtF rfl _ _ rfl hO rfl (bel_alloc _ _) _ (5, nm) _ rfl (cs := #[.int .i64 5, .string nm]) rfl (heap_alloc_new _ _) HLn.out ?_; intro v1 w1 hO1 hC1)
            go_meet
            exact Lib.hid ⟨by rw [wh_pick _ _ _ (by omega)]; exact hO1, hC1⟩
        case rest =>
          have hO := hcut.out.1
          have hC := hcut.out.2
          have hS := HSW.out _ _ hC
          have m0 := N0.out _ _ hC
          have m1 := N1.out _ _ hC
          have y0 := Y0.out _ hS
          have y1 := Y1.out _ hS
          clear hcut n4 HO6
          go_upto_region 13 with (first | (go_at_call 64; with_reducible refine (KF2.out _ hS7).mono ?_; rintro e w8 ⟨rfl, hb8⟩) | (go_at_call 64; with_reducible refine (KF1.out _ hS).mono ?_; rintro e w7 ⟨rfl, hb7⟩; have hS7 : SW w5 (w7.alloc (.cells #[.string a1.code, .string a1.city, .string a1.land, .int .i64 a1.off, .slice a1.A a1.shs.length a1.c] airT)) := Below.alloc (Below.trans hS (Below.mono hb7 hS.size)) (Nat.le_trans hS.size hb7.size) _; have y0 := Y0.out _ hS7; have y1 := Y1.out _ hS7; have m1 := bel_cell (bel_alloc w7 (.cells #[.string a1.code, .string a1.city, .string a1.land, .int .i64 a1.off, .slice a1.A a1.shs.length a1.c] airT)) (bel_cell hb7 m1)))
          have hb9 : Below wc.heap.size wc (w8.alloc (.cells #[.string a2.code, .string a2.city, .string a2.land, .int .i64 a2.off, .slice a2.A a2.shs.length a2.c] airT)) := (((Below.alloc hb7 hb7.size (.cells #[.string a1.code, .string a1.city, .string a1.land, .int .i64 a1.off, .slice a1.A a1.shs.length a1.c] airT)).trans (Below.mono hb8 (Nat.le_trans hb7.size (bel_alloc w7 (.cells #[.string a1.code, .string a1.city, .string a1.land, .int .i64 a1.off, .slice a1.A a1.shs.length a1.c] airT)).size))).alloc (Nat.le_trans hb7.size (Nat.le_trans (bel_alloc w7 (.cells #[.string a1.code, .string a1.city, .string a1.land, .int .i64 a1.off, .slice a1.A a1.shs.length a1.c] airT)).size hb8.size)) (.cells #[.string a2.code, .string a2.city, .string a2.land, .int .i64 a2.off, .slice a2.A a2.shs.length a2.c] airT))
          have hO := hO.more hb9
          have hC := hC.trans (Chg.of_below hb9)
          generalize hw9 : w8.alloc (.cells #[.string a2.code, .string a2.city, .string a2.land, .int .i64 a2.off, .slice a2.A a2.shs.length a2.c] airT) = w9 at *
          clear hb9 m0 m1 y0 y1 hS hS7 hb7 hb8 hw9
          go_cut [71] from 28 to 98 (fun v71 wx => v71 = .bool (!(kf && kt)) ∧ wx = w9)
          case first =>
            cases kf with
            | false =>
              go_wp2
              go_meet
              exact ⟨rfl, rfl⟩
            | true =>
              go_wp2
              go_meet
              exact ⟨rfl, rfl⟩
          case rest =>
            obtain ⟨rfl, hwc⟩ := hcut
            obtain rfl := hwc
            generalize (kf && kt) = kb at *
            go_upto_if 71 with fail
            go_cut [5] from 28 to 98 (fun u wx => Hid (FOwn w5.heap.size wx u (BL ++ pick nm [wh (!ke) 5] ++ pick nm [wh (!kb) 14]) ∧ Chg w6 wx v u))
            case first =>
              have HLn : Hid ((BL ++ pick nm [wh (!ke) 5]).length ≤ 100000000) := Lib.hid (by have h9 := HFL.out; have h0 := pick_le nm [wh (!ke) 5]; have h1 := pick_le nm [wh (!kb) 14]; have h2 := pick_le nm [wh (!kn) 15]; simp only [List.length_append, List.length_cons, List.length_nil] at h0 h1 h2 ⊢; omega)
              cases kb with
              | true =>
                go_wp2
                go_meet
                exact Lib.hid ⟨by rw [wh_pick nm (!true) 14 (by omega)]; simpa using hO, hC⟩
              | false =>
                go_wp2_with (at_builtin; refine wpList_rapp rtF rfl _ _ rfl hO rfl (bel_alloc _ _) _ (14, nm) _ rfl (cs := #[.int .i64 14, .string nm]) rfl (heap_alloc_new _ _) HLn.out ?_; intro v1 w1 hO1 hC1)
                go_meet
                exact Lib.hid ⟨by rw [wh_pick nm (!false) 14 (by omega)]; exact hO1, hC.trans hC1⟩
            case rest =>
              have hO := hcut.out.1
              have hC := hcut.out.2
              have hS := HSW.out _ _ hC
              have k5 := F5.out _ hS
              clear hcut
              go_upto_if 80 with (go_at_call 65; refine (KX.out _ hS).mono ?_; rintro e w2 ⟨rfl, hb2⟩)
              have hO := hO.more hb2
              have hC := hC.trans (Chg.of_below hb2)
              clear hb2 hS k5
              go_cut [5] from 28 to 98 (fun u wx => Hid (FOwn w5.heap.size wx u (BL ++ pick nm [wh (!ke) 5] ++ pick nm [wh (!kb) 14] ++ pick nm [wh (!kn) 15]) ∧ Chg w6 wx v u))
              case first =>
                have HLn : Hid ((BL ++ pick nm [wh (!ke) 5] ++ pick nm [wh (!kb) 14]).length ≤ 100000000) := Lib.hid (by have h9 := HFL.out; have h0 := pick_le nm [wh (!ke) 5]; have h1 := pick_le nm [wh (!kb) 14]; have h2 := pick_le nm [wh (!kn) 15]; simp only [List.length_append, List.length_cons, List.length_nil] at h0 h1 h2 ⊢; omega)
                cases kn with
                | true =>
                  go_wp2
                  go_meet
                  exact Lib.hid ⟨by rw [wh_pick nm (!true) 15 (by omega)]; simpa using hO, hC⟩
                | false =>
                  go_wp2_with (at_builtin; refine wpList_rapp rtF rfl _ _ rfl hO rfl (bel_alloc _ _) _ (15, nm) _ rfl (cs := #[.int .i64 15, .string nm]) rfl (heap_alloc_new _ _) HLn.out ?_; intro v1 w1 hO1 hC1)
                  go_meet
                  exact Lib.hid ⟨by rw [wh_pick nm (!false) 15 (by omega)]; exact hO1, hC.trans hC1⟩
              case rest =>
                have hO := hcut.out.1
                have hC := hcut.out.2
                have m2 := N2.out _ _ hC
                have m3 := N3.out _ _ hC
                clear hcut
                go_upto_region 17 with fail
                go_cut [93] from 28 to 98 (fun v93 wx => v93 = .bool (!(md && ma)) ∧ wx = wc)
                case first =>
                  cases md with
                  | false =>
                    go_wp2_with (go_at_call 66; first | (with_reducible refine (KM1.out _).mono ?_; rintro e w' ⟨rfl, rfl⟩) | (with_reducible refine (KM2.out _).mono ?_; rintro e w' ⟨rfl, rfl⟩))
                    go_meet
                    exact ⟨rfl, rfl⟩
                  | true =>
                    go_wp2_with (go_at_call 66; first | (with_reducible refine (KM1.out _).mono ?_; rintro e w' ⟨rfl, rfl⟩) | (with_reducible refine (KM2.out _).mono ?_; rintro e w' ⟨rfl, rfl⟩))
                    go_meet
                    exact ⟨rfl, rfl⟩
                case rest =>
                  obtain ⟨rfl, hwc⟩ := hcut
                  obtain rfl := hwc
                  clear m2 m3
                  generalize (md && ma) = mb at *
                  go_upto_if 93 with fail
                  have HLn : Hid ((BL ++ pick nm [wh (!ke) 5] ++ pick nm [wh (!kb) 14] ++ pick nm [wh (!kn) 15]).length ≤ 100000000) := Lib.hid (by have h9 := HFL.out; have h0 := pick_le nm [wh (!ke) 5]; have h1 := pick_le nm [wh (!kb) 14]; have h2 := pick_le nm [wh (!kn) 15]; simp only [List.length_append, List.length_cons, List.length_nil] at h0 h1 h2 ⊢; omega)
                  cases mb with
                  | true =>
                    have HY : Hid (FOwn w5.heap.size wc _ (HF ++ lgsF p.l lg (k + 1)) ∧ SW w5 wc) := Lib.hid ⟨by rw [HTk.out, wh_pick nm (!true) 2 (by omega)]; simpa using hO, HSW.out _ _ hC⟩
                    clear hO hC
                    go_wp2
                    go_roundg (lg.length - (k + 1))
                    case measure => have := HKX.out; omega
                    case rel => exact ⟨_, k + 1, rfl, by go_num, by omega, HY⟩
                  | false =>
                    go_wp2_with (at_builtin; refine wpList_rapp rtF rfl _ _ rfl hO rfl (bel_alloc _ _) _ (2, nm) _ rfl (cs := #[.int .i64 2, .string nm]) rfl (heap_alloc_new _ _) HLn.out ?_; intro v9 w9 hO1 hC1)
                    have HY : Hid (FOwn w5.heap.size w9 v9 (HF ++ lgsF p.l lg (k + 1)) ∧ SW w5 w9) := Lib.hid ⟨by rw [HTk.out, wh_pick nm (!false) 2 (by omega)]; exact hO1, HSW.out _ _ (hC.trans hC1)⟩
                    clear hO hC hO1 hC1
                    go_roundg (lg.length - (k + 1))
                    case measure => have := HKX.out; omega
                    case rel => exact ⟨_, k + 1, rfl, by go_num, by omega, HY⟩
      · have hk : k = lg.length := by omega
        have hO := HH.out.1
        have hSr : SW w5 wr := HH.out.2
        have HBT2 : Hid (HF ++ lgsF p.l lg k = [] → ∀ x ∈ lg, (-1000000 ≤ x.dep ∧ x.dep ≤ 1000000) ∧ -1000000 ≤ x.arr ∧ x.arr ≤ 1000000) := Lib.hid (by
          rw [hk]
          exact fun h x hx => HBT.out x hx (List.append_eq_nil_iff.1 h).2)
        have HC3 : Hid (CF = if (HF ++ lgsF p.l lg k).length = 0 then badD p.l lg (D.drop 0) else HF ++ lgsF p.l lg k) := Lib.hid (by rw [HC2.out, hk]; rfl)
        have HBL : Hid ((HF ++ lgsF p.l lg k).length ≤ 1000) := Lib.hid (by have h1 := lgsF_le p.l lg k; have h2 := HHL.out; rw [List.length_append]; omega)
        generalize hBL : HF ++ lgsF p.l lg k = BL at *
        have i1 : ¬ (k : Int) < (lg.length : Int) := by omega
        have k5 := F5.out _ hSr
        have k2 := F2.out _ hSr
        have k3 := F3.out _ hSr
        have k4 := F4.out _ hSr
        clear HH hkx hk hBL HC2 HBT
        go_wp2_with (go_at_call 67; refine (KD.out _).mono ?_; rintro e w2 ⟨v2, rfl, ⟨A2, c2, rfl, hI⟩, hbd⟩)
        have hO := hO.more hbd
        have hS2 : SW w5 w2 := Below.trans hSr (Below.mono hbd hSr.size)
        have HI2 := Lib.hid hI
        clear hI hbd k5 k2 k3 k4 hSr
        go_loopg [5, 14] D.length (fun kx v5 vi wr => ∃ (u : Value) (j : Nat) (Lc : List Flt), u = v5 ∧ vi = .int .i64 j ∧ j + kx = D.length ∧ Hid (FOwn w5.heap.size wr u Lc ∧ SW w5 wr ∧ Lc.length ≤ 1000) ∧ Hid (Lc.length = 0 → BL = [] ∧ SW w2 wr) ∧ Hid (CF = if Lc.length = 0 then badD p.l lg (D.drop j) else Lc))
        case atStart => exact ⟨_, 0, BL, rfl, rfl, by omega, Lib.hid ⟨hO, hS2, HBL.out⟩, Lib.hid (fun h => ⟨List.eq_nil_of_length_eq_zero h, Below.refl _ _⟩), HC3⟩
        case round =>
          obtain ⟨u, j, Lc, rfl, rfl, hjx, HH, HZ, HC⟩ := hrel
          have HJX := Lib.hid hjx
          have hO := HH.out.1
          have hS : SW w5 wr := HH.out.2.1
          clear HC3 HBL hS2
          obtain ⟨Au, cu, rfl, hvc⟩ := id (hO.rowL rtF.len)
          clear hvc
          by_cases hl0 : Lc.length = 0
          · obtain ⟨hBN, hSw2⟩ := HZ.out hl0
            have HCb : Hid (CF = badD p.l lg (D.drop j)) := Lib.hid (by rw [HC.out, if_pos hl0])
            have hLn := List.eq_nil_of_length_eq_zero hl0
            subst hLn
            have HT := Lib.hid (HBT2.out hBN)
            by_cases hlt2 : j < D.length
            · have i4 : (j : Int) < (D.length : Int) := by omega
              obtain ⟨b, o, rfl, hlb, hc⟩ : ∃ b o, A2 = some ⟨b, o, none⟩ ∧ b < w2.heap.size ∧ w2.cell? ⟨b, o + j, none⟩ = some (.int .i64 D[j]) := by
                rcases HI2.out with h | ⟨b, o, h1, h2, h3⟩
                · rw [h] at hlt2; simp at hlt2
                · exact ⟨b, o, h1, h2, h3 j hlt2⟩
              have hcr := bel_cell hSw2 hc
              have HB2 := Lib.hid (HCb.out.trans (badD_at hlt2))
              have hd := HB.out _ (List.getElem_mem hlt2)
              have HNX : Hid (j + 1 + (D.length - (j + 1)) = D.length) := Lib.hid (by omega)
              generalize D[j] = d at *
              have hBo := HDO.out d
              have KL2 : Hid (∀ W, SW wr W → Calls Tryz.prog 69 #[encP p, .agg #[.string car, .int .i64 num, .int .i64 pf, .int .i64 pt, .int .i64 pd, .slice A lg.length c], .int .i64 d] W fun e w' => ∃ v, e = .returned v ∧ RowL 8 encDt w' v (DL d) ∧ SW wr w') := Lib.hid (fun W h => (KLg.out d W HT.out (HLL.out.more (Below.trans hS (Below.mono h hS.size))) (HGG.out.more (Below.trans hS (Below.mono h hS.size))) hd).mono (by rintro e w' ⟨v, rfl, h1, h2⟩; exact ⟨v, rfl, h1.rowL rtD.len, Below.trans h (Below.mono h2 h.size)⟩))
              have KO2 : Hid (∀ u W, RowL 8 encDt W u (DL d) → SW wr W → Calls Tryz.prog 68 #[u] W fun e w' => e = .returned (.bool (ordT true 0 (timL p.l lg d))) ∧ SW wr w') := Lib.hid (fun u W hu h => (rordered_any u (DL d) W hu (HDN.out d)).mono (by rintro e w' ⟨rfl, h2⟩; exact ⟨by rw [hBo], Below.trans h (Below.mono h2 h.size)⟩))
              have KPr := Lib.hid (rprint_any d)
              generalize ordT true 0 (timL p.l lg d) = ob at *
              have e0 := bel_get hcr
              have e1 : ∀ W, SW wr W → W.cell? ⟨w.heap.size, 0, none⟩ = some (.slice p.A p.l.length p.ca) := fun W h => Y0.out W (Below.trans hS (Below.mono h hS.size))
              have e2 : ∀ W, SW wr W → W.cell? ⟨w.heap.size, 1, none⟩ = some (.slice p.D p.ds.length p.cd) := fun W h => Y1.out W (Below.trans hS (Below.mono h hS.size))
              have g0 : ∀ W, SW wr W → W.cell? ⟨w.heap.size + 1, 0, none⟩ = some (.string car) := fun W h => F0.out W (Below.trans hS (Below.mono h hS.size))
              have g1 : ∀ W, SW wr W → W.cell? ⟨w.heap.size + 1, 1, none⟩ = some (.int .i64 num) := fun W h => F1.out W (Below.trans hS (Below.mono h hS.size))
              have g2 : ∀ W, SW wr W → W.cell? ⟨w.heap.size + 1, 2, none⟩ = some (.int .i64 pf) := fun W h => F2.out W (Below.trans hS (Below.mono h hS.size))
              have g3 : ∀ W, SW wr W → W.cell? ⟨w.heap.size + 1, 3, none⟩ = some (.int .i64 pt) := fun W h => F3.out W (Below.trans hS (Below.mono h hS.size))
              have g4 : ∀ W, SW wr W → W.cell? ⟨w.heap.size + 1, 4, none⟩ = some (.int .i64 pd) := fun W h => F4.out W (Below.trans hS (Below.mono h hS.size))
              have g5 : ∀ W, SW wr W → W.cell? ⟨w.heap.size + 1, 5, none⟩ = some (.slice A lg.length c) := fun W h => F5.out W (Below.trans hS (Below.mono h hS.size))
              have HBN := Lib.hid hBN
              clear hjx HH HZ HC hBN hc hcr hBo HCb hl0 hlb
              go_upto_region 23 with (fail)
              have HSk : Hid (SW w5 wr) := Lib.hid hS
              have hS : (SW wr) _ := SW.drew _
              refine wp_region_held_drew (S := SW wr) (by kernel_rfl) hS (fun _ => ?_)
              refine wpAnyH_take (i := 0) (v := ?vD0) rfl (by kernel_rfl) (by kernel_rfl) (by kernel_rfl) (fun _ _ _ h => h) (Or.inl ⟨by rfl, ?hyD0⟩) hS ?restD0
              case hyD0 =>
                intro w hSw
                have k0 := e1 w hSw; have k1 := e2 w hSw
                first | (go_simp; done) | (go_simp; with_reducible rfl)
              try simp only [Act.put, List.setIfInBounds_toArray, List.set_cons_zero, List.set_cons_succ]
              refine wpAnyH_take (i := 1) (v := ?vD1) rfl (by kernel_rfl) (by kernel_rfl) (by kernel_rfl) (fun _ _ _ h => h) (Or.inl ⟨by rfl, ?hyD1⟩) hS ?restD1
              case hyD1 =>
                intro w hSw
                have k0 := g0 w hSw; have k1 := g1 w hSw; have k2 := g2 w hSw; have k3 := g3 w hSw; have k4 := g4 w hSw; have k5 := g5 w hSw
                first | (go_simp; done) | (go_simp; with_reducible rfl)
              try simp only [Act.put, List.setIfInBounds_toArray, List.set_cons_zero, List.set_cons_succ]
              refine wpAnyH_take (i := 2) (v := ?vD2) rfl (by kernel_rfl) (by kernel_rfl) (by kernel_rfl) (fun _ _ _ h => h) (Or.inl ⟨by rfl, ?hyD2⟩) hS ?restD2
              case hyD2 =>
                intro w hSw
                first | (go_simp; done) | (go_simp; with_reducible rfl)
              try simp only [Act.put, List.setIfInBounds_toArray, List.set_cons_zero, List.set_cons_succ]
              refine wpAnyH_take (i := 3) (v := ?vD3) rfl (by kernel_rfl) (by kernel_rfl) (by kernel_rfl) (fun _ _ _ h => h) (Or.inl ⟨by rfl, ?hyD3⟩) hS ?restD3
              case hyD3 =>
                intro w hSw
                first | (go_simp; done) | (go_simp; with_reducible rfl)
              try simp only [Act.put, List.setIfInBounds_toArray, List.set_cons_zero, List.set_cons_succ]
              refine wpAnyH_take (i := 4) (v := ?vD4) rfl (by kernel_rfl) (by kernel_rfl) (by kernel_rfl) (fun _ _ _ h => h) (Or.inl ⟨by rfl, ?hyD4⟩) hS ?restD4
              case hyD4 =>
                intro w hSw
                first | (go_simp; done) | (go_simp; with_reducible rfl)
              try simp only [Act.put, List.setIfInBounds_toArray, List.set_cons_zero, List.set_cons_succ]
              refine wpAnyH_take (i := 5) (v := ?vD5) rfl (by kernel_rfl) (by kernel_rfl) (by kernel_rfl) (fun _ _ _ h => h) (Or.inl ⟨by rfl, ?hyD5⟩) hS ?restD5
              case hyD5 =>
                intro w hSw
                have k0 := e0 w hSw
                first | (go_simp; done) | (go_simp; with_reducible rfl)
              try simp only [Act.put, List.setIfInBounds_toArray, List.set_cons_zero, List.set_cons_succ]
              refine wpAnyH_ready (rs := [6]) (by kernel_rfl) (by simp) ?_
              refine AllReadyH.cons rfl (fun K hK => ?_) AllReadyH.nil
              go_simp
              go_wp2_with ((go_at_call 69; refine (KL2.out _ hS).mono ?_; rintro e w7 ⟨u7, rfl, hD7, hS⟩))
              refine hK.out _ _ hS (fun _ => ?_)
              clear hK K
              refine wpAnyH_ready (rs := [7]) (by kernel_rfl) (by simp) ?_
              refine AllReadyH.cons rfl (fun K hK => ?_) AllReadyH.nil
              go_simp
              go_wp2_with ((go_at_call 68; refine (KO2.out u7 _ hD7 hS).mono ?_; rintro e w8 ⟨rfl, hS⟩))
              refine hK.out _ _ hS (fun _ => ?_)
              clear hK K
              refine wpAnyH_take (i := 8) (v := ?vD8) rfl (by kernel_rfl) (by kernel_rfl) (by kernel_rfl) (fun _ _ _ h => h) (Or.inl ⟨by rfl, ?hyD8⟩) hS ?restD8
              case hyD8 =>
                intro w hSw
                first | (go_simp; done) | (go_simp; with_reducible rfl)
              try simp only [Act.put, List.setIfInBounds_toArray, List.set_cons_zero, List.set_cons_succ]
              refine wpAnyH_done (by kernel_rfl) ?_ _
              simp only [List.getElem_toArray, List.getElem_cons_succ, List.getElem_cons_zero, List.set_cons_zero, List.set_cons_succ]
              have hSk : SW w5 w8 := Below.trans HSk.out (Below.mono hS HSk.out.size)
              have hO := hO.more hS
              have z0 := e0 _ hS
              have hS2w : SW w2 w8 := Below.trans hSw2 (Below.mono hS hSw2.size)
              clear hSw2
              cases ob with
              | true =>
                have HR : Hid (CF = badD p.l lg (D.drop (j + 1))) := Lib.hid (by rw [HB2.out]; rfl)
                go_wp2
                go_roundg (D.length - (j + 1))
                case measure => have := HJX.out; omega
                case rel => exact ⟨_, j + 1, [], rfl, by go_num, HNX.out, Lib.hid ⟨hO, hSk, by simp⟩, Lib.hid (fun _ => ⟨HBN.out, hS2w⟩), HR⟩
              | false =>
                obtain ⟨X, hX⟩ : ∃ X, X = (⟨(printL d).toArray⟩ : ByteArray) := ⟨_, rfl⟩
                rw [← hX] at KPr
                have HR : Hid (CF = [(13, dayW ++ X)]) := Lib.hid (by rw [HB2.out, hX]; rfl)
                have hzX : X.size ≤ 10 := by rw [hX]; exact Per.print_len10 d
                have A1 := fun W => run_string_add_sum (P := Tryz.prog) (w := W) (⟨#[100, 97, 121, 32]⟩ : ByteArray) X (by show 4 + X.size ≤ _; omega)
                clear hX
                go_wp2_with (first
                  | (go_at_call 70; refine (KPr.out _).mono ?_; rintro e w9 ⟨rfl, hb9⟩; have hO := hO.more hb9; have hSk : SW w5 w9 := Below.trans hSk (Below.mono hb9 hSk.size))
                  | (at_builtin; refine wpList_rapp rtF rfl _ _ rfl hO rfl (bel_alloc _ _) _ (13, dayW ++ X) _ rfl (cs := #[.int .i64 13, .string (dayW ++ X)]) rfl (heap_alloc_new _ _) (by simp) ?_; intro v9 w10 hO1 hC1))
                have hSz : SW w5 w10 := Below.trans hSk (hC1.below hO)
                go_roundg (D.length - (j + 1))
                case measure => have := HJX.out; omega
                case rel => exact ⟨_, j + 1, [(13, dayW ++ X)], rfl, by go_num, HNX.out, Lib.hid ⟨hO1, hSz, by simp⟩, Lib.hid (fun h => by simp at h), Lib.hid (by rw [HR.out]; rfl)⟩
            · have HR : Hid (CF = []) := Lib.hid (by rw [HCb.out, List.drop_of_length_le (by omega)]; rfl)
              have i4 : ¬ (j : Int) < (D.length : Int) := by omega
              clear HH HZ HC hl0 hjx hBN HCb
              go_wp2
              go_ret
              exact ⟨_, rfl, by rw [HR.out]; exact ⟨hO.own.mono hb0.size, Nat.le_trans hb0.size hO.base⟩, hb0.trans (Below.mono hS hb0.size)⟩
          · have HR : Hid (CF = Lc) := Lib.hid (by rw [HC.out, if_neg hl0])
            have i4 : ((Lc.length : Int) == 0) = false := by rw [beq_eq_false_iff_ne]; omega
            clear HH HZ HC hl0 hjx
            go_wp2
            go_ret
            exact ⟨_, rfl, by rw [HR.out]; exact ⟨hO.own.mono hb0.size, Nat.le_trans hb0.size hO.base⟩, hb0.trans (Below.mono hS hb0.size)⟩

end Go.Proofs.YtfgmlbmjjihhfaaGreatDoor

/- Walk of the reference's SameFaults. -/
namespace Go.Proofs.YtfgmlbmjjihhfaaGreatDoor
open Go.RowKit Go.Shelf
set_option linter.unusedSimpArgs false
set_option linter.unusedVariables false

set_option maxRecDepth 100000 in
set_option maxHeartbeats 4000000 in
/-- equal lists are found equal -/
theorem samF7_any (u v : Value) (l : List Flt) (w : World) (hu : FltL w u l) (hv : FltL w v l) (hl : l.length ≤ 1000000) :
    Calls Tryz.prog 16 #[u, v] w fun e w' => e = .returned (.bool true) ∧ Below w.heap.size w w' := by
  obtain ⟨A, c, rfl, hA⟩ := hu
  obtain ⟨A', c', rfl, hA'⟩ := hv
  have HA : Hid (∀ k, k < l.length → ∃ b o x, A = some ⟨b, o, none⟩ ∧ l[k]? = some x ∧ w.cell? ⟨b, o + k * 2, none⟩ = some (.int .i64 x.1) ∧ w.cell? ⟨b, o + k * 2 + 1, none⟩ = some (.string x.2)) := Lib.hid (fun k hk => by
    rcases hA with h | ⟨b, o, h1, h2, h3⟩
    · rw [h] at hk; simp at hk
    · exact ⟨b, o, l[k], h1, List.getElem?_eq_getElem hk, h3 k _ 0 _ (List.getElem?_eq_getElem hk) rfl, h3 k _ 1 _ (List.getElem?_eq_getElem hk) rfl⟩)
  have HA' : Hid (∀ k, k < l.length → ∃ b o x, A' = some ⟨b, o, none⟩ ∧ l[k]? = some x ∧ w.cell? ⟨b, o + k * 2, none⟩ = some (.int .i64 x.1) ∧ w.cell? ⟨b, o + k * 2 + 1, none⟩ = some (.string x.2)) := Lib.hid (fun k hk => by
    rcases hA' with h | ⟨b, o, h1, h2, h3⟩
    · rw [h] at hk; simp at hk
    · exact ⟨b, o, l[k], h1, List.getElem?_eq_getElem hk, h3 k _ 0 _ (List.getElem?_eq_getElem hk) rfl, h3 k _ 1 _ (List.getElem?_eq_getElem hk) rfl⟩)
  clear hA hA'
  go_enter Tryz.func16, Tryz.ntmps16
  go_wp2
  go_loopw [5] (fun vi wr => ∃ k : Nat, k ≤ l.length ∧ vi = .int .i64 k ∧ SW w wr) (fun vi _ => l.length - (intOf vi).toNat)
  case atStart => exact ⟨0, Nat.zero_le _, rfl, Below.refl _ _⟩
  case round =>
    obtain ⟨k, hk, rfl, hS⟩ := hrel
    by_cases hlt : k < l.length
    · obtain ⟨b, o, x, rfl, hx, c0, c1⟩ := HA.out k hlt
      obtain ⟨b', o', x', rfl, hx', d0, d1⟩ := HA'.out k hlt
      rw [hx] at hx'
      obtain rfl := Option.some.inj hx'
      have i2 : (k : Int) < (l.length : Int) := by omega
      have f0 := SW.cell (bel_cell hS c0)
      have f1 := SW.cell (bel_cell hS c1)
      have f2 := SW.cell (bel_cell hS d0)
      have f3 := SW.cell (bel_cell hS d1)
      clear hx hx' c0 c1 d0 d1
      go_wp2
      have hNe : Nonempty (Wd (SW wr)) := ⟨⟨_, SW.drew _⟩⟩
      refine quietS (S := SW wr) (by kernel_rfl) (by kernel_rfl) (SW.drew _) ?_
      repeat (first | go_big_quiet_skip | (go_big_quiet_want; go_big_quiet_op; first | go_big_quiet_on | go_big_quiet_call ((fail))))
      refine wpQuiet_nil ?_
      rintro W ⟨⟨_, hW⟩, rfl⟩
      go_wp2
      go_roundw
      case rel => exact ⟨k + 1, by omega, by go_num, Below.trans hS (Below.mono hW hS.size)⟩
      case measure => simp [intOf]; omega
    · go_wp2
      go_ret
      exact ⟨rfl, hS⟩


end Go.Proofs.YtfgmlbmjjihhfaaGreatDoor

/- Walks of right and of the law FlightChecks. -/
namespace Go.Proofs.YtfgmlbmjjihhfaaGreatDoor
open Go.RowKit Go.Shelf
set_option linter.unusedSimpArgs false
set_option linter.unusedVariables false

theorem chF_le (l : List Air) (f : FV) (h : f.lg.length ≤ 100) : (chF l f).length ≤ 1000 := by
  have h1 := hdF_le f
  have h2 := lgsF_le l f.lg f.lg.length
  have h3 := pick_le lgsW [4]
  have h4 : ∀ D, (badD l f.lg D).length ≤ 1 := by
    intro D
    induction D with
    | nil => simp [badD]
    | cons d r ih => unfold badD; split; exact ih; simp
  have h5 : (timF l f).length ≤ 1 := h4 _
  unfold chF
  split
  · split
    · omega
    · rw [List.length_append]; omega
  · rw [List.length_append]; simp only [List.length_cons, List.length_nil] at h3; omega
/-- places and a flight that are small and without violations -/
structure RightF (p : PV) (f : FV) : Prop where
  lg : f.lg.length ≤ 12
  la : p.l.length ≤ 20
  ld : p.ds.length ≤ 40
  chk : chkP p = []
  ch : chF p.l f = []
set_option maxRecDepth 100000 in
set_option maxHeartbeats 8000000 in
theorem right_any (p : PV) (f : FV) (w : World) (hP : PlL w p) (hA : ∀ a ∈ p.l, OkA a) (hD : ∀ d ∈ p.ds, OkD d) (h1 : p.l.length < 9223372036854775808) (h2 : p.ds.length < 9223372036854775808) (hG : LegL w (.slice f.A f.lg.length f.c) f.lg) (of : OkFl f) :
    Calls Tryz.prog 19 #[encP p, encFl f] w fun e w' => ∃ v : Value, e = .returned v ∧ Hid (v = .bool false ∨ (v = .bool true ∧ RightF p f)) ∧ Below w.heap.size w w' := by
  have hb1 := bel_alloc w (.cells #[.slice p.A p.l.length p.ca, .slice p.D p.ds.length p.cd] placesT)
  have hb2 := bel_alloc (w.alloc (.cells #[.slice p.A p.l.length p.ca, .slice p.D p.ds.length p.cd] placesT)) (.cells #[.string f.car, .int .i64 f.num, .int .i64 f.pf, .int .i64 f.pt, .int .i64 f.pd, .slice f.A f.lg.length f.c] fliT)
  have hb0 := hb1.trans (hb2.mono hb1.size)
  have p0 := bel_cell hb2 ((cells_new w #[.slice p.A p.l.length p.ca, .slice p.D p.ds.length p.cd] placesT 0).trans (show _ = some (Value.slice p.A p.l.length p.ca) from rfl))
  have p1 := bel_cell hb2 ((cells_new w #[.slice p.A p.l.length p.ca, .slice p.D p.ds.length p.cd] placesT 1).trans (show _ = some (Value.slice p.D p.ds.length p.cd) from rfl))
  have q0 := (cells_new (w.alloc (.cells #[.slice p.A p.l.length p.ca, .slice p.D p.ds.length p.cd] placesT)) #[.string f.car, .int .i64 f.num, .int .i64 f.pf, .int .i64 f.pt, .int .i64 f.pd, .slice f.A f.lg.length f.c] fliT 0).trans (show _ = some (Value.string f.car) from rfl)
  have q1 := (cells_new (w.alloc (.cells #[.slice p.A p.l.length p.ca, .slice p.D p.ds.length p.cd] placesT)) #[.string f.car, .int .i64 f.num, .int .i64 f.pf, .int .i64 f.pt, .int .i64 f.pd, .slice f.A f.lg.length f.c] fliT 1).trans (show _ = some (Value.int .i64 f.num) from rfl)
  have q2 := (cells_new (w.alloc (.cells #[.slice p.A p.l.length p.ca, .slice p.D p.ds.length p.cd] placesT)) #[.string f.car, .int .i64 f.num, .int .i64 f.pf, .int .i64 f.pt, .int .i64 f.pd, .slice f.A f.lg.length f.c] fliT 2).trans (show _ = some (Value.int .i64 f.pf) from rfl)
  have q3 := (cells_new (w.alloc (.cells #[.slice p.A p.l.length p.ca, .slice p.D p.ds.length p.cd] placesT)) #[.string f.car, .int .i64 f.num, .int .i64 f.pf, .int .i64 f.pt, .int .i64 f.pd, .slice f.A f.lg.length f.c] fliT 3).trans (show _ = some (Value.int .i64 f.pt) from rfl)
  have q4 := (cells_new (w.alloc (.cells #[.slice p.A p.l.length p.ca, .slice p.D p.ds.length p.cd] placesT)) #[.string f.car, .int .i64 f.num, .int .i64 f.pf, .int .i64 f.pt, .int .i64 f.pd, .slice f.A f.lg.length f.c] fliT 4).trans (show _ = some (Value.int .i64 f.pd) from rfl)
  have q5 := (cells_new (w.alloc (.cells #[.slice p.A p.l.length p.ca, .slice p.D p.ds.length p.cd] placesT)) #[.string f.car, .int .i64 f.num, .int .i64 f.pf, .int .i64 f.pt, .int .i64 f.pd, .slice f.A f.lg.length f.c] fliT 5).trans (show _ = some (Value.slice f.A f.lg.length f.c) from rfl)
  rw [World.size_alloc] at q0 q1 q2 q3 q4 q5
  have HP := Lib.hid (hP.more hb0)
  have HG := Lib.hid (hG.more hb0)
  have HOF := Lib.hid of
  have hlen := of.len
  clear hP hG of
  go_enter Tryz.func19, Tryz.ntmps19
  go_upto_region 1 with (fail)
  generalize hw5 : (w.alloc (.cells #[.slice p.A p.l.length p.ca, .slice p.D p.ds.length p.cd] placesT)).alloc (.cells #[.string f.car, .int .i64 f.num, .int .i64 f.pf, .int .i64 f.pt, .int .i64 f.pd, .slice f.A f.lg.length f.c] fliT) = w5 at *
  clear hw5 hb1 hb2
  have f0 := bel_get q0
  have f1 := bel_get q1
  have f2 := bel_get q2
  have f3 := bel_get q3
  have f4 := bel_get q4
  have f5 := bel_get q5
  have y0 := bel_get p0
  have y1 := bel_get p1
  clear p0 p1 q0 q1 q2 q3 q4 q5
  have KB : Hid (∀ W, SW w5 W → Calls Tryz.prog 13 #[encP p, encFl f] W fun e w' => ∃ v : Value, e = .returned v ∧ Hid (v = .bool true ∨ (v = .bool false ∧ f.lg.length ≤ 12 ∧ p.l.length ≤ 20 ∧ p.ds.length ≤ 40)) ∧ SW w5 w') := Lib.hid (fun W h => (big_any p f W (HG.out.more h) hlen h1 h2).mono (by
    rintro e w' ⟨v, rfl, hv, hb⟩
    exact ⟨v, rfl, hv, Below.trans h (Below.mono hb h.size)⟩))
  have hS : SW w5 w5 := Below.refl _ _
  have k0 := f0 _ hS
  have k1 := f1 _ hS
  have k2 := f2 _ hS
  have k3 := f3 _ hS
  have k4 := f4 _ hS
  have k5 := f5 _ hS
  have z0 := y0 _ hS
  have z1 := y1 _ hS
  go_wp2_with (go_at_call 13; refine (KB.out _ hS).mono ?_; rintro e w1 ⟨v1, rfl, hv1, hS⟩; refine Hid.out ?_)
  clear k0 k1 k2 k3 k4 k5 z0 z1
  rcases hv1.out with rfl | ⟨rfl, b12, b20, b40⟩
  · refine Lib.hid ?_
    go_wp2
    go_ret
    exact ⟨.bool false, rfl, Lib.hid (Or.inl rfl), hb0.trans (Below.mono hS hb0.size)⟩
  have ok : OkP p := ⟨hA, hD, by omega, by omega⟩
  have KR : Hid (∀ W, SW w5 W → Calls Tryz.prog 14 #[encP p] W fun e w' => ∃ A c, e = .returned (.slice A (chkP p).length c) ∧ SW w5 w') := Lib.hid (fun W h => (rcheck6_any p W ok (HP.out.more h)).mono (by
    rintro e w' ⟨v, rfl, hO, hb⟩
    obtain ⟨A, c, rfl, _⟩ := hO.rowL rtF.len
    exact ⟨A, c, rfl, Below.trans h (Below.mono hb h.size)⟩))
  have k0 := f0 _ hS
  have k1 := f1 _ hS
  have k2 := f2 _ hS
  have k3 := f3 _ hS
  have k4 := f4 _ hS
  have k5 := f5 _ hS
  have z0 := y0 _ hS
  have z1 := y1 _ hS
  refine Lib.hid ?_
  by_cases hc0 : chkP p = []
  case neg =>
    have hcl : (((chkP p).length : Int) == 0) = false := by
      rw [beq_eq_false_iff_ne]
      intro h
      exact hc0 (List.eq_nil_of_length_eq_zero (by omega))
    clear hc0
    generalize (chkP p).length = n0 at *
    go_wp2_with (go_at_call 14; refine (KR.out _ hS).mono ?_; rintro e w2 ⟨A1, c1, rfl, hS⟩)
    go_ret
    exact ⟨.bool false, rfl, Lib.hid (Or.inl rfl), hb0.trans (Below.mono hS hb0.size)⟩
  case pos =>
  have hz := chk_okZ hc0
  have hs := chk_few hc0
  rw [hc0] at KR
  simp only [List.length_nil] at KR
  have KC : Hid (∀ W, SW w5 W → Calls Tryz.prog 18 #[encP p, encFl f] W fun e w' => ∃ A c, e = .returned (.slice A (chF p.l f).length c) ∧ SW w5 w') := Lib.hid (fun W h => (rfcheck_any p f W ok.la (HP.out.more h).air hz (HG.out.more h) (by omega) HOF.out.car HOF.out.lg HOF.out.pf).mono (by
    rintro e w' ⟨v, rfl, hO, hb⟩
    obtain ⟨A, c, rfl, _⟩ := hO.rowL rtF.len
    exact ⟨A, c, rfl, Below.trans h (Below.mono hb h.size)⟩))
  by_cases hf0 : chF p.l f = []
  case neg =>
    have hcl : (((chF p.l f).length : Int) == 0) = false := by
      rw [beq_eq_false_iff_ne]
      intro h
      exact hf0 (List.eq_nil_of_length_eq_zero (by omega))
    clear hf0 hc0
    generalize (chF p.l f).length = n0 at *
    go_wp2_with (first
      | (go_at_call 18; refine (KC.out _ hS).mono ?_; rintro e w3 ⟨A2, c2, rfl, hS⟩)
      | (go_at_call 14; refine (KR.out _ hS).mono ?_; rintro e w2 ⟨A1, c1, rfl, hS⟩; have k0 := f0 _ hS; have k1 := f1 _ hS; have k2 := f2 _ hS; have k3 := f3 _ hS; have k4 := f4 _ hS; have k5 := f5 _ hS; have z0 := y0 _ hS; have z1 := y1 _ hS))
    go_ret
    exact ⟨.bool false, rfl, Lib.hid (Or.inl rfl), hb0.trans (Below.mono hS hb0.size)⟩
  case pos =>
  have HRF : Hid (RightF p f) := Lib.hid ⟨b12, b20, b40, hc0, hf0⟩
  rw [hf0] at KC
  simp only [List.length_nil] at KC
  clear hf0 hc0 hz hs
  go_wp2_with (first
    | (go_at_call 18; refine (KC.out _ hS).mono ?_; rintro e w3 ⟨A2, c2, rfl, hS⟩)
    | (go_at_call 14; refine (KR.out _ hS).mono ?_; rintro e w2 ⟨A1, c1, rfl, hS⟩; have k0 := f0 _ hS; have k1 := f1 _ hS; have k2 := f2 _ hS; have k3 := f3 _ hS; have k4 := f4 _ hS; have k5 := f5 _ hS; have z0 := y0 _ hS; have z1 := y1 _ hS))
  go_ret
  exact ⟨.bool true, rfl, Lib.hid (Or.inr ⟨rfl, HRF.out⟩), hb0.trans (Below.mono hS hb0.size)⟩

set_option maxRecDepth 100000 in
set_option maxHeartbeats 8000000 in
theorem flightChecks_walk (p : PV) (f : FV) (w : World) (hE : EnvP w) (hP : PlL w p) (hA : ∀ a ∈ p.l, OkA a) (hD : ∀ d ∈ p.ds, OkD d) (h1 : p.l.length < 9223372036854775808) (h2 : p.ds.length < 9223372036854775808) (hG : LegL w (.slice f.A f.lg.length f.c) f.lg) (of : OkFl f) :
    Calls Tryz.prog 3 #[encP p, encFl f] w fun e w' => e = .returned (.bool true) ∧ Below w.heap.size w w' := by
  have hb1 := bel_alloc w (.cells #[.slice p.A p.l.length p.ca, .slice p.D p.ds.length p.cd] placesT)
  have hb2 := bel_alloc (w.alloc (.cells #[.slice p.A p.l.length p.ca, .slice p.D p.ds.length p.cd] placesT)) (.cells #[.string f.car, .int .i64 f.num, .int .i64 f.pf, .int .i64 f.pt, .int .i64 f.pd, .slice f.A f.lg.length f.c] fliT)
  have hb0 := hb1.trans (hb2.mono hb1.size)
  have p0 := bel_cell hb2 ((cells_new w #[.slice p.A p.l.length p.ca, .slice p.D p.ds.length p.cd] placesT 0).trans (show _ = some (Value.slice p.A p.l.length p.ca) from rfl))
  have p1 := bel_cell hb2 ((cells_new w #[.slice p.A p.l.length p.ca, .slice p.D p.ds.length p.cd] placesT 1).trans (show _ = some (Value.slice p.D p.ds.length p.cd) from rfl))
  have q0 := (cells_new (w.alloc (.cells #[.slice p.A p.l.length p.ca, .slice p.D p.ds.length p.cd] placesT)) #[.string f.car, .int .i64 f.num, .int .i64 f.pf, .int .i64 f.pt, .int .i64 f.pd, .slice f.A f.lg.length f.c] fliT 0).trans (show _ = some (Value.string f.car) from rfl)
  have q1 := (cells_new (w.alloc (.cells #[.slice p.A p.l.length p.ca, .slice p.D p.ds.length p.cd] placesT)) #[.string f.car, .int .i64 f.num, .int .i64 f.pf, .int .i64 f.pt, .int .i64 f.pd, .slice f.A f.lg.length f.c] fliT 1).trans (show _ = some (Value.int .i64 f.num) from rfl)
  have q2 := (cells_new (w.alloc (.cells #[.slice p.A p.l.length p.ca, .slice p.D p.ds.length p.cd] placesT)) #[.string f.car, .int .i64 f.num, .int .i64 f.pf, .int .i64 f.pt, .int .i64 f.pd, .slice f.A f.lg.length f.c] fliT 2).trans (show _ = some (Value.int .i64 f.pf) from rfl)
  have q3 := (cells_new (w.alloc (.cells #[.slice p.A p.l.length p.ca, .slice p.D p.ds.length p.cd] placesT)) #[.string f.car, .int .i64 f.num, .int .i64 f.pf, .int .i64 f.pt, .int .i64 f.pd, .slice f.A f.lg.length f.c] fliT 3).trans (show _ = some (Value.int .i64 f.pt) from rfl)
  have q4 := (cells_new (w.alloc (.cells #[.slice p.A p.l.length p.ca, .slice p.D p.ds.length p.cd] placesT)) #[.string f.car, .int .i64 f.num, .int .i64 f.pf, .int .i64 f.pt, .int .i64 f.pd, .slice f.A f.lg.length f.c] fliT 4).trans (show _ = some (Value.int .i64 f.pd) from rfl)
  have q5 := (cells_new (w.alloc (.cells #[.slice p.A p.l.length p.ca, .slice p.D p.ds.length p.cd] placesT)) #[.string f.car, .int .i64 f.num, .int .i64 f.pf, .int .i64 f.pt, .int .i64 f.pd, .slice f.A f.lg.length f.c] fliT 5).trans (show _ = some (Value.slice f.A f.lg.length f.c) from rfl)
  rw [World.size_alloc] at q0 q1 q2 q3 q4 q5
  have HP := Lib.hid (hP.more hb0)
  have HG := Lib.hid (hG.more hb0)
  have HE := Lib.hid (hE.more hb0)
  have HOF := Lib.hid of
  have hlen := of.len
  clear hP hG hE of
  go_enter Tryz.func3, Tryz.ntmps3
  go_upto_region 1 with (fail)
  generalize hw5 : (w.alloc (.cells #[.slice p.A p.l.length p.ca, .slice p.D p.ds.length p.cd] placesT)).alloc (.cells #[.string f.car, .int .i64 f.num, .int .i64 f.pf, .int .i64 f.pt, .int .i64 f.pd, .slice f.A f.lg.length f.c] fliT) = w5 at *
  clear hw5 hb1 hb2
  have f0 := bel_get q0
  have f1 := bel_get q1
  have f2 := bel_get q2
  have f3 := bel_get q3
  have f4 := bel_get q4
  have f5 := bel_get q5
  have y0 := bel_get p0
  have y1 := bel_get p1
  clear p0 p1 q0 q1 q2 q3 q4 q5
  have KW : Hid (∀ W, SW w5 W → Calls Tryz.prog 15 #[] W fun e w' => e = .returned (.bool true) ∧ SW w5 w') := Lib.hid (SW.call (fun W h => awake7_any W (HE.out.more h)))
  have KB : Hid (∀ W, SW w5 W → Calls Tryz.prog 13 #[encP p, encFl f] W fun e w' => ∃ v : Value, e = .returned v ∧ Hid (v = .bool true ∨ (v = .bool false ∧ f.lg.length ≤ 12 ∧ p.l.length ≤ 20 ∧ p.ds.length ≤ 40)) ∧ SW w5 w') := Lib.hid (fun W h => (big_any p f W (HG.out.more h) hlen h1 h2).mono (by
    rintro e w' ⟨v, rfl, hv, hb⟩
    exact ⟨v, rfl, hv, Below.trans h (Below.mono hb h.size)⟩))
  have hS : SW w5 w5 := Below.refl _ _
  have k0 := f0 _ hS
  have k1 := f1 _ hS
  have k2 := f2 _ hS
  have k3 := f3 _ hS
  have k4 := f4 _ hS
  have k5 := f5 _ hS
  have z0 := y0 _ hS
  have z1 := y1 _ hS
  go_wp2_with (go_at_call 13; refine (KB.out _ hS).mono ?_; rintro e w1 ⟨v1, rfl, hv1, hS⟩; refine Hid.out ?_)
  clear k0 k1 k2 k3 k4 k5 z0 z1
  rcases hv1.out with rfl | ⟨rfl, b12, b20, b40⟩
  · refine Lib.hid ?_
    go_wp2_with (go_at_call 15; refine (KW.out _ hS).mono ?_; rintro e w9 ⟨rfl, hS⟩)
    go_ret
    exact ⟨rfl, hb0.trans (Below.mono hS hb0.size)⟩
  have ok : OkP p := ⟨hA, hD, by omega, by omega⟩
  have KR : Hid (∀ W, SW w5 W → Calls Tryz.prog 14 #[encP p] W fun e w' => ∃ A c, e = .returned (.slice A (chkP p).length c) ∧ SW w5 w') := Lib.hid (fun W h => (rcheck6_any p W ok (HP.out.more h)).mono (by
    rintro e w' ⟨v, rfl, hO, hb⟩
    obtain ⟨A, c, rfl, _⟩ := hO.rowL rtF.len
    exact ⟨A, c, rfl, Below.trans h (Below.mono hb h.size)⟩))
  have k0 := f0 _ hS
  have k1 := f1 _ hS
  have k2 := f2 _ hS
  have k3 := f3 _ hS
  have k4 := f4 _ hS
  have k5 := f5 _ hS
  have z0 := y0 _ hS
  have z1 := y1 _ hS
  refine Lib.hid ?_
  by_cases hc0 : chkP p = []
  case neg =>
    have hcl : (0 : Int) < ((chkP p).length : Int) := by
      have : (chkP p).length ≠ 0 := fun h => hc0 (List.eq_nil_of_length_eq_zero h)
      omega
    have hcn : 0 < (chkP p).length := by omega
    clear hc0
    generalize (chkP p).length = n0 at *
    go_wp2_with (first
      | (go_at_call 15; refine (KW.out _ hS).mono ?_; rintro e w9 ⟨rfl, hS⟩)
      | (go_at_call 14; refine (KR.out _ hS).mono ?_; rintro e w2 ⟨A1, c1, rfl, hS⟩))
    go_ret
    exact ⟨rfl, hb0.trans (Below.mono hS hb0.size)⟩
  case pos =>
  have hz := chk_okZ hc0
  have hs := chk_few hc0
  rw [hc0] at KR
  simp only [List.length_nil] at KR
  have K1 : Hid (∀ W, SW w5 W → Calls Tryz.prog 17 #[encP p, encFl f] W fun e w' => ∃ v', e = .returned v' ∧ FltL w' v' (chF p.l f) ∧ SW w5 w') := Lib.hid (fun W h => (fcheck_any p f W ok.la (HP.out.more h).air hs hz (HG.out.more h) (by omega) HOF.out.cap HOF.out.car HOF.out.lg (fun hc h0 W' hW' => checkTimes_any p f W' ok.la ((HP.out.more h).more hW').air hs hz ((HG.out.more h).more hW') (by omega) (fun x hx => lgs_times (List.append_eq_nil_iff.1 (List.eq_nil_of_length_eq_zero h0)).2 hx))).mono (by
    rintro e w' ⟨v, rfl, hO, hb⟩
    exact ⟨v, rfl, hO.rowL rtF.len, Below.trans h (Below.mono hb h.size)⟩))
  have K2 : Hid (∀ W, SW w5 W → Calls Tryz.prog 18 #[encP p, encFl f] W fun e w' => ∃ v', e = .returned v' ∧ FltL w' v' (chF p.l f) ∧ Below W.heap.size W w') := Lib.hid (fun W h => (rfcheck_any p f W ok.la (HP.out.more h).air hz (HG.out.more h) (by omega) HOF.out.car HOF.out.lg HOF.out.pf).mono (by
    rintro e w' ⟨v, rfl, hO, hb⟩
    exact ⟨v, rfl, hO.rowL rtF.len, hb⟩))
  have KE : Hid (∀ u v W, FltL W u (chF p.l f) → FltL W v (chF p.l f) → SW w5 W → Calls Tryz.prog 16 #[u, v] W fun e w' => e = .returned (.bool true) ∧ SW w5 w') := Lib.hid (fun u v W hu hv hW => (samF7_any u v (chF p.l f) W hu hv (by have := chF_le p.l f (by omega); omega)).mono (by rintro e w' ⟨rfl, hb⟩; exact ⟨rfl, Below.trans hW (hb.mono hW.size)⟩))
  generalize chF p.l f = fl at *
  clear hc0 hz hs
  go_upto_region 3 with (go_at_call 14; refine (KR.out _ hS).mono ?_; rintro e w2 ⟨A1, c1, rfl, hS⟩)
  clear k0 k1 k2 k3 k4 k5 z0 z1
  have hS : (SW w5) _ := Below.drew hS
  refine wp_region_held_drew (S := SW w5) (by kernel_rfl) hS (fun _ => ?_)
  refine wpAnyH_take (i := 0) (v := ?vQ0) rfl (by kernel_rfl) (by kernel_rfl) (by kernel_rfl) (fun _ _ _ h => h) (Or.inl ⟨by rfl, ?hyQ0⟩) hS ?restQ0
  case hyQ0 =>
    intro w hSw
    have k0 := y0 w hSw; have k1 := y1 w hSw
    first | (go_simp; done) | (go_simp; with_reducible rfl)
  try simp only [Act.put, List.setIfInBounds_toArray, List.set_cons_zero, List.set_cons_succ]
  refine wpAnyH_take (i := 1) (v := ?vQ1) rfl (by kernel_rfl) (by kernel_rfl) (by kernel_rfl) (fun _ _ _ h => h) (Or.inl ⟨by rfl, ?hyQ1⟩) hS ?restQ1
  case hyQ1 =>
    intro w hSw
    have k0 := f0 w hSw; have k1 := f1 w hSw; have k2 := f2 w hSw; have k3 := f3 w hSw; have k4 := f4 w hSw; have k5 := f5 w hSw
    first | (go_simp; done) | (go_simp; with_reducible rfl)
  try simp only [Act.put, List.setIfInBounds_toArray, List.set_cons_zero, List.set_cons_succ]
  refine wpAnyH_take (i := 3) (v := ?vQ3) rfl (by kernel_rfl) (by kernel_rfl) (by kernel_rfl) (fun _ _ _ h => h) (Or.inl ⟨by rfl, ?hyQ3⟩) hS ?restQ3
  case hyQ3 =>
    intro w hSw
    have k0 := y0 w hSw; have k1 := y1 w hSw
    first | (go_simp; done) | (go_simp; with_reducible rfl)
  try simp only [Act.put, List.setIfInBounds_toArray, List.set_cons_zero, List.set_cons_succ]
  refine wpAnyH_take (i := 4) (v := ?vQ4) rfl (by kernel_rfl) (by kernel_rfl) (by kernel_rfl) (fun _ _ _ h => h) (Or.inl ⟨by rfl, ?hyQ4⟩) hS ?restQ4
  case hyQ4 =>
    intro w hSw
    have k0 := f0 w hSw; have k1 := f1 w hSw; have k2 := f2 w hSw; have k3 := f3 w hSw; have k4 := f4 w hSw; have k5 := f5 w hSw
    first | (go_simp; done) | (go_simp; with_reducible rfl)
  try simp only [Act.put, List.setIfInBounds_toArray, List.set_cons_zero, List.set_cons_succ]
  refine wpAnyH_ready (rs := [2]) (by kernel_rfl) (by simp) ?_
  refine AllReadyH.cons rfl (fun K hK => ?_) AllReadyH.nil
  go_simp
  go_wp2_with ((go_at_call 17; refine (K1.out _ hS).mono ?_; rintro e w3 ⟨u1, rfl, hF1, hS⟩))
  refine hK.out _ _ hS (fun _ => ?_)
  clear hK K
  refine wpAnyH_ready (rs := [5]) (by kernel_rfl) (by simp) ?_
  refine AllReadyH.cons rfl (fun K hK => ?_) AllReadyH.nil
  go_simp
  go_wp2_with ((go_at_call 18; refine (K2.out _ hS).mono ?_; rintro e w4 ⟨u3, rfl, hF3, hb3⟩; have hF1 := hF1.more hb3; have hS : SW w5 w4 := Below.trans hS (Below.mono hb3 hS.size)))
  refine hK.out _ _ hS (fun _ => ?_)
  clear hK K
  refine wpAnyH_ready (rs := [6]) (by kernel_rfl) (by simp) ?_
  refine AllReadyH.cons rfl (fun K hK => ?_) AllReadyH.nil
  go_simp
  go_wp2_with ((go_at_call 16; refine (KE.out _ _ _ hF1 hF3 hS).mono ?_; rintro e w5' ⟨rfl, hS⟩))
  refine hK.out _ _ hS (fun _ => ?_)
  clear hK K
  refine wpAnyH_take (i := 7) (v := ?vQ7) rfl (by kernel_rfl) (by kernel_rfl) (by kernel_rfl) (fun _ _ _ h => h) (Or.inl ⟨by rfl, ?hyQ7⟩) hS ?restQ7
  case hyQ7 =>
    intro w hSw
    first | (go_simp; done) | (go_simp; with_reducible rfl)
  try simp only [Act.put, List.setIfInBounds_toArray, List.set_cons_zero, List.set_cons_succ]
  refine wpAnyH_ready (rs := [8]) (by kernel_rfl) (by simp) ?_
  refine AllReadyH.cons rfl (fun K hK => ?_) AllReadyH.nil
  go_simp
  go_wp2_with ((go_at_call 15; refine (KW.out _ hS).mono ?_; rintro e w6 ⟨rfl, hS⟩))
  refine hK.out _ _ hS (fun _ => ?_)
  clear hK K
  refine wpAnyH_take (i := 9) (v := ?vQ9) rfl (by kernel_rfl) (by kernel_rfl) (by kernel_rfl) (fun _ _ _ h => h) (Or.inl ⟨by rfl, ?hyQ9⟩) hS ?restQ9
  case hyQ9 =>
    intro w hSw
    first | (go_simp; done) | (go_simp; with_reducible rfl)
  try simp only [Act.put, List.setIfInBounds_toArray, List.set_cons_zero, List.set_cons_succ]
  refine wpAnyH_take (i := 10) (v := ?vQ10) rfl (by kernel_rfl) (by kernel_rfl) (by kernel_rfl) (fun _ _ _ h => h) (Or.inl ⟨by rfl, ?hyQ10⟩) hS ?restQ10
  case hyQ10 =>
    intro w hSw
    first | (go_simp; done) | (go_simp; with_reducible rfl)
  try simp only [Act.put, List.setIfInBounds_toArray, List.set_cons_zero, List.set_cons_succ]
  refine wpAnyH_done (by kernel_rfl) ?_ _
  simp only [List.getElem_toArray, List.getElem_cons_succ, List.getElem_cons_zero, List.set_cons_zero, List.set_cons_succ]
  go_wp2
  go_ret
  exact ⟨rfl, hb0.trans (Below.mono hS hb0.size)⟩

end Go.Proofs.YtfgmlbmjjihhfaaGreatDoor
