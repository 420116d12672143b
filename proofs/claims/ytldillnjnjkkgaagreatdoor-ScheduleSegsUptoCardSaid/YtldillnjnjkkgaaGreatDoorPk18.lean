/- Words and walks that the laws below ask: FliQ, ZonE, FliR, FliS. -/
import Derived.Test.YtldillnjnjkkgaaGreatDoorPk4
import Derived.Test.YtldillnjnjkkgaaGreatDoorPk5
import Derived.Test.YtldillnjnjkkgaaGreatDoorPk8
import Derived.Test.YtldillnjnjkkgaaGreatDoorPk11
import Derived.Test.YtldillnjnjkkgaaGreatDoorPk16
import Derived.Test.YtldillnjnjkkgaaGreatDoorPk17
/- Walk of the reference's head of a flight. -/
namespace Go.Proofs.YtldillnjnjkkgaaGreatDoor
open Go.RowKit Go.Shelf
set_option linter.unusedSimpArgs false
set_option linter.unusedVariables false

/-- the violations of a flight without its legs, with the count of legs -/
def hdR (f : FV) : List Flt := hdF f ++ pick lgsW [if (!cntB f.lg.length) = true then 4 else 0]
set_option maxRecDepth 100000 in
set_option maxHeartbeats 8000000 in
theorem rhead_any (f : FV) (w : World) (hc0 : f.car.size ≤ maxLen) :
    Calls Tryz.prog 59 #[encFl f] w fun e w' => ∃ v, e = .returned v ∧ FOwn w.heap.size w' v (hdR f) ∧ Below w.heap.size w w' := by
  obtain ⟨HR, hHR⟩ : ∃ H, H = hdR f := ⟨_, rfl⟩
  rw [← hHR]
  obtain ⟨x0, hx0⟩ : ∃ x : Int, x = (if (!carB f.car) = true then 5 else 0) := ⟨_, rfl⟩
  obtain ⟨x1, hx1⟩ : ∃ x : Int, x = (if (!numB f.num) = true then 2 else 0) := ⟨_, rfl⟩
  obtain ⟨x2, hx2⟩ : ∃ x : Int, x = Per.errQ (f.pf, f.pt, f.pd) := ⟨_, rfl⟩
  obtain ⟨x3, hx3⟩ : ∃ x : Int, x = (if (!cntB f.lg.length) = true then 4 else 0) := ⟨_, rfl⟩
  have HHR : Hid (HR = [] ++ pick carW [x0] ++ pick numW [x1] ++ pick perW [x2] ++ pick lgsW [x3]) := Lib.hid (by rw [hHR, hdR, hdF, hx0, hx1, hx2, hx3]; simp)
  clear hHR
  have hb1 := bel_alloc w (.cells #[.string f.car, .int .i64 f.num, .int .i64 f.pf, .int .i64 f.pt, .int .i64 f.pd, .slice f.A f.lg.length f.c] fliT)
  have q0 := (cells_new w #[.string f.car, .int .i64 f.num, .int .i64 f.pf, .int .i64 f.pt, .int .i64 f.pd, .slice f.A f.lg.length f.c] fliT 0).trans (show _ = some (.string f.car) from rfl)
  have q1 := (cells_new w #[.string f.car, .int .i64 f.num, .int .i64 f.pf, .int .i64 f.pt, .int .i64 f.pd, .slice f.A f.lg.length f.c] fliT 1).trans (show _ = some (.int .i64 f.num) from rfl)
  have q2 := (cells_new w #[.string f.car, .int .i64 f.num, .int .i64 f.pf, .int .i64 f.pt, .int .i64 f.pd, .slice f.A f.lg.length f.c] fliT 2).trans (show _ = some (.int .i64 f.pf) from rfl)
  have q3 := (cells_new w #[.string f.car, .int .i64 f.num, .int .i64 f.pf, .int .i64 f.pt, .int .i64 f.pd, .slice f.A f.lg.length f.c] fliT 3).trans (show _ = some (.int .i64 f.pt) from rfl)
  have q4 := (cells_new w #[.string f.car, .int .i64 f.num, .int .i64 f.pf, .int .i64 f.pt, .int .i64 f.pd, .slice f.A f.lg.length f.c] fliT 4).trans (show _ = some (.int .i64 f.pd) from rfl)
  have q5 := (cells_new w #[.string f.car, .int .i64 f.num, .int .i64 f.pf, .int .i64 f.pt, .int .i64 f.pd, .slice f.A f.lg.length f.c] fliT 5).trans (show _ = some (.slice f.A f.lg.length f.c) from rfl)
  have KC := Lib.hid (fun w => rcarrier_any f.car w hc0)
  have KP := Lib.hid (fun w => Per.rcheck_any f.pf f.pt f.pd w)
  rw [← hx2] at KP
  have HX0 := Lib.hid hx0
  have HX1 := Lib.hid hx1
  have HX3 := Lib.hid hx3
  have hbw := hb1.size
  clear hx0 hx1 hx2 hx3
  go_enter Tryz.func59, Tryz.ntmps59
  go_upto_region 2 with fail
  generalize hw5 : w.alloc (.cells #[.string f.car, .int .i64 f.num, .int .i64 f.pf, .int .i64 f.pt, .int .i64 f.pd, .slice f.A f.lg.length f.c] fliT) = w5 at *
  clear hw5
  have f1 := bel_get q1
  have f2 := bel_get q2
  have f3 := bel_get q3
  have f4 := bel_get q4
  have f5 := bel_get q5
  clear q1 q2 q3 q4 q5
  generalize hbc : carB f.car = bc at *
  go_upto_if 7 with (go_at_call 136; refine (KC.out _).mono ?_; rintro e w1 ⟨rfl, rfl⟩)
  go_cut [3] from 4 (fun v wx => Hid (FOwn w5.heap.size wx v ([] ++ pick carW [x0]) ∧ SW w5 wx))
  case first =>
    have hO : FOwn w5.heap.size w5 (.slice none 0 0) [] := ROwn.nil (Nat.le_refl _)
    cases bc with
    | true =>
      have HX : Hid (x0 = 0) := Lib.hid (by rw [HX0.out]; rfl)
      go_wp2
      go_meet
      exact Lib.hid ⟨by rw [HX.out]; exact hO, Below.refl _ _⟩
    | false =>
      have HX : Hid (x0 = 5) := Lib.hid (by rw [HX0.out]; rfl)
      go_wp2_with (at_builtin; refine wpList_rapp rtF rfl _ _ rfl hO rfl (bel_alloc _ _) _ (5, carW) _ rfl (cs := #[.int .i64 5, .string carW]) rfl (heap_alloc_new _ _) (by simp) ?_; intro v1 w1 hO1 hC1)
      go_meet
      exact Lib.hid ⟨by rw [HX.out]; exact hO1, hC1.below hO⟩
  case rest =>
    have hO := hcut.out.1
    have hS := hcut.out.2
    have k1 := f1 _ hS
    clear hcut
    go_upto_region 4 with fail
    go_cut [19] from 4 (fun v wx => v = .bool (!numB f.num) ∧ wx = wc)
    case first =>
      have HU : Hid ((!numB f.num) = (decide (f.num < 1) || decide (9999 < f.num))) := Lib.hid (by
        unfold numB
        by_cases h1 : 1 ≤ f.num <;> by_cases h2 : f.num ≤ 9999 <;> simp [h1, h2] <;> omega)
      by_cases h1 : f.num < 1
      · go_wp2
        go_meet
        exact ⟨by rw [HU.out]; first | (simp [h1]; done) | (simp [h1]; omega), rfl⟩
      · go_wp2
        go_meet
        exact ⟨by rw [HU.out]; first | (simp [h1]; done) | (simp [h1]; omega), rfl⟩
    case rest =>
      obtain ⟨rfl, hwc⟩ := hcut
      obtain rfl := hwc
      generalize hbn : numB f.num = bn at *
      go_upto_if 19 with fail
      have HLn : Hid (([] ++ pick carW [x0]).length ≤ 100000000) := Lib.hid (by have h0 := pick_le carW [x0]; have h1 := pick_le numW [x1]; have h2 := pick_le perW [x2]; simp only [List.length_append, List.length_cons, List.length_nil] at h0 h1 h2 ⊢; omega)
      go_cut [3] from 4 (fun v wx => Hid (FOwn w5.heap.size wx v ([] ++ pick carW [x0] ++ pick numW [x1]) ∧ SW w5 wx))
      case first =>
        cases bn with
        | true =>
          have HX : Hid (x1 = 0) := Lib.hid (by rw [HX1.out]; rfl)
          go_wp2
          go_meet
          exact Lib.hid ⟨by rw [HX.out]; simpa [pick_zero] using hO, hS⟩
        | false =>
          have HX : Hid (x1 = 2) := Lib.hid (by rw [HX1.out]; rfl)
          go_wp2_with (at_builtin; refine wpList_rapp rtF rfl _ _ rfl hO rfl (bel_alloc _ _) _ (2, numW) _ rfl (cs := #[.int .i64 2, .string numW]) rfl (heap_alloc_new _ _) HLn.out ?_; intro v1 w1 hO1 hC1)
          go_meet
          exact Lib.hid ⟨by rw [HX.out]; exact hO1, Below.trans hS (hC1.below hO)⟩
      case rest =>
        have hO := hcut.out.1
        have hS := hcut.out.2
        have k2 := f2 _ hS
        have k3 := f3 _ hS
        have k4 := f4 _ hS
        clear hcut HLn
        go_upto_region 6 with fail
        go_cut [27] from 4 (fun v wx => v = .bool (x2 != 0) ∧ SW wc wx)
        case first =>
          go_wp2_with (go_at_call 137; refine (KP.out _).mono ?_; rintro e w2 ⟨rfl, hb2⟩)
          go_meet
          exact ⟨rfl, hb2⟩
        case rest =>
          obtain ⟨rfl, hS2⟩ := hcut
          have hO := hO.more hS2
          have hS : SW w5 wc := Below.trans hS (Below.mono hS2 hS.size)
          have k2 := f2 _ hS
          have k3 := f3 _ hS
          have k4 := f4 _ hS
          clear hS2
          have HLn : Hid (([] ++ pick carW [x0] ++ pick numW [x1]).length ≤ 100000000) := Lib.hid (by have h0 := pick_le carW [x0]; have h1 := pick_le numW [x1]; have h2 := pick_le perW [x2]; simp only [List.length_append, List.length_cons, List.length_nil] at h0 h1 h2 ⊢; omega)
          go_upto_if 27 with fail
          go_cut [3] from 4 (fun v wx => Hid (FOwn w5.heap.size wx v ([] ++ pick carW [x0] ++ pick numW [x1] ++ pick perW [x2]) ∧ SW w5 wx))
          case first =>
            cases hb : (x2 != 0) with
            | false =>
              have HX : Hid (x2 = 0) := Lib.hid (by simpa using hb)
              go_wp2
              go_meet
              exact Lib.hid ⟨by rw [HX.out]; simpa [pick_zero] using hO, hS⟩
            | true =>
              have HX : Hid (x2 ≠ 0) := Lib.hid (by simpa using hb)
              go_wp2_with (first
                | (go_at_call 137; refine (KP.out _).mono ?_; rintro e w2 ⟨rfl, hb2⟩; have hO := hO.more hb2; have hS : SW w5 w2 := Below.trans hS (Below.mono hb2 hS.size))
                | (at_builtin; refine wpList_rapp rtF rfl _ _ rfl hO rfl (bel_alloc _ _) _ (x2, perW) _ rfl (cs := #[.int .i64 x2, .string perW]) rfl (heap_alloc_new _ _) HLn.out ?_; intro v1 w1 hO1 hC1))
              go_meet
              exact Lib.hid ⟨by rw [pick_one perW x2 HX.out]; exact hO1, Below.trans hS (hC1.below hO)⟩
          case rest =>
            have hO := hcut.out.1
            have hS := hcut.out.2
            have k5 := f5 _ hS
            clear hcut HLn
            go_upto_region 8 with fail
            go_cut [44] from 4 (fun v wx => v = .bool (!cntB f.lg.length) ∧ wx = wc)
            case first =>
              have HU : Hid ((!cntB f.lg.length) = (decide ((f.lg.length : Int) < 1) || decide ((6 : Int) < (f.lg.length : Int)))) := Lib.hid (by
                unfold cntB
                by_cases h1 : 1 ≤ f.lg.length <;> by_cases h2 : f.lg.length ≤ 6 <;> simp [h1, h2] <;> omega)
              by_cases h1 : (f.lg.length : Int) < 1
              · go_wp2
                go_meet
                exact ⟨by rw [HU.out]; first | (simp [h1]; done) | (simp [h1]; omega), rfl⟩
              · go_wp2
                go_meet
                exact ⟨by rw [HU.out]; first | (simp [h1]; done) | (simp [h1]; omega), rfl⟩
            case rest =>
              obtain ⟨rfl, hwc⟩ := hcut
              obtain rfl := hwc
              generalize hbl : cntB f.lg.length = bl at *
              have HLn : Hid (([] ++ pick carW [x0] ++ pick numW [x1] ++ pick perW [x2]).length ≤ 100000000) := Lib.hid (by have h0 := pick_le carW [x0]; have h1 := pick_le numW [x1]; have h2 := pick_le perW [x2]; simp only [List.length_append, List.length_cons, List.length_nil] at h0 h1 h2 ⊢; omega)
              have hbB : Below w.heap.size w w5 := hb1
              cases bl with
              | true =>
                have HX : Hid (x3 = 0) := Lib.hid (by rw [HX3.out]; rfl)
                have HZ : Hid (HR = [] ++ pick carW [x0] ++ pick numW [x1] ++ pick perW [x2]) := Lib.hid (by rw [HHR.out, HX.out, pick_zero, List.append_nil])
                go_wp2
                go_ret
                exact ⟨_, rfl, by rw [HZ.out]; exact ⟨hO.own.mono hbB.size, Nat.le_trans hbB.size hO.base⟩, hbB.trans (Below.mono hS hbB.size)⟩
              | false =>
                have HX : Hid (x3 = 4) := Lib.hid (by rw [HX3.out]; rfl)
                have HZ : Hid (HR = [] ++ pick carW [x0] ++ pick numW [x1] ++ pick perW [x2] ++ [(4, lgsW)]) := Lib.hid (by rw [HHR.out, HX.out]; rfl)
                go_wp2_with (at_builtin; refine wpList_rapp rtF rfl _ _ rfl hO rfl (bel_alloc _ _) _ (4, lgsW) _ rfl (cs := #[.int .i64 4, .string lgsW]) rfl (heap_alloc_new _ _) HLn.out ?_; intro v1 w1 hO1 hC1)
                go_ret
                exact ⟨v1, rfl, by rw [HZ.out]; exact ⟨hO1.own.mono hbB.size, Nat.le_trans hbB.size hO1.base⟩, hbB.trans ((Below.trans hS (hC1.below hO)).mono hbB.size)⟩

end Go.Proofs.YtldillnjnjkkgaaGreatDoor

/- Walks of the reference's Offset, Local, UTC, times, Exists and Twice. -/
namespace Go.Proofs.YtldillnjnjkkgaaGreatDoor.Zon
open Go.RowKit Go.Shelf
set_option linter.unusedSimpArgs false
set_option linter.unusedVariables false

set_option maxRecDepth 100000 in
set_option maxHeartbeats 2000000 in
theorem rutc_any (o : Int) (A : Option Addr) (c : Nat) (l : Shs) (x : Int) (w : World) (ok : OkZ o l) (hL : ShL w A l) (hu : -1099511627776 ≤ x ∧ x ≤ 1099511627776) :
    Calls Tryz.prog 259 #[encZ o A l.length c, .int .i64 x] w fun e w' => e = .returned (.int .i64 (utcZ o l x)) ∧ Below w.heap.size w w' := by
  have hb0 := bel_alloc w (.cells #[.int .i64 o, .slice A l.length c] zoneT)
  have z0 := cells_new w #[.int .i64 o, .slice A l.length c] zoneT 0
  have z1 := cells_new w #[.int .i64 o, .slice A l.length c] zoneT 1
  simp only [List.getElem?_toArray, List.getElem?_cons_zero, List.getElem?_cons_succ] at z0 z1
  have hL0 := hL.more hb0
  have HU := Lib.hid (rut_is ok x)
  have hl := ok.len
  have ho := ok.off
  have hat := ok.at'
  have hsh := ok.shift
  clear hL ok
  generalize utcZ o l x = res at *
  go_enter Tryz.func259, Tryz.ntmps259
  go_wp2
  generalize hw0 : w.alloc (.cells #[.int .i64 o, .slice A l.length c] zoneT) = w0 at *
  go_loopw [5, 6] (fun vu vi wr => ∃ (k : Nat) (u : Int), k ≤ l.length ∧ vi = .int .i64 k ∧ vu = .int .i64 u ∧ Hid (rut l x (l.length - k) k u = res) ∧ Below w0.heap.size w0 wr) (fun _ vi _ => l.length - (intOf vi).toNat)
  case atStart => exact ⟨0, x - o, Nat.zero_le _, rfl, rfl, HU, Below.refl _ _⟩
  case round =>
    obtain ⟨k, u, hk, rfl, rfl, HK, hb⟩ := hrel
    have y1 := bel_cell hb z1
    by_cases hlt : k < l.length
    · obtain ⟨g, off, rfl, hgl, hcc⟩ := hL0.at hlt
      have i2 : (k : Int) < (l.length : Int) := by omega
      obtain ⟨g0, g1⟩ := hcc k hlt
      have HS := Lib.hid ((rut_step l x u k _ rfl hlt).symm.trans HK.out)
      have ha := hat k hlt
      have hf := hsh k hlt
      clear hcc hL0 hw0 HK hat hsh HU
      generalize shA l k = a at *
      generalize shF l k = f at *
      by_cases h : u < a
      · rw [if_pos h] at HS
        have gk0 := bel_cell hb g0
        go_wp2
        go_ret
        exact ⟨by rw [← HS.out]; rfl, hb0.trans (hb.mono hb0.size)⟩
      · rw [if_neg h] at HS
        have gk0 := bel_cell hb g0
        have q1 := SW.cell y1
        have q2 := SW.cell gk0
        have q3 := SW.cell (bel_cell hb g1)
        go_wp2
        have hNe : Nonempty (Wd (SW wr)) := ⟨⟨_, SW.drew _⟩⟩
        refine quietS (S := SW wr) (by kernel_rfl) (by kernel_rfl) (SW.drew _) ?_
        repeat (first | go_big_quiet_skip | (go_big_quiet_want; go_big_quiet_op; first | go_big_quiet_on | go_big_quiet_call ((fail))))
        refine wpQuiet_nil ?_
        rintro W ⟨⟨_, hW⟩, rfl⟩
        all_goals
          go_wp2
          go_roundw
          case rel => exact ⟨k + 1, max a (x - f), by omega, by go_num, by (first | rfl | (congr 1; omega)), HS, hb.trans (hW.mono hb.size)⟩
          case measure => simp [intOf]; omega
    · obtain rfl : k = l.length := by omega
      go_wp2
      go_ret
      exact ⟨by rw [← HK.out, rut_end _ _ _ _ _ (by omega)]; rfl, hb0.trans (hb.mono hb0.size)⟩

end Go.Proofs.YtldillnjnjkkgaaGreatDoor.Zon

/- Walks of the reference's utc, legs and ordered. -/
namespace Go.Proofs.YtldillnjnjkkgaaGreatDoor
open Go.RowKit Go.Shelf
set_option linter.unusedSimpArgs false
set_option linter.unusedVariables false

theorem airOf_sh {w : World} {A : Option Addr} {l : List Air} (h : AirL w A l) (s : ByteArray) : ShL w (airOf l s).A (airOf l s).shs := by
  unfold airOf
  cases hc : findC l s with
  | none => exact .inl rfl
  | some a =>
    obtain ⟨k, hk⟩ := List.getElem?_of_mem (List.mem_of_find?_eq_some hc)
    obtain ⟨_, _, a', _, _, hka, ha⟩ := h.at (List.getElem?_eq_some_iff.1 hk).1
    rw [hk] at hka
    obtain rfl := Option.some.inj hka
    exact ha.sh
set_option maxRecDepth 100000 in
set_option maxHeartbeats 4000000 in
theorem rutc7_any (p : PV) (s : ByteArray) (day m : Int) (w : World) (hl : p.l.length ≤ 40) (hL : AirL w p.A p.l) (hz : ∀ a ∈ p.l, OkZ a.off a.shs) (hd : -100000000 ≤ day ∧ day ≤ 100000000) (hm : -1000000 ≤ m ∧ m ≤ 1000000) :
    Calls Tryz.prog 217 #[encP p, .string s, .int .i64 day, .int .i64 m] w fun e w' => e = .returned (.int .i64 (utcZ (airOf p.l s).off (airOf p.l s).shs (day * 1440 + m))) ∧ Below w.heap.size w w' := by
  have hb0 := bel_alloc w (.cells #[.slice p.A p.l.length p.ca, .slice p.D p.ds.length p.cd] placesT)
  have q0 := (cells_new w #[.slice p.A p.l.length p.ca, .slice p.D p.ds.length p.cd] placesT 0).trans (show _ = some (.slice p.A p.l.length p.ca) from rfl)
  have q1 := (cells_new w #[.slice p.A p.l.length p.ca, .slice p.D p.ds.length p.cd] placesT 1).trans (show _ = some (.slice p.D p.ds.length p.cd) from rfl)
  have KF := Lib.hid (rfind_any p s _ hl (hL.more hb0))
  have hok := okZ_of hz s
  have hsh := airOf_sh (hL.more hb0) s
  have e : (findC p.l s).getD airZ = airOf p.l s := rfl
  rw [e] at KF
  generalize airOf p.l s = a at *
  generalize (findC p.l s).isSome = b at *
  have KU := Lib.hid (fun W h => Zon.rutc_any a.off a.A a.c a.shs (day * 1440 + m) W hok h (by omega))
  generalize hr : utcZ a.off a.shs (day * 1440 + m) = r at *
  have HSH := Lib.hid hsh
  clear hok hsh hL hz e hr
  go_enter Tryz.func217, Tryz.ntmps217
  go_wp2_with (first
    | (go_at_call 259; refine (KU.out _ ((HSH.out.more hb1).more (bel_alloc w1 (.cells #[.string a.code, .string a.city, .string a.land, .int .i64 a.off, .slice a.A a.shs.length a.c] airT)))).mono ?_; rintro e w2 ⟨rfl, hb2⟩)
    | (go_at_call 159; refine KF.out.mono ?_; rintro e w1 ⟨rfl, hb1⟩))
  go_ret
  have h1 := hb0.trans (Below.mono hb1 hb0.size)
  have h2 := h1.alloc h1.size (.cells #[.string a.code, .string a.city, .string a.land, .int .i64 a.off, .slice a.A a.shs.length a.c] airT)
  exact ⟨rfl, h2.trans (Below.mono hb2 h2.size)⟩

set_option maxRecDepth 100000 in
set_option maxHeartbeats 8000000 in
theorem rlegs7_any (p : PV) (f : FV) (day : Int) (w : World) (hl : p.l.length ≤ 40) (hL : AirL w p.A p.l) (hz : ∀ a ∈ p.l, OkZ a.off a.shs) (hG : LegL w (.slice f.A f.lg.length f.c) f.lg) (hn : f.lg.length ≤ 100)
    (hm : ∀ x ∈ f.lg, (-1000000 ≤ x.dep ∧ x.dep ≤ 1000000) ∧ -1000000 ≤ x.arr ∧ x.arr ≤ 1000000) (hd : -100000000 ≤ day ∧ day ≤ 100000000) :
    Calls Tryz.prog 162 #[encP p, encFl f, .int .i64 day] w fun e w' => ∃ v, e = .returned v ∧ ROwn datT 8 encDt w.heap.size w' v (f.lg.map (datL p.l f day)) ∧ Below w.heap.size w w' := by
  obtain ⟨DL, hDL⟩ : ∃ D : Lg → Dt, D = datL p.l f day := ⟨_, rfl⟩
  have HDL : Hid (∀ x, DL x = ⟨f.car, f.num, day, x.f, x.t, depL p.l x day, arrL p.l x day, x.eq⟩) := Lib.hid (by rw [hDL]; exact fun x => rfl)
  rw [← hDL]
  clear hDL
  obtain ⟨car, num, pf, pt, pd, A, c, lg⟩ := f
  dsimp only at *
  have hb1 := bel_alloc w (.cells #[.slice p.A p.l.length p.ca, .slice p.D p.ds.length p.cd] placesT)
  have hb2 := bel_alloc (w.alloc (.cells #[.slice p.A p.l.length p.ca, .slice p.D p.ds.length p.cd] placesT)) (.cells #[.string car, .int .i64 num, .int .i64 pf, .int .i64 pt, .int .i64 pd, .slice A lg.length c] fliT)
  have hb0 := hb1.trans (hb2.mono hb1.size)
  have p0 := bel_cell hb2 ((cells_new w #[.slice p.A p.l.length p.ca, .slice p.D p.ds.length p.cd] placesT 0).trans (show _ = some (.slice p.A p.l.length p.ca) from rfl))
  have p1 := bel_cell hb2 ((cells_new w #[.slice p.A p.l.length p.ca, .slice p.D p.ds.length p.cd] placesT 1).trans (show _ = some (.slice p.D p.ds.length p.cd) from rfl))
  have q0 := (cells_new (w.alloc (.cells #[.slice p.A p.l.length p.ca, .slice p.D p.ds.length p.cd] placesT)) #[.string car, .int .i64 num, .int .i64 pf, .int .i64 pt, .int .i64 pd, .slice A lg.length c] fliT 0).trans (show _ = some (.string car) from rfl)
  have q1 := (cells_new (w.alloc (.cells #[.slice p.A p.l.length p.ca, .slice p.D p.ds.length p.cd] placesT)) #[.string car, .int .i64 num, .int .i64 pf, .int .i64 pt, .int .i64 pd, .slice A lg.length c] fliT 1).trans (show _ = some (.int .i64 num) from rfl)
  have q5 := (cells_new (w.alloc (.cells #[.slice p.A p.l.length p.ca, .slice p.D p.ds.length p.cd] placesT)) #[.string car, .int .i64 num, .int .i64 pf, .int .i64 pt, .int .i64 pd, .slice A lg.length c] fliT 5).trans (show _ = some (.slice A lg.length c) from rfl)
  rw [World.size_alloc] at q0 q1 q5
  have hsz : ((w.alloc (.cells #[.slice p.A p.l.length p.ca, .slice p.D p.ds.length p.cd] placesT)).alloc (.cells #[.string car, .int .i64 num, .int .i64 pf, .int .i64 pt, .int .i64 pd, .slice A lg.length c] fliT)).heap.size = w.heap.size + 2 := by simp
  have HLL := Lib.hid (hL.more hb0)
  have HGG := Lib.hid (hG.more hb0)
  have HM := Lib.hid hm
  have HSZ := Lib.hid hsz
  have KU : Hid (∀ s m W, AirL W p.A p.l → (-1000000 ≤ m ∧ m ≤ 1000000) → Calls Tryz.prog 217 #[encP p, .string s, .int .i64 day, .int .i64 m] W fun e w' => e = .returned (.int .i64 (utcZ (airOf p.l s).off (airOf p.l s).shs (day * 1440 + m))) ∧ Below W.heap.size W w') := Lib.hid (fun s m W hA hm => rutc7_any p s day m W hl hA hz hd hm)
  clear hL hG hm hz hsz hb1 hb2
  go_enter Tryz.func162, Tryz.ntmps162
  go_wp2
  generalize hw5 : (w.alloc (.cells #[.slice p.A p.l.length p.ca, .slice p.D p.ds.length p.cd] placesT)).alloc (.cells #[.string car, .int .i64 num, .int .i64 pf, .int .i64 pt, .int .i64 pd, .slice A lg.length c] fliT) = w5 at *
  clear hw5
  have F0 := Lib.hid (bel_get q0)
  have F1 := Lib.hid (bel_get q1)
  have F5 := Lib.hid (bel_get q5)
  have Y0 := Lib.hid (bel_get p0)
  have Y1 := Lib.hid (bel_get p1)
  have HN : Hid (ROwn datT 8 encDt w5.heap.size w5 (.slice none 0 0) []) := Lib.hid (ROwn.nil (Nat.le_refl _))
  clear p0 p1 q0 q1 q5
  go_loopg [7, 8] lg.length (fun kx v7 vi wr => ∃ (v : Value) (k : Nat), v = v7 ∧ vi = .int .i64 k ∧ k + kx = lg.length ∧ Hid (ROwn datT 8 encDt w5.heap.size wr v ((lg.take k).map DL) ∧ SW w5 wr))
  case atStart => exact ⟨_, 0, rfl, rfl, by omega, Lib.hid ⟨HN.out, Below.refl _ _⟩⟩
  case round =>
    obtain ⟨v, k, rfl, rfl, hkx, HH⟩ := hrel
    clear HN
    have HKX := Lib.hid hkx
    have hSr : SW w5 wr := HH.out.2
    by_cases hlt : k < lg.length
    · clear hkx
      obtain ⟨b, o, x, rfl, hbl, hx, c0, c1, c2, c3, c4⟩ := LegL.get (HGG.out.more hSr) hlt
      have hmx := HM.out x (List.mem_of_getElem? hx)
      obtain ⟨dd, hdd⟩ : ∃ dd, dd = depL p.l x day := ⟨_, rfl⟩
      obtain ⟨aa, haa⟩ : ∃ aa, aa = arrL p.l x day := ⟨_, rfl⟩
      have HTk : Hid ((lg.take (k + 1)).map DL = (lg.take k).map DL ++ [(⟨car, num, day, x.f, x.t, dd, aa, x.eq⟩ : Dt)]) := Lib.hid (by
        rw [List.take_add_one, hx, List.map_append, hdd, haa]
        simp [HDL.out x])
      have hO := HH.out.1
      have HLL2 : Hid (((lg.take k).map DL).length ≤ 100000000) := Lib.hid (by have := List.length_take_le k lg; rw [List.length_map]; omega)
      have HV1 : Hid (∀ g, v.ownBlock = some g → w5.heap.size ≤ g ∧ g < wr.heap.size) := Lib.hid (fun g hg => hO.low hg)
      have hvN : v.ownBlock ≠ some wr.heap.size := fun h => by have := (HV1.out _ h).2; omega
      have hb6 := bel_alloc wr (.cells #[.string x.f, .string x.t, .int .i64 x.dep, .int .i64 x.arr, .string x.eq] legT)
      have HSW : Hid (∀ W, SX (wr.alloc (.cells #[.string x.f, .string x.t, .int .i64 x.dep, .int .i64 x.arr, .string x.eq] legT)) v W → SW w5 W) := Lib.hid (fun W h => Below.trans hSr ((hb6.mono hSr.size).trans (h.below (Nat.le_trans hSr.size hb6.size) (fun k' hk' hv => by have := (HV1.out _ hv).1; omega))))
      have y0 : ∀ W, SX (wr.alloc (.cells #[.string x.f, .string x.t, .int .i64 x.dep, .int .i64 x.arr, .string x.eq] legT)) v W → W.cell? ⟨w.heap.size, 0, none⟩ = some (.slice p.A p.l.length p.ca) := fun W h => Y0.out W (HSW.out W h)
      have y1 : ∀ W, SX (wr.alloc (.cells #[.string x.f, .string x.t, .int .i64 x.dep, .int .i64 x.arr, .string x.eq] legT)) v W → W.cell? ⟨w.heap.size, 1, none⟩ = some (.slice p.D p.ds.length p.cd) := fun W h => Y1.out W (HSW.out W h)
      have g0 : ∀ W, SX (wr.alloc (.cells #[.string x.f, .string x.t, .int .i64 x.dep, .int .i64 x.arr, .string x.eq] legT)) v W → W.cell? ⟨w.heap.size + 1, 0, none⟩ = some (.string car) := fun W h => F0.out W (HSW.out W h)
      have g1 : ∀ W, SX (wr.alloc (.cells #[.string x.f, .string x.t, .int .i64 x.dep, .int .i64 x.arr, .string x.eq] legT)) v W → W.cell? ⟨w.heap.size + 1, 1, none⟩ = some (.int .i64 num) := fun W h => F1.out W (HSW.out W h)
      have n0 : ∀ W, SX (wr.alloc (.cells #[.string x.f, .string x.t, .int .i64 x.dep, .int .i64 x.arr, .string x.eq] legT)) v W → W.cell? ⟨wr.heap.size, 0, none⟩ = some (Value.string x.f) := fun W h => SX.cell ((cells_new wr #[.string x.f, .string x.t, .int .i64 x.dep, .int .i64 x.arr, .string x.eq] legT 0).trans (show _ = some (Value.string x.f) from rfl)) hvN h
      have n1 : ∀ W, SX (wr.alloc (.cells #[.string x.f, .string x.t, .int .i64 x.dep, .int .i64 x.arr, .string x.eq] legT)) v W → W.cell? ⟨wr.heap.size, 1, none⟩ = some (Value.string x.t) := fun W h => SX.cell ((cells_new wr #[.string x.f, .string x.t, .int .i64 x.dep, .int .i64 x.arr, .string x.eq] legT 1).trans (show _ = some (Value.string x.t) from rfl)) hvN h
      have n2 : ∀ W, SX (wr.alloc (.cells #[.string x.f, .string x.t, .int .i64 x.dep, .int .i64 x.arr, .string x.eq] legT)) v W → W.cell? ⟨wr.heap.size, 2, none⟩ = some (Value.int .i64 x.dep) := fun W h => SX.cell ((cells_new wr #[.string x.f, .string x.t, .int .i64 x.dep, .int .i64 x.arr, .string x.eq] legT 2).trans (show _ = some (Value.int .i64 x.dep) from rfl)) hvN h
      have n3 : ∀ W, SX (wr.alloc (.cells #[.string x.f, .string x.t, .int .i64 x.dep, .int .i64 x.arr, .string x.eq] legT)) v W → W.cell? ⟨wr.heap.size, 3, none⟩ = some (Value.int .i64 x.arr) := fun W h => SX.cell ((cells_new wr #[.string x.f, .string x.t, .int .i64 x.dep, .int .i64 x.arr, .string x.eq] legT 3).trans (show _ = some (Value.int .i64 x.arr) from rfl)) hvN h
      have n4 : ∀ W, SX (wr.alloc (.cells #[.string x.f, .string x.t, .int .i64 x.dep, .int .i64 x.arr, .string x.eq] legT)) v W → W.cell? ⟨wr.heap.size, 4, none⟩ = some (Value.string x.eq) := fun W h => SX.cell ((cells_new wr #[.string x.f, .string x.t, .int .i64 x.dep, .int .i64 x.arr, .string x.eq] legT 4).trans (show _ = some (Value.string x.eq) from rfl)) hvN h
      have K1 : Hid (∀ W, SX (wr.alloc (.cells #[.string x.f, .string x.t, .int .i64 x.dep, .int .i64 x.arr, .string x.eq] legT)) v W → Calls Tryz.prog 217 #[encP p, .string x.f, .int .i64 day, .int .i64 x.dep] W fun e w' => e = .returned (.int .i64 dd) ∧ Below W.heap.size W w') := Lib.hid (fun W h => by rw [hdd]; exact KU.out x.f x.dep W (HLL.out.more (HSW.out W h)) hmx.1)
      have K2 : Hid (∀ W, SX (wr.alloc (.cells #[.string x.f, .string x.t, .int .i64 x.dep, .int .i64 x.arr, .string x.eq] legT)) v W → Calls Tryz.prog 217 #[encP p, .string x.t, .int .i64 day, .int .i64 x.arr] W fun e w' => e = .returned (.int .i64 aa) ∧ Below W.heap.size W w') := Lib.hid (fun W h => by rw [haa]; exact KU.out x.t x.arr W (HLL.out.more (HSW.out W h)) hmx.2)
      have i2 : (k : Int) < (lg.length : Int) := by omega
      have z5 := F5.out _ hSr
      have hO := hO.more (hb6.trans ((Below.refl _ (wr.alloc (.cells #[.string x.f, .string x.t, .int .i64 x.dep, .int .i64 x.arr, .string x.eq] legT))).drew.mono hb6.size))
      clear hx hbl hmx hdd haa
      go_upto_region 6 with (fail)
      generalize hw6 : wr.alloc (.cells #[.string x.f, .string x.t, .int .i64 x.dep, .int .i64 x.arr, .string x.eq] legT) = w6 at *
      clear hw6 c0 c1 c2 c3 c4 z5
      have hS : (SX w6 v) _ := But.of_below (Below.refl _ _).drew
      refine wp_region_held_drew (S := SX w6 v) (by kernel_rfl) hS (fun _ => ?_)
      refine wpAnyH_take (i := 0) (v := ?vL0) rfl (by kernel_rfl) (by kernel_rfl) (by kernel_rfl) (fun _ _ _ h => h) (Or.inl ⟨by rfl, ?hyL0⟩) hS ?restL0
      case hyL0 =>
        intro w hSw
        first | (go_simp; done) | (go_simp; with_reducible rfl)
      try simp only [Act.put, List.setIfInBounds_toArray, List.set_cons_zero, List.set_cons_succ]
      refine wpAnyH_take (i := 1) (v := ?vL1) rfl (by kernel_rfl) (by kernel_rfl) (by kernel_rfl) (fun _ _ _ h => h) (Or.inl ⟨by rfl, ?hyL1⟩) hS ?restL1
      case hyL1 =>
        intro w hSw
        first | (go_simp; done) | (go_simp; with_reducible rfl)
      try simp only [Act.put, List.setIfInBounds_toArray, List.set_cons_zero, List.set_cons_succ]
      refine wpAnyH_take (i := 2) (v := ?vL2) rfl (by kernel_rfl) (by kernel_rfl) (by kernel_rfl) (fun _ _ _ h => h) (Or.inl ⟨by rfl, ?hyL2⟩) hS ?restL2
      case hyL2 =>
        intro w hSw
        have k0 := g0 w hSw
        first | (go_simp; done) | (go_simp; with_reducible rfl)
      try simp only [Act.put, List.setIfInBounds_toArray, List.set_cons_zero, List.set_cons_succ]
      refine wpAnyH_take (i := 3) (v := ?vL3) rfl (by kernel_rfl) (by kernel_rfl) (by kernel_rfl) (fun _ _ _ h => h) (Or.inl ⟨by rfl, ?hyL3⟩) hS ?restL3
      case hyL3 =>
        intro w hSw
        first | (go_simp; done) | (go_simp; with_reducible rfl)
      try simp only [Act.put, List.setIfInBounds_toArray, List.set_cons_zero, List.set_cons_succ]
      refine wpAnyH_take (i := 4) (v := ?vL4) rfl (by kernel_rfl) (by kernel_rfl) (by kernel_rfl) (fun _ _ _ h => h) (Or.inl ⟨by rfl, ?hyL4⟩) hS ?restL4
      case hyL4 =>
        intro w hSw
        have k0 := g1 w hSw
        first | (go_simp; done) | (go_simp; with_reducible rfl)
      try simp only [Act.put, List.setIfInBounds_toArray, List.set_cons_zero, List.set_cons_succ]
      refine wpAnyH_take (i := 5) (v := ?vL5) rfl (by kernel_rfl) (by kernel_rfl) (by kernel_rfl) (fun _ _ _ h => h) (Or.inl ⟨by rfl, ?hyL5⟩) hS ?restL5
      case hyL5 =>
        intro w hSw
        first | (go_simp; done) | (go_simp; with_reducible rfl)
      try simp only [Act.put, List.setIfInBounds_toArray, List.set_cons_zero, List.set_cons_succ]
      refine wpAnyH_take (i := 6) (v := ?vL6) rfl (by kernel_rfl) (by kernel_rfl) (by kernel_rfl) (fun _ _ _ h => h) (Or.inl ⟨by rfl, ?hyL6⟩) hS ?restL6
      case hyL6 =>
        intro w hSw
        first | (go_simp; done) | (go_simp; with_reducible rfl)
      try simp only [Act.put, List.setIfInBounds_toArray, List.set_cons_zero, List.set_cons_succ]
      refine wpAnyH_take (i := 7) (v := ?vL7) rfl (by kernel_rfl) (by kernel_rfl) (by kernel_rfl) (fun _ _ _ h => h) (Or.inl ⟨by rfl, ?hyL7⟩) hS ?restL7
      case hyL7 =>
        intro w hSw
        have k0 := n0 w hSw
        first | (go_simp; done) | (go_simp; with_reducible rfl)
      try simp only [Act.put, List.setIfInBounds_toArray, List.set_cons_zero, List.set_cons_succ]
      refine wpAnyH_take (i := 8) (v := ?vL8) rfl (by kernel_rfl) (by kernel_rfl) (by kernel_rfl) (fun _ _ _ h => h) (Or.inl ⟨by rfl, ?hyL8⟩) hS ?restL8
      case hyL8 =>
        intro w hSw
        first | (go_simp; done) | (go_simp; with_reducible rfl)
      try simp only [Act.put, List.setIfInBounds_toArray, List.set_cons_zero, List.set_cons_succ]
      refine wpAnyH_take (i := 9) (v := ?vL9) rfl (by kernel_rfl) (by kernel_rfl) (by kernel_rfl) (fun _ _ _ h => h) (Or.inl ⟨by rfl, ?hyL9⟩) hS ?restL9
      case hyL9 =>
        intro w hSw
        have k0 := n1 w hSw
        first | (go_simp; done) | (go_simp; with_reducible rfl)
      try simp only [Act.put, List.setIfInBounds_toArray, List.set_cons_zero, List.set_cons_succ]
      refine wpAnyH_take (i := 10) (v := ?vL10) rfl (by kernel_rfl) (by kernel_rfl) (by kernel_rfl) (fun _ _ _ h => h) (Or.inl ⟨by rfl, ?hyL10⟩) hS ?restL10
      case hyL10 =>
        intro w hSw
        have k0 := y0 w hSw; have k1 := y1 w hSw
        first | (go_simp; done) | (go_simp; with_reducible rfl)
      try simp only [Act.put, List.setIfInBounds_toArray, List.set_cons_zero, List.set_cons_succ]
      refine wpAnyH_take (i := 11) (v := ?vL11) rfl (by kernel_rfl) (by kernel_rfl) (by kernel_rfl) (fun _ _ _ h => h) (Or.inl ⟨by rfl, ?hyL11⟩) hS ?restL11
      case hyL11 =>
        intro w hSw
        first | (go_simp; done) | (go_simp; with_reducible rfl)
      try simp only [Act.put, List.setIfInBounds_toArray, List.set_cons_zero, List.set_cons_succ]
      refine wpAnyH_take (i := 12) (v := ?vL12) rfl (by kernel_rfl) (by kernel_rfl) (by kernel_rfl) (fun _ _ _ h => h) (Or.inl ⟨by rfl, ?hyL12⟩) hS ?restL12
      case hyL12 =>
        intro w hSw
        have k0 := n0 w hSw
        first | (go_simp; done) | (go_simp; with_reducible rfl)
      try simp only [Act.put, List.setIfInBounds_toArray, List.set_cons_zero, List.set_cons_succ]
      refine wpAnyH_take (i := 13) (v := ?vL13) rfl (by kernel_rfl) (by kernel_rfl) (by kernel_rfl) (fun _ _ _ h => h) (Or.inl ⟨by rfl, ?hyL13⟩) hS ?restL13
      case hyL13 =>
        intro w hSw
        first | (go_simp; done) | (go_simp; with_reducible rfl)
      try simp only [Act.put, List.setIfInBounds_toArray, List.set_cons_zero, List.set_cons_succ]
      refine wpAnyH_take (i := 14) (v := ?vL14) rfl (by kernel_rfl) (by kernel_rfl) (by kernel_rfl) (fun _ _ _ h => h) (Or.inl ⟨by rfl, ?hyL14⟩) hS ?restL14
      case hyL14 =>
        intro w hSw
        first | (go_simp; done) | (go_simp; with_reducible rfl)
      try simp only [Act.put, List.setIfInBounds_toArray, List.set_cons_zero, List.set_cons_succ]
      refine wpAnyH_take (i := 15) (v := ?vL15) rfl (by kernel_rfl) (by kernel_rfl) (by kernel_rfl) (fun _ _ _ h => h) (Or.inl ⟨by rfl, ?hyL15⟩) hS ?restL15
      case hyL15 =>
        intro w hSw
        have k0 := n2 w hSw
        first | (go_simp; done) | (go_simp; with_reducible rfl)
      try simp only [Act.put, List.setIfInBounds_toArray, List.set_cons_zero, List.set_cons_succ]
      refine wpAnyH_take (i := 17) (v := ?vL17) rfl (by kernel_rfl) (by kernel_rfl) (by kernel_rfl) (fun _ _ _ h => h) (Or.inl ⟨by rfl, ?hyL17⟩) hS ?restL17
      case hyL17 =>
        intro w hSw
        have k0 := y0 w hSw; have k1 := y1 w hSw
        first | (go_simp; done) | (go_simp; with_reducible rfl)
      try simp only [Act.put, List.setIfInBounds_toArray, List.set_cons_zero, List.set_cons_succ]
      refine wpAnyH_take (i := 18) (v := ?vL18) rfl (by kernel_rfl) (by kernel_rfl) (by kernel_rfl) (fun _ _ _ h => h) (Or.inl ⟨by rfl, ?hyL18⟩) hS ?restL18
      case hyL18 =>
        intro w hSw
        first | (go_simp; done) | (go_simp; with_reducible rfl)
      try simp only [Act.put, List.setIfInBounds_toArray, List.set_cons_zero, List.set_cons_succ]
      refine wpAnyH_take (i := 19) (v := ?vL19) rfl (by kernel_rfl) (by kernel_rfl) (by kernel_rfl) (fun _ _ _ h => h) (Or.inl ⟨by rfl, ?hyL19⟩) hS ?restL19
      case hyL19 =>
        intro w hSw
        have k0 := n1 w hSw
        first | (go_simp; done) | (go_simp; with_reducible rfl)
      try simp only [Act.put, List.setIfInBounds_toArray, List.set_cons_zero, List.set_cons_succ]
      refine wpAnyH_take (i := 20) (v := ?vL20) rfl (by kernel_rfl) (by kernel_rfl) (by kernel_rfl) (fun _ _ _ h => h) (Or.inl ⟨by rfl, ?hyL20⟩) hS ?restL20
      case hyL20 =>
        intro w hSw
        first | (go_simp; done) | (go_simp; with_reducible rfl)
      try simp only [Act.put, List.setIfInBounds_toArray, List.set_cons_zero, List.set_cons_succ]
      refine wpAnyH_take (i := 21) (v := ?vL21) rfl (by kernel_rfl) (by kernel_rfl) (by kernel_rfl) (fun _ _ _ h => h) (Or.inl ⟨by rfl, ?hyL21⟩) hS ?restL21
      case hyL21 =>
        intro w hSw
        first | (go_simp; done) | (go_simp; with_reducible rfl)
      try simp only [Act.put, List.setIfInBounds_toArray, List.set_cons_zero, List.set_cons_succ]
      refine wpAnyH_take (i := 22) (v := ?vL22) rfl (by kernel_rfl) (by kernel_rfl) (by kernel_rfl) (fun _ _ _ h => h) (Or.inl ⟨by rfl, ?hyL22⟩) hS ?restL22
      case hyL22 =>
        intro w hSw
        have k0 := n3 w hSw
        first | (go_simp; done) | (go_simp; with_reducible rfl)
      try simp only [Act.put, List.setIfInBounds_toArray, List.set_cons_zero, List.set_cons_succ]
      refine wpAnyH_take (i := 24) (v := ?vL24) rfl (by kernel_rfl) (by kernel_rfl) (by kernel_rfl) (fun _ _ _ h => h) (Or.inl ⟨by rfl, ?hyL24⟩) hS ?restL24
      case hyL24 =>
        intro w hSw
        first | (go_simp; done) | (go_simp; with_reducible rfl)
      try simp only [Act.put, List.setIfInBounds_toArray, List.set_cons_zero, List.set_cons_succ]
      refine wpAnyH_take (i := 25) (v := ?vL25) rfl (by kernel_rfl) (by kernel_rfl) (by kernel_rfl) (fun _ _ _ h => h) (Or.inl ⟨by rfl, ?hyL25⟩) hS ?restL25
      case hyL25 =>
        intro w hSw
        have k0 := n4 w hSw
        first | (go_simp; done) | (go_simp; with_reducible rfl)
      try simp only [Act.put, List.setIfInBounds_toArray, List.set_cons_zero, List.set_cons_succ]
      refine wpAnyH_ready (rs := [16]) (by kernel_rfl) (by simp) ?_
      refine AllReadyH.cons rfl (fun K hK => ?_) AllReadyH.nil
      go_simp
      go_wp2_with ((go_at_call 217; with_reducible refine (K1.out _ hS).mono ?_; rintro e w' ⟨rfl, hb'⟩; have hO := hO.more hb'; have hS := hS.on hb'))
      refine hK.out _ _ hS (fun _ => ?_)
      clear hK K
      refine wpAnyH_ready (rs := [23]) (by kernel_rfl) (by simp) ?_
      refine AllReadyH.cons rfl (fun K hK => ?_) AllReadyH.nil
      go_simp
      go_wp2_with ((go_at_call 217; with_reducible refine (K2.out _ hS).mono ?_; rintro e w' ⟨rfl, hb'⟩; have hO := hO.more hb'; have hS := hS.on hb'))
      refine hK.out _ _ hS (fun _ => ?_)
      clear hK K
      refine wpAnyH_take (i := 26) (v := ?vL26) rfl (by kernel_rfl) (by kernel_rfl) (by kernel_rfl) (fun _ _ _ h => h) (Or.inl ⟨by rfl, ?hyL26⟩) hS ?restL26
      case hyL26 =>
        intro w hSw
        first | (go_simp; done) | (go_simp; with_reducible rfl)
      try simp only [Act.put, List.setIfInBounds_toArray, List.set_cons_zero, List.set_cons_succ]
      refine wpAnyH_ready (rs := [27]) (by kernel_rfl) (by simp) ?_
      refine AllReadyH.cons rfl (fun K hK => ?_) AllReadyH.nil
      go_simp
      have hSp := hS
      have hS := hS.on (bel_alloc _ (.cells #[.string car, .int .i64 num, .int .i64 day, .string x.f, .string x.t, .int .i64 dd, .int .i64 aa, .string x.eq] datT))
      refine hK.out _ _ hS (fun _ => ?_)
      clear hK K
      refine wpAnyH_ready (rs := [28]) (by kernel_rfl) (by simp) ?_
      refine AllReadyH.cons rfl (fun K hK => ?_) AllReadyH.nil
      refine step_rapp rtD rfl _ _ rfl hO rfl (bel_alloc _ _) _ (⟨car, num, day, x.f, x.t, dd, aa, x.eq⟩ : Dt) _ rfl (cs := #[.string car, .int .i64 num, .int .i64 day, .string x.f, .string x.t, .int .i64 dd, .int .i64 aa, .string x.eq]) rfl (heap_alloc_new _ _) HLL2.out ?_
      intro v8 w8 hO8 hC8
      go_simp
      have hS := hSp.trans hC8.but (fun _ _ h => h)
      refine hK.out _ _ hS (fun _ => ?_)
      clear hK K
      refine wpAnyH_take (i := 29) (v := ?vL29) rfl (by kernel_rfl) (by kernel_rfl) (by kernel_rfl) (fun _ _ _ h => h) (Or.inl ⟨by rfl, ?hyL29⟩) hS ?restL29
      case hyL29 =>
        intro w hSw
        first | (go_simp; done) | (go_simp; with_reducible rfl)
      try simp only [Act.put, List.setIfInBounds_toArray, List.set_cons_zero, List.set_cons_succ]
      refine wpAnyH_done (by kernel_rfl) ?_ _
      simp only [List.getElem_toArray, List.getElem_cons_succ, List.getElem_cons_zero, List.set_cons_zero, List.set_cons_succ]
      have HY : Hid (ROwn datT 8 encDt w5.heap.size w8 v8 ((lg.take (k + 1)).map DL) ∧ SW w5 w8) := Lib.hid ⟨by rw [HTk.out]; exact hO8, HSW.out _ hS⟩
      clear hO8 hC8 hS hSp hO
      go_wp2
      go_roundg (lg.length - (k + 1))
      case measure => have := HKX.out; omega
      case rel => exact ⟨_, k + 1, rfl, by go_num, by omega, HY⟩
    · have hk : k = lg.length := by omega
      have HR : Hid (ROwn datT 8 encDt w.heap.size wr v (lg.map DL) ∧ Below w.heap.size w wr) := Lib.hid ⟨⟨by
        have h := HH.out.1.own
        rw [hk, List.take_length] at h
        exact h.mono hb0.size, Nat.le_trans hb0.size hSr.size⟩, hb0.trans (Below.mono hSr hb0.size)⟩
      have z5 := F5.out _ hSr
      have i1 : ¬ (k : Int) < (lg.length : Int) := by omega
      clear HH hkx hk
      go_wp2
      go_ret
      exact ⟨v, rfl, HR.out⟩

theorem RowL.get8 {w : World} {A : Option Addr} {n c : Nat} {L : List Dt} (h : RowL 8 encDt w (.slice A n c) L) {k : Nat} (hk : k < L.length) : ∃ b o y, A = some ⟨b, o, none⟩ ∧ b < w.heap.size ∧ L[k]? = some y ∧ ∀ j u, (encDt y)[j]? = some u → w.cell? ⟨b, o + k * 8 + j, none⟩ = some u := by
  obtain ⟨b, o, h1, h2, h3⟩ := h.at rfl hk
  exact ⟨b, o, L[k], h1, h2, List.getElem?_eq_getElem hk, h3⟩
def ordD (L : List Dt) : Bool := ordT true 0 (L.map fun d => (d.dep, d.arr))
theorem ordD_legs (l : List Air) (f : FV) (day : Int) : ordD (f.lg.map (datL l f day)) = ordT true 0 (timL l f.lg day) := by
  unfold ordD timL
  rw [List.map_map]
  rfl
theorem ordD_at {L : List Dt} {k : Nat} {y : Dt} (h : L[k]? = some y) (first : Bool) (before : Int) :
    ordT first before ((L.map fun d => (d.dep, d.arr)).drop k) = if y.arr ≤ y.dep then false else if first = false ∧ y.dep < before then false else ordT false y.arr ((L.map fun d => (d.dep, d.arr)).drop (k + 1)) := by
  obtain ⟨hlt, rfl⟩ := List.getElem?_eq_some_iff.1 h
  have hl : k < (L.map fun d => (d.dep, d.arr)).length := by rw [List.length_map]; exact hlt
  rw [List.drop_eq_getElem_cons hl, List.getElem_map]
  rfl
set_option maxRecDepth 100000 in
set_option maxHeartbeats 8000000 in
theorem rordered_any (v : Value) (L : List Dt) (w : World) (hv : RowL 8 encDt w v L) (hn : L.length ≤ 1000) :
    Calls Tryz.prog 161 #[v] w fun e w' => e = .returned (.bool (ordD L)) ∧ Below w.heap.size w w' := by
  obtain ⟨A, c, rfl, hvc⟩ := id hv
  clear hvc
  have HV := Lib.hid hv
  clear hv
  generalize hD : (L.map fun d => (d.dep, d.arr)) = D at *
  have HD : Hid (ordD L = ordT true 0 D) := Lib.hid (by unfold ordD; rw [hD])
  have HAT : Hid (∀ (k : Nat) (y : Dt) (first : Bool) (before : Int), L[k]? = some y → ordT first before (D.drop k) = if y.arr ≤ y.dep then false else if first = false ∧ y.dep < before then false else ordT false y.arr (D.drop (k + 1))) := Lib.hid (by rw [← hD]; exact fun k y first before h => ordD_at h first before)
  have HLn : Hid (D.length = L.length) := Lib.hid (by rw [← hD, List.length_map])
  clear hD
  go_enter Tryz.func161, Tryz.ntmps161
  go_wp2
  go_loopw [3] (fun vi wr => ∃ (k : Nat) (before : Int), k ≤ L.length ∧ vi = .int .i64 k ∧ Hid (ordD L = ordT (decide (k = 0)) before (D.drop k)) ∧ Hid (∀ y, k ≠ 0 → L[k - 1]? = some y → y.arr = before) ∧ SW w wr) (fun vi _ => L.length - (intOf vi).toNat)
  case atStart => exact ⟨0, 0, Nat.zero_le _, rfl, HD, Lib.hid (fun y h => absurd rfl h), Below.refl _ _⟩
  case round =>
    obtain ⟨k, before, hk, rfl, HO, HB, hS⟩ := hrel
    by_cases hlt : k < L.length
    · obtain ⟨b, o, y, e1, hbl, hy, hc⟩ := RowL.get8 (HV.out.more hS) hlt
      cases e1
      have HST := Lib.hid (HO.out.trans (HAT.out k y _ _ hy))
      have i2 : (k : Int) < (L.length : Int) := by omega
      have f5 := SW.cell (hc 5 _ rfl)
      have f6 := SW.cell (hc 6 _ rfl)
      have HY : Hid (∀ z, k + 1 ≠ 0 → L[k + 1 - 1]? = some z → z.arr = y.arr) := Lib.hid (fun z _ hz => by rw [Nat.add_sub_cancel, hy] at hz; cases hz; rfl)
      clear hc hy
      by_cases h1 : y.arr ≤ y.dep
      · have HR := Lib.hid (HST.out.trans (if_pos h1))
        have d1 : decide (y.arr ≤ y.dep) = true := decide_eq_true h1
        clear HST HO
        go_wp2
        have hNe : Nonempty (Wd (SW wr)) := ⟨⟨_, SW.drew _⟩⟩
        refine quietS (S := SW wr) (by kernel_rfl) (by kernel_rfl) (SW.drew _) ?_
        repeat (first | go_big_quiet_skip | (go_big_quiet_want; go_big_quiet_op; first | go_big_quiet_on | go_big_quiet_call ((fail))))
        refine wpQuiet_nil ?_
        rintro W ⟨⟨_, hW⟩, rfl⟩
        go_wp2
        go_ret
        exact ⟨ret_bool HR.out.symm, Below.trans hS (Below.mono hW hS.size)⟩
      · have HS2 := Lib.hid (HST.out.trans (if_neg h1))
        have d1 : decide (y.arr ≤ y.dep) = false := decide_eq_false h1
        by_cases h0 : k = 0
        · have HR : Hid (ordD L = ordT (decide (k + 1 = 0)) y.arr (D.drop (k + 1))) := Lib.hid (by
            rw [HS2.out, if_neg (by simp [h0])]
            rw [show decide (k + 1 = 0) = false by simp])
          have d2 : decide (0 < k) = false := decide_eq_false (by omega)
          have i1 : ¬ (0 : Int) < (k : Int) := by omega
          clear HS2 HST h1 HO HB h0
          go_wp2
          have hNe : Nonempty (Wd (SW wr)) := ⟨⟨_, SW.drew _⟩⟩
          refine quietS (S := SW wr) (by kernel_rfl) (by kernel_rfl) (SW.drew _) ?_
          repeat (first | go_big_quiet_skip | (go_big_quiet_want; go_big_quiet_op; first | go_big_quiet_on | go_big_quiet_call ((fail))))
          refine wpQuiet_nil ?_
          rintro W ⟨⟨_, hW⟩, rfl⟩
          go_wp2
          go_roundw
          case rel => exact ⟨k + 1, y.arr, by omega, by go_num, HR, HY, Below.trans hS (Below.mono hW hS.size)⟩
          case measure => simp [intOf]; omega
        · have d2 : decide (0 < k) = true := decide_eq_true (by omega)
          have i1 : (0 : Int) < (k : Int) := by omega
          obtain ⟨b', o', z, e1, hbl', hz, hcz⟩ := RowL.get8 (HV.out.more hS) (show k - 1 < L.length by omega)
          cases e1
          obtain rfl := HB.out z h0 hz
          have i3 : ((k : Int) - 1) = ((k - 1 : Nat) : Int) := by omega
          have i4 : ((k - 1 : Nat) : Int) < (L.length : Int) := by omega
          have g6 := SW.cell (hcz 6 _ rfl)
          clear hcz hz HB HO
          by_cases h2 : y.dep < z.arr
          · have HR := Lib.hid (HS2.out.trans (if_pos ⟨by simp [h0], h2⟩))
            have d3 : decide (y.dep < z.arr) = true := decide_eq_true h2
            clear HS2 HST h1 h0
            generalize k - 1 = k1 at *
            go_wp2
            have hNe : Nonempty (Wd (SW wr)) := ⟨⟨_, SW.drew _⟩⟩
            refine quietS (S := SW wr) (by kernel_rfl) (by kernel_rfl) (SW.drew _) ?_
            repeat (first | go_big_quiet_skip | (go_big_quiet_want; go_big_quiet_op; first | go_big_quiet_on | go_big_quiet_call ((fail))))
            refine wpQuiet_nil ?_
            rintro W ⟨⟨_, hW⟩, rfl⟩
            go_wp2
            go_ret
            exact ⟨ret_bool HR.out.symm, Below.trans hS (Below.mono hW hS.size)⟩
          · have HR : Hid (ordD L = ordT (decide (k + 1 = 0)) y.arr (D.drop (k + 1))) := Lib.hid (by
              rw [HS2.out, if_neg (fun h => h2 h.2)]
              rw [show decide (k + 1 = 0) = false by simp])
            have d3 : decide (y.dep < z.arr) = false := decide_eq_false h2
            have HY := Lib.hid HY.out
            clear HS2 HST h1 h0
            generalize k - 1 = k1 at *
            go_wp2
            have hNe : Nonempty (Wd (SW wr)) := ⟨⟨_, SW.drew _⟩⟩
            refine quietS (S := SW wr) (by kernel_rfl) (by kernel_rfl) (SW.drew _) ?_
            repeat (first | go_big_quiet_skip | (go_big_quiet_want; go_big_quiet_op; first | go_big_quiet_on | go_big_quiet_call ((fail))))
            refine wpQuiet_nil ?_
            rintro W ⟨⟨_, hW⟩, rfl⟩
            go_wp2
            go_roundw
            case rel => exact ⟨k + 1, y.arr, by omega, by go_num, HR, HY, Below.trans hS (Below.mono hW hS.size)⟩
            case measure => simp [intOf]; omega
    · have HR : Hid (ordD L = true) := Lib.hid (by
        rw [HO.out, List.drop_of_length_le (by rw [HLn.out]; omega)]
        rfl)
      have i1 : ¬ (k : Int) < (L.length : Int) := by omega
      go_wp2
      go_ret
      exact ⟨ret_bool HR.out.symm, hS⟩

end Go.Proofs.YtldillnjnjkkgaaGreatDoor

/- Walk of the reference's Check of flights. -/
namespace Go.Proofs.YtldillnjnjkkgaaGreatDoor
open Go.RowKit Go.Shelf
set_option linter.unusedSimpArgs false
set_option linter.unusedVariables false

theorem wh_pick (s : ByteArray) (b : Bool) (e : Int) (he : e ≠ 0) : pick s [wh b e] = if b = true then [(e, s)] else [] := by
  cases b
  · rfl
  · exact pick_one s e he

set_option maxRecDepth 100000 in
set_option maxHeartbeats 16000000 in
theorem rfcheck_any (p : PV) (f : FV) (w : World) (hl : p.l.length ≤ 40) (hL : AirL w p.A p.l) (hz : ∀ a ∈ p.l, OkZ a.off a.shs) (hG : LegL w (.slice f.A f.lg.length f.c) f.lg) (hn : f.lg.length ≤ 100)
    (hc0 : f.car.size ≤ maxLen) (ho : ∀ x ∈ f.lg, OkG x) (hpf : -9223372036854775808 ≤ f.pf ∧ f.pf ≤ 9223372036854775807) :
    Calls Tryz.prog 79 #[encP p, encFl f] w fun e w' => ∃ v, e = .returned v ∧ FOwn w.heap.size w' v (chF p.l f) ∧ Below w.heap.size w w' := by
  have KH := Lib.hid (fun W => rhead_any f W hc0)
  have KLg : Hid (∀ d W, (∀ x ∈ f.lg, (-1000000 ≤ x.dep ∧ x.dep ≤ 1000000) ∧ -1000000 ≤ x.arr ∧ x.arr ≤ 1000000) → AirL W p.A p.l → LegL W (.slice f.A f.lg.length f.c) f.lg → (0 ≤ d ∧ d < 36525) → Calls Tryz.prog 162 #[encP p, encFl f, .int .i64 d] W fun e w' => ∃ v, e = .returned v ∧ ROwn datT 8 encDt W.heap.size w' v (f.lg.map (datL p.l f d)) ∧ Below W.heap.size W w') := Lib.hid (fun d W hm hA hG2 hd => rlegs7_any p f d W hl hA hz hG2 hn hm (by omega))
  obtain ⟨DL, hDL⟩ : ∃ D : Int → List Dt, D = fun d => f.lg.map (datL p.l f d) := ⟨_, rfl⟩
  have HDO : Hid (∀ d, ordD (DL d) = ordT true 0 (timL p.l f.lg d)) := Lib.hid (by rw [hDL]; exact fun d => ordD_legs p.l f d)
  have HDN : Hid (∀ d, (DL d).length ≤ 1000) := Lib.hid (by rw [hDL]; intro d; rw [List.length_map]; omega)
  have KLg : Hid (∀ d W, (∀ x ∈ f.lg, (-1000000 ≤ x.dep ∧ x.dep ≤ 1000000) ∧ -1000000 ≤ x.arr ∧ x.arr ≤ 1000000) → AirL W p.A p.l → LegL W (.slice f.A f.lg.length f.c) f.lg → (0 ≤ d ∧ d < 36525) → Calls Tryz.prog 162 #[encP p, encFl f, .int .i64 d] W fun e w' => ∃ v, e = .returned v ∧ ROwn datT 8 encDt W.heap.size w' v (DL d) ∧ Below W.heap.size W w') := Lib.hid (by rw [hDL]; exact KLg.out)
  clear hDL
  obtain ⟨HF, hHF⟩ : ∃ H, H = hdF f := ⟨_, rfl⟩
  obtain ⟨HR, hHR⟩ : ∃ H, H = hdR f := ⟨_, rfl⟩
  obtain ⟨CF, hCF⟩ : ∃ H, H = chF p.l f := ⟨_, rfl⟩
  obtain ⟨D, hD⟩ : ∃ D, D = Per.daysQ (f.pf, f.pt, f.pd) := ⟨_, rfl⟩
  have HBT : Hid (∀ x ∈ f.lg, (lgsF p.l f.lg f.lg.length = []) → (-1000000 ≤ x.dep ∧ x.dep ≤ 1000000) ∧ -1000000 ≤ x.arr ∧ x.arr ≤ 1000000) := Lib.hid (fun x hx h => lgs_times h hx)
  have HHR : Hid (HR = HF ++ pick lgsW [if (!cntB f.lg.length) = true then 4 else 0]) := Lib.hid (by rw [hHR, hHF]; rfl)
  have HCF : Hid (CF = if cntB f.lg.length = true then (if (HF ++ lgsF p.l f.lg f.lg.length).length = 0 then badD p.l f.lg D else HF ++ lgsF p.l f.lg f.lg.length) else HF ++ pick lgsW [4]) := Lib.hid (by rw [hCF, hHF, hD]; rfl)
  have HHL : Hid (HF.length ≤ 3) := Lib.hid (by rw [hHF]; exact hdF_le _)
  have HB : Hid (∀ d ∈ D, 0 ≤ d ∧ d < 36525) := Lib.hid (by rw [hD]; exact fun d => days_bd)
  have HDl : D.length ≤ 800 := by rw [hD]; exact Per.daysQ_len _
  have KD := Lib.hid (fun W => Per.rdays_any f.pf f.pt f.pd W hpf.1 hpf.2)
  rw [← hHR] at KH
  rw [← hD] at KD
  rw [← hCF]
  clear hHF hHR hCF hD
  obtain ⟨car, num, pf, pt, pd, A, c, lg⟩ := f
  dsimp only at *
  have hb1 := bel_alloc w (.cells #[.slice p.A p.l.length p.ca, .slice p.D p.ds.length p.cd] placesT)
  have hb2 := bel_alloc (w.alloc (.cells #[.slice p.A p.l.length p.ca, .slice p.D p.ds.length p.cd] placesT)) (.cells #[.string car, .int .i64 num, .int .i64 pf, .int .i64 pt, .int .i64 pd, .slice A lg.length c] fliT)
  have hb0 := hb1.trans (hb2.mono hb1.size)
  have p0 := bel_cell hb2 ((cells_new w #[.slice p.A p.l.length p.ca, .slice p.D p.ds.length p.cd] placesT 0).trans (show _ = some (.slice p.A p.l.length p.ca) from rfl))
  have p1 := bel_cell hb2 ((cells_new w #[.slice p.A p.l.length p.ca, .slice p.D p.ds.length p.cd] placesT 1).trans (show _ = some (.slice p.D p.ds.length p.cd) from rfl))
  have q0 := (cells_new (w.alloc (.cells #[.slice p.A p.l.length p.ca, .slice p.D p.ds.length p.cd] placesT)) #[.string car, .int .i64 num, .int .i64 pf, .int .i64 pt, .int .i64 pd, .slice A lg.length c] fliT 0).trans (show _ = some (Value.string car) from rfl)
  have q1 := (cells_new (w.alloc (.cells #[.slice p.A p.l.length p.ca, .slice p.D p.ds.length p.cd] placesT)) #[.string car, .int .i64 num, .int .i64 pf, .int .i64 pt, .int .i64 pd, .slice A lg.length c] fliT 1).trans (show _ = some (Value.int .i64 num) from rfl)
  have q2 := (cells_new (w.alloc (.cells #[.slice p.A p.l.length p.ca, .slice p.D p.ds.length p.cd] placesT)) #[.string car, .int .i64 num, .int .i64 pf, .int .i64 pt, .int .i64 pd, .slice A lg.length c] fliT 2).trans (show _ = some (Value.int .i64 pf) from rfl)
  have q3 := (cells_new (w.alloc (.cells #[.slice p.A p.l.length p.ca, .slice p.D p.ds.length p.cd] placesT)) #[.string car, .int .i64 num, .int .i64 pf, .int .i64 pt, .int .i64 pd, .slice A lg.length c] fliT 3).trans (show _ = some (Value.int .i64 pt) from rfl)
  have q4 := (cells_new (w.alloc (.cells #[.slice p.A p.l.length p.ca, .slice p.D p.ds.length p.cd] placesT)) #[.string car, .int .i64 num, .int .i64 pf, .int .i64 pt, .int .i64 pd, .slice A lg.length c] fliT 4).trans (show _ = some (Value.int .i64 pd) from rfl)
  have q5 := (cells_new (w.alloc (.cells #[.slice p.A p.l.length p.ca, .slice p.D p.ds.length p.cd] placesT)) #[.string car, .int .i64 num, .int .i64 pf, .int .i64 pt, .int .i64 pd, .slice A lg.length c] fliT 5).trans (show _ = some (Value.slice A lg.length c) from rfl)
  rw [World.size_alloc] at q0 q1 q2 q3 q4 q5
  have HSZ : Hid (((w.alloc (.cells #[.slice p.A p.l.length p.ca, .slice p.D p.ds.length p.cd] placesT)).alloc (.cells #[.string car, .int .i64 num, .int .i64 pf, .int .i64 pt, .int .i64 pd, .slice A lg.length c] fliT)).heap.size = w.heap.size + 2) := Lib.hid (by simp)
  have HLL := Lib.hid (hL.more hb0)
  have HGG := Lib.hid (hG.more hb0)
  have HO := Lib.hid ho
  clear hL hG ho hz hc0 hpf
  go_enter Tryz.func79, Tryz.ntmps79
  go_upto_region 1 with (fail)
  generalize hw5 : (w.alloc (.cells #[.slice p.A p.l.length p.ca, .slice p.D p.ds.length p.cd] placesT)).alloc (.cells #[.string car, .int .i64 num, .int .i64 pf, .int .i64 pt, .int .i64 pd, .slice A lg.length c] fliT) = w5 at *
  clear hw5 hb1 hb2
  have F0 := Lib.hid (bel_get q0)
  have F1 := Lib.hid (bel_get q1)
  have F2 := Lib.hid (bel_get q2)
  have F3 := Lib.hid (bel_get q3)
  have F4 := Lib.hid (bel_get q4)
  have F5 := Lib.hid (bel_get q5)
  have Y0 := Lib.hid (bel_get p0)
  have Y1 := Lib.hid (bel_get p1)
  clear p0 p1 q0 q1 q2 q3 q4 q5
  have hS0 : SW w5 w5 := Below.refl _ _
  have k0 := F0.out _ hS0
  have k1 := F1.out _ hS0
  have k2 := F2.out _ hS0
  have k3 := F3.out _ hS0
  have k4 := F4.out _ hS0
  have k5 := F5.out _ hS0
  go_upto_region 2 with (go_at_call 59; refine (KH.out _).mono ?_; rintro e w1 ⟨v1, rfl, hO1, hS1⟩)
  have hS1 : SW w5 w1 := hS1
  have k5 := F5.out _ hS1
  clear hS0 k0 k1 k2 k3 k4
  cases hcn : cntB lg.length with
  | false =>
    have HR2 : Hid (CF = HR) := Lib.hid (by rw [HCF.out, if_neg (by rw [hcn]; simp), HHR.out, hcn]; rfl)
    have hc2 : lg.length < 1 ∨ 6 < lg.length := by
      unfold cntB at hcn
      rw [Bool.and_eq_false_iff, decide_eq_false_iff_not, decide_eq_false_iff_not] at hcn
      omega
    clear hcn
    by_cases h1 : (lg.length : Int) < 1
    all_goals
      have i6 : ((lg.length : Int) < 1) ∨ (6 : Int) < (lg.length : Int) := by omega
      first | (have i7 : (6 : Int) < (lg.length : Int) := by omega) | skip
      go_wp2
      go_ret
      exact ⟨v1, rfl, by rw [HR2.out]; exact ⟨hO1.own.mono hb0.size, Nat.le_trans hb0.size hO1.base⟩, hb0.trans (Below.mono hS1 hb0.size)⟩
  | true =>
    have hc2 := cnt_bd hcn
    have HR2 : Hid (HR = HF) := Lib.hid (by rw [HHR.out, hcn]; simp [pick_zero])
    have HC2 : Hid (CF = if (HF ++ lgsF p.l lg lg.length).length = 0 then badD p.l lg D else HF ++ lgsF p.l lg lg.length) := Lib.hid (by rw [HCF.out, if_pos hcn])
    rw [HR2.out] at hO1
    have HI : Hid (FOwn w5.heap.size w1 v1 (HF ++ lgsF p.l lg 0) ∧ SW w5 w1) := Lib.hid ⟨by simpa [lgsF] using hO1, hS1⟩
    have h1 : ¬ (lg.length : Int) < 1 := by omega
    have h6 : ¬ (6 : Int) < (lg.length : Int) := by omega
    clear hcn hO1 HCF HHR HR2 KH
    go_wp2
    clear k5 hS1
    go_loopg [5, 6] lg.length (fun kx v5 vi wr => ∃ (v : Value) (k : Nat), v = v5 ∧ vi = .int .i64 k ∧ k + kx = lg.length ∧ Hid (FOwn w5.heap.size wr v (HF ++ lgsF p.l lg k) ∧ SW w5 wr))
    case atStart => exact ⟨_, 0, rfl, rfl, by omega, HI⟩
    case round =>
      obtain ⟨v, k, rfl, rfl, hkx, HH⟩ := hrel
      clear HI
      have HKX := Lib.hid hkx
      by_cases hlt : k < lg.length
      · clear hkx
        obtain ⟨b, o, x, rfl, hbl, hx, c0, c1, c2, c3, c4⟩ := LegL.get (HGG.out.more HH.out.2) hlt
        have hox := HO.out x (List.mem_of_getElem? hx)
        have hO := HH.out.1
        have hSr : SW w5 wr := HH.out.2
        have HV1 : Hid (∀ g, v.ownBlock = some g → w5.heap.size ≤ g ∧ g < wr.heap.size) := Lib.hid (fun g hg => hO.low hg)
        have hvN : v.ownBlock ≠ some wr.heap.size := fun h => by have := (HV1.out _ h).2; omega
        have hb6 := bel_alloc wr (.cells #[.string x.f, .string x.t, .int .i64 x.dep, .int .i64 x.arr, .string x.eq] legT)
        have n0 := (cells_new wr #[.string x.f, .string x.t, .int .i64 x.dep, .int .i64 x.arr, .string x.eq] legT 0).trans (show _ = some (Value.string x.f) from rfl)
        have n1 := (cells_new wr #[.string x.f, .string x.t, .int .i64 x.dep, .int .i64 x.arr, .string x.eq] legT 1).trans (show _ = some (Value.string x.t) from rfl)
        have n2 := (cells_new wr #[.string x.f, .string x.t, .int .i64 x.dep, .int .i64 x.arr, .string x.eq] legT 2).trans (show _ = some (Value.int .i64 x.dep) from rfl)
        have n3 := (cells_new wr #[.string x.f, .string x.t, .int .i64 x.dep, .int .i64 x.arr, .string x.eq] legT 3).trans (show _ = some (Value.int .i64 x.arr) from rfl)
        have n4 := (cells_new wr #[.string x.f, .string x.t, .int .i64 x.dep, .int .i64 x.arr, .string x.eq] legT 4).trans (show _ = some (Value.string x.eq) from rfl)
        have KDc := Lib.hid (rdec_small k (by omega) (wr.alloc (.cells #[.string x.f, .string x.t, .int .i64 x.dep, .int .i64 x.arr, .string x.eq] legT)))
        have KE := Lib.hid (fun w => rcode_any x.eq 3 3 w hox.eq)
        have KF1 : Hid (∀ W, SW w5 W → Calls Tryz.prog 159 #[encP p, .string x.f] W fun e w' => e = .returned (.tuple #[encA (airOf p.l x.f), .bool (findC p.l x.f).isSome]) ∧ Below W.heap.size W w') := Lib.hid (fun W h => rfind_any p x.f W hl (HLL.out.more h))
        have KF2 : Hid (∀ W, SW w5 W → Calls Tryz.prog 159 #[encP p, .string x.t] W fun e w' => e = .returned (.tuple #[encA (airOf p.l x.t), .bool (findC p.l x.t).isSome]) ∧ Below W.heap.size W w') := Lib.hid (fun W h => rfind_any p x.t W hl (HLL.out.more h))
        have KX : Hid (∀ W, SW w5 W → Calls Tryz.prog 160 #[.slice (some ⟨b, o, none⟩) lg.length c, .int .i64 (k : Int)] W fun e w' => e = .returned (.bool (!nextB (lg.take k) x)) ∧ Below W.heap.size W w') := Lib.hid (fun W h => rbroken_any (some ⟨b, o, none⟩) c lg k x W (by omega) (HGG.out.more h) hx)
        have KM1 := Lib.hid (rout_any x.dep)
        have KM2 := Lib.hid (rout_any x.arr)
        have hle : lgEs p.l (lg.take k) x = [wh (!codeB x.eq 3 3) 5, wh (!((findC p.l x.f).isSome && (findC p.l x.t).isSome)) 14, wh (!nextB (lg.take k) x) 15, wh (!(minB x.dep && minB x.arr)) 2] := rfl
        have HTk : Hid (HF ++ lgsF p.l lg (k + 1) = HF ++ lgsF p.l lg k ++ pick (legW ++ decA k) [wh (!codeB x.eq 3 3) 5] ++ pick (legW ++ decA k) [wh (!((findC p.l x.f).isSome && (findC p.l x.t).isSome)) 14] ++ pick (legW ++ decA k) [wh (!nextB (lg.take k) x) 15] ++ pick (legW ++ decA k) [wh (!(minB x.dep && minB x.arr)) 2]) := Lib.hid (by
          rw [lgsF_succ p.l lg k x hx, hle]
          simp only [List.append_assoc, ← pick_app, List.cons_append, List.nil_append])
        have HFL : Hid ((HF ++ lgsF p.l lg k).length ≤ 1000) := Lib.hid (by have h1 := lgsF_le p.l lg k; have h2 := HHL.out; rw [List.length_append]; omega)
        have hadd : ∀ W : World, (Op.stringOp .add ⟨#[108, 101, 103, 32]⟩ (decA k)).run Tryz.prog W = .ok (.string (legW ++ decA k)) W := fun W => run_string_add_sum W _ _ (by have := decA_size k (by omega); have e : (⟨#[108, 101, 103, 32]⟩ : ByteArray).size = 4 := rfl; omega)
        have i2 : (k : Int) < (lg.length : Int) := by omega
        have k5 := F5.out _ hSr
        generalize airOf p.l x.f = a1 at *
        generalize airOf p.l x.t = a2 at *
        generalize (findC p.l x.f).isSome = kf at *
        generalize (findC p.l x.t).isSome = kt at *
        generalize codeB x.eq 3 3 = ke at *
        generalize nextB (lg.take k) x = kn at *
        generalize minB x.dep = md at *
        generalize minB x.arr = ma at *
        generalize hBL : HF ++ lgsF p.l lg k = BL at *
        clear hx hox hbl hle hBL HH
        generalize hnm : legW ++ decA k = nm at *
        clear hnm
        go_upto_region 9 with (go_at_call 60; refine KDc.out.mono ?_; rintro e w6 ⟨rfl, hbd⟩)
        have hbx : Below wr.heap.size wr w6 := hb6.trans (Below.mono hbd hb6.size)
        have hO := hO.more hbx
        have HS6 : Hid (SW w5 w6) := Lib.hid (Below.trans hSr (hbx.mono hSr.size))
        have n0 := bel_cell hbd n0
        have n1 := bel_cell hbd n1
        have n2 := bel_cell hbd n2
        have n3 := bel_cell hbd n3
        have n4 := bel_cell hbd n4
        have HO6 := Lib.hid hO
        have HSW : Hid (∀ W u, Chg w6 W v u → SW w5 W) := Lib.hid (fun W u h => Below.trans HS6.out (h.below HO6.out))
        have N0 : Hid (∀ W u, Chg w6 W v u → W.cell? ⟨wr.heap.size, 0, none⟩ = some (.string x.f)) := Lib.hid (fun W u h => h.cell n0 hvN)
        have N1 : Hid (∀ W u, Chg w6 W v u → W.cell? ⟨wr.heap.size, 1, none⟩ = some (.string x.t)) := Lib.hid (fun W u h => h.cell n1 hvN)
        have N2 : Hid (∀ W u, Chg w6 W v u → W.cell? ⟨wr.heap.size, 2, none⟩ = some (.int .i64 x.dep)) := Lib.hid (fun W u h => h.cell n2 hvN)
        have N3 : Hid (∀ W u, Chg w6 W v u → W.cell? ⟨wr.heap.size, 3, none⟩ = some (.int .i64 x.arr)) := Lib.hid (fun W u h => h.cell n3 hvN)
        clear k5 c0 c1 c2 c3 c4 hb6 hbd hbx hSr n0 n1 n2 n3 hadd KDc
        go_upto_if 46 with (go_at_call 63; refine (KE.out _).mono ?_; rintro e w' ⟨rfl, rfl⟩)
        go_cut [5] from 28 to 98 (fun u wx => Hid (FOwn w5.heap.size wx u (BL ++ pick nm [wh (!ke) 5]) ∧ Chg w6 wx v u))
        case first =>
          have HLn : Hid (BL.length ≤ 100000000) := Lib.hid (by have := HFL.out; omega)
          cases ke with
          | true =>
            go_wp2
            go_meet
            exact Lib.hid ⟨by rw [wh_pick _ _ _ (by omega)]; simpa using hO, Chg.refl _ _⟩
          | false =>
            go_wp2_with (at_builtin; refine wpList_rapp rtF rfl _ _ rfl hO rfl (bel_alloc _ _) _ (5, nm) _ rfl (cs := #[.int .i64 5, .string nm]) rfl (heap_alloc_new _ _) HLn.out ?_; intro v1 w1 hO1 hC1)
            go_meet
            exact Lib.hid ⟨by rw [wh_pick _ _ _ (by omega)]; exact hO1, hC1⟩
        case rest =>
          have hO := hcut.out.1
          have hC := hcut.out.2
          have hS := HSW.out _ _ hC
          have m0 := N0.out _ _ hC
          have m1 := N1.out _ _ hC
          have y0 := Y0.out _ hS
          have y1 := Y1.out _ hS
          clear hcut n4 HO6
          go_upto_region 13 with (first | (go_at_call 159; with_reducible refine (KF2.out _ hS7).mono ?_; rintro e w8 ⟨rfl, hb8⟩) | (go_at_call 159; with_reducible refine (KF1.out _ hS).mono ?_; rintro e w7 ⟨rfl, hb7⟩; have hS7 : SW w5 (w7.alloc (.cells #[.string a1.code, .string a1.city, .string a1.land, .int .i64 a1.off, .slice a1.A a1.shs.length a1.c] airT)) := Below.alloc (Below.trans hS (Below.mono hb7 hS.size)) (Nat.le_trans hS.size hb7.size) _; have y0 := Y0.out _ hS7; have y1 := Y1.out _ hS7; have m1 := bel_cell (bel_alloc w7 (.cells #[.string a1.code, .string a1.city, .string a1.land, .int .i64 a1.off, .slice a1.A a1.shs.length a1.c] airT)) (bel_cell hb7 m1)))
          have hb9 : Below wc.heap.size wc (w8.alloc (.cells #[.string a2.code, .string a2.city, .string a2.land, .int .i64 a2.off, .slice a2.A a2.shs.length a2.c] airT)) := (((Below.alloc hb7 hb7.size (.cells #[.string a1.code, .string a1.city, .string a1.land, .int .i64 a1.off, .slice a1.A a1.shs.length a1.c] airT)).trans (Below.mono hb8 (Nat.le_trans hb7.size (bel_alloc w7 (.cells #[.string a1.code, .string a1.city, .string a1.land, .int .i64 a1.off, .slice a1.A a1.shs.length a1.c] airT)).size))).alloc (Nat.le_trans hb7.size (Nat.le_trans (bel_alloc w7 (.cells #[.string a1.code, .string a1.city, .string a1.land, .int .i64 a1.off, .slice a1.A a1.shs.length a1.c] airT)).size hb8.size)) (.cells #[.string a2.code, .string a2.city, .string a2.land, .int .i64 a2.off, .slice a2.A a2.shs.length a2.c] airT))
          have hO := hO.more hb9
          have hC := hC.trans (Chg.of_below hb9)
          generalize hw9 : w8.alloc (.cells #[.string a2.code, .string a2.city, .string a2.land, .int .i64 a2.off, .slice a2.A a2.shs.length a2.c] airT) = w9 at *
          clear hb9 m0 m1 y0 y1 hS hS7 hb7 hb8 hw9
          go_cut [71] from 28 to 98 (fun v71 wx => v71 = .bool (!(kf && kt)) ∧ wx = w9)
          case first =>
            cases kf with
            | false =>
              go_wp2
              go_meet
              exact ⟨rfl, rfl⟩
            | true =>
              go_wp2
              go_meet
              exact ⟨rfl, rfl⟩
          case rest =>
            obtain ⟨rfl, hwc⟩ := hcut
            obtain rfl := hwc
            generalize (kf && kt) = kb at *
            go_upto_if 71 with fail
            go_cut [5] from 28 to 98 (fun u wx => Hid (FOwn w5.heap.size wx u (BL ++ pick nm [wh (!ke) 5] ++ pick nm [wh (!kb) 14]) ∧ Chg w6 wx v u))
            case first =>
              have HLn : Hid ((BL ++ pick nm [wh (!ke) 5]).length ≤ 100000000) := Lib.hid (by have h9 := HFL.out; have h0 := pick_le nm [wh (!ke) 5]; have h1 := pick_le nm [wh (!kb) 14]; have h2 := pick_le nm [wh (!kn) 15]; simp only [List.length_append, List.length_cons, List.length_nil] at h0 h1 h2 ⊢; omega)
              cases kb with
              | true =>
                go_wp2
                go_meet
                exact Lib.hid ⟨by rw [wh_pick nm (!true) 14 (by omega)]; simpa using hO, hC⟩
              | false =>
                go_wp2_with (at_builtin; refine wpList_rapp rtF rfl _ _ rfl hO rfl (bel_alloc _ _) _ (14, nm) _ rfl (cs := #[.int .i64 14, .string nm]) rfl (heap_alloc_new _ _) HLn.out ?_; intro v1 w1 hO1 hC1)
                go_meet
                exact Lib.hid ⟨by rw [wh_pick nm (!false) 14 (by omega)]; exact hO1, hC.trans hC1⟩
            case rest =>
              have hO := hcut.out.1
              have hC := hcut.out.2
              have hS := HSW.out _ _ hC
              have k5 := F5.out _ hS
              clear hcut
              go_upto_if 80 with (go_at_call 160; refine (KX.out _ hS).mono ?_; rintro e w2 ⟨rfl, hb2⟩)
              have hO := hO.more hb2
              have hC := hC.trans (Chg.of_below hb2)
              clear hb2 hS k5
              go_cut [5] from 28 to 98 (fun u wx => Hid (FOwn w5.heap.size wx u (BL ++ pick nm [wh (!ke) 5] ++ pick nm [wh (!kb) 14] ++ pick nm [wh (!kn) 15]) ∧ Chg w6 wx v u))
              case first =>
                have HLn : Hid ((BL ++ pick nm [wh (!ke) 5] ++ pick nm [wh (!kb) 14]).length ≤ 100000000) := Lib.hid (by have h9 := HFL.out; have h0 := pick_le nm [wh (!ke) 5]; have h1 := pick_le nm [wh (!kb) 14]; have h2 := pick_le nm [wh (!kn) 15]; simp only [List.length_append, List.length_cons, List.length_nil] at h0 h1 h2 ⊢; omega)
                cases kn with
                | true =>
                  go_wp2
                  go_meet
                  exact Lib.hid ⟨by rw [wh_pick nm (!true) 15 (by omega)]; simpa using hO, hC⟩
                | false =>
                  go_wp2_with (at_builtin; refine wpList_rapp rtF rfl _ _ rfl hO rfl (bel_alloc _ _) _ (15, nm) _ rfl (cs := #[.int .i64 15, .string nm]) rfl (heap_alloc_new _ _) HLn.out ?_; intro v1 w1 hO1 hC1)
                  go_meet
                  exact Lib.hid ⟨by rw [wh_pick nm (!false) 15 (by omega)]; exact hO1, hC.trans hC1⟩
              case rest =>
                have hO := hcut.out.1
                have hC := hcut.out.2
                have m2 := N2.out _ _ hC
                have m3 := N3.out _ _ hC
                clear hcut
                go_upto_region 17 with fail
                go_cut [93] from 28 to 98 (fun v93 wx => v93 = .bool (!(md && ma)) ∧ wx = wc)
                case first =>
                  cases md with
                  | false =>
                    go_wp2_with (go_at_call 64; first | (with_reducible refine (KM1.out _).mono ?_; rintro e w' ⟨rfl, rfl⟩) | (with_reducible refine (KM2.out _).mono ?_; rintro e w' ⟨rfl, rfl⟩))
                    go_meet
                    exact ⟨rfl, rfl⟩
                  | true =>
                    go_wp2_with (go_at_call 64; first | (with_reducible refine (KM1.out _).mono ?_; rintro e w' ⟨rfl, rfl⟩) | (with_reducible refine (KM2.out _).mono ?_; rintro e w' ⟨rfl, rfl⟩))
                    go_meet
                    exact ⟨rfl, rfl⟩
                case rest =>
                  obtain ⟨rfl, hwc⟩ := hcut
                  obtain rfl := hwc
                  clear m2 m3
                  generalize (md && ma) = mb at *
                  go_upto_if 93 with fail
                  have HLn : Hid ((BL ++ pick nm [wh (!ke) 5] ++ pick nm [wh (!kb) 14] ++ pick nm [wh (!kn) 15]).length ≤ 100000000) := Lib.hid (by have h9 := HFL.out; have h0 := pick_le nm [wh (!ke) 5]; have h1 := pick_le nm [wh (!kb) 14]; have h2 := pick_le nm [wh (!kn) 15]; simp only [List.length_append, List.length_cons, List.length_nil] at h0 h1 h2 ⊢; omega)
                  cases mb with
                  | true =>
                    have HY : Hid (FOwn w5.heap.size wc _ (HF ++ lgsF p.l lg (k + 1)) ∧ SW w5 wc) := Lib.hid ⟨by rw [HTk.out, wh_pick nm (!true) 2 (by omega)]; simpa using hO, HSW.out _ _ hC⟩
                    clear hO hC
                    go_wp2
                    go_roundg (lg.length - (k + 1))
                    case measure => have := HKX.out; omega
                    case rel => exact ⟨_, k + 1, rfl, by go_num, by omega, HY⟩
                  | false =>
                    go_wp2_with (at_builtin; refine wpList_rapp rtF rfl _ _ rfl hO rfl (bel_alloc _ _) _ (2, nm) _ rfl (cs := #[.int .i64 2, .string nm]) rfl (heap_alloc_new _ _) HLn.out ?_; intro v9 w9 hO1 hC1)
                    have HY : Hid (FOwn w5.heap.size w9 v9 (HF ++ lgsF p.l lg (k + 1)) ∧ SW w5 w9) := Lib.hid ⟨by rw [HTk.out, wh_pick nm (!false) 2 (by omega)]; exact hO1, HSW.out _ _ (hC.trans hC1)⟩
                    clear hO hC hO1 hC1
                    go_roundg (lg.length - (k + 1))
                    case measure => have := HKX.out; omega
                    case rel => exact ⟨_, k + 1, rfl, by go_num, by omega, HY⟩
      · have hk : k = lg.length := by omega
        have hO := HH.out.1
        have hSr : SW w5 wr := HH.out.2
        have HBT2 : Hid (HF ++ lgsF p.l lg k = [] → ∀ x ∈ lg, (-1000000 ≤ x.dep ∧ x.dep ≤ 1000000) ∧ -1000000 ≤ x.arr ∧ x.arr ≤ 1000000) := Lib.hid (by
          rw [hk]
          exact fun h x hx => HBT.out x hx (List.append_eq_nil_iff.1 h).2)
        have HC3 : Hid (CF = if (HF ++ lgsF p.l lg k).length = 0 then badD p.l lg (D.drop 0) else HF ++ lgsF p.l lg k) := Lib.hid (by rw [HC2.out, hk]; rfl)
        have HBL : Hid ((HF ++ lgsF p.l lg k).length ≤ 1000) := Lib.hid (by have h1 := lgsF_le p.l lg k; have h2 := HHL.out; rw [List.length_append]; omega)
        generalize hBL : HF ++ lgsF p.l lg k = BL at *
        have i1 : ¬ (k : Int) < (lg.length : Int) := by omega
        have k5 := F5.out _ hSr
        have k2 := F2.out _ hSr
        have k3 := F3.out _ hSr
        have k4 := F4.out _ hSr
        clear HH hkx hk hBL HC2 HBT
        go_wp2_with (go_at_call 100; refine (KD.out _).mono ?_; rintro e w2 ⟨v2, rfl, ⟨A2, c2, rfl, hI⟩, hbd⟩)
        have hO := hO.more hbd
        have hS2 : SW w5 w2 := Below.trans hSr (Below.mono hbd hSr.size)
        have HI2 := Lib.hid hI
        clear hI hbd k5 k2 k3 k4 hSr
        go_loopg [5, 14] D.length (fun kx v5 vi wr => ∃ (u : Value) (j : Nat) (Lc : List Flt), u = v5 ∧ vi = .int .i64 j ∧ j + kx = D.length ∧ Hid (FOwn w5.heap.size wr u Lc ∧ SW w5 wr ∧ Lc.length ≤ 1000) ∧ Hid (Lc.length = 0 → BL = [] ∧ SW w2 wr) ∧ Hid (CF = if Lc.length = 0 then badD p.l lg (D.drop j) else Lc))
        case atStart => exact ⟨_, 0, BL, rfl, rfl, by omega, Lib.hid ⟨hO, hS2, HBL.out⟩, Lib.hid (fun h => ⟨List.eq_nil_of_length_eq_zero h, Below.refl _ _⟩), HC3⟩
        case round =>
          obtain ⟨u, j, Lc, rfl, rfl, hjx, HH, HZ, HC⟩ := hrel
          have HJX := Lib.hid hjx
          have hO := HH.out.1
          have hS : SW w5 wr := HH.out.2.1
          clear HC3 HBL hS2
          obtain ⟨Au, cu, rfl, hvc⟩ := id (hO.rowL rtF.len)
          clear hvc
          by_cases hl0 : Lc.length = 0
          · obtain ⟨hBN, hSw2⟩ := HZ.out hl0
            have HCb : Hid (CF = badD p.l lg (D.drop j)) := Lib.hid (by rw [HC.out, if_pos hl0])
            have hLn := List.eq_nil_of_length_eq_zero hl0
            subst hLn
            have HT := Lib.hid (HBT2.out hBN)
            by_cases hlt2 : j < D.length
            · have i4 : (j : Int) < (D.length : Int) := by omega
              obtain ⟨b, o, rfl, hlb, hc⟩ : ∃ b o, A2 = some ⟨b, o, none⟩ ∧ b < w2.heap.size ∧ w2.cell? ⟨b, o + j, none⟩ = some (.int .i64 D[j]) := by
                rcases HI2.out with h | ⟨b, o, h1, h2, h3⟩
                · rw [h] at hlt2; simp at hlt2
                · exact ⟨b, o, h1, h2, h3 j hlt2⟩
              have hcr := bel_cell hSw2 hc
              have HB2 := Lib.hid (HCb.out.trans (badD_at hlt2))
              have hd := HB.out _ (List.getElem_mem hlt2)
              have HNX : Hid (j + 1 + (D.length - (j + 1)) = D.length) := Lib.hid (by omega)
              generalize D[j] = d at *
              have hBo := HDO.out d
              have KL2 : Hid (∀ W, SW wr W → Calls Tryz.prog 162 #[encP p, .agg #[.string car, .int .i64 num, .int .i64 pf, .int .i64 pt, .int .i64 pd, .slice A lg.length c], .int .i64 d] W fun e w' => ∃ v, e = .returned v ∧ RowL 8 encDt w' v (DL d) ∧ SW wr w') := Lib.hid (fun W h => (KLg.out d W HT.out (HLL.out.more (Below.trans hS (Below.mono h hS.size))) (HGG.out.more (Below.trans hS (Below.mono h hS.size))) hd).mono (by rintro e w' ⟨v, rfl, h1, h2⟩; exact ⟨v, rfl, h1.rowL rtD.len, Below.trans h (Below.mono h2 h.size)⟩))
              have KO2 : Hid (∀ u W, RowL 8 encDt W u (DL d) → SW wr W → Calls Tryz.prog 161 #[u] W fun e w' => e = .returned (.bool (ordT true 0 (timL p.l lg d))) ∧ SW wr w') := Lib.hid (fun u W hu h => (rordered_any u (DL d) W hu (HDN.out d)).mono (by rintro e w' ⟨rfl, h2⟩; exact ⟨by rw [hBo], Below.trans h (Below.mono h2 h.size)⟩))
              have KPr := Lib.hid (rprint_any d)
              generalize ordT true 0 (timL p.l lg d) = ob at *
              have e0 := bel_get hcr
              have e1 : ∀ W, SW wr W → W.cell? ⟨w.heap.size, 0, none⟩ = some (.slice p.A p.l.length p.ca) := fun W h => Y0.out W (Below.trans hS (Below.mono h hS.size))
              have e2 : ∀ W, SW wr W → W.cell? ⟨w.heap.size, 1, none⟩ = some (.slice p.D p.ds.length p.cd) := fun W h => Y1.out W (Below.trans hS (Below.mono h hS.size))
              have g0 : ∀ W, SW wr W → W.cell? ⟨w.heap.size + 1, 0, none⟩ = some (.string car) := fun W h => F0.out W (Below.trans hS (Below.mono h hS.size))
              have g1 : ∀ W, SW wr W → W.cell? ⟨w.heap.size + 1, 1, none⟩ = some (.int .i64 num) := fun W h => F1.out W (Below.trans hS (Below.mono h hS.size))
              have g2 : ∀ W, SW wr W → W.cell? ⟨w.heap.size + 1, 2, none⟩ = some (.int .i64 pf) := fun W h => F2.out W (Below.trans hS (Below.mono h hS.size))
              have g3 : ∀ W, SW wr W → W.cell? ⟨w.heap.size + 1, 3, none⟩ = some (.int .i64 pt) := fun W h => F3.out W (Below.trans hS (Below.mono h hS.size))
              have g4 : ∀ W, SW wr W → W.cell? ⟨w.heap.size + 1, 4, none⟩ = some (.int .i64 pd) := fun W h => F4.out W (Below.trans hS (Below.mono h hS.size))
              have g5 : ∀ W, SW wr W → W.cell? ⟨w.heap.size + 1, 5, none⟩ = some (.slice A lg.length c) := fun W h => F5.out W (Below.trans hS (Below.mono h hS.size))
              have HBN := Lib.hid hBN
              clear hjx HH HZ HC hBN hc hcr hBo HCb hl0 hlb
              go_upto_region 23 with (fail)
              have HSk : Hid (SW w5 wr) := Lib.hid hS
              have hS : (SW wr) _ := SW.drew _
              refine wp_region_held_drew (S := SW wr) (by kernel_rfl) hS (fun _ => ?_)
              refine wpAnyH_take (i := 0) (v := ?vD0) rfl (by kernel_rfl) (by kernel_rfl) (by kernel_rfl) (fun _ _ _ h => h) (Or.inl ⟨by rfl, ?hyD0⟩) hS ?restD0
              case hyD0 =>
                intro w hSw
                have k0 := e1 w hSw; have k1 := e2 w hSw
                first | (go_simp; done) | (go_simp; with_reducible rfl)
              try simp only [Act.put, List.setIfInBounds_toArray, List.set_cons_zero, List.set_cons_succ]
              refine wpAnyH_take (i := 1) (v := ?vD1) rfl (by kernel_rfl) (by kernel_rfl) (by kernel_rfl) (fun _ _ _ h => h) (Or.inl ⟨by rfl, ?hyD1⟩) hS ?restD1
              case hyD1 =>
                intro w hSw
                have k0 := g0 w hSw; have k1 := g1 w hSw; have k2 := g2 w hSw; have k3 := g3 w hSw; have k4 := g4 w hSw; have k5 := g5 w hSw
                first | (go_simp; done) | (go_simp; with_reducible rfl)
              try simp only [Act.put, List.setIfInBounds_toArray, List.set_cons_zero, List.set_cons_succ]
              refine wpAnyH_take (i := 2) (v := ?vD2) rfl (by kernel_rfl) (by kernel_rfl) (by kernel_rfl) (fun _ _ _ h => h) (Or.inl ⟨by rfl, ?hyD2⟩) hS ?restD2
              case hyD2 =>
                intro w hSw
                first | (go_simp; done) | (go_simp; with_reducible rfl)
              try simp only [Act.put, List.setIfInBounds_toArray, List.set_cons_zero, List.set_cons_succ]
              refine wpAnyH_take (i := 3) (v := ?vD3) rfl (by kernel_rfl) (by kernel_rfl) (by kernel_rfl) (fun _ _ _ h => h) (Or.inl ⟨by rfl, ?hyD3⟩) hS ?restD3
              case hyD3 =>
                intro w hSw
                first | (go_simp; done) | (go_simp; with_reducible rfl)
              try simp only [Act.put, List.setIfInBounds_toArray, List.set_cons_zero, List.set_cons_succ]
              refine wpAnyH_take (i := 4) (v := ?vD4) rfl (by kernel_rfl) (by kernel_rfl) (by kernel_rfl) (fun _ _ _ h => h) (Or.inl ⟨by rfl, ?hyD4⟩) hS ?restD4
              case hyD4 =>
                intro w hSw
                first | (go_simp; done) | (go_simp; with_reducible rfl)
              try simp only [Act.put, List.setIfInBounds_toArray, List.set_cons_zero, List.set_cons_succ]
              refine wpAnyH_take (i := 5) (v := ?vD5) rfl (by kernel_rfl) (by kernel_rfl) (by kernel_rfl) (fun _ _ _ h => h) (Or.inl ⟨by rfl, ?hyD5⟩) hS ?restD5
              case hyD5 =>
                intro w hSw
                have k0 := e0 w hSw
                first | (go_simp; done) | (go_simp; with_reducible rfl)
              try simp only [Act.put, List.setIfInBounds_toArray, List.set_cons_zero, List.set_cons_succ]
              refine wpAnyH_ready (rs := [6]) (by kernel_rfl) (by simp) ?_
              refine AllReadyH.cons rfl (fun K hK => ?_) AllReadyH.nil
              go_simp
              go_wp2_with ((go_at_call 162; refine (KL2.out _ hS).mono ?_; rintro e w7 ⟨u7, rfl, hD7, hS⟩))
              refine hK.out _ _ hS (fun _ => ?_)
              clear hK K
              refine wpAnyH_ready (rs := [7]) (by kernel_rfl) (by simp) ?_
              refine AllReadyH.cons rfl (fun K hK => ?_) AllReadyH.nil
              go_simp
              go_wp2_with ((go_at_call 161; refine (KO2.out u7 _ hD7 hS).mono ?_; rintro e w8 ⟨rfl, hS⟩))
              refine hK.out _ _ hS (fun _ => ?_)
              clear hK K
              refine wpAnyH_take (i := 8) (v := ?vD8) rfl (by kernel_rfl) (by kernel_rfl) (by kernel_rfl) (fun _ _ _ h => h) (Or.inl ⟨by rfl, ?hyD8⟩) hS ?restD8
              case hyD8 =>
                intro w hSw
                first | (go_simp; done) | (go_simp; with_reducible rfl)
              try simp only [Act.put, List.setIfInBounds_toArray, List.set_cons_zero, List.set_cons_succ]
              refine wpAnyH_done (by kernel_rfl) ?_ _
              simp only [List.getElem_toArray, List.getElem_cons_succ, List.getElem_cons_zero, List.set_cons_zero, List.set_cons_succ]
              have hSk : SW w5 w8 := Below.trans HSk.out (Below.mono hS HSk.out.size)
              have hO := hO.more hS
              have z0 := e0 _ hS
              have hS2w : SW w2 w8 := Below.trans hSw2 (Below.mono hS hSw2.size)
              clear hSw2
              cases ob with
              | true =>
                have HR : Hid (CF = badD p.l lg (D.drop (j + 1))) := Lib.hid (by rw [HB2.out]; rfl)
                go_wp2
                go_roundg (D.length - (j + 1))
                case measure => have := HJX.out; omega
                case rel => exact ⟨_, j + 1, [], rfl, by go_num, HNX.out, Lib.hid ⟨hO, hSk, by simp⟩, Lib.hid (fun _ => ⟨HBN.out, hS2w⟩), HR⟩
              | false =>
                obtain ⟨X, hX⟩ : ∃ X, X = (⟨(printL d).toArray⟩ : ByteArray) := ⟨_, rfl⟩
                rw [← hX] at KPr
                have HR : Hid (CF = [(13, dayW ++ X)]) := Lib.hid (by rw [HB2.out, hX]; rfl)
                have hzX : X.size ≤ 10 := by rw [hX]; exact Per.print_len10 d
                have A1 := fun W => run_string_add_sum (P := Tryz.prog) (w := W) (⟨#[100, 97, 121, 32]⟩ : ByteArray) X (by show 4 + X.size ≤ _; omega)
                clear hX
                go_wp2_with (first
                  | (go_at_call 139; refine (KPr.out _).mono ?_; rintro e w9 ⟨rfl, hb9⟩; have hO := hO.more hb9; have hSk : SW w5 w9 := Below.trans hSk (Below.mono hb9 hSk.size))
                  | (at_builtin; refine wpList_rapp rtF rfl _ _ rfl hO rfl (bel_alloc _ _) _ (13, dayW ++ X) _ rfl (cs := #[.int .i64 13, .string (dayW ++ X)]) rfl (heap_alloc_new _ _) (by simp) ?_; intro v9 w10 hO1 hC1))
                have hSz : SW w5 w10 := Below.trans hSk (hC1.below hO)
                go_roundg (D.length - (j + 1))
                case measure => have := HJX.out; omega
                case rel => exact ⟨_, j + 1, [(13, dayW ++ X)], rfl, by go_num, HNX.out, Lib.hid ⟨hO1, hSz, by simp⟩, Lib.hid (fun h => by simp at h), Lib.hid (by rw [HR.out]; rfl)⟩
            · have HR : Hid (CF = []) := Lib.hid (by rw [HCb.out, List.drop_of_length_le (by omega)]; rfl)
              have i4 : ¬ (j : Int) < (D.length : Int) := by omega
              clear HH HZ HC hl0 hjx hBN HCb
              go_wp2
              go_ret
              exact ⟨_, rfl, by rw [HR.out]; exact ⟨hO.own.mono hb0.size, Nat.le_trans hb0.size hO.base⟩, hb0.trans (Below.mono hS hb0.size)⟩
          · have HR : Hid (CF = Lc) := Lib.hid (by rw [HC.out, if_neg hl0])
            have i4 : ((Lc.length : Int) == 0) = false := by rw [beq_eq_false_iff_ne]; omega
            clear HH HZ HC hl0 hjx
            go_wp2
            go_ret
            exact ⟨_, rfl, by rw [HR.out]; exact ⟨hO.own.mono hb0.size, Nat.le_trans hb0.size hO.base⟩, hb0.trans (Below.mono hS hb0.size)⟩

end Go.Proofs.YtldillnjnjkkgaaGreatDoor
