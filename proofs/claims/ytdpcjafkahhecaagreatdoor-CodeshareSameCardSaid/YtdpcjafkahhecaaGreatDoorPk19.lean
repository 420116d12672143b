/- Words and walks that the laws below ask: ShrU, ShrV, ShrC. -/
import Derived.Deep.LoopGhost
import Derived.Test.YtdpcjafkahhecaaGreatDoorPk14
import Derived.Test.YtdpcjafkahhecaaGreatDoorPk18
/- Walk of the reference's share. -/
namespace Go.Proofs.YtdpcjafkahhecaaGreatDoor
open Go.RowKit Go.Shelf Go.Maps
set_option linter.unusedSimpArgs false
set_option linter.unusedVariables false

theorem errs_bad {fs : List FV} {B : List Sh} {s : Sh} {x : Int} (hx : x = Per.errQ (s.pf, s.pt, s.pd)) (h : x ≠ 0) : okE (shEs fs B s) = okE [wh (!carB s.car || !carB s.op) 5] ++ okE [wh (!num9B s.num || !num9B s.am) 2] ++ okE [wh (s.car.toList == s.op.toList) 8] ++ [x] := by
  have hd : Per.daysQ (s.pf, s.pt, s.pd) = [] := by
    cases hk : Per.okQ (s.pf, s.pt, s.pd) with
    | false => exact Per.daysQ_no hk
    | true => exact absurd (hx.trans (Per.errQ_ok hk)) h
  unfold shEs
  rw [hd, ← hx]
  simp only [List.any_nil]
  rw [show [wh (!carB s.car || !carB s.op) 5, wh (!num9B s.num || !num9B s.am) 2, wh (s.car.toList == s.op.toList) 8, x, wh false 7, wh false 15, wh false 6] = [wh (!carB s.car || !carB s.op) 5] ++ [wh (!num9B s.num || !num9B s.am) 2] ++ [wh (s.car.toList == s.op.toList) 8] ++ [x] ++ [wh false 7, wh false 15, wh false 6] from rfl]
  rw [okE_app, okE_app, okE_app, okE_app, okE_one x h]
  simp [okE, wh]
theorem errs_good {fs : List FV} {B : List Sh} {s : Sh} (h : Per.errQ (s.pf, s.pt, s.pd) = 0) : okE (shEs fs B s) = okE [wh (!carB s.car || !carB s.op) 5] ++ okE [wh (!num9B s.num || !num9B s.am) 2] ++ okE [wh (s.car.toList == s.op.toList) 8] ++ okE [wh ((Per.daysQ (s.pf, s.pt, s.pd)).any (nonD fs s)) 7, wh ((Per.daysQ (s.pf, s.pt, s.pd)).any (offD fs s)) 15, wh ((Per.daysQ (s.pf, s.pt, s.pd)).any (ownB fs (soS B) s)) 6] := by
  unfold shEs
  rw [h]
  rw [show ∀ a b c d e f : Int, [a, b, c, 0, d, e, f] = [a] ++ [b] ++ [c] ++ [0] ++ [d, e, f] from fun _ _ _ _ _ _ => rfl]
  rw [okE_app, okE_app, okE_app, okE_app]
  simp [okE]
theorem okE_le1 (x : Int) : (okE [x]).length ≤ 1 := List.length_filter_le _ _
set_option maxRecDepth 100000 in
set_option maxHeartbeats 16000000 in
theorem rshare9_any (A0 : Option Addr) (c0 : Nat) (fs : List FV) (A : Option Addr) (c : Nat) (sh : List Sh) (i : Nat) (s : Sh) (w : World) (hfl : fs.length ≤ 1000) (hfg : ∀ f ∈ fs, f.lg.length ≤ 1000) (hv : TblL w (.slice A0 fs.length c0) fs) (hl : sh.length ≤ 50) (hs : RowL 9 encSh9 w (.slice A sh.length c) sh) (hi : sh[i]? = some s) (hpf : -9223372036854775808 ≤ s.pf ∧ s.pf ≤ 9223372036854775807) (hca : s.car.size ≤ maxLen) (hop : s.op.size ≤ maxLen) :
    Calls Tryz.prog 41 #[.slice A0 fs.length c0, .slice A sh.length c, .int .i64 (i : Int)] w fun e w' => ∃ v, e = .returned v ∧ EOwn w.heap.size w' v (okE (shEs fs (sh.take i) s)) ∧ Below w.heap.size w w' := by
  have hil := (List.getElem?_eq_some_iff.1 hi).1
  obtain ⟨b, o, e1, hbl, hc⟩ := RowL.at9 hs hi
  cases e1
  have d0 := hc 0 _ rfl
  have d1 := hc 1 _ rfl
  have d2 := hc 2 _ rfl
  have d3 := hc 3 _ rfl
  have d4 := hc 4 _ rfl
  have d5 := hc 5 _ rfl
  have d6 := hc 6 _ rfl
  have d7 := hc 7 _ rfl
  have d8 := hc 8 _ rfl
  rw [Nat.add_zero] at d0
  have hb0 := bel_alloc w (.cells #[.string s.car, .int .i64 s.num, .int .i64 s.pf, .int .i64 s.pt, .int .i64 s.pd, .string s.op, .int .i64 s.am, .string s.f, .string s.t] shT)
  have n0 := (cells_new w #[.string s.car, .int .i64 s.num, .int .i64 s.pf, .int .i64 s.pt, .int .i64 s.pd, .string s.op, .int .i64 s.am, .string s.f, .string s.t] shT 0).trans (show _ = some (Value.string s.car) from rfl)
  have n1 := (cells_new w #[.string s.car, .int .i64 s.num, .int .i64 s.pf, .int .i64 s.pt, .int .i64 s.pd, .string s.op, .int .i64 s.am, .string s.f, .string s.t] shT 1).trans (show _ = some (Value.int .i64 s.num) from rfl)
  have n2 := (cells_new w #[.string s.car, .int .i64 s.num, .int .i64 s.pf, .int .i64 s.pt, .int .i64 s.pd, .string s.op, .int .i64 s.am, .string s.f, .string s.t] shT 2).trans (show _ = some (Value.int .i64 s.pf) from rfl)
  have n3 := (cells_new w #[.string s.car, .int .i64 s.num, .int .i64 s.pf, .int .i64 s.pt, .int .i64 s.pd, .string s.op, .int .i64 s.am, .string s.f, .string s.t] shT 3).trans (show _ = some (Value.int .i64 s.pt) from rfl)
  have n4 := (cells_new w #[.string s.car, .int .i64 s.num, .int .i64 s.pf, .int .i64 s.pt, .int .i64 s.pd, .string s.op, .int .i64 s.am, .string s.f, .string s.t] shT 4).trans (show _ = some (Value.int .i64 s.pd) from rfl)
  have n5 := (cells_new w #[.string s.car, .int .i64 s.num, .int .i64 s.pf, .int .i64 s.pt, .int .i64 s.pd, .string s.op, .int .i64 s.am, .string s.f, .string s.t] shT 5).trans (show _ = some (Value.string s.op) from rfl)
  have n6 := (cells_new w #[.string s.car, .int .i64 s.num, .int .i64 s.pf, .int .i64 s.pt, .int .i64 s.pd, .string s.op, .int .i64 s.am, .string s.f, .string s.t] shT 6).trans (show _ = some (Value.int .i64 s.am) from rfl)
  have n7 := (cells_new w #[.string s.car, .int .i64 s.num, .int .i64 s.pf, .int .i64 s.pt, .int .i64 s.pd, .string s.op, .int .i64 s.am, .string s.f, .string s.t] shT 7).trans (show _ = some (Value.string s.f) from rfl)
  have n8 := (cells_new w #[.string s.car, .int .i64 s.num, .int .i64 s.pf, .int .i64 s.pt, .int .i64 s.pd, .string s.op, .int .i64 s.am, .string s.f, .string s.t] shT 8).trans (show _ = some (Value.string s.t) from rfl)
  have i1 : (i : Int) < (sh.length : Int) := by omega
  have HB0 := Lib.hid hb0
  have KY : Hid (∀ W, Below w.heap.size w W → Calls Tryz.prog 68 #[.slice A0 fs.length c0, .slice (some ⟨b, o, none⟩) sh.length c, .int .i64 (i : Int)] W fun e w' => ∃ v, e = .returned v ∧ EOwn W.heap.size w' v (okE [wh ((Per.daysQ (s.pf, s.pt, s.pd)).any (nonD fs s)) 7, wh ((Per.daysQ (s.pf, s.pt, s.pd)).any (offD fs s)) 15, wh ((Per.daysQ (s.pf, s.pt, s.pd)).any (ownB fs (soS (sh.take i)) s)) 6]) ∧ Below W.heap.size W w') := Lib.hid (fun W h => rdays9_any A0 c0 fs (some ⟨b, o, none⟩) c sh i s W hfl hfg (hv.more h) hl (hs.more h) hi hpf)
  obtain ⟨ys, hys⟩ : ∃ l, l = okE [wh ((Per.daysQ (s.pf, s.pt, s.pd)).any (nonD fs s)) 7, wh ((Per.daysQ (s.pf, s.pt, s.pd)).any (offD fs s)) 15, wh ((Per.daysQ (s.pf, s.pt, s.pd)).any (ownB fs (soS (sh.take i)) s)) 6] := ⟨_, rfl⟩
  have hyl : ys.length ≤ 3 := by rw [hys]; exact List.length_filter_le _ _
  rw [← hys] at KY
  obtain ⟨er, her⟩ : ∃ x, x = Per.errQ (s.pf, s.pt, s.pd) := ⟨_, rfl⟩
  obtain ⟨k0, hk0⟩ : ∃ x, x = carB s.car := ⟨_, rfl⟩
  obtain ⟨k1, hk1⟩ : ∃ x, x = carB s.op := ⟨_, rfl⟩
  obtain ⟨E, hE⟩ : ∃ E, E = okE (shEs fs (sh.take i) s) := ⟨_, rfl⟩
  obtain ⟨b3, hb3⟩ : ∃ x, (s.car.toList == s.op.toList) = x := ⟨_, rfl⟩
  obtain ⟨b1, hb1⟩ : ∃ x, x = (!k0 || !k1) := ⟨_, rfl⟩
  obtain ⟨b2, hb2⟩ : ∃ x, x = (!num9B s.num || !num9B s.am) := ⟨_, rfl⟩
  have HE0 : Hid (er ≠ 0 → E = okE [wh b1 5] ++ okE [wh b2 2] ++ okE [wh b3 8] ++ [er]) := Lib.hid (fun h => by rw [hE, errs_bad her h, ← hk0, ← hk1, hb3, ← hb1, ← hb2])
  have HE1 : Hid (er = 0 → E = okE [wh b1 5] ++ okE [wh b2 2] ++ okE [wh b3 8] ++ ys) := Lib.hid (fun h => by rw [hE, errs_good (her.symm.trans h), ← hk0, ← hk1, hb3, ← hb1, ← hb2, hys])
  have KC0 : Hid (∀ W, Calls Tryz.prog 66 #[.string s.car] W fun e w' => e = .returned (.bool k0) ∧ W = w') := Lib.hid (fun W => by rw [hk0]; exact rcarrier_any s.car W hca)
  have KC1 : Hid (∀ W, Calls Tryz.prog 66 #[.string s.op] W fun e w' => e = .returned (.bool k1) ∧ W = w') := Lib.hid (fun W => by rw [hk1]; exact rcarrier_any s.op W hop)
  have KP : Hid (∀ W, Calls Tryz.prog 67 #[.agg #[.int .i64 s.pf, .int .i64 s.pt, .int .i64 s.pd]] W fun e w' => e = .returned (.int .i64 er) ∧ Below W.heap.size W w') := Lib.hid (fun W => by rw [her]; exact Per.rcheck_any s.pf s.pt s.pd W)
  rw [← hE]
  have HK1 := Lib.hid hb1
  have HK2 := Lib.hid hb2
  have HL1 := Lib.hid (okE_le1 (wh b1 5))
  have HL2 := Lib.hid (okE_le1 (wh b2 2))
  have HL3 := Lib.hid (okE_le1 (wh b3 8))
  clear hv hs hfg hc hi hE her hk0 hk1 hb1 hb2 hys hbl
  obtain ⟨N, hN⟩ : ∃ N, N = w.heap.size := ⟨_, rfl⟩
  rw [← hN] at n0 n1 n2 n3 n4 n5 n6 n7 n8
  have HN := Lib.hid hN
  go_enter Tryz.func41, Tryz.ntmps41
  go_upto_region 3 with fail
  try rw [← hN]
  generalize hw5 : (w.alloc (.cells #[.string s.car, .int .i64 s.num, .int .i64 s.pf, .int .i64 s.pt, .int .i64 s.pd, .string s.op, .int .i64 s.am, .string s.f, .string s.t] shT)) = w5 at *
  clear hw5 hb0 hN d0 d1 d2 d3 d4 d5 d6 d7 d8
  have f0 := bel_get n0
  have f1 := bel_get n1
  have f2 := bel_get n2
  have f3 := bel_get n3
  have f4 := bel_get n4
  have f5 := bel_get n5
  have f6 := bel_get n6
  have f7 := bel_get n7
  have f8 := bel_get n8
  have FF := Lib.hid (And.intro f0 (And.intro f1 (And.intro f2 (And.intro f3 (And.intro f4 (And.intro f5 f6))))))
  clear f0 f1 f2 f3 f4 f5 f6 f7 f8
  go_cut [23] from 14 to 70 (fun v wx => v = .bool b1 ∧ wx = w5)
  case first =>
    cases k0
    · have HV : Hid (true = b1) := Lib.hid (by rw [HK1.out]; rfl)
      clear HK1 n1 n2 n3 n4 n6 n7 n8
      go_wp2_with (go_at_call 66; refine (KC0.out _).mono ?_; rintro e w' ⟨rfl, rfl⟩)
      go_meet
      exact ⟨by rw [← HV.out], rfl⟩
    · have HV : Hid ((!k1) = b1) := Lib.hid (by rw [HK1.out]; simp)
      clear HK1 n1 n2 n3 n4 n6 n7 n8
      go_wp2_with (first | (go_at_call 66; with_reducible refine (KC0.out _).mono ?_; rintro e w' ⟨rfl, rfl⟩) | (go_at_call 66; with_reducible refine (KC1.out _).mono ?_; rintro e w' ⟨rfl, rfl⟩))
      go_meet
      exact ⟨by rw [← HV.out], rfl⟩
  case rest =>
  obtain ⟨rfl, hwc⟩ := hcut
  obtain rfl := hwc.symm
  clear KC0 KC1 n0 n1 n2 n3 n4 n5 n6 n7 n8
  have hN0 : EOwn w5.heap.size w5 (.slice none 0 0) [] := ROwn.nil (Nat.le_refl _)
  have hSz : SW w5 w5 := Below.refl _ _
  go_upto_if 23 with fail
  go_cut [7] from 24 to 70 (fun v wx => Hid (EOwn w5.heap.size wx v (okE [wh b1 5]) ∧ SW w5 wx))
  case first =>
    cases b1
    · go_wp2
      go_meet
      exact Lib.hid ⟨by simpa [wh, okE] using hN0, hSz⟩
    · go_wp2_with (at_builtin; refine wpList_rapp rtE rfl _ _ rfl hN0 rfl (bel_alloc _ _) _ (5 : Int) _ rfl (cs := #[.int .i64 5]) rfl (heap_alloc_new _ _) (by simp) ?_; intro va wa hOa hCa; have hSa : SW w5 wa := Below.trans hSz ((hCa.below hN0).mono (Nat.le_refl _)))
      go_meet
      exact Lib.hid ⟨by simpa [wh, okE] using hOa, hSa⟩
  case rest =>
  have HC := Lib.hid hcut.out
  clear hcut
  rename World => wd
  have hSd : SW w5 wd := HC.out.2
  have n1 := FF.out.2.1 _ hSd
  have n6 := FF.out.2.2.2.2.2.2 _ hSd
  go_upto_region 5 with fail
  go_cut [44] from 27 to 70 (fun v wx => v = .bool b2 ∧ wx = wd)
  case first =>
    unfold num9B at HK2
    by_cases h1 : s.num < 1
    · have hv : true = b2 := by rw [HK2.out]; simp [show ¬ 1 ≤ s.num by omega]
      have HV := Lib.hid hv
      clear hv HK2
      go_wp2
      go_meet
      exact ⟨by rw [← HV.out], rfl⟩
    · by_cases h2 : 9999 < s.num
      · have hv : true = b2 := by rw [HK2.out]; simp [show ¬ s.num ≤ 9999 by omega]
        have HV := Lib.hid hv
        clear hv HK2
        go_wp2
        go_meet
        exact ⟨by rw [← HV.out], rfl⟩
      · by_cases h3 : s.am < 1
        · have hv : true = b2 := by rw [HK2.out]; simp [show ¬ 1 ≤ s.am by omega]
          have HV := Lib.hid hv
          clear hv HK2
          go_wp2
          go_meet
          exact ⟨by rw [← HV.out], rfl⟩
        · by_cases h4 : 9999 < s.am
          · have hv : true = b2 := by rw [HK2.out]; simp [show ¬ s.am ≤ 9999 by omega]
            have HV := Lib.hid hv
            clear hv HK2
            go_wp2
            go_meet
            exact ⟨by rw [← HV.out], rfl⟩
          · have hv : false = b2 := by rw [HK2.out]; simp [show 1 ≤ s.num by omega, show s.num ≤ 9999 by omega, show 1 ≤ s.am by omega, show s.am ≤ 9999 by omega]
            have HV := Lib.hid hv
            clear hv HK2
            go_wp2
            go_meet
            exact ⟨by rw [← HV.out], rfl⟩
  case rest =>
  obtain ⟨rfl, hwc⟩ := hcut
  obtain rfl := hwc
  clear n1 n6 HK2 HK1
  have hO := HC.out.1
  have hl1 := HL1.out
  generalize okE [wh b1 5] = l1 at *
  go_upto_if 44 with fail
  go_cut [7] from 45 to 70 (fun v wx => Hid (EOwn w5.heap.size wx v (l1 ++ okE [wh b2 2]) ∧ SW w5 wx))
  case first =>
    cases b2
    · go_wp2
      go_meet
      exact Lib.hid ⟨by simpa [wh, okE] using hO, hSd⟩
    · go_wp2_with (at_builtin; refine wpList_rapp rtE rfl _ _ rfl hO rfl (bel_alloc _ _) _ (2 : Int) _ rfl (cs := #[.int .i64 2]) rfl (heap_alloc_new _ _) (by omega) ?_; intro va wa hOa hCa; have hSa : SW w5 wa := Below.trans hSd ((hCa.below hO).mono (Nat.le_refl _)))
      go_meet
      exact Lib.hid ⟨by simpa [wh, okE] using hOa, hSa⟩
  case rest =>
  have HC2 := Lib.hid hcut.out
  clear hcut hO hSd HC
  rename World => we
  have hSe : SW w5 we := HC2.out.2
  have n0 := FF.out.1 _ hSe
  have n5 := FF.out.2.2.2.2.2.1 _ hSe
  have hO := HC2.out.1
  have hl2 := HL2.out
  have hl12 : (l1 ++ okE [wh b2 2]).length ≤ 2 := by rw [List.length_append]; omega
  generalize l1 ++ okE [wh b2 2] = l2 at *
  go_upto_if 52 with fail
  go_cut [7] from 53 to 70 (fun v wx => Hid (EOwn w5.heap.size wx v (l2 ++ okE [wh b3 8]) ∧ SW w5 wx))
  case first =>
    cases b3
    · go_wp2
      go_meet
      exact Lib.hid ⟨by simpa [wh, okE] using hO, hSe⟩
    · go_wp2_with (at_builtin; refine wpList_rapp rtE rfl _ _ rfl hO rfl (bel_alloc _ _) _ (8 : Int) _ rfl (cs := #[.int .i64 8]) rfl (heap_alloc_new _ _) (by omega) ?_; intro va wa hOa hCa; have hSa : SW w5 wa := Below.trans hSe ((hCa.below hO).mono (Nat.le_refl _)))
      go_meet
      exact Lib.hid ⟨by simpa [wh, okE] using hOa, hSa⟩
  case rest =>
  have HC3 := Lib.hid hcut.out
  clear hcut hO hSe HC2 n0 n5 hb3
  rename World => wf
  have hSf : SW w5 wf := HC3.out.2
  have hO := HC3.out.1
  have hl3 := HL3.out
  have hl23 : (l2 ++ okE [wh b3 8]).length ≤ 3 := by rw [List.length_append]; omega
  generalize l2 ++ okE [wh b3 8] = l3 at *
  have n2 := FF.out.2.2.1 _ hSf
  have n3 := FF.out.2.2.2.1 _ hSf
  have n4 := FF.out.2.2.2.2.1 _ hSf
  have hw5 : w.heap.size ≤ w5.heap.size := HB0.out.size
  have HO := Lib.hid hO
  clear HL1 HL2 HL3 hl1 hl2 hl3 HC3
  by_cases hez : er = 0
  · have HE := Lib.hid (HE1.out hez)
    subst hez
    clear HE0 HE1 hO
    go_wp2_with (first | (go_at_call 67; refine (KP.out _).mono ?_; rintro e w1 ⟨rfl, hb1⟩; have hO1 := HO.out.more hb1; have hS1 : SW w5 w1 := Below.trans hSf (Below.mono hb1 hSf.size); refine Hid.out ?_))
    have KY2 := Lib.hid (KY.out w1 (HB0.out.trans (Below.mono hS1 hw5)))
    have HO1 := Lib.hid hO1
    have HS1 := Lib.hid hS1
    clear n2 n3 n4 hO1 hb1 KY KP hS1
    refine Lib.hid ?_
    go_wp2_with (first | (at_builtin; refine wpList_rappl rtE rfl _ _ rfl hO2 rfl _ _ rfl hU2 hlim ?_; intro v8 w8 hO8 hC8; have hS8 : SW w5 w8 := Below.trans hS2 ((hC8.below hO2).mono (Nat.le_refl _))) | (go_at_call 68; refine KY2.out.mono ?_; rintro e w2 ⟨u, rfl, hU, hb2⟩; have hO2 := HO1.out.more hb2; have hS2 : SW w5 w2 := Below.trans HS1.out (Below.mono hb2 HS1.out.size); have hU2 := hU.rowL rtE.len; have hlim : l3.length + ys.length ≤ 100000000 := (by omega)))
    go_ret
    exact ⟨_, rfl, ⟨by rw [HE.out]; exact hO8.own.mono hw5, Nat.le_trans hw5 hS8.size⟩, HB0.out.trans (Below.mono hS8 hw5)⟩
  · have HE := Lib.hid (HE0.out hez)
    have hez2 : (er != 0) = true := by simp [hez]
    clear HE0 HE1 hO hez KY
    go_wp2_with (first | (at_builtin; refine wpList_rapp rtE rfl _ _ rfl hO1 rfl (bel_alloc _ _) _ (er : Int) _ rfl (cs := #[.int .i64 er]) rfl (heap_alloc_new _ _) (by omega) ?_; intro v8 w8 hO8 hC8; have hS8 : SW w5 w8 := Below.trans hS1 ((hC8.below hO1).mono (Nat.le_refl _))) | (go_at_call 67; refine (KP.out _).mono ?_; rintro e w1 ⟨rfl, hb1⟩; have hO1 := HO.out.more hb1; have hS1 : SW w5 w1 := Below.trans hSf (Below.mono hb1 hSf.size)))
    go_ret
    exact ⟨_, rfl, ⟨by rw [HE.out]; exact hO8.own.mono hw5, Nat.le_trans hw5 hS8.size⟩, HB0.out.trans (Below.mono hS8 hw5)⟩
end Go.Proofs.YtdpcjafkahhecaaGreatDoor

/- Walk of the reference's Check of shares. -/
namespace Go.Proofs.YtdpcjafkahhecaaGreatDoor
open Go.RowKit Go.Shelf Go.Maps
set_option linter.unusedSimpArgs false
set_option linter.unusedVariables false

theorem shrEs_len (fs : List FV) (B : List Sh) (s : Sh) : (shEs fs B s).length = 7 := rfl
set_option maxRecDepth 100000 in
set_option maxHeartbeats 16000000 in
theorem rccheck_any (p : PV) (A0 : Option Addr) (c0 : Nat) (fs : List FV) (A : Option Addr) (c : Nat) (sh : List Sh) (w : World) (hfl : fs.length ≤ 1000) (hfg : ∀ f ∈ fs, f.lg.length ≤ 1000) (hv : TblL w (.slice A0 fs.length c0) fs) (hl : sh.length ≤ 50) (hs : RowL 9 encSh9 w (.slice A sh.length c) sh) (hso : ∀ s ∈ sh, (-9223372036854775808 ≤ s.pf ∧ s.pf ≤ 9223372036854775807) ∧ s.car.size ≤ maxLen ∧ s.op.size ≤ maxLen) :
    Calls Tryz.prog 12 #[encP p, .slice A0 fs.length c0, .slice A sh.length c] w fun e w' => ∃ v, e = .returned v ∧ FOwn w.heap.size w' v (shrF fs sh sh.length) ∧ Below w.heap.size w w' := by
  have hb0 := bel_alloc w (.cells #[.slice p.A p.l.length p.ca, .slice p.D p.ds.length p.cd] placesT)
  go_enter Tryz.func12, Tryz.ntmps12
  go_upto_region 1 with fail
  generalize hw5 : w.alloc (.cells #[.slice p.A p.l.length p.ca, .slice p.D p.ds.length p.cd] placesT) = w5 at *
  clear hw5
  have HB0 := Lib.hid hb0
  have KA : Hid (∀ (i : Nat) (s : Sh) W, SW w5 W → sh[i]? = some s → Calls Tryz.prog 41 #[.slice A0 fs.length c0, .slice A sh.length c, .int .i64 (i : Int)] W fun e w' => ∃ v', e = .returned v' ∧ EOwn W.heap.size w' v' (okE (shEs fs (sh.take i) s)) ∧ Below W.heap.size W w') := Lib.hid (fun i s W hW hi => by
    have hb := hb0.trans (Below.mono hW hb0.size)
    have h := hso s (List.mem_of_getElem? hi)
    exact rshare9_any A0 c0 fs A c sh i s W hfl hfg (hv.more hb) hl (hs.more hb) hi h.1 h.2.1 h.2.2)
  have HN : Hid (FOwn w5.heap.size w5 (.slice none 0 0) (shrF fs sh 0)) := Lib.hid (ROwn.nil (Nat.le_refl _))
  clear hv hs hso hfg hb0
  go_wp2
  go_loopg [7, 8] sh.length (fun kx v3 vi wr => ∃ (v : Value) (i : Nat), v = v3 ∧ vi = .int .i64 i ∧ i + kx = sh.length ∧ Hid (FOwn w5.heap.size wr v (shrF fs sh i) ∧ SW w5 wr))
  case atStart => exact ⟨_, 0, rfl, rfl, by omega, Lib.hid ⟨HN.out, Below.refl _ _⟩⟩
  case round =>
    obtain ⟨v, i, rfl, rfl, hik, HH⟩ := hrel
    have HIK := Lib.hid hik
    have hSr : SW w5 wr := HH.out.2
    by_cases hlt : i < sh.length
    · clear hik
      obtain ⟨a, hia⟩ : ∃ a, sh[i]? = some a := ⟨_, List.getElem?_eq_getElem hlt⟩
      have i2 : (i : Int) < (sh.length : Int) := by omega
      have KAi := Lib.hid (KA.out i a wr hSr hia)
      have HS := Lib.hid (shrF_succ fs sh i a hia)
      have HFL : Hid ((shrF fs sh i).length ≤ 1000) := Lib.hid (by have := shrF_le fs sh i; omega)
      have HEL : Hid ((okE (shEs fs (sh.take i) a)).length ≤ 7) := Lib.hid (Nat.le_trans (okE_le _) (by rw [shrEs_len]; omega))
      have hpk : pick (shW ++ decA i) (shEs fs (sh.take i) a) = tag (shW ++ decA i) (okE (shEs fs (sh.take i) a)) := rfl
      rw [hpk] at HS
      clear hia hpk
      generalize okE (shEs fs (sh.take i) a) = es at *
      go_wp2_with (go_at_call 41; refine KAi.out.mono ?_; rintro e w1 ⟨u, rfl, hU, hb1⟩; refine Hid.out ?_)
      have hO1 := HH.out.1.more hb1
      have hS1 : SW w5 w1 := Below.trans hSr (Below.mono hb1 hSr.size)
      have hUL : RowL 1 encE w1 u es := ROwn.rowL hU rtE.len
      have HUB : Hid (∀ k, u.ownBlock = some k → v.ownBlock ≠ some k) := Lib.hid (fun k hk hv => by have h1 := (hU.low hk).1; have h2 := (HH.out.1.low hv).2; omega)
      obtain ⟨AU, cu, rfl, hcu⟩ := hUL
      have HU : Hid (∀ k (hk : k < es.length), ∃ b o, AU = some ⟨b, o, none⟩ ∧ v.ownBlock ≠ some b ∧ w1.cell? ⟨b, o + k, none⟩ = some (.int .i64 es[k])) := Lib.hid (fun k hk => by
        rcases hcu with h | ⟨b, o, h1, h2, h3⟩
        · rw [h] at hk; simp at hk
        · subst h1
          have h4 := h3 k _ 0 _ (List.getElem?_eq_getElem hk) rfl
          rw [Nat.mul_one, Nat.add_zero] at h4
          exact ⟨b, o, rfl, HUB.out b rfl, h4⟩)
      have HJ0 : Hid (FOwn w5.heap.size w1 v (shrF fs sh i ++ tag (shW ++ decA i) (es.take 0)) ∧ Chg w1 w1 v v ∧ SW w5 w1) := Lib.hid ⟨by simpa [tag] using hO1, Chg.refl _ _, hS1⟩
      have KDc := Lib.hid (rdec_small i (by omega))
      clear hcu HUB hU hb1 hO1 hS1 KAi HH
      refine Lib.hid ?_
      go_wp2
      go_loopg [7, 10] es.length (fun kq v3 vk wi => ∃ (v2 : Value) (k : Nat), v2 = v3 ∧ vk = .int .i64 k ∧ k + kq = es.length ∧ Hid (FOwn w5.heap.size wi v2 (shrF fs sh i ++ tag (shW ++ decA i) (es.take k)) ∧ Chg w1 wi v v2 ∧ SW w5 wi))
      case atStart => exact ⟨_, 0, rfl, rfl, by omega, HJ0⟩
      case round =>
        obtain ⟨v2, k, rfl, rfl, hkq, HJ⟩ := hrel
        clear HJ0
        have HKQ := Lib.hid hkq
        have hel4 : es.length ≤ 7 := HEL.out
        by_cases hlt2 : k < es.length
        · clear hkq
          obtain ⟨b, o, rfl, hvb, hcell⟩ := HU.out k hlt2
          have i3 : (k : Int) < (es.length : Int) := by omega
          have hc2 := HJ.out.2.1.cell hcell hvb
          have hv2b : v2.ownBlock ≠ some b := fun h => by
            rcases HJ.out.2.1.own b h with h1 | h1
            · exact hvb h1
            · have := World.block_lt_of_cell? _ _ hcell; simp at this; omega
          have HT := Lib.hid (tag_succ (shW ++ decA i) es k hlt2)
          have HLn : Hid ((shrF fs sh i ++ tag (shW ++ decA i) (es.take k)).length ≤ 100000000) := Lib.hid (by
            have h1 := HFL.out
            have h2 := HEL.out
            have h3 : (tag (shW ++ decA i) (es.take k)).length = (es.take k).length := List.length_map _
            have h4 := List.length_take_le k es
            rw [List.length_append]
            omega)
          have hadd : ∀ W : World, (Op.stringOp .add ⟨#[115, 104, 97, 114, 101, 32]⟩ (decA i)).run Tryz.prog W = .ok (.string (shW ++ decA i)) W := fun W => run_string_add_sum W _ _ (by have := decA_size i (by omega); have e : (⟨#[115, 104, 97, 114, 101, 32]⟩ : ByteArray).size = 6 := rfl; omega)
          have hO := HJ.out.1.more ((Below.refl _ wr).drew)
          generalize es[k] = x at *
          clear hcell
          have f0 : ∀ W, SX wr v2 W → W.cell? ⟨b, o + k, none⟩ = some (.int .i64 x) := fun W h => SX.cell hc2 hv2b h
          go_wp2
          have hS : (SX wr v2) _ := But.of_below (Below.refl _ _).drew
          refine wp_region_held_drew (S := SX wr v2) (by kernel_rfl) hS (fun _ => ?_)
          refine wpAnyH_take (i := 0) (v := ?vR0) rfl (by kernel_rfl) (by kernel_rfl) (by kernel_rfl) (fun _ _ _ h => h) (Or.inl ⟨by rfl, ?hyR0⟩) hS ?restR0
          case hyR0 =>
            intro w hSw
            first | (go_simp; done) | (go_simp; with_reducible rfl)
          try simp only [Act.put, List.setIfInBounds_toArray, List.set_cons_zero, List.set_cons_succ]
          refine wpAnyH_take (i := 1) (v := ?vR1) rfl (by kernel_rfl) (by kernel_rfl) (by kernel_rfl) (fun _ _ _ h => h) (Or.inl ⟨by rfl, ?hyR1⟩) hS ?restR1
          case hyR1 =>
            intro w hSw
            first | (go_simp; done) | (go_simp; with_reducible rfl)
          try simp only [Act.put, List.setIfInBounds_toArray, List.set_cons_zero, List.set_cons_succ]
          refine wpAnyH_take (i := 2) (v := ?vR2) rfl (by kernel_rfl) (by kernel_rfl) (by kernel_rfl) (fun _ _ _ h => h) (Or.inl ⟨by rfl, ?hyR2⟩) hS ?restR2
          case hyR2 =>
            intro w hSw
            first | (go_simp; done) | (go_simp; with_reducible rfl)
          try simp only [Act.put, List.setIfInBounds_toArray, List.set_cons_zero, List.set_cons_succ]
          refine wpAnyH_take (i := 3) (v := ?vR3) rfl (by kernel_rfl) (by kernel_rfl) (by kernel_rfl) (fun _ _ _ h => h) (Or.inl ⟨by rfl, ?hyR3⟩) hS ?restR3
          case hyR3 =>
            intro w hSw
            have k0 := f0 w hSw
            first | (go_simp; done) | (go_simp; with_reducible rfl)
          try simp only [Act.put, List.setIfInBounds_toArray, List.set_cons_zero, List.set_cons_succ]
          refine wpAnyH_take (i := 4) (v := ?vR4) rfl (by kernel_rfl) (by kernel_rfl) (by kernel_rfl) (fun _ _ _ h => h) (Or.inl ⟨by rfl, ?hyR4⟩) hS ?restR4
          case hyR4 =>
            intro w hSw
            have k0 := f0 w hSw
            first | (go_simp; done) | (go_simp; with_reducible rfl)
          try simp only [Act.put, List.setIfInBounds_toArray, List.set_cons_zero, List.set_cons_succ]
          refine wpAnyH_take (i := 5) (v := ?vR5) rfl (by kernel_rfl) (by kernel_rfl) (by kernel_rfl) (fun _ _ _ h => h) (Or.inl ⟨by rfl, ?hyR5⟩) hS ?restR5
          case hyR5 =>
            intro w hSw
            first | (go_simp; done) | (go_simp; with_reducible rfl)
          try simp only [Act.put, List.setIfInBounds_toArray, List.set_cons_zero, List.set_cons_succ]
          refine wpAnyH_ready (rs := [6]) (by kernel_rfl) (by simp) ?_
          refine AllReadyH.cons rfl (fun K hK => ?_) AllReadyH.nil
          go_simp
          go_wp2_with ((go_at_call 42; refine (KDc.out _).mono ?_; rintro e w' ⟨rfl, hb'⟩; have hO := hO.more hb'; have hS := hS.on hb'))
          refine hK.out _ _ hS (fun _ => ?_)
          clear hK K
          refine wpAnyH_take (i := 7) (v := ?vR7) rfl (by kernel_rfl) (by kernel_rfl) (by kernel_rfl) (fun _ _ _ h => h) (Or.inl ⟨by rfl, ?hyR7⟩) hS ?restR7
          case hyR7 =>
            intro w hSw
            have kadd := hadd w
            first | (go_simp; done) | (go_simp; with_reducible rfl)
          try simp only [Act.put, List.setIfInBounds_toArray, List.set_cons_zero, List.set_cons_succ]
          refine wpAnyH_take (i := 8) (v := ?vR8) rfl (by kernel_rfl) (by kernel_rfl) (by kernel_rfl) (fun _ _ _ h => h) (Or.inl ⟨by rfl, ?hyR8⟩) hS ?restR8
          case hyR8 =>
            intro w hSw
            first | (go_simp; done) | (go_simp; with_reducible rfl)
          try simp only [Act.put, List.setIfInBounds_toArray, List.set_cons_zero, List.set_cons_succ]
          refine wpAnyH_ready (rs := [9]) (by kernel_rfl) (by simp) ?_
          refine AllReadyH.cons rfl (fun K hK => ?_) AllReadyH.nil
          go_simp
          have hSp := hS
          have hS := hS.on (bel_alloc _ (.cells #[.int .i64 x, .string (shW ++ decA i)] fltT))
          refine hK.out _ _ hS (fun _ => ?_)
          clear hK K
          refine wpAnyH_ready (rs := [10]) (by kernel_rfl) (by simp) ?_
          refine AllReadyH.cons rfl (fun K hK => ?_) AllReadyH.nil
          refine step_rapp rtF rfl _ _ rfl hO rfl (bel_alloc _ _) _ (x, shW ++ decA i) _ rfl (cs := #[.int .i64 x, .string (shW ++ decA i)]) rfl (heap_alloc_new _ _) HLn.out ?_
          intro v8 w8 hO8 hC8
          go_simp
          have hS := hSp.trans hC8.but (fun _ _ h => h)
          refine hK.out _ _ hS (fun _ => ?_)
          clear hK K
          refine wpAnyH_take (i := 11) (v := ?vR11) rfl (by kernel_rfl) (by kernel_rfl) (by kernel_rfl) (fun _ _ _ h => h) (Or.inl ⟨by rfl, ?hyR11⟩) hS ?restR11
          case hyR11 =>
            intro w hSw
            first | (go_simp; done) | (go_simp; with_reducible rfl)
          try simp only [Act.put, List.setIfInBounds_toArray, List.set_cons_zero, List.set_cons_succ]
          refine wpAnyH_done (by kernel_rfl) ?_ _
          simp only [List.getElem_toArray, List.getElem_cons_succ, List.getElem_cons_zero, List.set_cons_zero, List.set_cons_succ]
          have HX : Hid (FOwn w5.heap.size w8 v8 (shrF fs sh i ++ tag (shW ++ decA i) (es.take (k + 1))) ∧ Chg w1 w8 v v8 ∧ SW w5 w8) := Lib.hid ⟨by rw [HT.out, ← List.append_assoc]; exact hO8, HJ.out.2.1.trans ⟨hS, fun g hg => by
              rcases hC8.own g hg with h1 | h1
              · exact .inl h1
              · exact .inr (Nat.le_trans hSp.size h1)⟩, Below.trans HJ.out.2.2 (hS.below HJ.out.1.base (fun k hk hv => by have := (HJ.out.1.low hv).1; omega))⟩
          clear hO8 hC8 hS hSp hO
          go_wp2
          go_roundg (es.length - (k + 1))
          case measure => have := HKQ.out; omega
          case rel => exact ⟨_, k + 1, rfl, by go_num, by omega, HX⟩
        · have HX : Hid (FOwn w5.heap.size wr v2 (shrF fs sh (i + 1)) ∧ SW w5 wr) := Lib.hid ⟨by
              rw [HS.out]
              have := HJ.out.1
              rwa [List.take_of_length_le (by omega)] at this, HJ.out.2.2⟩
          clear HJ hkq
          go_wp2
          go_roundg (sh.length - (i + 1))
          case measure => have := HIK.out; omega
          case rel => exact ⟨_, i + 1, rfl, by go_num, by omega, HX⟩
    · have HR : Hid (FOwn w.heap.size wr v (shrF fs sh sh.length) ∧ Below w.heap.size w wr) := Lib.hid ⟨⟨by
          rw [← show i = sh.length by omega]
          exact HH.out.1.own.mono HB0.out.size, Nat.le_trans HB0.out.size hSr.size⟩, HB0.out.trans (Below.mono hSr HB0.out.size)⟩
      clear hik HH
      go_wp2
      go_ret
      exact ⟨v, rfl, HR.out⟩
end Go.Proofs.YtdpcjafkahhecaaGreatDoor

/- The segment that is operated for one that is sold: the reference's. -/
namespace Go.Proofs.YtdpcjafkahhecaaGreatDoor
open Go.RowKit Go.Shelf
set_option linter.unusedSimpArgs false
set_option linter.unusedVariables false

theorem operF_first {L : List Sh} {q : Sg} {k : Nat} {y : Sh} (hk : L[k]? = some y) (hy : shareB y q.car q.num q.day q.f q.t = true) (h : ∀ (j : Nat) (z : Sh), j < k → L[j]? = some z → shareB z q.car q.num q.day q.f q.t = false) : operF L q = ⟨y.op, y.am, q.day, q.f, q.t, q.dep, q.arr⟩ := by
  refine operF_some ?_
  obtain ⟨hlt, rfl⟩ := List.getElem?_eq_some_iff.1 hk
  rw [List.find?_eq_some_iff_getElem]
  refine ⟨hy, k, hlt, rfl, fun j hj => ?_⟩
  rw [h j _ hj (List.getElem?_eq_getElem (by omega))]
  rfl
theorem operF_never {L : List Sh} {q : Sg} (h : ∀ (j : Nat) (z : Sh), j < L.length → L[j]? = some z → shareB z q.car q.num q.day q.f q.t = false) : operF L q = q := by
  refine operF_none (List.find?_eq_none.2 fun x hx => ?_)
  obtain ⟨j, hj⟩ := List.getElem?_of_mem hx
  rw [h j x (List.getElem?_eq_some_iff.1 hj).1 hj]
  simp
set_option maxRecDepth 100000 in
set_option maxHeartbeats 8000000 in
theorem roperating_any (A : Option Addr) (c : Nat) (L : List Sh) (q : Sg) (w : World) (hl : L.length ≤ 100000) (hv : RowL 9 encSh9 w (.slice A L.length c) L) (hd : -9223372036854775808 ≤ q.day ∧ q.day ≤ 9223372036854775807) :
    Calls Tryz.prog 22 #[.slice A L.length c, encS7 q] w fun e w' => e = .returned (encS7 (operF L q)) ∧ Below w.heap.size w w' := by
  obtain ⟨hN, hM, hb0⟩ := two_new w #[.string q.car, .int .i64 q.num, .int .i64 q.day, .string q.f, .string q.t, .int .i64 q.dep, .int .i64 q.arr] #[.string noB, .int .i64 0, .int .i64 0, .string noB, .string noB, .int .i64 0, .int .i64 0] segT
  go_enter Tryz.func22, Tryz.ntmps22
  go_upto_region 1 with fail
  generalize hw5 : ((w.alloc (.cells #[.string q.car, .int .i64 q.num, .int .i64 q.day, .string q.f, .string q.t, .int .i64 q.dep, .int .i64 q.arr] segT)).alloc (.cells #[.string noB, .int .i64 0, .int .i64 0, .string noB, .string noB, .int .i64 0, .int .i64 0] segT)) = w5 at *
  clear hw5
  have HV := Lib.hid (hv.more hb0)
  have HB0 := Lib.hid hb0
  have HN := Lib.hid hN
  have HM := Lib.hid hM
  have HLN : Hid (w.heap.size < w5.heap.size) := Lib.hid (lt_of_cell2 hN)
  have HLM : Hid (w.heap.size + 1 < w5.heap.size) := Lib.hid (lt_of_cell2 hM)
  have HRF := Lib.hid (fun (s : Sh) W => rfits_any s q.car q.num q.day q.f q.t W hd)
  have F0 := Lib.hid (bel_get (row7 hN 0 _ rfl))
  have F1 := Lib.hid (bel_get (row7 hN 1 _ rfl))
  have F2 := Lib.hid (bel_get (row7 hN 2 _ rfl))
  have F3 := Lib.hid (bel_get (row7 hN 3 _ rfl))
  have F4 := Lib.hid (bel_get (row7 hN 4 _ rfl))
  clear hN hM hb0 hv
  go_wp2
  go_loopw [5] (fun vi wr => ∃ k : Nat, k ≤ L.length ∧ vi = .int .i64 k ∧ Hid (∀ (j : Nat) (z : Sh), j < k → L[j]? = some z → shareB z q.car q.num q.day q.f q.t = false) ∧ SW w5 wr) (fun vi _ => L.length - (intOf vi).toNat)
  case atStart => exact ⟨0, Nat.zero_le _, rfl, Lib.hid (fun j z h => by omega), Below.refl _ _⟩
  case round =>
    obtain ⟨k, hk, rfl, HK, hS⟩ := hrel
    by_cases hlt : k < L.length
    · obtain ⟨y, hy⟩ : ∃ y, L[k]? = some y := ⟨_, List.getElem?_eq_getElem hlt⟩
      obtain ⟨b, o, e1, hbl, hcc⟩ := RowL.at9 HV.out hy
      cases e1
      have Y0 := Lib.hid (bel_get (hcc 0 _ rfl))
      have Y1 := Lib.hid (bel_get (hcc 1 _ rfl))
      have Y2 := Lib.hid (bel_get (hcc 2 _ rfl))
      have Y3 := Lib.hid (bel_get (hcc 3 _ rfl))
      have Y4 := Lib.hid (bel_get (hcc 4 _ rfl))
      have Y5 := Lib.hid (bel_get (hcc 5 _ rfl))
      have Y6 := Lib.hid (bel_get (hcc 6 _ rfl))
      have Y7 := Lib.hid (bel_get (hcc 7 _ rfl))
      have Y8 := Lib.hid (bel_get (hcc 8 _ rfl))
      rw [Nat.add_zero] at Y0
      have i2 : (k : Int) < (L.length : Int) := by omega
      have i2n : k < L.length := hlt
      have HY := Lib.hid hy
      have KF : Hid (∀ W, SW w5 W → Calls Tryz.prog 55 #[encSh y, .string q.car, .int .i64 q.num, .int .i64 q.day, .string q.f, .string q.t] W fun e w' => e = .returned (.bool (shareB y q.car q.num q.day q.f q.t)) ∧ SW w5 w') := Lib.hid (SW.call (fun W h => HRF.out y W))
      clear hcc hy hbl
      have HSB : Hid (∃ sb, shareB y q.car q.num q.day q.f q.t = sb) := Lib.hid ⟨_, rfl⟩
      obtain ⟨sb, hsb0⟩ := HSB.out
      clear HSB
      rw [hsb0] at KF
      have hsb := Lib.hid hsb0
      clear hsb0
      go_upto_region 4 with fail
      have hS : (SW w5) _ := Below.drew hS
      refine wp_region_held_drew (S := SW w5) (by kernel_rfl) hS (fun _ => ?_)
      refine wpAnyH_take (i := 0) (v := ?vR0) rfl (by kernel_rfl) (by kernel_rfl) (by kernel_rfl) (fun _ _ _ h => h) (Or.inl ⟨by rfl, ?hyR0⟩) hS ?restR0
      case hyR0 =>
        intro w hSw
        first | (go_simp; done) | (go_simp; with_reducible rfl)
      try simp only [Act.put, List.setIfInBounds_toArray, List.set_cons_zero, List.set_cons_succ]
      refine wpAnyH_take (i := 1) (v := ?vR1) rfl (by kernel_rfl) (by kernel_rfl) (by kernel_rfl) (fun _ _ _ h => h) (Or.inl ⟨by rfl, ?hyR1⟩) hS ?restR1
      case hyR1 =>
        intro w hSw
        first | (go_simp; done) | (go_simp; with_reducible rfl)
      try simp only [Act.put, List.setIfInBounds_toArray, List.set_cons_zero, List.set_cons_succ]
      refine wpAnyH_take (i := 2) (v := ?vR2) rfl (by kernel_rfl) (by kernel_rfl) (by kernel_rfl) (fun _ _ _ h => h) (Or.inl ⟨by rfl, ?hyR2⟩) hS ?restR2
      case hyR2 =>
        intro w hSw
        first | (go_simp; done) | (go_simp; with_reducible rfl)
      try simp only [Act.put, List.setIfInBounds_toArray, List.set_cons_zero, List.set_cons_succ]
      refine wpAnyH_take (i := 3) (v := ?vR3) rfl (by kernel_rfl) (by kernel_rfl) (by kernel_rfl) (fun _ _ _ h => h) (Or.inl ⟨by rfl, ?hyR3⟩) hS ?restR3
      case hyR3 =>
        intro w hSw
        have k0 := Y0.out w hSw; have k1 := Y1.out w hSw; have k2 := Y2.out w hSw; have k3 := Y3.out w hSw; have k4 := Y4.out w hSw; have k5 := Y5.out w hSw; have k6 := Y6.out w hSw; have k7 := Y7.out w hSw; have k8 := Y8.out w hSw
        first | (go_simp; done) | (go_simp; with_reducible rfl)
      try simp only [Act.put, List.setIfInBounds_toArray, List.set_cons_zero, List.set_cons_succ]
      refine wpAnyH_take (i := 4) (v := ?vR4) rfl (by kernel_rfl) (by kernel_rfl) (by kernel_rfl) (fun _ _ _ h => h) (Or.inl ⟨by rfl, ?hyR4⟩) hS ?restR4
      case hyR4 =>
        intro w hSw
        first | (go_simp; done) | (go_simp; with_reducible rfl)
      try simp only [Act.put, List.setIfInBounds_toArray, List.set_cons_zero, List.set_cons_succ]
      refine wpAnyH_take (i := 5) (v := ?vR5) rfl (by kernel_rfl) (by kernel_rfl) (by kernel_rfl) (fun _ _ _ h => h) (Or.inl ⟨by rfl, ?hyR5⟩) hS ?restR5
      case hyR5 =>
        intro w hSw
        have k0 := F0.out w hSw
        first | (go_simp; done) | (go_simp; with_reducible rfl)
      try simp only [Act.put, List.setIfInBounds_toArray, List.set_cons_zero, List.set_cons_succ]
      refine wpAnyH_take (i := 6) (v := ?vR6) rfl (by kernel_rfl) (by kernel_rfl) (by kernel_rfl) (fun _ _ _ h => h) (Or.inl ⟨by rfl, ?hyR6⟩) hS ?restR6
      case hyR6 =>
        intro w hSw
        first | (go_simp; done) | (go_simp; with_reducible rfl)
      try simp only [Act.put, List.setIfInBounds_toArray, List.set_cons_zero, List.set_cons_succ]
      refine wpAnyH_take (i := 7) (v := ?vR7) rfl (by kernel_rfl) (by kernel_rfl) (by kernel_rfl) (fun _ _ _ h => h) (Or.inl ⟨by rfl, ?hyR7⟩) hS ?restR7
      case hyR7 =>
        intro w hSw
        have k0 := F1.out w hSw
        first | (go_simp; done) | (go_simp; with_reducible rfl)
      try simp only [Act.put, List.setIfInBounds_toArray, List.set_cons_zero, List.set_cons_succ]
      refine wpAnyH_take (i := 8) (v := ?vR8) rfl (by kernel_rfl) (by kernel_rfl) (by kernel_rfl) (fun _ _ _ h => h) (Or.inl ⟨by rfl, ?hyR8⟩) hS ?restR8
      case hyR8 =>
        intro w hSw
        first | (go_simp; done) | (go_simp; with_reducible rfl)
      try simp only [Act.put, List.setIfInBounds_toArray, List.set_cons_zero, List.set_cons_succ]
      refine wpAnyH_take (i := 9) (v := ?vR9) rfl (by kernel_rfl) (by kernel_rfl) (by kernel_rfl) (fun _ _ _ h => h) (Or.inl ⟨by rfl, ?hyR9⟩) hS ?restR9
      case hyR9 =>
        intro w hSw
        have k0 := F2.out w hSw
        first | (go_simp; done) | (go_simp; with_reducible rfl)
      try simp only [Act.put, List.setIfInBounds_toArray, List.set_cons_zero, List.set_cons_succ]
      refine wpAnyH_take (i := 10) (v := ?vR10) rfl (by kernel_rfl) (by kernel_rfl) (by kernel_rfl) (fun _ _ _ h => h) (Or.inl ⟨by rfl, ?hyR10⟩) hS ?restR10
      case hyR10 =>
        intro w hSw
        first | (go_simp; done) | (go_simp; with_reducible rfl)
      try simp only [Act.put, List.setIfInBounds_toArray, List.set_cons_zero, List.set_cons_succ]
      refine wpAnyH_take (i := 11) (v := ?vR11) rfl (by kernel_rfl) (by kernel_rfl) (by kernel_rfl) (fun _ _ _ h => h) (Or.inl ⟨by rfl, ?hyR11⟩) hS ?restR11
      case hyR11 =>
        intro w hSw
        have k0 := F3.out w hSw
        first | (go_simp; done) | (go_simp; with_reducible rfl)
      try simp only [Act.put, List.setIfInBounds_toArray, List.set_cons_zero, List.set_cons_succ]
      refine wpAnyH_take (i := 12) (v := ?vR12) rfl (by kernel_rfl) (by kernel_rfl) (by kernel_rfl) (fun _ _ _ h => h) (Or.inl ⟨by rfl, ?hyR12⟩) hS ?restR12
      case hyR12 =>
        intro w hSw
        first | (go_simp; done) | (go_simp; with_reducible rfl)
      try simp only [Act.put, List.setIfInBounds_toArray, List.set_cons_zero, List.set_cons_succ]
      refine wpAnyH_take (i := 13) (v := ?vR13) rfl (by kernel_rfl) (by kernel_rfl) (by kernel_rfl) (fun _ _ _ h => h) (Or.inl ⟨by rfl, ?hyR13⟩) hS ?restR13
      case hyR13 =>
        intro w hSw
        have k0 := F4.out w hSw
        first | (go_simp; done) | (go_simp; with_reducible rfl)
      try simp only [Act.put, List.setIfInBounds_toArray, List.set_cons_zero, List.set_cons_succ]
      refine wpAnyH_ready (rs := [14]) (by kernel_rfl) (by simp) ?_
      refine AllReadyH.cons rfl (fun K hK => ?_) AllReadyH.nil
      go_simp
      go_wp2_with ((go_at_call 55; with_reducible refine (KF.out _ hS).mono ?_; rintro e w9 ⟨rfl, hS⟩))
      refine hK.out _ _ hS (fun _ => ?_)
      clear hK K
      refine wpAnyH_done (by kernel_rfl) ?_ _
      try simp only [List.getElem_toArray, List.getElem_cons_succ, List.getElem_cons_zero, List.set_cons_zero, List.set_cons_succ]
      cases sb with
      | false =>
        have HK2 : Hid (∀ (j : Nat) (z : Sh), j < k + 1 → L[j]? = some z → shareB z q.car q.num q.day q.f q.t = false) := Lib.hid (fun j z hj hz => by
          by_cases e : j = k
          · subst e; rw [HY.out] at hz; cases hz; exact hsb.out
          · exact HK.out j z (by omega) hz)
        go_wp2
        go_roundw
        case rel => exact ⟨k + 1, by omega, by go_num, HK2, hS⟩
        case measure => simp [intOf]; omega
      | true =>
        have HE : Hid (operF L q = ⟨y.op, y.am, q.day, q.f, q.t, q.dep, q.arr⟩) := Lib.hid (operF_first HY.out hsb.out HK.out)
        have hx := (Below.block hS _ HLN.out).trans HN.out
        have hm := (Below.block hS _ HLM.out).trans HM.out
        have hwb := HB0.out.trans (Below.mono hS HB0.out.size)
        have d5 := Y5.out _ hS
        have d6 := Y6.out _ hS
        obtain ⟨W7, hW7⟩ : ∃ W, W = (w9.setCell ⟨w.heap.size, 0, none⟩ (.string y.op)).setCell ⟨w.heap.size, 1, none⟩ (.int .i64 y.am) := ⟨_, rfl⟩
        have hx7 : W7.heap[w.heap.size]? = some (.cells #[.string y.op, .int .i64 y.am, .int .i64 q.day, .string q.f, .string q.t, .int .i64 q.dep, .int .i64 q.arr] segT (0, 0)) := by
          rw [hW7]
          have e1 : (w9.setCell ⟨w.heap.size, 0, none⟩ (.string y.op)).heap[w.heap.size]? = some (.cells #[.string y.op, .int .i64 q.num, .int .i64 q.day, .string q.f, .string q.t, .int .i64 q.dep, .int .i64 q.arr] segT (0, 0)) := heap_setCell_same w9 w.heap.size 0 _ segT (.string y.op) hx
          exact heap_setCell_same (w9.setCell ⟨w.heap.size, 0, none⟩ (.string y.op)) w.heap.size 1 _ segT (.int .i64 y.am) e1
        have hbt : But w9 W7 (fun k => k = w.heap.size) := by rw [hW7]; exact (But.setCell w9 w.heap.size 0 _).trans (But.setCell _ w.heap.size 1 _) (fun _ _ h => h)
        have hm7 : W7.heap[w.heap.size + 1]? = some (.cells #[.string noB, .int .i64 0, .int .i64 0, .string noB, .string noB, .int .i64 0, .int .i64 0] segT (0, 0)) := (hbt.block _ (lt_of_cell2 hm) (fun h => absurd (show w.heap.size + 1 = w.heap.size from h) (by omega))).trans hm
        have HX7 : Hid (W7.drew.heap[w.heap.size]? = some (.cells #[.string y.op, .int .i64 y.am, .int .i64 q.day, .string q.f, .string q.t, .int .i64 q.dep, .int .i64 q.arr] segT (0, 0))) := Lib.hid hx7
        have HM7 : Hid (W7.drew.heap[w.heap.size + 1]? = some (.cells #[.string noB, .int .i64 0, .int .i64 0, .string noB, .string noB, .int .i64 0, .int .i64 0] segT (0, 0))) := Lib.hid hm7
        have HWB7 : Hid (Below w.heap.size w W7.drew) := Lib.hid (hwb.trans (hbt.below hwb.size (fun k hk => by omega))).drew
        have HW7 := Lib.hid hW7
        have n0 := (cell_of_row _ _ 0 _ _ (0, 0) hx).trans (show _ = some _ from rfl)
        have n1 := (cell_of_row _ _ 1 _ _ (0, 0) hx).trans (show _ = some _ from rfl)
        have z0 := frozen_of_row _ _ 0 _ _ hx
        have z1 := frozen_of_row _ _ 1 _ _ hx
        clear hx hm hwb hW7 hx7 hm7 hbt hS HK
        go_upto_region 5 with fail
        go_region
        clear n0 n1 z0 z1 d5 d6
        have hq : (w9.setCell ⟨w.heap.size, 0, none⟩ (.string y.op)).setCell ⟨w.heap.size, 1, none⟩ (.int .i64 y.am) = W7 := HW7.out.symm
        rw [hq]
        clear hq
        have hx := HX7.out
        have hm := HM7.out
        have hwb := HWB7.out
        clear HX7 HM7 HWB7 HW7
        generalize W7.drew = W at *
        have c0 := (cell_of_row _ _ 0 _ _ (0, 0) hx).trans (show _ = some _ from rfl)
        have c1 := (cell_of_row _ _ 1 _ _ (0, 0) hx).trans (show _ = some _ from rfl)
        have c2 := (cell_of_row _ _ 2 _ _ (0, 0) hx).trans (show _ = some _ from rfl)
        have c3 := (cell_of_row _ _ 3 _ _ (0, 0) hx).trans (show _ = some _ from rfl)
        have c4 := (cell_of_row _ _ 4 _ _ (0, 0) hx).trans (show _ = some _ from rfl)
        have c5 := (cell_of_row _ _ 5 _ _ (0, 0) hx).trans (show _ = some _ from rfl)
        have c6 := (cell_of_row _ _ 6 _ _ (0, 0) hx).trans (show _ = some _ from rfl)
        have n0 := (cell_of_row _ _ 0 _ _ (0, 0) hm).trans (show _ = some _ from rfl)
        have n1 := (cell_of_row _ _ 1 _ _ (0, 0) hm).trans (show _ = some _ from rfl)
        have n2 := (cell_of_row _ _ 2 _ _ (0, 0) hm).trans (show _ = some _ from rfl)
        have n3 := (cell_of_row _ _ 3 _ _ (0, 0) hm).trans (show _ = some _ from rfl)
        have n4 := (cell_of_row _ _ 4 _ _ (0, 0) hm).trans (show _ = some _ from rfl)
        have n5 := (cell_of_row _ _ 5 _ _ (0, 0) hm).trans (show _ = some _ from rfl)
        have n6 := (cell_of_row _ _ 6 _ _ (0, 0) hm).trans (show _ = some _ from rfl)
        have z0 := frozen_of_row _ _ 0 _ _ hm
        have z1 := frozen_of_row _ _ 1 _ _ hm
        have z2 := frozen_of_row _ _ 2 _ _ hm
        have z3 := frozen_of_row _ _ 3 _ _ hm
        have z4 := frozen_of_row _ _ 4 _ _ hm
        have z5 := frozen_of_row _ _ 5 _ _ hm
        have z6 := frozen_of_row _ _ 6 _ _ hm
        have HX2 : Hid (∀ U, U = S7 W (w.heap.size + 1) (.string y.op) (.int .i64 y.am) (.int .i64 q.day) (.string q.f) (.string q.t) (.int .i64 q.dep) (.int .i64 q.arr) → U.heap[w.heap.size + 1]? = some (.cells #[.string y.op, .int .i64 y.am, .int .i64 q.day, .string q.f, .string q.t, .int .i64 q.dep, .int .i64 q.arr] segT (0, 0)) ∧ Below w.heap.size w U) := Lib.hid (fun U h => by rw [h]; exact ⟨S7.heap hm _ _ _ _ _ _ _, hwb.trans ((S7.but _ _ _ _ _ _ _ _ _).below hwb.size (fun k hk => by omega))⟩)
        clear hx hm hwb
        go_wp2
        obtain ⟨hxx, hbb⟩ := HX2.out _ rfl
        unfold S7 at hxx hbb
        clear HX2
        generalize hWW : (((((((W.setCell ⟨w.heap.size + 1, 0, none⟩ (.string y.op)).setCell ⟨w.heap.size + 1, 1, none⟩ (.int .i64 y.am)).setCell ⟨w.heap.size + 1, 2, none⟩ (.int .i64 q.day)).setCell ⟨w.heap.size + 1, 3, none⟩ (.string q.f)).setCell ⟨w.heap.size + 1, 4, none⟩ (.string q.t)).setCell ⟨w.heap.size + 1, 5, none⟩ (.int .i64 q.dep)).setCell ⟨w.heap.size + 1, 6, none⟩ (.int .i64 q.arr)) = WW at *
        clear hWW c0 n0 z0 c1 n1 z1 c2 n2 z2 c3 n3 z3 c4 n4 z4 c5 n5 z5 c6 n6 z6
        have e0 := (cell_of_row WW _ 0 _ _ (0, 0) hxx).trans (show _ = some _ from rfl)
        have e1 := (cell_of_row WW _ 1 _ _ (0, 0) hxx).trans (show _ = some _ from rfl)
        have e2 := (cell_of_row WW _ 2 _ _ (0, 0) hxx).trans (show _ = some _ from rfl)
        have e3 := (cell_of_row WW _ 3 _ _ (0, 0) hxx).trans (show _ = some _ from rfl)
        have e4 := (cell_of_row WW _ 4 _ _ (0, 0) hxx).trans (show _ = some _ from rfl)
        have e5 := (cell_of_row WW _ 5 _ _ (0, 0) hxx).trans (show _ = some _ from rfl)
        have e6 := (cell_of_row WW _ 6 _ _ (0, 0) hxx).trans (show _ = some _ from rfl)
        rw [HE.out]
        refine bodyPost_ret (v := .agg #[.string y.op, .int .i64 y.am, .int .i64 q.day, .string q.f, .string q.t, .int .i64 q.dep, .int .i64 q.arr]) ?_ rfl ⟨rfl, hbb⟩
        simp [results, Tryz.results22, go_sem, e0, e1, e2, e3, e4, e5, e6]
    · have HE : Hid (operF L q = q) := Lib.hid (operF_never (fun j z hj hz => HK.out j z (by omega) hz))
      have hx := (Below.block hS _ HLN.out).trans HN.out
      have hm := (Below.block hS _ HLM.out).trans HM.out
      have hwb := HB0.out.trans (Below.mono hS HB0.out.size)
      clear hS HK
      go_upto_region 7 with fail
      have c0 := (cell_of_row _ _ 0 _ _ (0, 0) hx).trans (show _ = some _ from rfl)
      have c1 := (cell_of_row _ _ 1 _ _ (0, 0) hx).trans (show _ = some _ from rfl)
      have c2 := (cell_of_row _ _ 2 _ _ (0, 0) hx).trans (show _ = some _ from rfl)
      have c3 := (cell_of_row _ _ 3 _ _ (0, 0) hx).trans (show _ = some _ from rfl)
      have c4 := (cell_of_row _ _ 4 _ _ (0, 0) hx).trans (show _ = some _ from rfl)
      have c5 := (cell_of_row _ _ 5 _ _ (0, 0) hx).trans (show _ = some _ from rfl)
      have c6 := (cell_of_row _ _ 6 _ _ (0, 0) hx).trans (show _ = some _ from rfl)
      have n0 := (cell_of_row _ _ 0 _ _ (0, 0) hm).trans (show _ = some _ from rfl)
      have n1 := (cell_of_row _ _ 1 _ _ (0, 0) hm).trans (show _ = some _ from rfl)
      have n2 := (cell_of_row _ _ 2 _ _ (0, 0) hm).trans (show _ = some _ from rfl)
      have n3 := (cell_of_row _ _ 3 _ _ (0, 0) hm).trans (show _ = some _ from rfl)
      have n4 := (cell_of_row _ _ 4 _ _ (0, 0) hm).trans (show _ = some _ from rfl)
      have n5 := (cell_of_row _ _ 5 _ _ (0, 0) hm).trans (show _ = some _ from rfl)
      have n6 := (cell_of_row _ _ 6 _ _ (0, 0) hm).trans (show _ = some _ from rfl)
      have z0 := frozen_of_row _ _ 0 _ _ hm
      have z1 := frozen_of_row _ _ 1 _ _ hm
      have z2 := frozen_of_row _ _ 2 _ _ hm
      have z3 := frozen_of_row _ _ 3 _ _ hm
      have z4 := frozen_of_row _ _ 4 _ _ hm
      have z5 := frozen_of_row _ _ 5 _ _ hm
      have z6 := frozen_of_row _ _ 6 _ _ hm
      have HX2 : Hid (∀ U, U = S7 wr (w.heap.size + 1) (.string q.car) (.int .i64 q.num) (.int .i64 q.day) (.string q.f) (.string q.t) (.int .i64 q.dep) (.int .i64 q.arr) → U.heap[w.heap.size + 1]? = some (.cells #[.string q.car, .int .i64 q.num, .int .i64 q.day, .string q.f, .string q.t, .int .i64 q.dep, .int .i64 q.arr] segT (0, 0)) ∧ Below w.heap.size w U) := Lib.hid (fun U h => by rw [h]; exact ⟨S7.heap hm _ _ _ _ _ _ _, hwb.trans ((S7.but _ _ _ _ _ _ _ _ _).below hwb.size (fun k hk => by omega))⟩)
      clear hx hm hwb
      go_wp2
      obtain ⟨hxx, hbb⟩ := HX2.out _ rfl
      unfold S7 at hxx hbb
      clear HX2
      generalize hWW : (((((((wr.setCell ⟨w.heap.size + 1, 0, none⟩ (.string q.car)).setCell ⟨w.heap.size + 1, 1, none⟩ (.int .i64 q.num)).setCell ⟨w.heap.size + 1, 2, none⟩ (.int .i64 q.day)).setCell ⟨w.heap.size + 1, 3, none⟩ (.string q.f)).setCell ⟨w.heap.size + 1, 4, none⟩ (.string q.t)).setCell ⟨w.heap.size + 1, 5, none⟩ (.int .i64 q.dep)).setCell ⟨w.heap.size + 1, 6, none⟩ (.int .i64 q.arr)) = WW at *
      clear hWW c0 n0 z0 c1 n1 z1 c2 n2 z2 c3 n3 z3 c4 n4 z4 c5 n5 z5 c6 n6 z6
      have e0 := (cell_of_row WW _ 0 _ _ (0, 0) hxx).trans (show _ = some _ from rfl)
      have e1 := (cell_of_row WW _ 1 _ _ (0, 0) hxx).trans (show _ = some _ from rfl)
      have e2 := (cell_of_row WW _ 2 _ _ (0, 0) hxx).trans (show _ = some _ from rfl)
      have e3 := (cell_of_row WW _ 3 _ _ (0, 0) hxx).trans (show _ = some _ from rfl)
      have e4 := (cell_of_row WW _ 4 _ _ (0, 0) hxx).trans (show _ = some _ from rfl)
      have e5 := (cell_of_row WW _ 5 _ _ (0, 0) hxx).trans (show _ = some _ from rfl)
      have e6 := (cell_of_row WW _ 6 _ _ (0, 0) hxx).trans (show _ = some _ from rfl)
      rw [HE.out]
      refine bodyPost_ret (v := .agg #[.string q.car, .int .i64 q.num, .int .i64 q.day, .string q.f, .string q.t, .int .i64 q.dep, .int .i64 q.arr]) ?_ rfl ⟨rfl, hbb⟩
      simp [results, Tryz.results22, go_sem, e0, e1, e2, e3, e4, e5, e6]

end Go.Proofs.YtdpcjafkahhecaaGreatDoor
