/- Walk of the reference's Check of configurations. -/
import Derived.Test.YtkghpapbifijcaaGreatDoorCabG
import Derived.Deep.LoopGhost
import Derived.BigQuiet
import Derived.Deep.CutRange
import Derived.Deep.CutBlock
namespace Go.Proofs.YtkghpapbifijcaaGreatDoor
open Go.RowKit Go.Shelf
set_option linter.unusedSimpArgs false
set_option linter.unusedVariables false

set_option maxRecDepth 100000 in
set_option maxHeartbeats 16000000 in
theorem rcheck_any (A : Option Addr) (c : Nat) (l : List Cf) (w : World) (hv : CfL w (.slice A l.length c) l) (hn : l.length ≤ 8) (hok : ∀ f ∈ l, OkCf f) :
    Calls Tryz.prog 33 #[.slice A l.length c] w fun e w' => ∃ v', e = .returned v' ∧ FOwn w.heap.size w' v' (conF l l.length) ∧ Below w.heap.size w w' := by
  have HOK := Lib.hid hok
  have HV := Lib.hid hv
  clear hv hok
  have HV5 : Hid (∀ W, SW w W → CfL W (.slice A l.length c) l) := Lib.hid (fun W h => HV.out.more h)
  have HI : Hid (FOwn w.heap.size w (.slice none 0 0) (conF l 0) ∧ SW w w) := Lib.hid ⟨ROwn.nil (Nat.le_refl _), Below.refl _ _⟩
  go_enter Tryz.func33, Tryz.ntmps33
  go_wp2
  go_loopg [3, 4] l.length (fun kx v3 v4 wr => ∃ (v : Value) (i : Nat), v = v3 ∧ v4 = .int .i64 i ∧ i + kx = l.length ∧ Hid (FOwn w.heap.size wr v (conF l i) ∧ SW w wr))
  case atStart => exact ⟨_, 0, rfl, rfl, by omega, HI⟩
  case round =>
    obtain ⟨v, i, rfl, rfl, hkx, HH⟩ := hrel
    clear HI
    have HKX := Lib.hid hkx
    by_cases hlt : i < l.length
    · obtain ⟨f, hf⟩ : ∃ f, l[i]? = some f := ⟨_, List.getElem?_eq_getElem hlt⟩
      have HF := Lib.hid hf
      obtain ⟨b1, o1, e1, hb1, hc1⟩ := row_get (HV5.out _ HH.out.2).1 hf
      cases e1
      obtain ⟨fA, hA⟩ : ∃ A, A = f.A := ⟨_, rfl⟩
      have HA := Lib.hid hA
      have i1 : (i : Int) < (l.length : Int) := by omega
      have hox := HOK.out f (List.mem_of_getElem? hf)
      have HOX := Lib.hid hox
      have KP := Lib.hid (fun W => rplace0_any conR i W (by omega) (by decide))
      rw [con_path] at KP
      obtain ⟨tw, htw⟩ : ∃ tw : Nat → Bool, tw = fun j => anyS ((l.take j).map Cf.equip) f.equip := ⟨_, rfl⟩
      have HT : Hid (conF l (i + 1) = conF l i ++ pick (conW ++ decA i) [whC (!codeB f.equip 3 3) 5] ++ pick (conW ++ decA i) [whC (tw i) 6] ++ pick (conW ++ decA i) [whC (badN f.l.length 4) 4] ++ cabF (conW ++ decA i) f.l f.l.length) := Lib.hid (by
        rw [htw, conF_succ l i f hf, show conE l i f = [whC (!codeB f.equip 3 3) 5, whC (anyS ((l.take i).map Cf.equip) f.equip) 6, whC (badN f.l.length 4) 4] from rfl]
        simp only [List.append_assoc, ← pick_app, List.cons_append, List.nil_append])
      have HTW : Hid (∀ j (h : j < i), ∃ y, l[j]? = some y ∧ tw (j + 1) = (tw j || (y.equip.toList == f.equip.toList))) := Lib.hid (fun j h => ⟨l[j]'(by omega), List.getElem?_eq_getElem _, by
        rw [htw]
        show anyS ((l.take (j + 1)).map Cf.equip) f.equip = _
        rw [map_snoc Cf.equip l j _ (List.getElem?_eq_getElem (show j < l.length by omega)), anyS_snoc]⟩)
      have HTW0 : Hid (tw 0 = false) := Lib.hid (by rw [htw]; rfl)
      have KC := Lib.hid (fun W => rcode_any f.equip 3 3 W hox.equip)
      have hsz : 0 < (conW ++ decA i).size ∧ (conW ++ decA i).size ≤ 100 := by have := decA_size i (by omega); have e : conW.size = 7 := rfl; simp only [ByteArray.size_append]; omega
      have HFL : Hid ((conF l i).length ≤ 10000) := Lib.hid (by have := conF_le l HOK.out i; omega)
      have KK : Hid (∀ W, SW w W → Calls Tryz.prog 76 #[.agg #[.string f.equip, .slice fA f.l.length f.c], .string (conW ++ decA i)] W fun e w' => ∃ v', e = .returned v' ∧ FltL w' v' (cabF (conW ++ decA i) f.l f.l.length) ∧ Below W.heap.size W w') := Lib.hid (fun W h => by
        have h1 := rcabins_any f.equip f.A f.c f.l (conW ++ decA i) W ((HV5.out W h).2 f (List.mem_of_getElem? HF.out)) hox.len hox.cab hsz.1 hsz.2
        rw [← HA.out] at h1
        exact h1.mono (by rintro e w' ⟨v', rfl, h1, h2⟩; exact ⟨v', rfl, h1.rowL rtF.len, h2⟩))
      have HCL : Hid ((cabF (conW ++ decA i) f.l f.l.length).length ≤ 1000) := Lib.hid (by have := cabF_le (conW ++ decA i) f.l (fun b hb => (hox.cab b hb).len) f.l.length; have := hox.len; omega)
      have HBM : Hid (badN f.l.length 4 = (decide ((f.l.length : Int) < 1) || decide (4 < (f.l.length : Int)))) := Lib.hid rfl
      have E0 : Hid (∀ W, SW w W → W.cell? ⟨b1, o1 + i * 2, none⟩ = some (.string f.equip) ∧ W.cell? ⟨b1, o1 + i * 2 + 1, none⟩ = some (.slice fA f.l.length f.c)) := Lib.hid (fun W h => by
        obtain ⟨b2, o2, e2, hb2, hc2⟩ := row_get (HV5.out W h).1 HF.out
        cases e2
        have h0 := hc2 0 _ rfl
        have h1 := hc2 1 _ rfl
        rw [← hA] at h1
        rw [Nat.add_zero] at h0
        exact ⟨h0, h1⟩)
      generalize hBL : conF l i = BL at *
      generalize hnm : conW ++ decA i = nm at *
      generalize codeB f.equip 3 3 = cb at *
      generalize badN f.l.length 4 = bm at *
      generalize cabF nm f.l f.l.length = CF at *
      clear hb1 hc1 hf hBL hnm hkx hA hsz hox htw
      have HNX : Hid (i + 1 + (l.length - (i + 1)) = l.length) := Lib.hid (by have := HKX.out; omega)
      have HVS : Hid (FOwn w.heap.size wr v BL ∧ SW w wr) := HH
      go_upto_region 7 with (go_at_call 74; refine (KP.out _).mono ?_; rintro e wa ⟨rfl, hba⟩)
      have HVS : Hid (FOwn w.heap.size wa v BL ∧ SW w wa) := Lib.hid ⟨HVS.out.1.more hba, Below.trans HVS.out.2 (Below.mono hba HVS.out.2.size)⟩
      clear hba KP
      have HSA : Hid (SW w wa) := Lib.hid HVS.out.2
      go_loopg [6, 7] i (fun kx v6 v7 wq => ∃ (j : Nat), j + kx = i ∧ v7 = .int .i64 j ∧ v6 = .bool (tw j) ∧ SW wa wq)
      case atStart => exact ⟨0, by omega, rfl, by rw [HTW0.out], Below.refl _ _⟩
      case round =>
        obtain ⟨j, hjx, rfl, rfl, hS⟩ := hrel
        by_cases hlt2 : j < i
        · obtain ⟨y, hjc, hty⟩ := HTW.out j hlt2
          have hSq5 : SW w _ := Below.trans HSA.out (Below.mono hS HSA.out.size)
          have k0 := (E0.out _ hSq5).1
          obtain ⟨b2, o2, e2, hbl2, hc2⟩ := row_get (HV5.out _ hSq5).1 hjc
          cases e2
          have d0 := hc2 0 _ rfl
          rw [Nat.add_zero] at d0
          have i4 : (j : Int) < (i : Int) := by omega
          have i5 : (j : Int) < (l.length : Int) := by omega
          have HTY := Lib.hid hty
          have HJX := Lib.hid hjx
          generalize tw j = tj at *
          clear hjc hty hc2 hjx hbl2 HTW HTW0 HT HFL HVS HV5 hSq5 KK
          cases tj with
          | true =>
            go_wp2
            go_quiet (fail)
            go_wp2
            go_roundg (i - (j + 1))
            case measure => have := HJX.out; omega
            case rel => exact ⟨j + 1, by have := HJX.out; omega, by go_num, by rw [HTY.out]; rfl, below_drewN hS _⟩
          | false =>
          cases e1 : (y.equip.toList == f.equip.toList) with
          | false =>
            go_wp2
            go_quiet (fail)
            go_wp2
            go_roundg (i - (j + 1))
            case measure => have := HJX.out; omega
            case rel => exact ⟨j + 1, by have := HJX.out; omega, by go_num, by rw [HTY.out, e1]; rfl, below_drewN hS _⟩
          | true =>
            go_wp2
            go_quiet (fail)
            go_wp2
            go_roundg (i - (j + 1))
            case measure => have := HJX.out; omega
            case rel => exact ⟨j + 1, by have := HJX.out; omega, by go_num, by rw [HTY.out, e1]; rfl, below_drewN hS _⟩
        · have hij : i = j := by omega
          subst hij
          have HVS : Hid (FOwn w.heap.size _ v BL ∧ SW w _) := Lib.hid ⟨HVS.out.1.more hS, Below.trans HVS.out.2 (Below.mono hS HVS.out.2.size)⟩
          clear hS hjx hlt2 HTW HTW0 HSA
          obtain ⟨n0, n1⟩ := E0.out _ HVS.out.2
          generalize tw i = twi at *
          have i4 : ¬ (i : Int) < (i : Int) := by omega
          go_upto_if 41 with (go_at_call 75; refine (KC.out _).mono ?_; rintro e w' ⟨rfl, rfl⟩)
          go_cut [3] from 8 to 81 (fun u wx => Hid (FOwn w.heap.size wx u (BL ++ pick nm [whC (!cb) 5]) ∧ SW w wx))
          case first =>
            have HLn : Hid ((BL).length ≤ 100000000) := Lib.hid (by have := HFL.out; omega)
            clear HT KK HV5 HCL HBM HH n0 n1
            cases cb with
            | true =>
              go_wp2
              go_meet
              exact Lib.hid (by rw [pick_wh nm _ 5 (by omega)]; simpa using HVS.out)
            | false =>
              go_wp2_with (at_builtin; refine wpList_rapp rtF rfl _ _ rfl HVS.out.1 rfl (bel_alloc _ _) _ (5, nm) _ rfl (cs := #[.int .i64 5, .string nm]) rfl (heap_alloc_new _ _) HLn.out ?_; intro v1 w1 hO1 hC1)
              go_meet
              exact Lib.hid (by rw [pick_wh nm _ 5 (by omega)]; exact ⟨hO1, Below.trans HVS.out.2 (hC1.below (B := w.heap.size) HVS.out.1)⟩)
          case rest =>
            have HVS := hcut
            clear hcut n0 n1 KC
            obtain ⟨wb, hwq⟩ : ∃ wq, wq = wc := ⟨_, rfl⟩
            subst hwq
            go_upto_if 47 with fail
            go_cut [3] from 8 to 81 (fun u wx => Hid (FOwn w.heap.size wx u (BL ++ pick nm [whC (!cb) 5] ++ pick nm [whC twi 6]) ∧ SW w wx))
            case first =>
              have HLn : Hid ((BL ++ pick nm [whC (!cb) 5]).length ≤ 100000000) := Lib.hid (by have := HFL.out; have h0 := pick_le nm [whC (!cb) 5]; simp only [List.length_append, List.length_cons, List.length_nil] at h0 ⊢; omega)
              clear HT KK HV5 HCL HBM HH
              cases twi with
              | false =>
                go_wp2
                go_meet
                exact Lib.hid (by rw [pick_wh nm _ 6 (by omega)]; simpa using HVS.out)
              | true =>
                go_wp2_with (at_builtin; refine wpList_rapp rtF rfl _ _ rfl HVS.out.1 rfl (bel_alloc _ _) _ (6, nm) _ rfl (cs := #[.int .i64 6, .string nm]) rfl (heap_alloc_new _ _) HLn.out ?_; intro v1 w1 hO1 hC1)
                go_meet
                exact Lib.hid (by rw [pick_wh nm _ 6 (by omega)]; exact ⟨hO1, Below.trans HVS.out.2 (hC1.below (B := w.heap.size) HVS.out.1)⟩)
            case rest =>
              have HVS := hcut
              clear hcut
              obtain ⟨we, hwq⟩ : ∃ wq, wq = wc := ⟨_, rfl⟩
              subst hwq
              obtain ⟨n0, n1⟩ := E0.out _ HVS.out.2
              go_upto_region 14 with fail
              go_cut [68] from 8 to 81 (fun v68 wx => v68 = .bool bm ∧ wx = we)
              case first =>
                clear HVS HT KK HV5 HCL HH
                cases h0 : decide ((f.l.length : Int) < 1) with
                | true =>
                  have h0' : (f.l.length : Int) < 1 := of_decide_eq_true h0
                  have HB9 : Hid (true = bm) := Lib.hid (by rw [HBM.out, h0]; rfl)
                  go_wp2
                  go_meet
                  exact ⟨by rw [HB9.out], rfl⟩
                | false =>
                  have h0' : ¬ (f.l.length : Int) < 1 := of_decide_eq_false h0
                  cases h9 : decide (4 < (f.l.length : Int)) with
                  | true =>
                    have h9' : 4 < (f.l.length : Int) := of_decide_eq_true h9
                    have HB9 : Hid (true = bm) := Lib.hid (by rw [HBM.out, h9, Bool.or_true])
                    go_wp2
                    go_meet
                    exact ⟨by rw [HB9.out], rfl⟩
                  | false =>
                    have h9' : ¬ 4 < (f.l.length : Int) := of_decide_eq_false h9
                    have HB9 : Hid (false = bm) := Lib.hid (by rw [HBM.out, h0, h9]; rfl)
                    go_wp2
                    go_meet
                    exact ⟨by rw [HB9.out], rfl⟩
              case rest =>
                obtain ⟨rfl, hwc⟩ := hcut
                have hwc := hwc.symm
                subst hwc
                clear n0 n1 HBM
                go_upto_if 68 with fail
                go_cut [3] from 8 to 81 (fun u wx => Hid (FOwn w.heap.size wx u (BL ++ pick nm [whC (!cb) 5] ++ pick nm [whC twi 6] ++ pick nm [whC bm 4]) ∧ SW w wx))
                case first =>
                  have HLn : Hid ((BL ++ pick nm [whC (!cb) 5] ++ pick nm [whC twi 6]).length ≤ 100000000) := Lib.hid (by have := HFL.out; have h0 := pick_le nm [whC (!cb) 5]; have h1 := pick_le nm [whC twi 6]; simp only [List.length_append, List.length_cons, List.length_nil] at h0 h1 ⊢; omega)
                  clear HT KK HV5 HCL HH
                  cases bm with
                  | false =>
                    go_wp2
                    go_meet
                    exact Lib.hid (by rw [pick_wh nm _ 4 (by omega)]; simpa using HVS.out)
                  | true =>
                    go_wp2_with (at_builtin; refine wpList_rapp rtF rfl _ _ rfl HVS.out.1 rfl (bel_alloc _ _) _ (4, nm) _ rfl (cs := #[.int .i64 4, .string nm]) rfl (heap_alloc_new _ _) HLn.out ?_; intro v1 w1 hO1 hC1)
                    go_meet
                    exact Lib.hid (by rw [pick_wh nm _ 4 (by omega)]; exact ⟨hO1, Below.trans HVS.out.2 (hC1.below (B := w.heap.size) HVS.out.1)⟩)
                case rest =>
                  have HVS := hcut
                  clear hcut
                  obtain ⟨wf, hwq⟩ : ∃ wq, wq = wc := ⟨_, rfl⟩
                  subst hwq
                  obtain ⟨n0, n1⟩ := E0.out _ HVS.out.2
                  have HLm : Hid ((BL ++ pick nm [whC (!cb) 5] ++ pick nm [whC twi 6] ++ pick nm [whC bm 4]).length + CF.length ≤ 100000000) := Lib.hid (by have := HFL.out; have := HCL.out; have h0 := pick_le nm [whC (!cb) 5]; have h1 := pick_le nm [whC twi 6]; have h2 := pick_le nm [whC bm 4]; simp only [List.length_append, List.length_cons, List.length_nil] at h0 h1 h2 ⊢; omega)
                  go_wp2_with (first | (go_at_call 76; refine (KK.out _ HVS.out.2).mono ?_; rintro e w10 ⟨v10, rfl, hF10, hB10⟩) | (at_builtin; refine wpList_rappl rtF rfl _ _ rfl (HVS.out.1.more hB10) rfl _ _ rfl hF10 HLm.out ?_; intro v11 w11 hO11 hC11; refine Hid.out ?_))
                  have HY : Hid (FOwn w.heap.size w11 v11 (conF l (i + 1)) ∧ SW w w11) := Lib.hid (by rw [HT.out]; exact ⟨hO11, Below.trans (Below.trans HVS.out.2 (Below.mono hB10 HVS.out.2.size)) (hC11.below (B := w.heap.size) (HVS.out.1.more hB10))⟩)
                  clear HVS hO11 hC11 hB10 hF10 n0 n1
                  refine Lib.hid ?_
                  go_wp2
                  go_roundg (l.length - (i + 1))
                  case measure => have := HKX.out; omega
                  case rel => exact ⟨_, i + 1, rfl, by go_num, HNX.out, HY⟩
    · have HE : Hid (i = l.length) := Lib.hid (by omega)
      have HR : Hid (FOwn w.heap.size wr v (conF l l.length) ∧ Below w.heap.size w wr) := Lib.hid (by
        have h := HH.out
        rw [HE.out] at h
        exact h)
      have i2 : ¬ (i : Int) < (l.length : Int) := by omega
      clear HH
      go_wp2
      go_ret
      exact ⟨_, rfl, HR.out⟩
end Go.Proofs.YtkghpapbifijcaaGreatDoor
