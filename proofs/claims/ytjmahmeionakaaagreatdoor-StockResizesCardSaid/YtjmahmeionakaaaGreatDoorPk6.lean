/- Words and walks that the laws below ask: CabD, CabA2, CabE. -/
import Derived.Deep.RegionHeld3
import Derived.OrdersHeld
import Derived.Deep.CutRange
import Derived.Deep.CutBlock
import Derived.Deep.LoopGhost
import Derived.BigQuiet
import Derived.Deep.RegionWith
import Derived.Test.YtjmahmeionakaaaGreatDoorPk3
import Derived.Test.YtjmahmeionakaaaGreatDoorPk4
import Derived.Test.YtjmahmeionakaaaGreatDoorPk5
/- Walk of cabin.Check. -/
namespace Go.Proofs.YtjmahmeionakaaaGreatDoor
open Go.RowKit Go.Shelf Go.Maps
set_option linter.unusedSimpArgs false
set_option linter.unusedVariables false

set_option maxRecDepth 100000 in
set_option maxHeartbeats 16000000 in
theorem check_any (A : Option Addr) (c : Nat) (l : List Cf) (w : World) (hv : CfL w (.slice A l.length c) l) (hn : l.length ≤ 8) (hok : ∀ f ∈ l, OkCf f) :
    Calls Tryz.prog 41 #[.slice A l.length c] w fun e w' => ∃ v', e = .returned v' ∧ FOwn w.heap.size w' v' (conF l l.length) ∧ Below w.heap.size w w' := by
  have HV := Lib.hid hv
  have HOK := Lib.hid hok
  have hmm := @run_makeMap Tryz.prog
  have b1 := bel_alloc w (.map #[] 0)
  have m1 : MapS (w.alloc (.map #[] 0)) w.heap.size 0 (gS []) := by rw [gS_nil]; exact MapK.made w Tryz.prog 9 Value.string
  obtain ⟨MB, hMB⟩ : ∃ MB, MB = w.heap.size := ⟨_, rfl⟩
  rw [← hMB] at m1
  have HI : Hid (FOwn (MB + 1) (w.alloc (.map #[] 0)) (.slice none 0 0) (conF l 0) ∧ MapS (w.alloc (.map #[] 0)) MB 0 (gS ((l.take 0).map Cf.equip)) ∧ Below w.heap.size w (w.alloc (.map #[] 0))) := Lib.hid ⟨ROwn.nil (by simp [hMB]), m1, b1⟩
  have HMB := Lib.hid hMB
  clear hv hok m1 b1
  go_enter Tryz.func41, Tryz.ntmps41
  go_wp2
  rw [← hMB]
  clear hMB
  go_loopw [3, 11] (fun s3 vi W => ∃ (v : Value) (k : Nat), v = s3 ∧ k ≤ l.length ∧ vi = .int .i64 k ∧ Hid (FOwn (MB + 1) W v (conF l k) ∧ MapS W MB k (gS ((l.take k).map Cf.equip)) ∧ Below w.heap.size w W)) (fun _ vi _ => l.length - (intOf vi).toNat)
  case atStart => exact ⟨_, 0, rfl, Nat.zero_le _, rfl, HI⟩
  case round =>
    obtain ⟨v, k, rfl, hk, rfl, HJ⟩ := hrel
    clear HI
    by_cases hlt : k < l.length
    · obtain ⟨f, hkc⟩ : ∃ f, l[k]? = some f := ⟨_, List.getElem?_eq_getElem hlt⟩
      obtain ⟨bb, off, e1, hbl, hc⟩ := row_get (HV.out.1.more HJ.out.2.2) hkc
      cases e1
      have i2 : (k : Int) < (l.length : Int) := by omega
      have hAt := Lib.hid (HV.out.2 f (List.mem_of_getElem? hkc))
      obtain ⟨fA, hA⟩ : ∃ A, A = f.A := ⟨_, rfl⟩
      have HA := Lib.hid hA
      have d0 := hc 0 _ rfl
      have d1 := hc 1 _ rfl
      rw [← hA] at d1
      rw [Nat.add_zero] at d0
      clear hA
      have hokc := HOK.out f (List.mem_of_getElem? hkc)
      have HOC := Lib.hid hokc
      have hT := Lib.hid (map_snoc Cf.equip l k f hkc)
      have HF := Lib.hid (conF_succ l k f hkc)
      have HFL : Hid ((conF l k).length ≤ 1000000) := Lib.hid (by have := conF_le l HOK.out k; omega)
      have HKG := Lib.hid (gS_get ((l.take k).map Cf.equip) f.equip)
      have HKP := Lib.hid (gS_put ((l.take k).map Cf.equip) f.equip)
      have hkey := str_key f.equip hokc.equip
      have hb1 := bel_alloc wr (.cells #[.string f.equip, .slice fA f.l.length f.c] cfT)
      have q0 := (cells_new wr #[.string f.equip, .slice fA f.l.length f.c] cfT 0).trans (show _ = some (Value.string f.equip) from rfl)
      have q1 := (cells_new wr #[.string f.equip, .slice fA f.l.length f.c] cfT 1).trans (show _ = some (Value.slice fA f.l.length f.c) from rfl)
      have HO6 := Lib.hid (HJ.out.1.more hb1)
      have mm1 := HJ.out.2.1.more hb1
      have hb6 := HJ.out.2.2.trans (hb1.mono HJ.out.2.2.size)
      have hvN : v.ownBlock ≠ some wr.heap.size := fun h => Nat.lt_irrefl _ (HJ.out.1.low h).2
      have hv1 : v.ownBlock ≠ some MB := fun h => by have := (HJ.out.1.low h).1; omega
      have hNM : MB < wr.heap.size := HJ.out.2.1.lt
      have HEq : Hid (conE l k f = [whC (!codeB f.equip 3 3) 5, whC (anyS ((l.take k).map Cf.equip) f.equip) 6, whC (badN f.l.length 4) 4]) := Lib.hid rfl
      have HBM : Hid (badN f.l.length 4 = (decide ((f.l.length : Int) < 1) || decide (4 < (f.l.length : Int)))) := Lib.hid rfl
      have KD := Lib.hid (dec_small k (by omega))
      have hadd1 : ∀ W : World, (Op.stringOp .add ⟨#[99, 111, 110, 102, 105, 103, 32]⟩ (decA k)).run Tryz.prog W = .ok (.string (conW ++ decA k)) W := fun W => run_string_add_sum W _ _ (by have := decA_size k (by omega); have e : (⟨#[99, 111, 110, 102, 105, 103, 32]⟩ : ByteArray).size = 7 := rfl; omega)
      have hsz : (conW ++ decA k).size ≤ 100 := by have := decA_size k (by omega); have e : conW.size = 7 := rfl; simp only [ByteArray.size_append]; omega
      have HSZ := Lib.hid hsz
      obtain ⟨NB, hNB⟩ : ∃ NB, NB = wr.heap.size := ⟨_, rfl⟩
      have HNB := Lib.hid hNB
      rw [← hNB] at q0 q1 hvN hNM
      clear hb1 HJ hkc hc hbl hsz
      generalize hnm : conW ++ decA k = nm at *
      generalize decA k = sk at *
      clear hnm
      go_upto_region 7 with (go_at_call 84; refine (KD.out _).mono ?_; rintro e w' ⟨rfl, rfl⟩)
      rw [← hNB]
      clear d0 d1 hNB hadd1 KD
      generalize wr.alloc (.cells #[.string f.equip, .slice fA f.l.length f.c] cfT) = w6 at *
      have f0 : ∀ W, SX w6 v W → W.cell? ⟨NB, 0, none⟩ = some (.string f.equip) := fun W h => SX.cell q0 hvN h
      have f1 : ∀ W, SX w6 v W → W.cell? ⟨NB, 1, none⟩ = some (.slice fA f.l.length f.c) := fun W h => SX.cell q1 hvN h
      have lkN : ∀ W, SX w6 v W → (Instr.lookup 127 (.map (some MB)) (.string f.equip) false).run Tryz.prog W = .ok (.bool (anyS ((l.take k).map Cf.equip) f.equip)) W := fun W h => by
        have h := lookB (SX.map mm1 hv1 h) f.equip hokc.equip
        rw [HKG.out] at h
        exact h
      have KU := Lib.hid (fun W => code_any f.equip 3 3 W hokc.equip)
      have HK := Lib.hid hkey
      have MM1 := Lib.hid mm1
      have HB6 := Lib.hid hb6
      have hO := HO6.out.more ((Below.refl _ w6).drew)
      generalize anyS ((l.take k).map Cf.equip) f.equip = tw at *
      generalize codeB f.equip 3 3 = cb at *
      generalize hbm : badN f.l.length 4 = bm at *
      clear mm1 q0 q1 hb6 HKG hkey hokc hbm
      cases h0 : decide ((f.l.length : Int) < 1) with
      | true =>
        have h0' : (f.l.length : Int) < 1 := of_decide_eq_true h0
        have HBT : Hid (bm = true) := Lib.hid (by rw [HBM.out, h0]; rfl)
        obtain ⟨x0, hx0⟩ : ∃ x : Int, x = whC (!cb) 5 := ⟨_, rfl⟩
        obtain ⟨x1, hx1⟩ : ∃ x : Int, x = whC tw 6 := ⟨_, rfl⟩
        obtain ⟨x2, hx2⟩ : ∃ x : Int, x = whC true 4 := ⟨_, rfl⟩
        have KW0 : Hid (∀ W, Calls Tryz.prog 86 #[.bool (!cb), .int .i64 5] W fun r w' => r = .returned (.int .i64 x0) ∧ W = w') := Lib.hid (fun W => by rw [hx0]; exact fwhen_any (!cb) 5 W)
        have KW1 : Hid (∀ W, Calls Tryz.prog 86 #[.bool tw, .int .i64 6] W fun r w' => r = .returned (.int .i64 x1) ∧ W = w') := Lib.hid (fun W => by rw [hx1]; exact fwhen_any tw 6 W)
        have KW2 : Hid (∀ W, Calls Tryz.prog 86 #[.bool true, .int .i64 4] W fun r w' => r = .returned (.int .i64 x2) ∧ W = w') := Lib.hid (fun W => by rw [hx2]; exact fwhen_any true 4 W)
        have HEr : Hid (conE l k f = [x0, x1, x2]) := Lib.hid (by rw [HEq.out, hx0, hx1, hx2, HBT.out])
        clear hx0 hx1 hx2 HEq HBT HBM
        have hS : (SX w6 v) _ := But.of_below (Below.refl _ _).drew
        refine wp_region_held_drew (S := SX w6 v) (by kernel_rfl) hS (fun _ => ?_)
        refine wpAnyH_take (i := 0) (v := ?vA0) rfl (by kernel_rfl) (by kernel_rfl) (by kernel_rfl) (fun _ _ _ h => h) (Or.inl ⟨by rfl, ?hyA0⟩) hS ?restA0
        case hyA0 =>
          intro w hSw
          first | (go_simp; done) | (go_simp; with_reducible rfl)
        try simp only [Act.put, List.setIfInBounds_toArray, List.set_cons_zero, List.set_cons_succ]
        refine wpAnyH_take (i := 1) (v := ?vA1) rfl (by kernel_rfl) (by kernel_rfl) (by kernel_rfl) (fun _ _ _ h => h) (Or.inl ⟨by rfl, ?hyA1⟩) hS ?restA1
        case hyA1 =>
          intro w hSw
          first | (go_simp; done) | (go_simp; with_reducible rfl)
        try simp only [Act.put, List.setIfInBounds_toArray, List.set_cons_zero, List.set_cons_succ]
        refine wpAnyH_take (i := 2) (v := ?vA2) rfl (by kernel_rfl) (by kernel_rfl) (by kernel_rfl) (fun _ _ _ h => h) (Or.inl ⟨by rfl, ?hyA2⟩) hS ?restA2
        case hyA2 =>
          intro w hSw
          first | (go_simp; done) | (go_simp; with_reducible rfl)
        try simp only [Act.put, List.setIfInBounds_toArray, List.set_cons_zero, List.set_cons_succ]
        refine wpAnyH_take (i := 3) (v := ?vA3) rfl (by kernel_rfl) (by kernel_rfl) (by kernel_rfl) (fun _ _ _ h => h) (Or.inl ⟨by rfl, ?hyA3⟩) hS ?restA3
        case hyA3 =>
          intro w hSw
          have k0 := f0 w hSw; have k1 := f1 w hSw; have k2 := lkN w hSw
          first | (go_simp; done) | (go_simp; with_reducible rfl)
        try simp only [Act.put, List.setIfInBounds_toArray, List.set_cons_zero, List.set_cons_succ]
        refine wpAnyH_take (i := 7) (v := ?vA7) rfl (by kernel_rfl) (by kernel_rfl) (by kernel_rfl) (fun _ _ _ h => h) (Or.inl ⟨by rfl, ?hyA7⟩) hS ?restA7
        case hyA7 =>
          intro w hSw
          first | (go_simp; done) | (go_simp; with_reducible rfl)
        try simp only [Act.put, List.setIfInBounds_toArray, List.set_cons_zero, List.set_cons_succ]
        refine wpAnyH_take (i := 8) (v := ?vA8) rfl (by kernel_rfl) (by kernel_rfl) (by kernel_rfl) (fun _ _ _ h => h) (Or.inl ⟨by rfl, ?hyA8⟩) hS ?restA8
        case hyA8 =>
          intro w hSw
          first | (go_simp; done) | (go_simp; with_reducible rfl)
        try simp only [Act.put, List.setIfInBounds_toArray, List.set_cons_zero, List.set_cons_succ]
        refine wpAnyH_take (i := 9) (v := ?vA9) rfl (by kernel_rfl) (by kernel_rfl) (by kernel_rfl) (fun _ _ _ h => h) (Or.inl ⟨by rfl, ?hyA9⟩) hS ?restA9
        case hyA9 =>
          intro w hSw
          have k0 := f0 w hSw; have k1 := f1 w hSw; have k2 := lkN w hSw
          first | (go_simp; done) | (go_simp; with_reducible rfl)
        try simp only [Act.put, List.setIfInBounds_toArray, List.set_cons_zero, List.set_cons_succ]
        refine wpAnyH_take (i := 10) (v := ?vA10) rfl (by kernel_rfl) (by kernel_rfl) (by kernel_rfl) (fun _ _ _ h => h) (Or.inl ⟨by rfl, ?hyA10⟩) hS ?restA10
        case hyA10 =>
          intro w hSw
          have k0 := f0 w hSw; have k1 := f1 w hSw; have k2 := lkN w hSw
          first | (go_simp; done) | (go_simp; with_reducible rfl)
        try simp only [Act.put, List.setIfInBounds_toArray, List.set_cons_zero, List.set_cons_succ]
        refine wpAnyH_take (i := 12) (v := ?vA12) rfl (by kernel_rfl) (by kernel_rfl) (by kernel_rfl) (fun _ _ _ h => h) (Or.inl ⟨by rfl, ?hyA12⟩) hS ?restA12
        case hyA12 =>
          intro w hSw
          first | (go_simp; done) | (go_simp; with_reducible rfl)
        try simp only [Act.put, List.setIfInBounds_toArray, List.set_cons_zero, List.set_cons_succ]
        refine wpAnyH_take (i := 13) (v := ?vA13) rfl (by kernel_rfl) (by kernel_rfl) (by kernel_rfl) (fun _ _ _ h => h) (Or.inl ⟨by rfl, ?hyA13⟩) hS ?restA13
        case hyA13 =>
          intro w hSw
          have k0 := f0 w hSw; have k1 := f1 w hSw; have k2 := lkN w hSw
          first | (go_simp; done) | (go_simp; with_reducible rfl)
        try simp only [Act.put, List.setIfInBounds_toArray, List.set_cons_zero, List.set_cons_succ]
        refine wpAnyH_take (i := 14) (v := ?vA14) rfl (by kernel_rfl) (by kernel_rfl) (by kernel_rfl) (fun _ _ _ h => h) (Or.inl ⟨by rfl, ?hyA14⟩) hS ?restA14
        case hyA14 =>
          intro w hSw
          first | (go_simp; done) | (go_simp; with_reducible rfl)
        try simp only [Act.put, List.setIfInBounds_toArray, List.set_cons_zero, List.set_cons_succ]
        refine wpAnyH_take (i := 15) (v := ?vA15) rfl (by kernel_rfl) (by kernel_rfl) (by kernel_rfl) (fun _ _ _ h => h) (Or.inl ⟨by rfl, ?hyA15⟩) hS ?restA15
        case hyA15 =>
          intro w hSw
          first | (go_simp; done) | (go_simp; with_reducible rfl)
        try simp only [Act.put, List.setIfInBounds_toArray, List.set_cons_zero, List.set_cons_succ]
        refine wpAnyH_ready (rs := [4]) (by kernel_rfl) (by simp) ?_
        refine AllReadyH.cons rfl (fun K hK => ?_) AllReadyH.nil
        go_simp
        go_wp2_with ((go_at_call 87; refine (KU.out _).mono ?_; rintro e w' ⟨rfl, rfl⟩))
        refine hK.out _ _ hS (fun _ => ?_)
        clear hK K
        refine wpAnyH_take (i := 5) (v := ?vA5) rfl (by kernel_rfl) (by kernel_rfl) (by kernel_rfl) (fun _ _ _ h => h) (Or.inl ⟨by rfl, ?hyA5⟩) hS ?restA5
        case hyA5 =>
          intro w hSw
          first | (go_simp; done) | (go_simp; with_reducible rfl)
        try simp only [Act.put, List.setIfInBounds_toArray, List.set_cons_zero, List.set_cons_succ]
        refine wpAnyH_ready (rs := [6]) (by kernel_rfl) (by simp) ?_
        refine AllReadyH.cons rfl (fun K hK => ?_) AllReadyH.nil
        go_simp
        go_wp2_with ((go_at_call 86; refine (KW0.out _).mono ?_; rintro e w' ⟨rfl, rfl⟩))
        refine hK.out _ _ hS (fun _ => ?_)
        clear hK K
        refine wpAnyH_ready (rs := [11]) (by kernel_rfl) (by simp) ?_
        refine AllReadyH.cons rfl (fun K hK => ?_) AllReadyH.nil
        go_simp
        go_wp2_with ((go_at_call 86; refine (KW1.out _).mono ?_; rintro e w' ⟨rfl, rfl⟩))
        refine hK.out _ _ hS (fun _ => ?_)
        clear hK K
        refine wpAnyH_take (i := 16) (v := ?vA16) rfl (by kernel_rfl) (by kernel_rfl) (by kernel_rfl) (fun _ _ _ h => h) (Or.inl ⟨by rfl, ?hyA16⟩) hS ?restA16
        case hyA16 =>
          intro w hSw
          first | (go_simp; done) | (go_simp; with_reducible rfl)
        try simp only [Act.put, List.setIfInBounds_toArray, List.set_cons_zero, List.set_cons_succ]
        refine wpAnyH_take (i := 17) (v := undef) rfl (by kernel_rfl) (by kernel_rfl) (by kernel_rfl) (fun _ _ _ h => h) (Or.inr ⟨by kernel_rfl, rfl⟩) hS ?_
        try simp only [Act.put, List.setIfInBounds_toArray, List.set_cons_zero, List.set_cons_succ]
        refine wpAnyH_take (i := 18) (v := undef) rfl (by kernel_rfl) (by kernel_rfl) (by kernel_rfl) (fun _ _ _ h => h) (Or.inr ⟨by kernel_rfl, rfl⟩) hS ?_
        try simp only [Act.put, List.setIfInBounds_toArray, List.set_cons_zero, List.set_cons_succ]
        refine wpAnyH_take (i := 19) (v := undef) rfl (by kernel_rfl) (by kernel_rfl) (by kernel_rfl) (fun _ _ _ h => h) (Or.inr ⟨by kernel_rfl, rfl⟩) hS ?_
        try simp only [Act.put, List.setIfInBounds_toArray, List.set_cons_zero, List.set_cons_succ]
        refine wpAnyH_take (i := 20) (v := undef) rfl (by kernel_rfl) (by kernel_rfl) (by kernel_rfl) (fun _ _ _ h => h) (Or.inr ⟨by kernel_rfl, rfl⟩) hS ?_
        try simp only [Act.put, List.setIfInBounds_toArray, List.set_cons_zero, List.set_cons_succ]
        refine wpAnyH_take (i := 21) (v := ?vA21) rfl (by kernel_rfl) (by kernel_rfl) (by kernel_rfl) (fun _ _ _ h => h) (Or.inl ⟨by rfl, ?hyA21⟩) hS ?restA21
        case hyA21 =>
          intro w hSw
          first | (go_simp; done) | (go_simp; with_reducible rfl)
        try simp only [Act.put, List.setIfInBounds_toArray, List.set_cons_zero, List.set_cons_succ]
        refine wpAnyH_ready (rs := [22]) (by kernel_rfl) (by simp) ?_
        refine AllReadyH.cons rfl (fun K hK => ?_) AllReadyH.nil
        go_simp
        go_wp2_with ((go_at_call 86; refine (KW2.out _).mono ?_; rintro e w' ⟨rfl, rfl⟩))
        refine hK.out _ _ hS (fun _ => ?_)
        clear hK K
        refine wpAnyH_ready (rs := [23]) (by kernel_rfl) (by simp) ?_
        refine AllReadyH.cons rfl (fun K hK => ?_) AllReadyH.nil
        go_simp
        have hNv : v.ownBlock ≠ some w6.drew.heap.size := fun h => Nat.lt_irrefl _ (hO.low h).2
        have hO := hO.alloc (.cells #[.int .i64 x0, .int .i64 x1, .int .i64 x2] errT)
        have hS := hS.on (bel_alloc _ (.cells #[.int .i64 x0, .int .i64 x1, .int .i64 x2] errT))
        refine hK.out _ _ hS (fun _ => ?_)
        clear hK K
        refine wpAnyH_ready (rs := [24]) (by kernel_rfl) (by simp) ?_
        refine AllReadyH.cons rfl (fun K hK => ?_) AllReadyH.nil
        go_simp
        go_wp2_with ((go_at_call 85; refine (fadd_any _ v _ _ w6.drew.heap.size 3 3 [x0, x1, x2] _ hO rfl (by omega) (errs_new w6.drew _ rfl) hNv HFL.out).mono ?_; rintro e w8 ⟨v8, rfl, hO8, hC8⟩; have hS := hS.trans hC8.but (fun _ _ h => h)))
        refine hK.out _ _ hS (fun _ => ?_)
        clear hK K
        refine wpAnyH_take (i := 25) (v := ?vA25) rfl (by kernel_rfl) (by kernel_rfl) (by kernel_rfl) (fun _ _ _ h => h) (Or.inl ⟨by rfl, ?hyA25⟩) hS ?restA25
        case hyA25 =>
          intro w hSw
          first | (go_simp; done) | (go_simp; with_reducible rfl)
        try simp only [Act.put, List.setIfInBounds_toArray, List.set_cons_zero, List.set_cons_succ]
        refine wpAnyH_done (by kernel_rfl) ?_ _
        have y0 := f0 _ hS
        have y1 := f1 _ hS
        have hm9 := SX.map MM1.out hv1 hS
        go_wp2_with (at_mapUpdate; refine wpList_put (en := Value.string) rfl _ _ _ 127 rfl strK str_inj Tryz.underlying127 rfl hm9 (by unfold maxLen; omega) f.equip _ rfl HK.out ?_; intro w9 hm9 hg9; refine Hid.out ?_)
        have u1 := grown_cell hg9 y1 (by simp; omega)
        have hwMB : w.heap.size ≤ MB := by have := HMB.out; omega
        have hb8 : Below w.heap.size w w8 := HB6.out.trans (hS.below HB6.out.size (fun k hk hv => by have := (HO6.out.low hv).1; omega))
        have hb9 : Below w.heap.size w w9 := hb8.grown hg9 hb8.size (fun k hk => by cases hk; exact hwMB)
        have hO9 := hO8.grown hg9 (.inl (fun e => by have := (hO8.low e.symm).1; omega))
        have KC : Hid (Calls Tryz.prog 88 #[.string nm, .slice fA f.l.length f.c] w9 fun e w' => ∃ v', e = .returned v' ∧ FltL w' v' (cabF nm f.l f.l.length) ∧ Below w9.heap.size w9 w') := Lib.hid (by
          have h := checkCabins_any nm f.A f.c f.l w9 HSZ.out (hAt.out.more hb9) HOC.out.len HOC.out.cab
          rw [← HA.out] at h
          exact h.mono (by rintro e w' ⟨v', rfl, h1, h2⟩; exact ⟨v', rfl, h1.rowL rtF.len, h2⟩))
        have HM9 := Lib.hid hm9
        have HO9 := Lib.hid hO9
        have HB9 := Lib.hid hb9
        have HLM : Hid ((conF l k ++ pick nm [x0, x1, x2]).length + (cabF nm f.l f.l.length).length ≤ 100000000) := Lib.hid (by
          have h1 := HFL.out
          have h2 := pick_le nm [x0, x1, x2]
          have h3 := cabF_le nm f.l (fun b hb => (HOC.out.cab b hb).len) f.l.length
          have h4 := HOC.out.len
          simp only [List.length_append, List.length_cons, List.length_nil] at h2 ⊢
          omega)
        clear hm9 hg9 hb9 hb8 hO8 hC8 hS hO y0 y1 hO9
        refine Lib.hid ?_
        go_wp2_with (first | (go_at_call 88; refine KC.out.mono ?_; rintro e w10 ⟨v10, rfl, hF10, hB10⟩) | (at_builtin; refine wpList_rappl rtF rfl _ _ rfl (HO9.out.more hB10) rfl _ _ rfl hF10 HLM.out ?_; intro v11 w11 hO11 hC11; refine Hid.out ?_))
        have hv11 : v8.ownBlock ≠ some MB := fun h => by have := (HO9.out.low h).1; omega
        have hb10 : Below w.heap.size w w10 := HB9.out.trans (hB10.mono HB9.out.size)
        have HX : Hid (FOwn (MB + 1) w11 v11 (conF l (k + 1)) ∧ MapS w11 MB (k + 1) (gS ((l.take (k + 1)).map Cf.equip)) ∧ Below w.heap.size w w11) := Lib.hid ⟨by
            rw [HF.out, HEr.out, ← List.append_assoc]
            exact hO11, by
            rw [hT.out, ← HKP.out]
            exact (HM9.out.more hB10).same (hC11.but.block MB (Nat.lt_of_lt_of_le HM9.out.lt hB10.size) hv11), hb10.trans (hC11.but.below hb10.size (fun q hq h => by have := (HO9.out.low h).1; omega))⟩
        clear hO11 hC11 hB10 hF10 hb10
        refine Lib.hid ?_
        go_wp2
        go_roundw
        case rel => exact ⟨_, k + 1, rfl, by omega, by go_num, HX⟩
        case measure => simp [intOf]; omega
      | false =>
        have h0' : ¬ (f.l.length : Int) < 1 := of_decide_eq_false h0
        cases h9 : decide (4 < (f.l.length : Int)) with
        | true =>
          have h9' : 4 < (f.l.length : Int) := of_decide_eq_true h9
          have HBT : Hid (bm = true) := Lib.hid (by rw [HBM.out, h9, Bool.or_true])
          obtain ⟨x0, hx0⟩ : ∃ x : Int, x = whC (!cb) 5 := ⟨_, rfl⟩
          obtain ⟨x1, hx1⟩ : ∃ x : Int, x = whC tw 6 := ⟨_, rfl⟩
          obtain ⟨x2, hx2⟩ : ∃ x : Int, x = whC true 4 := ⟨_, rfl⟩
          have KW0 : Hid (∀ W, Calls Tryz.prog 86 #[.bool (!cb), .int .i64 5] W fun r w' => r = .returned (.int .i64 x0) ∧ W = w') := Lib.hid (fun W => by rw [hx0]; exact fwhen_any (!cb) 5 W)
          have KW1 : Hid (∀ W, Calls Tryz.prog 86 #[.bool tw, .int .i64 6] W fun r w' => r = .returned (.int .i64 x1) ∧ W = w') := Lib.hid (fun W => by rw [hx1]; exact fwhen_any tw 6 W)
          have KW2 : Hid (∀ W, Calls Tryz.prog 86 #[.bool true, .int .i64 4] W fun r w' => r = .returned (.int .i64 x2) ∧ W = w') := Lib.hid (fun W => by rw [hx2]; exact fwhen_any true 4 W)
          have HEr : Hid (conE l k f = [x0, x1, x2]) := Lib.hid (by rw [HEq.out, hx0, hx1, hx2, HBT.out])
          clear hx0 hx1 hx2 HEq HBT HBM
          have hS : (SX w6 v) _ := But.of_below (Below.refl _ _).drew
          refine wp_region_held_drew (S := SX w6 v) (by kernel_rfl) hS (fun _ => ?_)
          refine wpAnyH_take (i := 0) (v := ?vB0) rfl (by kernel_rfl) (by kernel_rfl) (by kernel_rfl) (fun _ _ _ h => h) (Or.inl ⟨by rfl, ?hyB0⟩) hS ?restB0
          case hyB0 =>
            intro w hSw
            first | (go_simp; done) | (go_simp; with_reducible rfl)
          try simp only [Act.put, List.setIfInBounds_toArray, List.set_cons_zero, List.set_cons_succ]
          refine wpAnyH_take (i := 1) (v := ?vB1) rfl (by kernel_rfl) (by kernel_rfl) (by kernel_rfl) (fun _ _ _ h => h) (Or.inl ⟨by rfl, ?hyB1⟩) hS ?restB1
          case hyB1 =>
            intro w hSw
            first | (go_simp; done) | (go_simp; with_reducible rfl)
          try simp only [Act.put, List.setIfInBounds_toArray, List.set_cons_zero, List.set_cons_succ]
          refine wpAnyH_take (i := 2) (v := ?vB2) rfl (by kernel_rfl) (by kernel_rfl) (by kernel_rfl) (fun _ _ _ h => h) (Or.inl ⟨by rfl, ?hyB2⟩) hS ?restB2
          case hyB2 =>
            intro w hSw
            first | (go_simp; done) | (go_simp; with_reducible rfl)
          try simp only [Act.put, List.setIfInBounds_toArray, List.set_cons_zero, List.set_cons_succ]
          refine wpAnyH_take (i := 3) (v := ?vB3) rfl (by kernel_rfl) (by kernel_rfl) (by kernel_rfl) (fun _ _ _ h => h) (Or.inl ⟨by rfl, ?hyB3⟩) hS ?restB3
          case hyB3 =>
            intro w hSw
            have k0 := f0 w hSw; have k1 := f1 w hSw; have k2 := lkN w hSw
            first | (go_simp; done) | (go_simp; with_reducible rfl)
          try simp only [Act.put, List.setIfInBounds_toArray, List.set_cons_zero, List.set_cons_succ]
          refine wpAnyH_take (i := 7) (v := ?vB7) rfl (by kernel_rfl) (by kernel_rfl) (by kernel_rfl) (fun _ _ _ h => h) (Or.inl ⟨by rfl, ?hyB7⟩) hS ?restB7
          case hyB7 =>
            intro w hSw
            first | (go_simp; done) | (go_simp; with_reducible rfl)
          try simp only [Act.put, List.setIfInBounds_toArray, List.set_cons_zero, List.set_cons_succ]
          refine wpAnyH_take (i := 8) (v := ?vB8) rfl (by kernel_rfl) (by kernel_rfl) (by kernel_rfl) (fun _ _ _ h => h) (Or.inl ⟨by rfl, ?hyB8⟩) hS ?restB8
          case hyB8 =>
            intro w hSw
            first | (go_simp; done) | (go_simp; with_reducible rfl)
          try simp only [Act.put, List.setIfInBounds_toArray, List.set_cons_zero, List.set_cons_succ]
          refine wpAnyH_take (i := 9) (v := ?vB9) rfl (by kernel_rfl) (by kernel_rfl) (by kernel_rfl) (fun _ _ _ h => h) (Or.inl ⟨by rfl, ?hyB9⟩) hS ?restB9
          case hyB9 =>
            intro w hSw
            have k0 := f0 w hSw; have k1 := f1 w hSw; have k2 := lkN w hSw
            first | (go_simp; done) | (go_simp; with_reducible rfl)
          try simp only [Act.put, List.setIfInBounds_toArray, List.set_cons_zero, List.set_cons_succ]
          refine wpAnyH_take (i := 10) (v := ?vB10) rfl (by kernel_rfl) (by kernel_rfl) (by kernel_rfl) (fun _ _ _ h => h) (Or.inl ⟨by rfl, ?hyB10⟩) hS ?restB10
          case hyB10 =>
            intro w hSw
            have k0 := f0 w hSw; have k1 := f1 w hSw; have k2 := lkN w hSw
            first | (go_simp; done) | (go_simp; with_reducible rfl)
          try simp only [Act.put, List.setIfInBounds_toArray, List.set_cons_zero, List.set_cons_succ]
          refine wpAnyH_take (i := 12) (v := ?vB12) rfl (by kernel_rfl) (by kernel_rfl) (by kernel_rfl) (fun _ _ _ h => h) (Or.inl ⟨by rfl, ?hyB12⟩) hS ?restB12
          case hyB12 =>
            intro w hSw
            first | (go_simp; done) | (go_simp; with_reducible rfl)
          try simp only [Act.put, List.setIfInBounds_toArray, List.set_cons_zero, List.set_cons_succ]
          refine wpAnyH_take (i := 13) (v := ?vB13) rfl (by kernel_rfl) (by kernel_rfl) (by kernel_rfl) (fun _ _ _ h => h) (Or.inl ⟨by rfl, ?hyB13⟩) hS ?restB13
          case hyB13 =>
            intro w hSw
            have k0 := f0 w hSw; have k1 := f1 w hSw; have k2 := lkN w hSw
            first | (go_simp; done) | (go_simp; with_reducible rfl)
          try simp only [Act.put, List.setIfInBounds_toArray, List.set_cons_zero, List.set_cons_succ]
          refine wpAnyH_take (i := 14) (v := ?vB14) rfl (by kernel_rfl) (by kernel_rfl) (by kernel_rfl) (fun _ _ _ h => h) (Or.inl ⟨by rfl, ?hyB14⟩) hS ?restB14
          case hyB14 =>
            intro w hSw
            first | (go_simp; done) | (go_simp; with_reducible rfl)
          try simp only [Act.put, List.setIfInBounds_toArray, List.set_cons_zero, List.set_cons_succ]
          refine wpAnyH_take (i := 15) (v := ?vB15) rfl (by kernel_rfl) (by kernel_rfl) (by kernel_rfl) (fun _ _ _ h => h) (Or.inl ⟨by rfl, ?hyB15⟩) hS ?restB15
          case hyB15 =>
            intro w hSw
            first | (go_simp; done) | (go_simp; with_reducible rfl)
          try simp only [Act.put, List.setIfInBounds_toArray, List.set_cons_zero, List.set_cons_succ]
          refine wpAnyH_ready (rs := [4]) (by kernel_rfl) (by simp) ?_
          refine AllReadyH.cons rfl (fun K hK => ?_) AllReadyH.nil
          go_simp
          go_wp2_with ((go_at_call 87; refine (KU.out _).mono ?_; rintro e w' ⟨rfl, rfl⟩))
          refine hK.out _ _ hS (fun _ => ?_)
          clear hK K
          refine wpAnyH_take (i := 5) (v := ?vB5) rfl (by kernel_rfl) (by kernel_rfl) (by kernel_rfl) (fun _ _ _ h => h) (Or.inl ⟨by rfl, ?hyB5⟩) hS ?restB5
          case hyB5 =>
            intro w hSw
            first | (go_simp; done) | (go_simp; with_reducible rfl)
          try simp only [Act.put, List.setIfInBounds_toArray, List.set_cons_zero, List.set_cons_succ]
          refine wpAnyH_ready (rs := [6]) (by kernel_rfl) (by simp) ?_
          refine AllReadyH.cons rfl (fun K hK => ?_) AllReadyH.nil
          go_simp
          go_wp2_with ((go_at_call 86; refine (KW0.out _).mono ?_; rintro e w' ⟨rfl, rfl⟩))
          refine hK.out _ _ hS (fun _ => ?_)
          clear hK K
          refine wpAnyH_ready (rs := [11]) (by kernel_rfl) (by simp) ?_
          refine AllReadyH.cons rfl (fun K hK => ?_) AllReadyH.nil
          go_simp
          go_wp2_with ((go_at_call 86; refine (KW1.out _).mono ?_; rintro e w' ⟨rfl, rfl⟩))
          refine hK.out _ _ hS (fun _ => ?_)
          clear hK K
          refine wpAnyH_take (i := 16) (v := ?vB16) rfl (by kernel_rfl) (by kernel_rfl) (by kernel_rfl) (fun _ _ _ h => h) (Or.inl ⟨by rfl, ?hyB16⟩) hS ?restB16
          case hyB16 =>
            intro w hSw
            first | (go_simp; done) | (go_simp; with_reducible rfl)
          try simp only [Act.put, List.setIfInBounds_toArray, List.set_cons_zero, List.set_cons_succ]
          refine wpAnyH_take (i := 17) (v := ?vB17) rfl (by kernel_rfl) (by kernel_rfl) (by kernel_rfl) (fun _ _ _ h => h) (Or.inl ⟨by kernel_rfl, ?hyB17⟩) hS ?restB17
          case hyB17 =>
            intro w hSw
            first | (go_simp; done) | (go_simp; with_reducible rfl)
          try simp only [Act.put, List.setIfInBounds_toArray, List.set_cons_zero, List.set_cons_succ]
          refine wpAnyH_take (i := 18) (v := ?vB18) rfl (by kernel_rfl) (by kernel_rfl) (by kernel_rfl) (fun _ _ _ h => h) (Or.inl ⟨by kernel_rfl, ?hyB18⟩) hS ?restB18
          case hyB18 =>
            intro w hSw
            have k0 := f0 w hSw; have k1 := f1 w hSw; have k2 := lkN w hSw
            first | (go_simp; done) | (go_simp; with_reducible rfl)
          try simp only [Act.put, List.setIfInBounds_toArray, List.set_cons_zero, List.set_cons_succ]
          refine wpAnyH_take (i := 19) (v := ?vB19) rfl (by kernel_rfl) (by kernel_rfl) (by kernel_rfl) (fun _ _ _ h => h) (Or.inl ⟨by kernel_rfl, ?hyB19⟩) hS ?restB19
          case hyB19 =>
            intro w hSw
            first | (go_simp; done) | (go_simp; with_reducible rfl)
          try simp only [Act.put, List.setIfInBounds_toArray, List.set_cons_zero, List.set_cons_succ]
          refine wpAnyH_take (i := 20) (v := ?vB20) rfl (by kernel_rfl) (by kernel_rfl) (by kernel_rfl) (fun _ _ _ h => h) (Or.inl ⟨by kernel_rfl, ?hyB20⟩) hS ?restB20
          case hyB20 =>
            intro w hSw
            first | (go_simp; done) | (go_simp; with_reducible rfl)
          try simp only [Act.put, List.setIfInBounds_toArray, List.set_cons_zero, List.set_cons_succ]
          refine wpAnyH_take (i := 21) (v := ?vB21) rfl (by kernel_rfl) (by kernel_rfl) (by kernel_rfl) (fun _ _ _ h => h) (Or.inl ⟨by rfl, ?hyB21⟩) hS ?restB21
          case hyB21 =>
            intro w hSw
            first | (go_simp; done) | (go_simp; with_reducible rfl)
          try simp only [Act.put, List.setIfInBounds_toArray, List.set_cons_zero, List.set_cons_succ]
          refine wpAnyH_ready (rs := [22]) (by kernel_rfl) (by simp) ?_
          refine AllReadyH.cons rfl (fun K hK => ?_) AllReadyH.nil
          go_simp
          go_wp2_with ((go_at_call 86; refine (KW2.out _).mono ?_; rintro e w' ⟨rfl, rfl⟩))
          refine hK.out _ _ hS (fun _ => ?_)
          clear hK K
          refine wpAnyH_ready (rs := [23]) (by kernel_rfl) (by simp) ?_
          refine AllReadyH.cons rfl (fun K hK => ?_) AllReadyH.nil
          go_simp
          have hNv : v.ownBlock ≠ some w6.drew.heap.size := fun h => Nat.lt_irrefl _ (hO.low h).2
          have hO := hO.alloc (.cells #[.int .i64 x0, .int .i64 x1, .int .i64 x2] errT)
          have hS := hS.on (bel_alloc _ (.cells #[.int .i64 x0, .int .i64 x1, .int .i64 x2] errT))
          refine hK.out _ _ hS (fun _ => ?_)
          clear hK K
          refine wpAnyH_ready (rs := [24]) (by kernel_rfl) (by simp) ?_
          refine AllReadyH.cons rfl (fun K hK => ?_) AllReadyH.nil
          go_simp
          go_wp2_with ((go_at_call 85; refine (fadd_any _ v _ _ w6.drew.heap.size 3 3 [x0, x1, x2] _ hO rfl (by omega) (errs_new w6.drew _ rfl) hNv HFL.out).mono ?_; rintro e w8 ⟨v8, rfl, hO8, hC8⟩; have hS := hS.trans hC8.but (fun _ _ h => h)))
          refine hK.out _ _ hS (fun _ => ?_)
          clear hK K
          refine wpAnyH_take (i := 25) (v := ?vB25) rfl (by kernel_rfl) (by kernel_rfl) (by kernel_rfl) (fun _ _ _ h => h) (Or.inl ⟨by rfl, ?hyB25⟩) hS ?restB25
          case hyB25 =>
            intro w hSw
            first | (go_simp; done) | (go_simp; with_reducible rfl)
          try simp only [Act.put, List.setIfInBounds_toArray, List.set_cons_zero, List.set_cons_succ]
          refine wpAnyH_done (by kernel_rfl) ?_ _
          have y0 := f0 _ hS
          have y1 := f1 _ hS
          have hm9 := SX.map MM1.out hv1 hS
          go_wp2_with (at_mapUpdate; refine wpList_put (en := Value.string) rfl _ _ _ 127 rfl strK str_inj Tryz.underlying127 rfl hm9 (by unfold maxLen; omega) f.equip _ rfl HK.out ?_; intro w9 hm9 hg9; refine Hid.out ?_)
          have u1 := grown_cell hg9 y1 (by simp; omega)
          have hwMB : w.heap.size ≤ MB := by have := HMB.out; omega
          have hb8 : Below w.heap.size w w8 := HB6.out.trans (hS.below HB6.out.size (fun k hk hv => by have := (HO6.out.low hv).1; omega))
          have hb9 : Below w.heap.size w w9 := hb8.grown hg9 hb8.size (fun k hk => by cases hk; exact hwMB)
          have hO9 := hO8.grown hg9 (.inl (fun e => by have := (hO8.low e.symm).1; omega))
          have KC : Hid (Calls Tryz.prog 88 #[.string nm, .slice fA f.l.length f.c] w9 fun e w' => ∃ v', e = .returned v' ∧ FltL w' v' (cabF nm f.l f.l.length) ∧ Below w9.heap.size w9 w') := Lib.hid (by
            have h := checkCabins_any nm f.A f.c f.l w9 HSZ.out (hAt.out.more hb9) HOC.out.len HOC.out.cab
            rw [← HA.out] at h
            exact h.mono (by rintro e w' ⟨v', rfl, h1, h2⟩; exact ⟨v', rfl, h1.rowL rtF.len, h2⟩))
          have HM9 := Lib.hid hm9
          have HO9 := Lib.hid hO9
          have HB9 := Lib.hid hb9
          have HLM : Hid ((conF l k ++ pick nm [x0, x1, x2]).length + (cabF nm f.l f.l.length).length ≤ 100000000) := Lib.hid (by
            have h1 := HFL.out
            have h2 := pick_le nm [x0, x1, x2]
            have h3 := cabF_le nm f.l (fun b hb => (HOC.out.cab b hb).len) f.l.length
            have h4 := HOC.out.len
            simp only [List.length_append, List.length_cons, List.length_nil] at h2 ⊢
            omega)
          clear hm9 hg9 hb9 hb8 hO8 hC8 hS hO y0 y1 hO9
          refine Lib.hid ?_
          go_wp2_with (first | (go_at_call 88; refine KC.out.mono ?_; rintro e w10 ⟨v10, rfl, hF10, hB10⟩) | (at_builtin; refine wpList_rappl rtF rfl _ _ rfl (HO9.out.more hB10) rfl _ _ rfl hF10 HLM.out ?_; intro v11 w11 hO11 hC11; refine Hid.out ?_))
          have hv11 : v8.ownBlock ≠ some MB := fun h => by have := (HO9.out.low h).1; omega
          have hb10 : Below w.heap.size w w10 := HB9.out.trans (hB10.mono HB9.out.size)
          have HX : Hid (FOwn (MB + 1) w11 v11 (conF l (k + 1)) ∧ MapS w11 MB (k + 1) (gS ((l.take (k + 1)).map Cf.equip)) ∧ Below w.heap.size w w11) := Lib.hid ⟨by
              rw [HF.out, HEr.out, ← List.append_assoc]
              exact hO11, by
              rw [hT.out, ← HKP.out]
              exact (HM9.out.more hB10).same (hC11.but.block MB (Nat.lt_of_lt_of_le HM9.out.lt hB10.size) hv11), hb10.trans (hC11.but.below hb10.size (fun q hq h => by have := (HO9.out.low h).1; omega))⟩
          clear hO11 hC11 hB10 hF10 hb10
          refine Lib.hid ?_
          go_wp2
          go_roundw
          case rel => exact ⟨_, k + 1, rfl, by omega, by go_num, HX⟩
          case measure => simp [intOf]; omega
        | false =>
          have h9' : ¬ 4 < (f.l.length : Int) := of_decide_eq_false h9
          have HBT : Hid (bm = false) := Lib.hid (by rw [HBM.out, h0, h9]; rfl)
          obtain ⟨x0, hx0⟩ : ∃ x : Int, x = whC (!cb) 5 := ⟨_, rfl⟩
          obtain ⟨x1, hx1⟩ : ∃ x : Int, x = whC tw 6 := ⟨_, rfl⟩
          obtain ⟨x2, hx2⟩ : ∃ x : Int, x = whC false 4 := ⟨_, rfl⟩
          have KW0 : Hid (∀ W, Calls Tryz.prog 86 #[.bool (!cb), .int .i64 5] W fun r w' => r = .returned (.int .i64 x0) ∧ W = w') := Lib.hid (fun W => by rw [hx0]; exact fwhen_any (!cb) 5 W)
          have KW1 : Hid (∀ W, Calls Tryz.prog 86 #[.bool tw, .int .i64 6] W fun r w' => r = .returned (.int .i64 x1) ∧ W = w') := Lib.hid (fun W => by rw [hx1]; exact fwhen_any tw 6 W)
          have KW2 : Hid (∀ W, Calls Tryz.prog 86 #[.bool false, .int .i64 4] W fun r w' => r = .returned (.int .i64 x2) ∧ W = w') := Lib.hid (fun W => by rw [hx2]; exact fwhen_any false 4 W)
          have HEr : Hid (conE l k f = [x0, x1, x2]) := Lib.hid (by rw [HEq.out, hx0, hx1, hx2, HBT.out])
          clear hx0 hx1 hx2 HEq HBT HBM
          have hS : (SX w6 v) _ := But.of_below (Below.refl _ _).drew
          refine wp_region_held_drew (S := SX w6 v) (by kernel_rfl) hS (fun _ => ?_)
          refine wpAnyH_take (i := 0) (v := ?vC0) rfl (by kernel_rfl) (by kernel_rfl) (by kernel_rfl) (fun _ _ _ h => h) (Or.inl ⟨by rfl, ?hyC0⟩) hS ?restC0
          case hyC0 =>
            intro w hSw
            first | (go_simp; done) | (go_simp; with_reducible rfl)
          try simp only [Act.put, List.setIfInBounds_toArray, List.set_cons_zero, List.set_cons_succ]
          refine wpAnyH_take (i := 1) (v := ?vC1) rfl (by kernel_rfl) (by kernel_rfl) (by kernel_rfl) (fun _ _ _ h => h) (Or.inl ⟨by rfl, ?hyC1⟩) hS ?restC1
          case hyC1 =>
            intro w hSw
            first | (go_simp; done) | (go_simp; with_reducible rfl)
          try simp only [Act.put, List.setIfInBounds_toArray, List.set_cons_zero, List.set_cons_succ]
          refine wpAnyH_take (i := 2) (v := ?vC2) rfl (by kernel_rfl) (by kernel_rfl) (by kernel_rfl) (fun _ _ _ h => h) (Or.inl ⟨by rfl, ?hyC2⟩) hS ?restC2
          case hyC2 =>
            intro w hSw
            first | (go_simp; done) | (go_simp; with_reducible rfl)
          try simp only [Act.put, List.setIfInBounds_toArray, List.set_cons_zero, List.set_cons_succ]
          refine wpAnyH_take (i := 3) (v := ?vC3) rfl (by kernel_rfl) (by kernel_rfl) (by kernel_rfl) (fun _ _ _ h => h) (Or.inl ⟨by rfl, ?hyC3⟩) hS ?restC3
          case hyC3 =>
            intro w hSw
            have k0 := f0 w hSw; have k1 := f1 w hSw; have k2 := lkN w hSw
            first | (go_simp; done) | (go_simp; with_reducible rfl)
          try simp only [Act.put, List.setIfInBounds_toArray, List.set_cons_zero, List.set_cons_succ]
          refine wpAnyH_take (i := 7) (v := ?vC7) rfl (by kernel_rfl) (by kernel_rfl) (by kernel_rfl) (fun _ _ _ h => h) (Or.inl ⟨by rfl, ?hyC7⟩) hS ?restC7
          case hyC7 =>
            intro w hSw
            first | (go_simp; done) | (go_simp; with_reducible rfl)
          try simp only [Act.put, List.setIfInBounds_toArray, List.set_cons_zero, List.set_cons_succ]
          refine wpAnyH_take (i := 8) (v := ?vC8) rfl (by kernel_rfl) (by kernel_rfl) (by kernel_rfl) (fun _ _ _ h => h) (Or.inl ⟨by rfl, ?hyC8⟩) hS ?restC8
          case hyC8 =>
            intro w hSw
            first | (go_simp; done) | (go_simp; with_reducible rfl)
          try simp only [Act.put, List.setIfInBounds_toArray, List.set_cons_zero, List.set_cons_succ]
          refine wpAnyH_take (i := 9) (v := ?vC9) rfl (by kernel_rfl) (by kernel_rfl) (by kernel_rfl) (fun _ _ _ h => h) (Or.inl ⟨by rfl, ?hyC9⟩) hS ?restC9
          case hyC9 =>
            intro w hSw
            have k0 := f0 w hSw; have k1 := f1 w hSw; have k2 := lkN w hSw
            first | (go_simp; done) | (go_simp; with_reducible rfl)
          try simp only [Act.put, List.setIfInBounds_toArray, List.set_cons_zero, List.set_cons_succ]
          refine wpAnyH_take (i := 10) (v := ?vC10) rfl (by kernel_rfl) (by kernel_rfl) (by kernel_rfl) (fun _ _ _ h => h) (Or.inl ⟨by rfl, ?hyC10⟩) hS ?restC10
          case hyC10 =>
            intro w hSw
            have k0 := f0 w hSw; have k1 := f1 w hSw; have k2 := lkN w hSw
            first | (go_simp; done) | (go_simp; with_reducible rfl)
          try simp only [Act.put, List.setIfInBounds_toArray, List.set_cons_zero, List.set_cons_succ]
          refine wpAnyH_take (i := 12) (v := ?vC12) rfl (by kernel_rfl) (by kernel_rfl) (by kernel_rfl) (fun _ _ _ h => h) (Or.inl ⟨by rfl, ?hyC12⟩) hS ?restC12
          case hyC12 =>
            intro w hSw
            first | (go_simp; done) | (go_simp; with_reducible rfl)
          try simp only [Act.put, List.setIfInBounds_toArray, List.set_cons_zero, List.set_cons_succ]
          refine wpAnyH_take (i := 13) (v := ?vC13) rfl (by kernel_rfl) (by kernel_rfl) (by kernel_rfl) (fun _ _ _ h => h) (Or.inl ⟨by rfl, ?hyC13⟩) hS ?restC13
          case hyC13 =>
            intro w hSw
            have k0 := f0 w hSw; have k1 := f1 w hSw; have k2 := lkN w hSw
            first | (go_simp; done) | (go_simp; with_reducible rfl)
          try simp only [Act.put, List.setIfInBounds_toArray, List.set_cons_zero, List.set_cons_succ]
          refine wpAnyH_take (i := 14) (v := ?vC14) rfl (by kernel_rfl) (by kernel_rfl) (by kernel_rfl) (fun _ _ _ h => h) (Or.inl ⟨by rfl, ?hyC14⟩) hS ?restC14
          case hyC14 =>
            intro w hSw
            first | (go_simp; done) | (go_simp; with_reducible rfl)
          try simp only [Act.put, List.setIfInBounds_toArray, List.set_cons_zero, List.set_cons_succ]
          refine wpAnyH_take (i := 15) (v := ?vC15) rfl (by kernel_rfl) (by kernel_rfl) (by kernel_rfl) (fun _ _ _ h => h) (Or.inl ⟨by rfl, ?hyC15⟩) hS ?restC15
          case hyC15 =>
            intro w hSw
            first | (go_simp; done) | (go_simp; with_reducible rfl)
          try simp only [Act.put, List.setIfInBounds_toArray, List.set_cons_zero, List.set_cons_succ]
          refine wpAnyH_ready (rs := [4]) (by kernel_rfl) (by simp) ?_
          refine AllReadyH.cons rfl (fun K hK => ?_) AllReadyH.nil
          go_simp
          go_wp2_with ((go_at_call 87; refine (KU.out _).mono ?_; rintro e w' ⟨rfl, rfl⟩))
          refine hK.out _ _ hS (fun _ => ?_)
          clear hK K
          refine wpAnyH_take (i := 5) (v := ?vC5) rfl (by kernel_rfl) (by kernel_rfl) (by kernel_rfl) (fun _ _ _ h => h) (Or.inl ⟨by rfl, ?hyC5⟩) hS ?restC5
          case hyC5 =>
            intro w hSw
            first | (go_simp; done) | (go_simp; with_reducible rfl)
          try simp only [Act.put, List.setIfInBounds_toArray, List.set_cons_zero, List.set_cons_succ]
          refine wpAnyH_ready (rs := [6]) (by kernel_rfl) (by simp) ?_
          refine AllReadyH.cons rfl (fun K hK => ?_) AllReadyH.nil
          go_simp
          go_wp2_with ((go_at_call 86; refine (KW0.out _).mono ?_; rintro e w' ⟨rfl, rfl⟩))
          refine hK.out _ _ hS (fun _ => ?_)
          clear hK K
          refine wpAnyH_ready (rs := [11]) (by kernel_rfl) (by simp) ?_
          refine AllReadyH.cons rfl (fun K hK => ?_) AllReadyH.nil
          go_simp
          go_wp2_with ((go_at_call 86; refine (KW1.out _).mono ?_; rintro e w' ⟨rfl, rfl⟩))
          refine hK.out _ _ hS (fun _ => ?_)
          clear hK K
          refine wpAnyH_take (i := 16) (v := ?vC16) rfl (by kernel_rfl) (by kernel_rfl) (by kernel_rfl) (fun _ _ _ h => h) (Or.inl ⟨by rfl, ?hyC16⟩) hS ?restC16
          case hyC16 =>
            intro w hSw
            first | (go_simp; done) | (go_simp; with_reducible rfl)
          try simp only [Act.put, List.setIfInBounds_toArray, List.set_cons_zero, List.set_cons_succ]
          refine wpAnyH_take (i := 17) (v := ?vC17) rfl (by kernel_rfl) (by kernel_rfl) (by kernel_rfl) (fun _ _ _ h => h) (Or.inl ⟨by kernel_rfl, ?hyC17⟩) hS ?restC17
          case hyC17 =>
            intro w hSw
            first | (go_simp; done) | (go_simp; with_reducible rfl)
          try simp only [Act.put, List.setIfInBounds_toArray, List.set_cons_zero, List.set_cons_succ]
          refine wpAnyH_take (i := 18) (v := ?vC18) rfl (by kernel_rfl) (by kernel_rfl) (by kernel_rfl) (fun _ _ _ h => h) (Or.inl ⟨by kernel_rfl, ?hyC18⟩) hS ?restC18
          case hyC18 =>
            intro w hSw
            have k0 := f0 w hSw; have k1 := f1 w hSw; have k2 := lkN w hSw
            first | (go_simp; done) | (go_simp; with_reducible rfl)
          try simp only [Act.put, List.setIfInBounds_toArray, List.set_cons_zero, List.set_cons_succ]
          refine wpAnyH_take (i := 19) (v := ?vC19) rfl (by kernel_rfl) (by kernel_rfl) (by kernel_rfl) (fun _ _ _ h => h) (Or.inl ⟨by kernel_rfl, ?hyC19⟩) hS ?restC19
          case hyC19 =>
            intro w hSw
            first | (go_simp; done) | (go_simp; with_reducible rfl)
          try simp only [Act.put, List.setIfInBounds_toArray, List.set_cons_zero, List.set_cons_succ]
          refine wpAnyH_take (i := 20) (v := ?vC20) rfl (by kernel_rfl) (by kernel_rfl) (by kernel_rfl) (fun _ _ _ h => h) (Or.inl ⟨by kernel_rfl, ?hyC20⟩) hS ?restC20
          case hyC20 =>
            intro w hSw
            first | (go_simp; done) | (go_simp; with_reducible rfl)
          try simp only [Act.put, List.setIfInBounds_toArray, List.set_cons_zero, List.set_cons_succ]
          refine wpAnyH_take (i := 21) (v := ?vC21) rfl (by kernel_rfl) (by kernel_rfl) (by kernel_rfl) (fun _ _ _ h => h) (Or.inl ⟨by rfl, ?hyC21⟩) hS ?restC21
          case hyC21 =>
            intro w hSw
            first | (go_simp; done) | (go_simp; with_reducible rfl)
          try simp only [Act.put, List.setIfInBounds_toArray, List.set_cons_zero, List.set_cons_succ]
          refine wpAnyH_ready (rs := [22]) (by kernel_rfl) (by simp) ?_
          refine AllReadyH.cons rfl (fun K hK => ?_) AllReadyH.nil
          go_simp
          go_wp2_with ((go_at_call 86; refine (KW2.out _).mono ?_; rintro e w' ⟨rfl, rfl⟩))
          refine hK.out _ _ hS (fun _ => ?_)
          clear hK K
          refine wpAnyH_ready (rs := [23]) (by kernel_rfl) (by simp) ?_
          refine AllReadyH.cons rfl (fun K hK => ?_) AllReadyH.nil
          go_simp
          have hNv : v.ownBlock ≠ some w6.drew.heap.size := fun h => Nat.lt_irrefl _ (hO.low h).2
          have hO := hO.alloc (.cells #[.int .i64 x0, .int .i64 x1, .int .i64 x2] errT)
          have hS := hS.on (bel_alloc _ (.cells #[.int .i64 x0, .int .i64 x1, .int .i64 x2] errT))
          refine hK.out _ _ hS (fun _ => ?_)
          clear hK K
          refine wpAnyH_ready (rs := [24]) (by kernel_rfl) (by simp) ?_
          refine AllReadyH.cons rfl (fun K hK => ?_) AllReadyH.nil
          go_simp
          go_wp2_with ((go_at_call 85; refine (fadd_any _ v _ _ w6.drew.heap.size 3 3 [x0, x1, x2] _ hO rfl (by omega) (errs_new w6.drew _ rfl) hNv HFL.out).mono ?_; rintro e w8 ⟨v8, rfl, hO8, hC8⟩; have hS := hS.trans hC8.but (fun _ _ h => h)))
          refine hK.out _ _ hS (fun _ => ?_)
          clear hK K
          refine wpAnyH_take (i := 25) (v := ?vC25) rfl (by kernel_rfl) (by kernel_rfl) (by kernel_rfl) (fun _ _ _ h => h) (Or.inl ⟨by rfl, ?hyC25⟩) hS ?restC25
          case hyC25 =>
            intro w hSw
            first | (go_simp; done) | (go_simp; with_reducible rfl)
          try simp only [Act.put, List.setIfInBounds_toArray, List.set_cons_zero, List.set_cons_succ]
          refine wpAnyH_done (by kernel_rfl) ?_ _
          have y0 := f0 _ hS
          have y1 := f1 _ hS
          have hm9 := SX.map MM1.out hv1 hS
          go_wp2_with (at_mapUpdate; refine wpList_put (en := Value.string) rfl _ _ _ 127 rfl strK str_inj Tryz.underlying127 rfl hm9 (by unfold maxLen; omega) f.equip _ rfl HK.out ?_; intro w9 hm9 hg9; refine Hid.out ?_)
          have u1 := grown_cell hg9 y1 (by simp; omega)
          have hwMB : w.heap.size ≤ MB := by have := HMB.out; omega
          have hb8 : Below w.heap.size w w8 := HB6.out.trans (hS.below HB6.out.size (fun k hk hv => by have := (HO6.out.low hv).1; omega))
          have hb9 : Below w.heap.size w w9 := hb8.grown hg9 hb8.size (fun k hk => by cases hk; exact hwMB)
          have hO9 := hO8.grown hg9 (.inl (fun e => by have := (hO8.low e.symm).1; omega))
          have KC : Hid (Calls Tryz.prog 88 #[.string nm, .slice fA f.l.length f.c] w9 fun e w' => ∃ v', e = .returned v' ∧ FltL w' v' (cabF nm f.l f.l.length) ∧ Below w9.heap.size w9 w') := Lib.hid (by
            have h := checkCabins_any nm f.A f.c f.l w9 HSZ.out (hAt.out.more hb9) HOC.out.len HOC.out.cab
            rw [← HA.out] at h
            exact h.mono (by rintro e w' ⟨v', rfl, h1, h2⟩; exact ⟨v', rfl, h1.rowL rtF.len, h2⟩))
          have HM9 := Lib.hid hm9
          have HO9 := Lib.hid hO9
          have HB9 := Lib.hid hb9
          have HLM : Hid ((conF l k ++ pick nm [x0, x1, x2]).length + (cabF nm f.l f.l.length).length ≤ 100000000) := Lib.hid (by
            have h1 := HFL.out
            have h2 := pick_le nm [x0, x1, x2]
            have h3 := cabF_le nm f.l (fun b hb => (HOC.out.cab b hb).len) f.l.length
            have h4 := HOC.out.len
            simp only [List.length_append, List.length_cons, List.length_nil] at h2 ⊢
            omega)
          clear hm9 hg9 hb9 hb8 hO8 hC8 hS hO y0 y1 hO9
          refine Lib.hid ?_
          go_wp2_with (first | (go_at_call 88; refine KC.out.mono ?_; rintro e w10 ⟨v10, rfl, hF10, hB10⟩) | (at_builtin; refine wpList_rappl rtF rfl _ _ rfl (HO9.out.more hB10) rfl _ _ rfl hF10 HLM.out ?_; intro v11 w11 hO11 hC11; refine Hid.out ?_))
          have hv11 : v8.ownBlock ≠ some MB := fun h => by have := (HO9.out.low h).1; omega
          have hb10 : Below w.heap.size w w10 := HB9.out.trans (hB10.mono HB9.out.size)
          have HX : Hid (FOwn (MB + 1) w11 v11 (conF l (k + 1)) ∧ MapS w11 MB (k + 1) (gS ((l.take (k + 1)).map Cf.equip)) ∧ Below w.heap.size w w11) := Lib.hid ⟨by
              rw [HF.out, HEr.out, ← List.append_assoc]
              exact hO11, by
              rw [hT.out, ← HKP.out]
              exact (HM9.out.more hB10).same (hC11.but.block MB (Nat.lt_of_lt_of_le HM9.out.lt hB10.size) hv11), hb10.trans (hC11.but.below hb10.size (fun q hq h => by have := (HO9.out.low h).1; omega))⟩
          clear hO11 hC11 hB10 hF10 hb10
          refine Lib.hid ?_
          go_wp2
          go_roundw
          case rel => exact ⟨_, k + 1, rfl, by omega, by go_num, HX⟩
          case measure => simp [intOf]; omega
    · have HE : Hid (k = l.length) := Lib.hid (by omega)
      have HR : Hid (FOwn w.heap.size wr v (conF l l.length) ∧ Below w.heap.size w wr) := Lib.hid ⟨⟨by have := HJ.out.1.own; rw [HE.out] at this; exact this.mono (by have := HMB.out; omega), HJ.out.2.2.size⟩, HJ.out.2.2⟩
      clear HJ
      go_wp2
      go_ret
      exact ⟨_, rfl, HR.out⟩

end Go.Proofs.YtjmahmeionakaaaGreatDoor

/- Walks of the reference's place. -/
namespace Go.Proofs.YtjmahmeionakaaaGreatDoor
open Go.RowKit Go.Shelf
set_option linter.unusedSimpArgs false
set_option linter.unusedVariables false

end Go.Proofs.YtjmahmeionakaaaGreatDoor

/- Walks of the reference's occurs and classes. -/
namespace Go.Proofs.YtjmahmeionakaaaGreatDoor
open Go.RowKit Go.Shelf
set_option linter.unusedSimpArgs false
set_option linter.unusedVariables false

theorem anyS_snoc2 (L : List ByteArray) (l : List Cl) (k : Nat) (y : Cl) (s : ByteArray) (h : l[k]? = some y) : anyS (L ++ codesC (l.take (k + 1))) s = (anyS (L ++ codesC (l.take k)) s || (y.code.toList == s.toList)) := by
  rw [codesC_snoc l k y h, ← List.append_assoc, anyS_snoc]
theorem anyS_of {L M : List ByteArray} {s : ByteArray} (h : anyS L s = true) (hs : ∀ x ∈ L, x ∈ M) : anyS M s = true := by
  unfold anyS at h ⊢
  rw [List.any_eq_true] at h ⊢
  obtain ⟨x, hx, he⟩ := h
  exact ⟨x, hs x hx, he⟩
/-- a code that stands before the class k of the cabin i is among those before it -/
theorem occ_hit (l : List Cb) (i k i' k' : Nat) (b b' : Cb) (y : Cl) (s : ByteArray) (hb : l[i]? = some b) (hb' : l[i']? = some b') (hy : b'.l[k']? = some y) (hle : i' ≤ i) (hlt : i' = i → k' < k) (he : (y.code.toList == s.toList) = true) :
    anyS (codesB (l.take i) ++ codesC (b.l.take k)) s = true := by
  have h0 : anyS [y.code] s = true := by
    have h := anyS_snoc [] y.code s
    rw [he] at h
    simpa using h
  refine anyS_of h0 (fun x hx => ?_)
  rw [List.mem_singleton] at hx
  subst hx
  by_cases h : i' = i
  · subst h
    rw [hb] at hb'
    cases hb'
    refine List.mem_append_right _ (List.mem_map.2 ⟨y, ?_, rfl⟩)
    exact List.mem_of_getElem? (i := k') (by rw [List.getElem?_take, if_pos (hlt rfl)]; exact hy)
  · refine List.mem_append_left _ (List.mem_flatMap.2 ⟨b', List.mem_of_getElem? (i := i') (by rw [List.getElem?_take, if_pos (by omega)]; exact hb'), List.mem_map.2 ⟨y, List.mem_of_getElem? hy, rfl⟩⟩)

set_option maxRecDepth 100000 in
set_option maxHeartbeats 8000000 in
theorem roccurs_any (eq : ByteArray) (A : Option Addr) (c : Nat) (l : List Cb) (i k : Nat) (b : Cb) (x : Cl) (w : World) (hv : CbL w (.slice A l.length c) l) (hb : l[i]? = some b) (hx : b.l[k]? = some x) (hn : l.length ≤ 8) (hok : ∀ b ∈ l, b.l.length ≤ 30) :
    Calls Tryz.prog 136 #[.agg #[.string eq, .slice A l.length c], .int .i64 (i : Int), .int .i64 (k : Int)] w fun e w' => e = .returned (.bool (anyS (codesB (l.take i) ++ codesC (b.l.take k)) x.code)) ∧ Below w.heap.size w w' := by
  have hil : i < l.length := (List.getElem?_eq_some_iff.1 hb).1
  have hkl : k < b.l.length := (List.getElem?_eq_some_iff.1 hx).1
  have hbl := hok b (List.mem_of_getElem? hb)
  obtain ⟨b1, o1, e1, hb1, hc1⟩ := row_get hv.1 hb
  cases e1
  obtain ⟨b2, o2, e2, hb2, hc2⟩ := row_get (hv.2 b (List.mem_of_getElem? hb)) hx
  have x3 := hc1 3 _ rfl
  rw [e2] at x3
  have x0 := hc2 0 _ rfl
  rw [Nat.add_zero] at x0
  have HV := Lib.hid hv
  have HOK := Lib.hid hok
  have q1 := (cells_new w #[.string eq, .slice (some ⟨b1, o1, none⟩) l.length c] cfT 1).trans (show _ = some (Value.slice (some ⟨b1, o1, none⟩) l.length c) from rfl)
  have hb5 := bel_alloc w (.cells #[.string eq, .slice (some ⟨b1, o1, none⟩) l.length c] cfT)
  obtain ⟨Z, hZ⟩ : ∃ Z, Z = w.heap.size := ⟨_, rfl⟩
  rw [← hZ] at q1
  have x3 := bel_cell hb5 x3
  have x0 := bel_cell hb5 x0
  clear hb1 hc1 e2 hb2 hc2 hv hok
  have HB := Lib.hid hb
  have HX := Lib.hid hx
  clear hb hx
  go_enter Tryz.func136, Tryz.ntmps136
  go_upto_region 1 with fail
  rw [← hZ]
  have HZ := Lib.hid hZ
  clear hZ
  have HB5 := Lib.hid hb5
  generalize w.alloc (.cells #[.string eq, .slice (some ⟨b1, o1, none⟩) l.length c] cfT) = w5 at *
  clear hb5
  have HV5 : Hid (CbL w5 (.slice (some ⟨b1, o1, none⟩) l.length c) l) := Lib.hid (HV.out.more HB5.out)
  have Q1 := Lib.hid (fun W (h : SW w5 W) => bel_get q1 _ h)
  have X3 := Lib.hid (fun W (h : SW w5 W) => bel_get x3 _ h)
  have X0 := Lib.hid (fun W (h : SW w5 W) => bel_get x0 _ h)
  clear q1 x3 x0
  go_wp2
  go_loopg [7] i (fun kx v7 wr => ∃ i' : Nat, v7 = .int .i64 i' ∧ i' + kx = i ∧ Hid (anyS (codesB (l.take i')) x.code = false) ∧ SW w5 wr)
  case atStart => exact ⟨0, rfl, by omega, Lib.hid rfl, Below.refl _ _⟩
  case round =>
    obtain ⟨i', rfl, hix, HNo, hS⟩ := hrel
    have HIX := Lib.hid hix
    have j1 : (i' : Int) ≤ (i : Int) := by omega
    have j2 : (i' : Int) < (l.length : Int) := by omega
    have hi8 : i' < 8 := by omega
    obtain ⟨b', hb'⟩ : ∃ b', l[i']? = some b' := ⟨_, List.getElem?_eq_getElem (by omega)⟩
    have hlen' := HOK.out b' (List.mem_of_getElem? hb')
    have HB' := Lib.hid hb'
    have HSR := Lib.hid hS
    obtain ⟨nb, hnb⟩ : ∃ nb, nb = b'.l.length := ⟨_, rfl⟩
    have HNB := Lib.hid hnb
    rw [← hnb] at hlen'
    have HI0 : Hid (anyS (codesB (l.take i') ++ codesC (b'.l.take 0)) x.code = false) := Lib.hid (by have := HNo.out; simpa [codesC] using this)
    clear hb' hnb hix hS
    go_wp2
    go_loopg [8] nb (fun kx v8 wq => ∃ k' : Nat, v8 = .int .i64 k' ∧ k' + kx = nb ∧ Hid ((i' = i → k' ≤ k) ∧ anyS (codesB (l.take i') ++ codesC (b'.l.take k')) x.code = false) ∧ SW wr wq)
    case atStart => exact ⟨0, rfl, by omega, Lib.hid ⟨fun _ => Nat.zero_le _, HI0.out⟩, Below.refl _ _⟩
    case round =>
      obtain ⟨k', rfl, hkx, HK, hSq⟩ := hrel
      have HKX := Lib.hid hkx
      have hS5 : SW w5 wr := Below.trans HSR.out (Below.mono hSq HSR.out.size)
      have HS5 := Lib.hid hS5
      have hk30 : k' ≤ 30 := by omega
      have p1 := Q1.out _ hS5
      obtain ⟨b3, o3, e3, hb3, hc3⟩ := row_get (HV5.out.more hS5).1 HB'.out
      cases e3
      have p3 := hc3 3 _ rfl
      by_cases hlt : k' < nb
      · obtain ⟨y, hy⟩ : ∃ y, b'.l[k']? = some y := ⟨_, List.getElem?_eq_getElem (by have := HNB.out; omega)⟩
        obtain ⟨b4, o4, e4, hb4, hc4⟩ := row_get ((HV5.out.more hS5).2 b' (List.mem_of_getElem? HB'.out)) hy
        rw [e4] at p3
        rw [← HNB.out] at p3
        have p0 := hc4 0 _ rfl
        rw [Nat.add_zero] at p0
        have i1 : (k' : Int) < (nb : Int) := by omega
        have i2 : (i : Int) < (l.length : Int) := by omega
        have i3 : (k : Int) < (b.l.length : Int) := by omega
        have x3 := X3.out _ hS5
        have x0 := X0.out _ hS5
        have HY := Lib.hid hy
        have HSq := Lib.hid hSq
        clear hc3 e4 hb4 hc4 hb3 hy hSq hkx
        by_cases hii : i' = i
        · by_cases hkk : k' = k
          · have HR : Hid (false = anyS (codesB (l.take i) ++ codesC (b.l.take k)) x.code) := Lib.hid (by
              have h := HK.out.2
              have hb2 : b' = b := by have h1 := HB'.out; rw [hii, HB.out] at h1; exact (Option.some.inj h1).symm
              rw [hii, hkk, hb2] at h
              exact h.symm)
            have g1 : ((i' : Int) == (i : Int)) = true := by simp [hii]
            have g2 : ((k' : Int) == (k : Int)) = true := by simp [hkk]
            clear hii hkk
            go_wp2
            go_ret
            exact ⟨ret_bool HR.out, HB5.out.trans (Below.mono HS5.out HB5.out.size)⟩
          · have g1 : ((i' : Int) == (i : Int)) = true := by simp [hii]
            have g2 : ((k' : Int) == (k : Int)) = false := by rw [beq_eq_false_iff_ne]; omega
            have HLT : Hid (i' = i → k' + 1 ≤ k) := Lib.hid (fun h => by have := HK.out.1 h; omega)
            clear hii hkk
            cases he : (y.code.toList == x.code.toList) with
            | true =>
              have HR : Hid (true = anyS (codesB (l.take i) ++ codesC (b.l.take k)) x.code) := Lib.hid (occ_hit l i k i' k' b b' y x.code HB.out HB'.out HY.out (by omega) (fun h => by have := HLT.out h; omega) he).symm
              go_wp2
              go_quiet (fail)
              go_wp2
              go_ret
              exact ⟨ret_bool HR.out, below_drewN (HB5.out.trans (Below.mono HS5.out HB5.out.size)) _⟩
            | false =>
              have HK2 : Hid ((i' = i → k' + 1 ≤ k) ∧ anyS (codesB (l.take i') ++ codesC (b'.l.take (k' + 1))) x.code = false) := Lib.hid ⟨HLT.out, by rw [anyS_snoc2 _ _ _ _ _ HY.out, HK.out.2, he]; rfl⟩
              go_wp2
              go_quiet (fail)
              go_wp2
              go_roundg (nb - (k' + 1))
              case measure => have := HKX.out; omega
              case rel => exact ⟨k' + 1, by go_num, by omega, HK2, below_drewN HSq.out _⟩
        · have g1 : ((i' : Int) == (i : Int)) = false := by rw [beq_eq_false_iff_ne]; omega
          have HLT : Hid (i' = i → k' + 1 ≤ k) := Lib.hid (fun h => absurd h hii)
          clear hii
          cases he : (y.code.toList == x.code.toList) with
          | true =>
            have HR : Hid (true = anyS (codesB (l.take i) ++ codesC (b.l.take k)) x.code) := Lib.hid (occ_hit l i k i' k' b b' y x.code HB.out HB'.out HY.out (by omega) (fun h => by have := HLT.out h; omega) he).symm
            go_wp2
            go_quiet (fail)
            go_wp2
            go_ret
            exact ⟨ret_bool HR.out, below_drewN (HB5.out.trans (Below.mono HS5.out HB5.out.size)) _⟩
          | false =>
            have HK2 : Hid ((i' = i → k' + 1 ≤ k) ∧ anyS (codesB (l.take i') ++ codesC (b'.l.take (k' + 1))) x.code = false) := Lib.hid ⟨HLT.out, by rw [anyS_snoc2 _ _ _ _ _ HY.out, HK.out.2, he]; rfl⟩
            go_wp2
            go_quiet (fail)
            go_wp2
            go_roundg (nb - (k' + 1))
            case measure => have := HKX.out; omega
            case rel => exact ⟨k' + 1, by go_num, by omega, HK2, below_drewN HSq.out _⟩
      · have i1 : ¬ (k' : Int) < (nb : Int) := by omega
        have hkn : k' = nb := by omega
        have hne : i' ≠ i := fun h => by
          have h1 := HK.out.1 h
          have hb2 : b' = b := by have h1 := HB'.out; rw [h, HB.out] at h1; exact (Option.some.inj h1).symm
          have := HNB.out
          rw [hb2] at this
          omega
        rw [← HNB.out] at p3
        have HNo2 : Hid (anyS (codesB (l.take (i' + 1))) x.code = false) := Lib.hid (by
          rw [codesB_snoc l i' b' HB'.out]
          have h := HK.out.2
          have e : b'.l.take k' = b'.l := List.take_of_length_le (by have := HNB.out; omega)
          rw [e] at h
          exact h)
        have hg : i' + 1 ≤ i := by omega
        clear hne hkn
        go_wp2
        go_roundg (i - (i' + 1))
        case measure => have := HIX.out; omega
        case rel => exact ⟨i' + 1, by go_num, by omega, HNo2, hS5⟩
end Go.Proofs.YtjmahmeionakaaaGreatDoor
