/- Walk of Check, whatever there is to report. -/
import Derived.Test.YtkcdifanhdakhaaDoorConK
import Derived.Deep.RegionHeld3
import Derived.OrdersHeld
namespace Go.Proofs.YtkcdifanhdakhaaDoor.Con
open Go.RowKit Go.Shelf Go.Maps
set_option linter.unusedSimpArgs false
set_option linter.unusedVariables false

set_option maxRecDepth 100000 in
set_option maxHeartbeats 16000000 in
theorem check_any (v0 : Value) (l : List Cn) (w : World) (hv : CnL w v0 l) (hn : l.length ≤ 100) (hok : ∀ c ∈ l, OkC c) :
    Calls Tryd.prog 14 #[v0] w fun e w' => ∃ v', e = .returned v' ∧ FOwn w.heap.size w' v' (conF l l.length) ∧ Below w.heap.size w w' := by
  obtain ⟨A, c0, rfl, hvc⟩ := id hv
  have HV := Lib.hid hv
  clear hv hvc
  have hmm := @run_makeMap Tryd.prog
  have b1 := bel_alloc w (.map #[] 0)
  have m1 : MapT (w.alloc (.map #[] 0)) w.heap.size 0 (gN (l.take 0)) := MapK.made w Tryd.prog triT enK
  obtain ⟨MB, hMB⟩ : ∃ MB, MB = w.heap.size := ⟨_, rfl⟩
  have HI : Hid (FOwn (MB + 1) (w.alloc (.map #[] 0)) (.slice none 0 0) (conF l 0) ∧ MapT (w.alloc (.map #[] 0)) MB 0 (gN (l.take 0)) ∧ Below w.heap.size w (w.alloc (.map #[] 0))) := Lib.hid ⟨ROwn.nil (by simp [hMB]), by rw [hMB]; exact m1, b1⟩
  have HMB := Lib.hid hMB
  go_enter Tryd.func14, Tryd.ntmps14
  go_wp2
  rw [← hMB]
  clear hMB m1 b1
  go_loopw [3, 11] (fun s3 vi W => ∃ (v : Value) (k m : Nat), v = s3 ∧ k ≤ l.length ∧ vi = .int .i64 k ∧ m ≤ k ∧ Hid (FOwn (MB + 1) W v (conF l k) ∧ MapT W MB m (gN (l.take k)) ∧ Below w.heap.size w W)) (fun _ vi _ => l.length - (intOf vi).toNat)
  case atStart => exact ⟨_, 0, 0, rfl, Nat.zero_le _, rfl, Nat.le_refl _, HI⟩
  case round =>
    obtain ⟨v, k, m, rfl, hk, rfl, hm, HJ⟩ := hrel
    clear HI
    by_cases hlt : k < l.length
    · obtain ⟨c, hkc⟩ : ∃ c, l[k]? = some c := ⟨_, List.getElem?_eq_getElem hlt⟩
      obtain ⟨bb, off, e1, hbl, hc⟩ := row_get (HV.out.more HJ.out.2.2) hkc
      cases e1
      have i2 : (k : Int) < (l.length : Int) := by omega
      have d0 := hc 0 _ rfl
      have d1 := hc 1 _ rfl
      have d2 := hc 2 _ rfl
      have d3 := hc 3 _ rfl
      rw [Nat.add_zero] at d0
      have hokc := hok c (List.mem_of_getElem? hkc)
      have hT := Lib.hid (show l.take (k + 1) = l.take k ++ [c] by rw [List.take_add_one, hkc]; rfl)
      have HF := Lib.hid (conF_succ l k c hkc)
      have HFL : Hid ((conF l k).length ≤ 1000000) := Lib.hid (by have := conF_le l k; omega)
      obtain ⟨kl, hkey⟩ := key_tri (keyC c) hokc.a hokc.i hokc.o
      have HKG := Lib.hid (gN_get (l.take k) c)
      have HKP := Lib.hid (gN_put (l.take k) c)
      have hb1 := bel_alloc wr (.cells #[.string c.a, .string c.i, .string c.o, .int .i64 c.m] cnT)
      have hb2 := bel_alloc (wr.alloc (.cells #[.string c.a, .string c.i, .string c.o, .int .i64 c.m] cnT)) (.cells #[.string c.a, .string c.i, .string c.o] triT)
      have q0 := bel_cell hb2 ((cells_new wr #[.string c.a, .string c.i, .string c.o, .int .i64 c.m] cnT 0).trans (show _ = some _ from rfl))
      have q1 := bel_cell hb2 ((cells_new wr #[.string c.a, .string c.i, .string c.o, .int .i64 c.m] cnT 1).trans (show _ = some _ from rfl))
      have q2 := bel_cell hb2 ((cells_new wr #[.string c.a, .string c.i, .string c.o, .int .i64 c.m] cnT 2).trans (show _ = some _ from rfl))
      have q3 := bel_cell hb2 ((cells_new wr #[.string c.a, .string c.i, .string c.o, .int .i64 c.m] cnT 3).trans (show _ = some _ from rfl))
      have r0 := (cells_new (wr.alloc (.cells #[.string c.a, .string c.i, .string c.o, .int .i64 c.m] cnT)) #[.string c.a, .string c.i, .string c.o] triT 0).trans (show _ = some _ from rfl)
      have r1 := (cells_new (wr.alloc (.cells #[.string c.a, .string c.i, .string c.o, .int .i64 c.m] cnT)) #[.string c.a, .string c.i, .string c.o] triT 1).trans (show _ = some _ from rfl)
      have r2 := (cells_new (wr.alloc (.cells #[.string c.a, .string c.i, .string c.o, .int .i64 c.m] cnT)) #[.string c.a, .string c.i, .string c.o] triT 2).trans (show _ = some _ from rfl)
      rw [World.size_alloc] at r0 r1 r2
      have hb12 : Below wr.heap.size wr ((wr.alloc (.cells #[.string c.a, .string c.i, .string c.o, .int .i64 c.m] cnT)).alloc (.cells #[.string c.a, .string c.i, .string c.o] triT)) := hb1.trans (hb2.mono hb1.size)
      have HO6 := Lib.hid (HJ.out.1.more hb12)
      have mm1 := HJ.out.2.1.more hb12
      have hb6 := HJ.out.2.2.trans (hb12.mono HJ.out.2.2.size)
      have hMBl := HJ.out.2.1.lt
      have hvN : v.ownBlock ≠ some wr.heap.size := fun h => Nat.lt_irrefl _ (HJ.out.1.low h).2
      have hvM : v.ownBlock ≠ some (wr.heap.size + 1) := fun h => by have := (HJ.out.1.low h).2; omega
      have hv1 : v.ownBlock ≠ some MB := fun h => by have := (HJ.out.1.low h).1; omega
      have HEq : Hid (conE (l.take k) c = [if (!codC c) = true then (5 : Int) else 0, if badM c.m = true then (2 : Int) else 0, if twC (l.take k) c = true then (6 : Int) else 0]) := Lib.hid rfl
      have HBM : Hid (badM c.m = (decide (c.m < 0) || decide (1440 < c.m))) := Lib.hid rfl
      clear hb1 hb2 hb12 HJ hkc hc hbl
      go_wp2
      clear d0 d1 d2 d3
      generalize (wr.alloc (.cells #[.string c.a, .string c.i, .string c.o, .int .i64 c.m] cnT)).alloc (.cells #[.string c.a, .string c.i, .string c.o] triT) = w6 at *
      have f0 : ∀ W, SX w6 v W → W.cell? ⟨wr.heap.size, 0, none⟩ = some (.string c.a) := fun W h => SX.cell q0 hvN h
      have f1 : ∀ W, SX w6 v W → W.cell? ⟨wr.heap.size, 1, none⟩ = some (.string c.i) := fun W h => SX.cell q1 hvN h
      have f2 : ∀ W, SX w6 v W → W.cell? ⟨wr.heap.size, 2, none⟩ = some (.string c.o) := fun W h => SX.cell q2 hvN h
      have f3 : ∀ W, SX w6 v W → W.cell? ⟨wr.heap.size, 3, none⟩ = some (.int .i64 c.m) := fun W h => SX.cell q3 hvN h
      have g0 : ∀ W, SX w6 v W → W.cell? ⟨wr.heap.size + 1, 0, none⟩ = some (.string c.a) := fun W h => SX.cell r0 hvM h
      have g1 : ∀ W, SX w6 v W → W.cell? ⟨wr.heap.size + 1, 1, none⟩ = some (.string c.i) := fun W h => SX.cell r1 hvM h
      have g2 : ∀ W, SX w6 v W → W.cell? ⟨wr.heap.size + 1, 2, none⟩ = some (.string c.o) := fun W h => SX.cell r2 hvM h
      have lkN : ∀ W, SX w6 v W → (Instr.lookup 76 (.map (some MB)) (.agg #[.string c.a, .string c.i, .string c.o]) false).run Tryd.prog W = .ok (.bool (twC (l.take k) c)) W := fun W h => by
        have h := lookT (SX.map mm1 hv1 h) (keyC c) hkey
        rw [HKG.out] at h
        exact h
      have KU := Lib.hid (fun W => hasCodes_any c W hokc)
      have KD := Lib.hid (dec_small k (by omega))
      have hadd : ∀ W : World, (Op.stringOp .add ⟨#[99, 111, 110, 110, 101, 99, 116, 32]⟩ (decA k)).run Tryd.prog W = .ok (.string (conW ++ decA k)) W := fun W => run_string_add_sum W _ _ (by have := decA_size k (by omega); have e : (⟨#[99, 111, 110, 110, 101, 99, 116, 32]⟩ : ByteArray).size = 8 := rfl; omega)
      have HK := Lib.hid hkey
      have MM1 := Lib.hid mm1
      have HB6 := Lib.hid hb6
      have hO := HO6.out.more ((Below.refl _ w6).drew)
      generalize twC (l.take k) c = tw at *
      generalize codC c = cb at *
      generalize decA k = sk at *
      generalize badM c.m = bm at *
      clear mm1 q0 q1 q2 q3 r0 r1 r2 hb6 HKG hkey hokc
      cases h0 : decide (c.m < 0) with
      | true =>
        have h0' : c.m < 0 := of_decide_eq_true h0
        have HBT : Hid (bm = true) := Lib.hid (by rw [HBM.out, h0]; rfl)
        obtain ⟨x0, hx0⟩ : ∃ x : Int, x = (if (!cb) = true then (5 : Int) else 0) := ⟨_, rfl⟩
        obtain ⟨x1, hx1⟩ : ∃ x : Int, x = (if true = true then (2 : Int) else 0) := ⟨_, rfl⟩
        obtain ⟨x2, hx2⟩ : ∃ x : Int, x = (if tw = true then (6 : Int) else 0) := ⟨_, rfl⟩
        have KW0 := Lib.hid (fun W => fwhen_any (!cb) 5 W)
        have KW1 := Lib.hid (fun W => fwhen_any true 2 W)
        have KW2 := Lib.hid (fun W => fwhen_any tw 6 W)
        have HEr : Hid (conE (l.take k) c = [x0, x1, x2]) := Lib.hid (by rw [HEq.out, hx0, hx1, hx2, HBT.out])
        rw [← hx0] at KW0
        rw [← hx1] at KW1
        rw [← hx2] at KW2
        clear hx0 hx1 hx2 HEq HBT HBM
        have hS : (SX w6 v) _ := But.of_below (Below.refl _ _).drew
        refine wp_region_held_drew (S := SX w6 v) (by kernel_rfl) hS (fun _ => ?_)
        refine wpAnyH_take (i := 0) (v := ?vA0) rfl (by kernel_rfl) (by kernel_rfl) (by kernel_rfl) (fun _ _ _ h => h) (Or.inl ⟨by rfl, ?hyA0⟩) hS ?restA0
        case hyA0 =>
          intro w hSw
          first | (go_simp; done) | (go_simp; with_reducible rfl)
        try simp only [Act.put, List.setIfInBounds_toArray, List.set_cons_zero, List.set_cons_succ]
        refine wpAnyH_take (i := 1) (v := ?vA1) rfl (by kernel_rfl) (by kernel_rfl) (by kernel_rfl) (fun _ _ _ h => h) (Or.inl ⟨by rfl, ?hyA1⟩) hS ?restA1
        case hyA1 =>
          intro w hSw
          first | (go_simp; done) | (go_simp; with_reducible rfl)
        try simp only [Act.put, List.setIfInBounds_toArray, List.set_cons_zero, List.set_cons_succ]
        refine wpAnyH_take (i := 4) (v := ?vA4) rfl (by kernel_rfl) (by kernel_rfl) (by kernel_rfl) (fun _ _ _ h => h) (Or.inl ⟨by rfl, ?hyA4⟩) hS ?restA4
        case hyA4 =>
          intro w hSw
          have k0 := f0 w hSw; have k1 := f1 w hSw; have k2 := f2 w hSw; have k3 := f3 w hSw; have k4 := g0 w hSw; have k5 := g1 w hSw; have k6 := g2 w hSw; have k7 := lkN w hSw
          first | (go_simp; done) | (go_simp; with_reducible rfl)
        try simp only [Act.put, List.setIfInBounds_toArray, List.set_cons_zero, List.set_cons_succ]
        refine wpAnyH_take (i := 8) (v := ?vA8) rfl (by kernel_rfl) (by kernel_rfl) (by kernel_rfl) (fun _ _ _ h => h) (Or.inl ⟨by rfl, ?hyA8⟩) hS ?restA8
        case hyA8 =>
          intro w hSw
          first | (go_simp; done) | (go_simp; with_reducible rfl)
        try simp only [Act.put, List.setIfInBounds_toArray, List.set_cons_zero, List.set_cons_succ]
        refine wpAnyH_take (i := 9) (v := ?vA9) rfl (by kernel_rfl) (by kernel_rfl) (by kernel_rfl) (fun _ _ _ h => h) (Or.inl ⟨by rfl, ?hyA9⟩) hS ?restA9
        case hyA9 =>
          intro w hSw
          have k0 := f0 w hSw; have k1 := f1 w hSw; have k2 := f2 w hSw; have k3 := f3 w hSw; have k4 := g0 w hSw; have k5 := g1 w hSw; have k6 := g2 w hSw; have k7 := lkN w hSw
          first | (go_simp; done) | (go_simp; with_reducible rfl)
        try simp only [Act.put, List.setIfInBounds_toArray, List.set_cons_zero, List.set_cons_succ]
        refine wpAnyH_take (i := 10) (v := ?vA10) rfl (by kernel_rfl) (by kernel_rfl) (by kernel_rfl) (fun _ _ _ h => h) (Or.inl ⟨by rfl, ?hyA10⟩) hS ?restA10
        case hyA10 =>
          intro w hSw
          first | (go_simp; done) | (go_simp; with_reducible rfl)
        try simp only [Act.put, List.setIfInBounds_toArray, List.set_cons_zero, List.set_cons_succ]
        refine wpAnyH_take (i := 17) (v := ?vA17) rfl (by kernel_rfl) (by kernel_rfl) (by kernel_rfl) (fun _ _ _ h => h) (Or.inl ⟨by rfl, ?hyA17⟩) hS ?restA17
        case hyA17 =>
          intro w hSw
          first | (go_simp; done) | (go_simp; with_reducible rfl)
        try simp only [Act.put, List.setIfInBounds_toArray, List.set_cons_zero, List.set_cons_succ]
        refine wpAnyH_take (i := 18) (v := ?vA18) rfl (by kernel_rfl) (by kernel_rfl) (by kernel_rfl) (fun _ _ _ h => h) (Or.inl ⟨by rfl, ?hyA18⟩) hS ?restA18
        case hyA18 =>
          intro w hSw
          have k0 := f0 w hSw; have k1 := f1 w hSw; have k2 := f2 w hSw; have k3 := f3 w hSw; have k4 := g0 w hSw; have k5 := g1 w hSw; have k6 := g2 w hSw; have k7 := lkN w hSw
          first | (go_simp; done) | (go_simp; with_reducible rfl)
        try simp only [Act.put, List.setIfInBounds_toArray, List.set_cons_zero, List.set_cons_succ]
        refine wpAnyH_take (i := 19) (v := ?vA19) rfl (by kernel_rfl) (by kernel_rfl) (by kernel_rfl) (fun _ _ _ h => h) (Or.inl ⟨by rfl, ?hyA19⟩) hS ?restA19
        case hyA19 =>
          intro w hSw
          have k0 := f0 w hSw; have k1 := f1 w hSw; have k2 := f2 w hSw; have k3 := f3 w hSw; have k4 := g0 w hSw; have k5 := g1 w hSw; have k6 := g2 w hSw; have k7 := lkN w hSw
          first | (go_simp; done) | (go_simp; with_reducible rfl)
        try simp only [Act.put, List.setIfInBounds_toArray, List.set_cons_zero, List.set_cons_succ]
        refine wpAnyH_ready (rs := [2]) (by kernel_rfl) (by simp) ?_
        refine AllReadyH.cons rfl (fun K hK => ?_) AllReadyH.nil
        go_simp
        go_wp2_with ((go_at_call 29; refine (KD.out _).mono ?_; rintro e w' ⟨rfl, rfl⟩))
        refine hK.out _ _ hS (fun _ => ?_)
        clear hK K
        refine wpAnyH_take (i := 3) (v := ?vA3) rfl (by kernel_rfl) (by kernel_rfl) (by kernel_rfl) (fun _ _ _ h => h) (Or.inl ⟨by rfl, ?hyA3⟩) hS ?restA3
        case hyA3 =>
          intro w hSw
          have kadd := hadd w
          first | (go_simp; done) | (go_simp; with_reducible rfl)
        try simp only [Act.put, List.setIfInBounds_toArray, List.set_cons_zero, List.set_cons_succ]
        refine wpAnyH_ready (rs := [5]) (by kernel_rfl) (by simp) ?_
        refine AllReadyH.cons rfl (fun K hK => ?_) AllReadyH.nil
        go_simp
        go_wp2_with ((go_at_call 31; refine (KU.out _).mono ?_; rintro e w' ⟨rfl, hb'⟩; have hO := hO.more hb'; have hS := hS.on hb'))
        refine hK.out _ _ hS (fun _ => ?_)
        clear hK K
        refine wpAnyH_take (i := 6) (v := ?vA6) rfl (by kernel_rfl) (by kernel_rfl) (by kernel_rfl) (fun _ _ _ h => h) (Or.inl ⟨by rfl, ?hyA6⟩) hS ?restA6
        case hyA6 =>
          intro w hSw
          first | (go_simp; done) | (go_simp; with_reducible rfl)
        try simp only [Act.put, List.setIfInBounds_toArray, List.set_cons_zero, List.set_cons_succ]
        refine wpAnyH_ready (rs := [7]) (by kernel_rfl) (by simp) ?_
        refine AllReadyH.cons rfl (fun K hK => ?_) AllReadyH.nil
        go_simp
        go_wp2_with ((go_at_call 30; refine (KW0.out _).mono ?_; rintro e w' ⟨rfl, rfl⟩))
        refine hK.out _ _ hS (fun _ => ?_)
        clear hK K
        refine wpAnyH_take (i := 11) (v := ?vA11) rfl (by kernel_rfl) (by kernel_rfl) (by kernel_rfl) (fun _ _ _ h => h) (Or.inl ⟨by rfl, ?hyA11⟩) hS ?restA11
        case hyA11 =>
          intro w hSw
          first | (go_simp; done) | (go_simp; with_reducible rfl)
        try simp only [Act.put, List.setIfInBounds_toArray, List.set_cons_zero, List.set_cons_succ]
        refine wpAnyH_take (i := 12) (v := undef) rfl (by kernel_rfl) (by kernel_rfl) (by kernel_rfl) (fun _ _ _ h => h) (Or.inr ⟨by kernel_rfl, rfl⟩) hS ?_
        try simp only [Act.put, List.setIfInBounds_toArray, List.set_cons_zero, List.set_cons_succ]
        refine wpAnyH_take (i := 13) (v := undef) rfl (by kernel_rfl) (by kernel_rfl) (by kernel_rfl) (fun _ _ _ h => h) (Or.inr ⟨by kernel_rfl, rfl⟩) hS ?_
        try simp only [Act.put, List.setIfInBounds_toArray, List.set_cons_zero, List.set_cons_succ]
        refine wpAnyH_take (i := 14) (v := undef) rfl (by kernel_rfl) (by kernel_rfl) (by kernel_rfl) (fun _ _ _ h => h) (Or.inr ⟨by kernel_rfl, rfl⟩) hS ?_
        try simp only [Act.put, List.setIfInBounds_toArray, List.set_cons_zero, List.set_cons_succ]
        refine wpAnyH_take (i := 15) (v := ?vA15) rfl (by kernel_rfl) (by kernel_rfl) (by kernel_rfl) (fun _ _ _ h => h) (Or.inl ⟨by rfl, ?hyA15⟩) hS ?restA15
        case hyA15 =>
          intro w hSw
          first | (go_simp; done) | (go_simp; with_reducible rfl)
        try simp only [Act.put, List.setIfInBounds_toArray, List.set_cons_zero, List.set_cons_succ]
        refine wpAnyH_ready (rs := [16]) (by kernel_rfl) (by simp) ?_
        refine AllReadyH.cons rfl (fun K hK => ?_) AllReadyH.nil
        go_simp
        go_wp2_with ((go_at_call 30; refine (KW1.out _).mono ?_; rintro e w' ⟨rfl, rfl⟩))
        refine hK.out _ _ hS (fun _ => ?_)
        clear hK K
        refine wpAnyH_ready (rs := [20]) (by kernel_rfl) (by simp) ?_
        refine AllReadyH.cons rfl (fun K hK => ?_) AllReadyH.nil
        go_simp
        go_wp2_with ((go_at_call 30; refine (KW2.out _).mono ?_; rintro e w' ⟨rfl, rfl⟩))
        refine hK.out _ _ hS (fun _ => ?_)
        clear hK K
        refine wpAnyH_ready (rs := [21]) (by kernel_rfl) (by simp) ?_
        refine AllReadyH.cons rfl (fun K hK => ?_) AllReadyH.nil
        go_simp
        have hNv : v.ownBlock ≠ some w'.heap.size := fun h => Nat.lt_irrefl _ (hO.low h).2
        have hO := hO.alloc (.cells #[.int .i64 x0, .int .i64 x1, .int .i64 x2] errT)
        have hS := hS.on (bel_alloc _ (.cells #[.int .i64 x0, .int .i64 x1, .int .i64 x2] errT))
        refine hK.out _ _ hS (fun _ => ?_)
        clear hK K
        refine wpAnyH_ready (rs := [22]) (by kernel_rfl) (by simp) ?_
        refine AllReadyH.cons rfl (fun K hK => ?_) AllReadyH.nil
        go_simp
        go_wp2_with ((go_at_call 28; refine (fadd_any _ v _ _ w'.heap.size 3 3 [x0, x1, x2] _ hO rfl (by omega) (errs_new w' _ rfl) hNv HFL.out).mono ?_; rintro e w8 ⟨v8, rfl, hO8, hC8⟩; have hS := hS.trans hC8.but (fun _ _ h => h)))
        refine hK.out _ _ hS (fun _ => ?_)
        clear hK K
        refine wpAnyH_take (i := 23) (v := ?vA23) rfl (by kernel_rfl) (by kernel_rfl) (by kernel_rfl) (fun _ _ _ h => h) (Or.inl ⟨by rfl, ?hyA23⟩) hS ?restA23
        case hyA23 =>
          intro w hSw
          first | (go_simp; done) | (go_simp; with_reducible rfl)
        try simp only [Act.put, List.setIfInBounds_toArray, List.set_cons_zero, List.set_cons_succ]
        refine wpAnyH_done (by kernel_rfl) ?_ _
        have y0 := g0 _ hS
        have y1 := g1 _ hS
        have y2 := g2 _ hS
        have hm9 := SX.map MM1.out hv1 hS
        have hwMB : w.heap.size ≤ MB := by have := HMB.out; omega
        go_wp2_with (at_mapUpdate; refine wpList_put (en := enK) rfl _ _ _ 76 rfl triK enK_inj Tryd.underlying76 rfl hm9 (by unfold maxLen; omega) (keyC c) _ rfl HK.out ?_; intro w9 hm9 hg9; refine Hid.out ?_)
        have hb8 : Below w.heap.size w w8 := HB6.out.trans (hS.below HB6.out.size (fun k hk hv => by have := (HO6.out.low hv).1; omega))
        have hb9 : Below w.heap.size w w9 := hb8.grown hg9 hb8.size (fun k hk => by cases hk; exact hwMB)
        have HX : Hid (FOwn (MB + 1) w9 v8 (conF l (k + 1)) ∧ MapT w9 MB (m + 1) (gN (l.take (k + 1))) ∧ Below w.heap.size w w9) := Lib.hid ⟨by
            rw [HF.out, HEr.out]
            exact hO8.grown hg9 (.inl (fun e => by have := (hO8.low e.symm).1; omega)), by rw [hT.out, ← HKP.out]; exact hm9, hb9⟩
        clear hm9 hg9 hb9 hb8 hO8 hC8 hS hO
        refine Lib.hid ?_
        go_wp2
        go_roundw
        case rel => exact ⟨_, k + 1, m + 1, rfl, by omega, by go_num, by omega, HX⟩
        case measure => simp [intOf]; omega
      | false =>
        have h0' : ¬ c.m < 0 := of_decide_eq_false h0
        cases h9 : decide (1440 < c.m) with
        | true =>
          have h9' : 1440 < c.m := of_decide_eq_true h9
          have HBT : Hid (bm = true) := Lib.hid (by rw [HBM.out, h9, Bool.or_true])
          obtain ⟨x0, hx0⟩ : ∃ x : Int, x = (if (!cb) = true then (5 : Int) else 0) := ⟨_, rfl⟩
          obtain ⟨x1, hx1⟩ : ∃ x : Int, x = (if true = true then (2 : Int) else 0) := ⟨_, rfl⟩
          obtain ⟨x2, hx2⟩ : ∃ x : Int, x = (if tw = true then (6 : Int) else 0) := ⟨_, rfl⟩
          have KW0 := Lib.hid (fun W => fwhen_any (!cb) 5 W)
          have KW1 := Lib.hid (fun W => fwhen_any true 2 W)
          have KW2 := Lib.hid (fun W => fwhen_any tw 6 W)
          have HEr : Hid (conE (l.take k) c = [x0, x1, x2]) := Lib.hid (by rw [HEq.out, hx0, hx1, hx2, HBT.out])
          rw [← hx0] at KW0
          rw [← hx1] at KW1
          rw [← hx2] at KW2
          clear hx0 hx1 hx2 HEq HBT HBM
          have hS : (SX w6 v) _ := But.of_below (Below.refl _ _).drew
          refine wp_region_held_drew (S := SX w6 v) (by kernel_rfl) hS (fun _ => ?_)
          refine wpAnyH_take (i := 0) (v := ?vB0) rfl (by kernel_rfl) (by kernel_rfl) (by kernel_rfl) (fun _ _ _ h => h) (Or.inl ⟨by rfl, ?hyB0⟩) hS ?restB0
          case hyB0 =>
            intro w hSw
            first | (go_simp; done) | (go_simp; with_reducible rfl)
          try simp only [Act.put, List.setIfInBounds_toArray, List.set_cons_zero, List.set_cons_succ]
          refine wpAnyH_take (i := 1) (v := ?vB1) rfl (by kernel_rfl) (by kernel_rfl) (by kernel_rfl) (fun _ _ _ h => h) (Or.inl ⟨by rfl, ?hyB1⟩) hS ?restB1
          case hyB1 =>
            intro w hSw
            first | (go_simp; done) | (go_simp; with_reducible rfl)
          try simp only [Act.put, List.setIfInBounds_toArray, List.set_cons_zero, List.set_cons_succ]
          refine wpAnyH_take (i := 4) (v := ?vB4) rfl (by kernel_rfl) (by kernel_rfl) (by kernel_rfl) (fun _ _ _ h => h) (Or.inl ⟨by rfl, ?hyB4⟩) hS ?restB4
          case hyB4 =>
            intro w hSw
            have k0 := f0 w hSw; have k1 := f1 w hSw; have k2 := f2 w hSw; have k3 := f3 w hSw; have k4 := g0 w hSw; have k5 := g1 w hSw; have k6 := g2 w hSw; have k7 := lkN w hSw
            first | (go_simp; done) | (go_simp; with_reducible rfl)
          try simp only [Act.put, List.setIfInBounds_toArray, List.set_cons_zero, List.set_cons_succ]
          refine wpAnyH_take (i := 8) (v := ?vB8) rfl (by kernel_rfl) (by kernel_rfl) (by kernel_rfl) (fun _ _ _ h => h) (Or.inl ⟨by rfl, ?hyB8⟩) hS ?restB8
          case hyB8 =>
            intro w hSw
            first | (go_simp; done) | (go_simp; with_reducible rfl)
          try simp only [Act.put, List.setIfInBounds_toArray, List.set_cons_zero, List.set_cons_succ]
          refine wpAnyH_take (i := 9) (v := ?vB9) rfl (by kernel_rfl) (by kernel_rfl) (by kernel_rfl) (fun _ _ _ h => h) (Or.inl ⟨by rfl, ?hyB9⟩) hS ?restB9
          case hyB9 =>
            intro w hSw
            have k0 := f0 w hSw; have k1 := f1 w hSw; have k2 := f2 w hSw; have k3 := f3 w hSw; have k4 := g0 w hSw; have k5 := g1 w hSw; have k6 := g2 w hSw; have k7 := lkN w hSw
            first | (go_simp; done) | (go_simp; with_reducible rfl)
          try simp only [Act.put, List.setIfInBounds_toArray, List.set_cons_zero, List.set_cons_succ]
          refine wpAnyH_take (i := 10) (v := ?vB10) rfl (by kernel_rfl) (by kernel_rfl) (by kernel_rfl) (fun _ _ _ h => h) (Or.inl ⟨by rfl, ?hyB10⟩) hS ?restB10
          case hyB10 =>
            intro w hSw
            first | (go_simp; done) | (go_simp; with_reducible rfl)
          try simp only [Act.put, List.setIfInBounds_toArray, List.set_cons_zero, List.set_cons_succ]
          refine wpAnyH_take (i := 17) (v := ?vB17) rfl (by kernel_rfl) (by kernel_rfl) (by kernel_rfl) (fun _ _ _ h => h) (Or.inl ⟨by rfl, ?hyB17⟩) hS ?restB17
          case hyB17 =>
            intro w hSw
            first | (go_simp; done) | (go_simp; with_reducible rfl)
          try simp only [Act.put, List.setIfInBounds_toArray, List.set_cons_zero, List.set_cons_succ]
          refine wpAnyH_take (i := 18) (v := ?vB18) rfl (by kernel_rfl) (by kernel_rfl) (by kernel_rfl) (fun _ _ _ h => h) (Or.inl ⟨by rfl, ?hyB18⟩) hS ?restB18
          case hyB18 =>
            intro w hSw
            have k0 := f0 w hSw; have k1 := f1 w hSw; have k2 := f2 w hSw; have k3 := f3 w hSw; have k4 := g0 w hSw; have k5 := g1 w hSw; have k6 := g2 w hSw; have k7 := lkN w hSw
            first | (go_simp; done) | (go_simp; with_reducible rfl)
          try simp only [Act.put, List.setIfInBounds_toArray, List.set_cons_zero, List.set_cons_succ]
          refine wpAnyH_take (i := 19) (v := ?vB19) rfl (by kernel_rfl) (by kernel_rfl) (by kernel_rfl) (fun _ _ _ h => h) (Or.inl ⟨by rfl, ?hyB19⟩) hS ?restB19
          case hyB19 =>
            intro w hSw
            have k0 := f0 w hSw; have k1 := f1 w hSw; have k2 := f2 w hSw; have k3 := f3 w hSw; have k4 := g0 w hSw; have k5 := g1 w hSw; have k6 := g2 w hSw; have k7 := lkN w hSw
            first | (go_simp; done) | (go_simp; with_reducible rfl)
          try simp only [Act.put, List.setIfInBounds_toArray, List.set_cons_zero, List.set_cons_succ]
          refine wpAnyH_ready (rs := [2]) (by kernel_rfl) (by simp) ?_
          refine AllReadyH.cons rfl (fun K hK => ?_) AllReadyH.nil
          go_simp
          go_wp2_with ((go_at_call 29; refine (KD.out _).mono ?_; rintro e w' ⟨rfl, rfl⟩))
          refine hK.out _ _ hS (fun _ => ?_)
          clear hK K
          refine wpAnyH_take (i := 3) (v := ?vB3) rfl (by kernel_rfl) (by kernel_rfl) (by kernel_rfl) (fun _ _ _ h => h) (Or.inl ⟨by rfl, ?hyB3⟩) hS ?restB3
          case hyB3 =>
            intro w hSw
            have kadd := hadd w
            first | (go_simp; done) | (go_simp; with_reducible rfl)
          try simp only [Act.put, List.setIfInBounds_toArray, List.set_cons_zero, List.set_cons_succ]
          refine wpAnyH_ready (rs := [5]) (by kernel_rfl) (by simp) ?_
          refine AllReadyH.cons rfl (fun K hK => ?_) AllReadyH.nil
          go_simp
          go_wp2_with ((go_at_call 31; refine (KU.out _).mono ?_; rintro e w' ⟨rfl, hb'⟩; have hO := hO.more hb'; have hS := hS.on hb'))
          refine hK.out _ _ hS (fun _ => ?_)
          clear hK K
          refine wpAnyH_take (i := 6) (v := ?vB6) rfl (by kernel_rfl) (by kernel_rfl) (by kernel_rfl) (fun _ _ _ h => h) (Or.inl ⟨by rfl, ?hyB6⟩) hS ?restB6
          case hyB6 =>
            intro w hSw
            first | (go_simp; done) | (go_simp; with_reducible rfl)
          try simp only [Act.put, List.setIfInBounds_toArray, List.set_cons_zero, List.set_cons_succ]
          refine wpAnyH_ready (rs := [7]) (by kernel_rfl) (by simp) ?_
          refine AllReadyH.cons rfl (fun K hK => ?_) AllReadyH.nil
          go_simp
          go_wp2_with ((go_at_call 30; refine (KW0.out _).mono ?_; rintro e w' ⟨rfl, rfl⟩))
          refine hK.out _ _ hS (fun _ => ?_)
          clear hK K
          refine wpAnyH_take (i := 11) (v := ?vB11) rfl (by kernel_rfl) (by kernel_rfl) (by kernel_rfl) (fun _ _ _ h => h) (Or.inl ⟨by rfl, ?hyB11⟩) hS ?restB11
          case hyB11 =>
            intro w hSw
            first | (go_simp; done) | (go_simp; with_reducible rfl)
          try simp only [Act.put, List.setIfInBounds_toArray, List.set_cons_zero, List.set_cons_succ]
          refine wpAnyH_take (i := 12) (v := ?vB12) rfl (by kernel_rfl) (by kernel_rfl) (by kernel_rfl) (fun _ _ _ h => h) (Or.inl ⟨by kernel_rfl, ?hyB12⟩) hS ?restB12
          case hyB12 =>
            intro w hSw
            first | (go_simp; done) | (go_simp; with_reducible rfl)
          try simp only [Act.put, List.setIfInBounds_toArray, List.set_cons_zero, List.set_cons_succ]
          refine wpAnyH_take (i := 13) (v := ?vB13) rfl (by kernel_rfl) (by kernel_rfl) (by kernel_rfl) (fun _ _ _ h => h) (Or.inl ⟨by kernel_rfl, ?hyB13⟩) hS ?restB13
          case hyB13 =>
            intro w hSw
            have k0 := f0 w hSw; have k1 := f1 w hSw; have k2 := f2 w hSw; have k3 := f3 w hSw; have k4 := g0 w hSw; have k5 := g1 w hSw; have k6 := g2 w hSw; have k7 := lkN w hSw
            first | (go_simp; done) | (go_simp; with_reducible rfl)
          try simp only [Act.put, List.setIfInBounds_toArray, List.set_cons_zero, List.set_cons_succ]
          refine wpAnyH_take (i := 14) (v := ?vB14) rfl (by kernel_rfl) (by kernel_rfl) (by kernel_rfl) (fun _ _ _ h => h) (Or.inl ⟨by kernel_rfl, ?hyB14⟩) hS ?restB14
          case hyB14 =>
            intro w hSw
            first | (go_simp; done) | (go_simp; with_reducible rfl)
          try simp only [Act.put, List.setIfInBounds_toArray, List.set_cons_zero, List.set_cons_succ]
          refine wpAnyH_take (i := 15) (v := ?vB15) rfl (by kernel_rfl) (by kernel_rfl) (by kernel_rfl) (fun _ _ _ h => h) (Or.inl ⟨by rfl, ?hyB15⟩) hS ?restB15
          case hyB15 =>
            intro w hSw
            first | (go_simp; done) | (go_simp; with_reducible rfl)
          try simp only [Act.put, List.setIfInBounds_toArray, List.set_cons_zero, List.set_cons_succ]
          refine wpAnyH_ready (rs := [16]) (by kernel_rfl) (by simp) ?_
          refine AllReadyH.cons rfl (fun K hK => ?_) AllReadyH.nil
          go_simp
          go_wp2_with ((go_at_call 30; refine (KW1.out _).mono ?_; rintro e w' ⟨rfl, rfl⟩))
          refine hK.out _ _ hS (fun _ => ?_)
          clear hK K
          refine wpAnyH_ready (rs := [20]) (by kernel_rfl) (by simp) ?_
          refine AllReadyH.cons rfl (fun K hK => ?_) AllReadyH.nil
          go_simp
          go_wp2_with ((go_at_call 30; refine (KW2.out _).mono ?_; rintro e w' ⟨rfl, rfl⟩))
          refine hK.out _ _ hS (fun _ => ?_)
          clear hK K
          refine wpAnyH_ready (rs := [21]) (by kernel_rfl) (by simp) ?_
          refine AllReadyH.cons rfl (fun K hK => ?_) AllReadyH.nil
          go_simp
          have hNv : v.ownBlock ≠ some w'.heap.size := fun h => Nat.lt_irrefl _ (hO.low h).2
          have hO := hO.alloc (.cells #[.int .i64 x0, .int .i64 x1, .int .i64 x2] errT)
          have hS := hS.on (bel_alloc _ (.cells #[.int .i64 x0, .int .i64 x1, .int .i64 x2] errT))
          refine hK.out _ _ hS (fun _ => ?_)
          clear hK K
          refine wpAnyH_ready (rs := [22]) (by kernel_rfl) (by simp) ?_
          refine AllReadyH.cons rfl (fun K hK => ?_) AllReadyH.nil
          go_simp
          go_wp2_with ((go_at_call 28; refine (fadd_any _ v _ _ w'.heap.size 3 3 [x0, x1, x2] _ hO rfl (by omega) (errs_new w' _ rfl) hNv HFL.out).mono ?_; rintro e w8 ⟨v8, rfl, hO8, hC8⟩; have hS := hS.trans hC8.but (fun _ _ h => h)))
          refine hK.out _ _ hS (fun _ => ?_)
          clear hK K
          refine wpAnyH_take (i := 23) (v := ?vB23) rfl (by kernel_rfl) (by kernel_rfl) (by kernel_rfl) (fun _ _ _ h => h) (Or.inl ⟨by rfl, ?hyB23⟩) hS ?restB23
          case hyB23 =>
            intro w hSw
            first | (go_simp; done) | (go_simp; with_reducible rfl)
          try simp only [Act.put, List.setIfInBounds_toArray, List.set_cons_zero, List.set_cons_succ]
          refine wpAnyH_done (by kernel_rfl) ?_ _
          have y0 := g0 _ hS
          have y1 := g1 _ hS
          have y2 := g2 _ hS
          have hm9 := SX.map MM1.out hv1 hS
          have hwMB : w.heap.size ≤ MB := by have := HMB.out; omega
          go_wp2_with (at_mapUpdate; refine wpList_put (en := enK) rfl _ _ _ 76 rfl triK enK_inj Tryd.underlying76 rfl hm9 (by unfold maxLen; omega) (keyC c) _ rfl HK.out ?_; intro w9 hm9 hg9; refine Hid.out ?_)
          have hb8 : Below w.heap.size w w8 := HB6.out.trans (hS.below HB6.out.size (fun k hk hv => by have := (HO6.out.low hv).1; omega))
          have hb9 : Below w.heap.size w w9 := hb8.grown hg9 hb8.size (fun k hk => by cases hk; exact hwMB)
          have HX : Hid (FOwn (MB + 1) w9 v8 (conF l (k + 1)) ∧ MapT w9 MB (m + 1) (gN (l.take (k + 1))) ∧ Below w.heap.size w w9) := Lib.hid ⟨by
              rw [HF.out, HEr.out]
              exact hO8.grown hg9 (.inl (fun e => by have := (hO8.low e.symm).1; omega)), by rw [hT.out, ← HKP.out]; exact hm9, hb9⟩
          clear hm9 hg9 hb9 hb8 hO8 hC8 hS hO
          refine Lib.hid ?_
          go_wp2
          go_roundw
          case rel => exact ⟨_, k + 1, m + 1, rfl, by omega, by go_num, by omega, HX⟩
          case measure => simp [intOf]; omega
        | false =>
          have h9' : ¬ 1440 < c.m := of_decide_eq_false h9
          have HBT : Hid (bm = false) := Lib.hid (by rw [HBM.out, h0, h9]; rfl)
          obtain ⟨x0, hx0⟩ : ∃ x : Int, x = (if (!cb) = true then (5 : Int) else 0) := ⟨_, rfl⟩
          obtain ⟨x1, hx1⟩ : ∃ x : Int, x = (if false = true then (2 : Int) else 0) := ⟨_, rfl⟩
          obtain ⟨x2, hx2⟩ : ∃ x : Int, x = (if tw = true then (6 : Int) else 0) := ⟨_, rfl⟩
          have KW0 := Lib.hid (fun W => fwhen_any (!cb) 5 W)
          have KW1 := Lib.hid (fun W => fwhen_any false 2 W)
          have KW2 := Lib.hid (fun W => fwhen_any tw 6 W)
          have HEr : Hid (conE (l.take k) c = [x0, x1, x2]) := Lib.hid (by rw [HEq.out, hx0, hx1, hx2, HBT.out])
          rw [← hx0] at KW0
          rw [← hx1] at KW1
          rw [← hx2] at KW2
          clear hx0 hx1 hx2 HEq HBT HBM
          have hS : (SX w6 v) _ := But.of_below (Below.refl _ _).drew
          refine wp_region_held_drew (S := SX w6 v) (by kernel_rfl) hS (fun _ => ?_)
          refine wpAnyH_take (i := 0) (v := ?vC0) rfl (by kernel_rfl) (by kernel_rfl) (by kernel_rfl) (fun _ _ _ h => h) (Or.inl ⟨by rfl, ?hyC0⟩) hS ?restC0
          case hyC0 =>
            intro w hSw
            first | (go_simp; done) | (go_simp; with_reducible rfl)
          try simp only [Act.put, List.setIfInBounds_toArray, List.set_cons_zero, List.set_cons_succ]
          refine wpAnyH_take (i := 1) (v := ?vC1) rfl (by kernel_rfl) (by kernel_rfl) (by kernel_rfl) (fun _ _ _ h => h) (Or.inl ⟨by rfl, ?hyC1⟩) hS ?restC1
          case hyC1 =>
            intro w hSw
            first | (go_simp; done) | (go_simp; with_reducible rfl)
          try simp only [Act.put, List.setIfInBounds_toArray, List.set_cons_zero, List.set_cons_succ]
          refine wpAnyH_take (i := 4) (v := ?vC4) rfl (by kernel_rfl) (by kernel_rfl) (by kernel_rfl) (fun _ _ _ h => h) (Or.inl ⟨by rfl, ?hyC4⟩) hS ?restC4
          case hyC4 =>
            intro w hSw
            have k0 := f0 w hSw; have k1 := f1 w hSw; have k2 := f2 w hSw; have k3 := f3 w hSw; have k4 := g0 w hSw; have k5 := g1 w hSw; have k6 := g2 w hSw; have k7 := lkN w hSw
            first | (go_simp; done) | (go_simp; with_reducible rfl)
          try simp only [Act.put, List.setIfInBounds_toArray, List.set_cons_zero, List.set_cons_succ]
          refine wpAnyH_take (i := 8) (v := ?vC8) rfl (by kernel_rfl) (by kernel_rfl) (by kernel_rfl) (fun _ _ _ h => h) (Or.inl ⟨by rfl, ?hyC8⟩) hS ?restC8
          case hyC8 =>
            intro w hSw
            first | (go_simp; done) | (go_simp; with_reducible rfl)
          try simp only [Act.put, List.setIfInBounds_toArray, List.set_cons_zero, List.set_cons_succ]
          refine wpAnyH_take (i := 9) (v := ?vC9) rfl (by kernel_rfl) (by kernel_rfl) (by kernel_rfl) (fun _ _ _ h => h) (Or.inl ⟨by rfl, ?hyC9⟩) hS ?restC9
          case hyC9 =>
            intro w hSw
            have k0 := f0 w hSw; have k1 := f1 w hSw; have k2 := f2 w hSw; have k3 := f3 w hSw; have k4 := g0 w hSw; have k5 := g1 w hSw; have k6 := g2 w hSw; have k7 := lkN w hSw
            first | (go_simp; done) | (go_simp; with_reducible rfl)
          try simp only [Act.put, List.setIfInBounds_toArray, List.set_cons_zero, List.set_cons_succ]
          refine wpAnyH_take (i := 10) (v := ?vC10) rfl (by kernel_rfl) (by kernel_rfl) (by kernel_rfl) (fun _ _ _ h => h) (Or.inl ⟨by rfl, ?hyC10⟩) hS ?restC10
          case hyC10 =>
            intro w hSw
            first | (go_simp; done) | (go_simp; with_reducible rfl)
          try simp only [Act.put, List.setIfInBounds_toArray, List.set_cons_zero, List.set_cons_succ]
          refine wpAnyH_take (i := 17) (v := ?vC17) rfl (by kernel_rfl) (by kernel_rfl) (by kernel_rfl) (fun _ _ _ h => h) (Or.inl ⟨by rfl, ?hyC17⟩) hS ?restC17
          case hyC17 =>
            intro w hSw
            first | (go_simp; done) | (go_simp; with_reducible rfl)
          try simp only [Act.put, List.setIfInBounds_toArray, List.set_cons_zero, List.set_cons_succ]
          refine wpAnyH_take (i := 18) (v := ?vC18) rfl (by kernel_rfl) (by kernel_rfl) (by kernel_rfl) (fun _ _ _ h => h) (Or.inl ⟨by rfl, ?hyC18⟩) hS ?restC18
          case hyC18 =>
            intro w hSw
            have k0 := f0 w hSw; have k1 := f1 w hSw; have k2 := f2 w hSw; have k3 := f3 w hSw; have k4 := g0 w hSw; have k5 := g1 w hSw; have k6 := g2 w hSw; have k7 := lkN w hSw
            first | (go_simp; done) | (go_simp; with_reducible rfl)
          try simp only [Act.put, List.setIfInBounds_toArray, List.set_cons_zero, List.set_cons_succ]
          refine wpAnyH_take (i := 19) (v := ?vC19) rfl (by kernel_rfl) (by kernel_rfl) (by kernel_rfl) (fun _ _ _ h => h) (Or.inl ⟨by rfl, ?hyC19⟩) hS ?restC19
          case hyC19 =>
            intro w hSw
            have k0 := f0 w hSw; have k1 := f1 w hSw; have k2 := f2 w hSw; have k3 := f3 w hSw; have k4 := g0 w hSw; have k5 := g1 w hSw; have k6 := g2 w hSw; have k7 := lkN w hSw
            first | (go_simp; done) | (go_simp; with_reducible rfl)
          try simp only [Act.put, List.setIfInBounds_toArray, List.set_cons_zero, List.set_cons_succ]
          refine wpAnyH_ready (rs := [2]) (by kernel_rfl) (by simp) ?_
          refine AllReadyH.cons rfl (fun K hK => ?_) AllReadyH.nil
          go_simp
          go_wp2_with ((go_at_call 29; refine (KD.out _).mono ?_; rintro e w' ⟨rfl, rfl⟩))
          refine hK.out _ _ hS (fun _ => ?_)
          clear hK K
          refine wpAnyH_take (i := 3) (v := ?vC3) rfl (by kernel_rfl) (by kernel_rfl) (by kernel_rfl) (fun _ _ _ h => h) (Or.inl ⟨by rfl, ?hyC3⟩) hS ?restC3
          case hyC3 =>
            intro w hSw
            have kadd := hadd w
            first | (go_simp; done) | (go_simp; with_reducible rfl)
          try simp only [Act.put, List.setIfInBounds_toArray, List.set_cons_zero, List.set_cons_succ]
          refine wpAnyH_ready (rs := [5]) (by kernel_rfl) (by simp) ?_
          refine AllReadyH.cons rfl (fun K hK => ?_) AllReadyH.nil
          go_simp
          go_wp2_with ((go_at_call 31; refine (KU.out _).mono ?_; rintro e w' ⟨rfl, hb'⟩; have hO := hO.more hb'; have hS := hS.on hb'))
          refine hK.out _ _ hS (fun _ => ?_)
          clear hK K
          refine wpAnyH_take (i := 6) (v := ?vC6) rfl (by kernel_rfl) (by kernel_rfl) (by kernel_rfl) (fun _ _ _ h => h) (Or.inl ⟨by rfl, ?hyC6⟩) hS ?restC6
          case hyC6 =>
            intro w hSw
            first | (go_simp; done) | (go_simp; with_reducible rfl)
          try simp only [Act.put, List.setIfInBounds_toArray, List.set_cons_zero, List.set_cons_succ]
          refine wpAnyH_ready (rs := [7]) (by kernel_rfl) (by simp) ?_
          refine AllReadyH.cons rfl (fun K hK => ?_) AllReadyH.nil
          go_simp
          go_wp2_with ((go_at_call 30; refine (KW0.out _).mono ?_; rintro e w' ⟨rfl, rfl⟩))
          refine hK.out _ _ hS (fun _ => ?_)
          clear hK K
          refine wpAnyH_take (i := 11) (v := ?vC11) rfl (by kernel_rfl) (by kernel_rfl) (by kernel_rfl) (fun _ _ _ h => h) (Or.inl ⟨by rfl, ?hyC11⟩) hS ?restC11
          case hyC11 =>
            intro w hSw
            first | (go_simp; done) | (go_simp; with_reducible rfl)
          try simp only [Act.put, List.setIfInBounds_toArray, List.set_cons_zero, List.set_cons_succ]
          refine wpAnyH_take (i := 12) (v := ?vC12) rfl (by kernel_rfl) (by kernel_rfl) (by kernel_rfl) (fun _ _ _ h => h) (Or.inl ⟨by kernel_rfl, ?hyC12⟩) hS ?restC12
          case hyC12 =>
            intro w hSw
            first | (go_simp; done) | (go_simp; with_reducible rfl)
          try simp only [Act.put, List.setIfInBounds_toArray, List.set_cons_zero, List.set_cons_succ]
          refine wpAnyH_take (i := 13) (v := ?vC13) rfl (by kernel_rfl) (by kernel_rfl) (by kernel_rfl) (fun _ _ _ h => h) (Or.inl ⟨by kernel_rfl, ?hyC13⟩) hS ?restC13
          case hyC13 =>
            intro w hSw
            have k0 := f0 w hSw; have k1 := f1 w hSw; have k2 := f2 w hSw; have k3 := f3 w hSw; have k4 := g0 w hSw; have k5 := g1 w hSw; have k6 := g2 w hSw; have k7 := lkN w hSw
            first | (go_simp; done) | (go_simp; with_reducible rfl)
          try simp only [Act.put, List.setIfInBounds_toArray, List.set_cons_zero, List.set_cons_succ]
          refine wpAnyH_take (i := 14) (v := ?vC14) rfl (by kernel_rfl) (by kernel_rfl) (by kernel_rfl) (fun _ _ _ h => h) (Or.inl ⟨by kernel_rfl, ?hyC14⟩) hS ?restC14
          case hyC14 =>
            intro w hSw
            first | (go_simp; done) | (go_simp; with_reducible rfl)
          try simp only [Act.put, List.setIfInBounds_toArray, List.set_cons_zero, List.set_cons_succ]
          refine wpAnyH_take (i := 15) (v := ?vC15) rfl (by kernel_rfl) (by kernel_rfl) (by kernel_rfl) (fun _ _ _ h => h) (Or.inl ⟨by rfl, ?hyC15⟩) hS ?restC15
          case hyC15 =>
            intro w hSw
            first | (go_simp; done) | (go_simp; with_reducible rfl)
          try simp only [Act.put, List.setIfInBounds_toArray, List.set_cons_zero, List.set_cons_succ]
          refine wpAnyH_ready (rs := [16]) (by kernel_rfl) (by simp) ?_
          refine AllReadyH.cons rfl (fun K hK => ?_) AllReadyH.nil
          go_simp
          go_wp2_with ((go_at_call 30; refine (KW1.out _).mono ?_; rintro e w' ⟨rfl, rfl⟩))
          refine hK.out _ _ hS (fun _ => ?_)
          clear hK K
          refine wpAnyH_ready (rs := [20]) (by kernel_rfl) (by simp) ?_
          refine AllReadyH.cons rfl (fun K hK => ?_) AllReadyH.nil
          go_simp
          go_wp2_with ((go_at_call 30; refine (KW2.out _).mono ?_; rintro e w' ⟨rfl, rfl⟩))
          refine hK.out _ _ hS (fun _ => ?_)
          clear hK K
          refine wpAnyH_ready (rs := [21]) (by kernel_rfl) (by simp) ?_
          refine AllReadyH.cons rfl (fun K hK => ?_) AllReadyH.nil
          go_simp
          have hNv : v.ownBlock ≠ some w'.heap.size := fun h => Nat.lt_irrefl _ (hO.low h).2
          have hO := hO.alloc (.cells #[.int .i64 x0, .int .i64 x1, .int .i64 x2] errT)
          have hS := hS.on (bel_alloc _ (.cells #[.int .i64 x0, .int .i64 x1, .int .i64 x2] errT))
          refine hK.out _ _ hS (fun _ => ?_)
          clear hK K
          refine wpAnyH_ready (rs := [22]) (by kernel_rfl) (by simp) ?_
          refine AllReadyH.cons rfl (fun K hK => ?_) AllReadyH.nil
          go_simp
          go_wp2_with ((go_at_call 28; refine (fadd_any _ v _ _ w'.heap.size 3 3 [x0, x1, x2] _ hO rfl (by omega) (errs_new w' _ rfl) hNv HFL.out).mono ?_; rintro e w8 ⟨v8, rfl, hO8, hC8⟩; have hS := hS.trans hC8.but (fun _ _ h => h)))
          refine hK.out _ _ hS (fun _ => ?_)
          clear hK K
          refine wpAnyH_take (i := 23) (v := ?vC23) rfl (by kernel_rfl) (by kernel_rfl) (by kernel_rfl) (fun _ _ _ h => h) (Or.inl ⟨by rfl, ?hyC23⟩) hS ?restC23
          case hyC23 =>
            intro w hSw
            first | (go_simp; done) | (go_simp; with_reducible rfl)
          try simp only [Act.put, List.setIfInBounds_toArray, List.set_cons_zero, List.set_cons_succ]
          refine wpAnyH_done (by kernel_rfl) ?_ _
          have y0 := g0 _ hS
          have y1 := g1 _ hS
          have y2 := g2 _ hS
          have hm9 := SX.map MM1.out hv1 hS
          have hwMB : w.heap.size ≤ MB := by have := HMB.out; omega
          go_wp2_with (at_mapUpdate; refine wpList_put (en := enK) rfl _ _ _ 76 rfl triK enK_inj Tryd.underlying76 rfl hm9 (by unfold maxLen; omega) (keyC c) _ rfl HK.out ?_; intro w9 hm9 hg9; refine Hid.out ?_)
          have hb8 : Below w.heap.size w w8 := HB6.out.trans (hS.below HB6.out.size (fun k hk hv => by have := (HO6.out.low hv).1; omega))
          have hb9 : Below w.heap.size w w9 := hb8.grown hg9 hb8.size (fun k hk => by cases hk; exact hwMB)
          have HX : Hid (FOwn (MB + 1) w9 v8 (conF l (k + 1)) ∧ MapT w9 MB (m + 1) (gN (l.take (k + 1))) ∧ Below w.heap.size w w9) := Lib.hid ⟨by
              rw [HF.out, HEr.out]
              exact hO8.grown hg9 (.inl (fun e => by have := (hO8.low e.symm).1; omega)), by rw [hT.out, ← HKP.out]; exact hm9, hb9⟩
          clear hm9 hg9 hb9 hb8 hO8 hC8 hS hO
          refine Lib.hid ?_
          go_wp2
          go_roundw
          case rel => exact ⟨_, k + 1, m + 1, rfl, by omega, by go_num, by omega, HX⟩
          case measure => simp [intOf]; omega
    · have HE : Hid (conF l k = conF l l.length) := Lib.hid (by rw [show k = l.length by omega])
      have HR : Hid (FOwn w.heap.size wr v (conF l l.length) ∧ Below w.heap.size w wr) := Lib.hid ⟨⟨by have := HJ.out.1.own; rw [HE.out] at this; exact this.mono (by have := HMB.out; omega), HJ.out.2.2.size⟩, HJ.out.2.2⟩
      go_wp2
      go_ret
      exact ⟨_, rfl, HR.out⟩

end Go.Proofs.YtkcdifanhdakhaaDoor.Con
