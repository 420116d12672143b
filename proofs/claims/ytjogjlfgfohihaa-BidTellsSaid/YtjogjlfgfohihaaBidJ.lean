/- The law BidRises. -/
import Derived.Test.YtjogjlfgfohihaaBidH
namespace Go.Proofs.Ytjogjlfgfohihaa
open Go.RowKit Go.Shelf
set_option linter.unusedSimpArgs false
set_option linter.unusedVariables false

theorem worth_more {a : List Int} (hP : RgtP a) {i : Nat} {x : Int} (hx : a[i]? = some x) : wrF a ((i : Int) + 1) = wrF a i + prF a ((i : Int) + 1) ∧ (0 ≤ wrF a i ∧ wrF a i ≤ 1098412116148224) ∧ prF a ((i : Int) + 1) = x ∧ 0 ≤ x ∧ x ≤ 1099511627776 := by
  have hk := (List.getElem?_eq_some_iff.1 hx).1
  have e1 : prF a ((i : Int) + 1) = x := by
    unfold prF
    rw [if_neg (by omega), if_neg (by omega), show ((i : Int) + 1 - 1).toNat = i by omega, List.getD_eq_getElem?_getD, hx]
    rfl
  have h1 := sumK hP hx
  unfold wrF
  rw [e1, show ((i : Int) + 1).toNat = i + 1 by omega, Int.toNat_natCast]
  exact ⟨h1.1, h1.2.1, rfl, h1.2.2⟩
theorem heap_old {w : World} {b : Nat} {x : Obj} (h : w.heap[b]? = some x) (o : Obj) : (w.alloc o).heap[b]? = some x := by
  have hb := (Array.getElem?_eq_some_iff.1 h).1
  have h1 := (bel_alloc w o).block b hb
  rw [h1]; exact h
theorem heap_size_ne {w : World} {b : Nat} {x : Obj} (h : w.heap[b]? = some x) : w.heap.size ≠ b := by
  have hb := (Array.getElem?_eq_some_iff.1 h).1
  omega
theorem bel_low {w w' : World} {B : Nat} (hB : B ≤ w.heap.size) (h : Below w.heap.size w w') : Below w.heap.size w w' := h
theorem chg_heap {w w' : World} {v v' : Value} {b : Nat} {x : Obj} (h : Chg w w' v v') (hb : w.heap[b]? = some x) (hne : v.ownBlock ≠ some b) : w'.heap[b]? = some x := by
  rw [h.but.block b (Array.getElem?_eq_some_iff.1 hb).1 hne]; exact hb
set_option maxRecDepth 100000 in
set_option maxHeartbeats 8000000 in
theorem bidRises_walk (A : Option Addr) (c : Nat) (l : List Dm) (mr : Dm) (n : Int) (w : World) (hL : DmL w (.slice A l.length c) l) (hh : l.length < 9223372036854775808) :
    Calls Try.prog 6 #[.slice A l.length c, .agg #[.int .i64 mr.v, .int .i64 mr.c], .int .i64 n] w fun e w' => e = .returned (.bool true) ∧ Below w.heap.size w w' := by
  have KA := Lib.hid knows_any
  have hbA := bel_alloc w (.cells #[.int .i64 mr.v, .int .i64 mr.c] dmT)
  obtain ⟨y0, y1⟩ := dm_cells w mr
  by_cases h50 : (50 : Int) < l.length
  · have HBA := Lib.hid hbA
    clear hL hbA y0 y1
    go_enter Try.func6, Try.ntmps6
    go_wp2_with (go_at_call 8; refine (KA.out _).mono ?_; rintro e wd ⟨rfl, hbd⟩)
    go_ret
    exact ⟨rfl, HBA.out.trans (hbd.mono HBA.out.size)⟩
  have KC := Lib.hid (curve_any A c l n _ (by omega) (hL.more hbA))
  have HL := Lib.hid hL
  have HBA := Lib.hid hbA
  have hln : l.length ≤ 50 := by omega
  clear hL hbA h50
  go_enter Try.func6, Try.ntmps6
  go_upto_region 4 with (go_at_call 9; refine KC.out.mono ?_; rintro e w1 ⟨A1, c1, a, rfl, hi1, hcap, ha0, ha1, hb1⟩)
  have HA0 := Lib.hid ha0
  have HA1 := Lib.hid ha1
  have HI := Lib.hid hi1
  have z0 := bel_cell hb1 y0
  have z1 := bel_cell hb1 y1
  have HW1 : Hid (SW w w1) := Lib.hid (HBA.out.trans (hb1.mono HBA.out.size))
  clear y0 y1 hb1 KC ha0 ha1 hi1
  obtain ⟨bx, hbx⟩ : ∃ bx, bx = w.heap.size := ⟨_, rfl⟩
  rw [← hbx] at z0 z1
  rw [← hbx]
  have HBX := Lib.hid hbx
  clear hbx
  have f0 : ∀ W, SW w1 W → W.cell? ⟨bx, 0, none⟩ = some (Value.int .i64 mr.v) := fun W h => bel_get z0 _ h
  have f1 : ∀ W, SW w1 W → W.cell? ⟨bx, 1, none⟩ = some (Value.int .i64 mr.c) := fun W h => bel_get z1 _ h
  clear z0 z1
  have KD : Hid (∀ W v, SW w1 W → ROwn dmT 2 encD w1.heap.size W v (l ++ [mr]) → Calls Try.prog 9 #[v, .int .i64 n] W fun e w' => ∃ A c b, e = .returned (.tuple #[.slice A b.length c, .int .i64 (curE (l ++ [mr]) n)]) ∧ IntR w' (.slice A b.length c) b ∧ (curE (l ++ [mr]) n = 0 → CurveR (l ++ [mr]) n.toNat b) ∧ (curE (l ++ [mr]) n ≠ 0 → b = []) ∧ SW w1 w') := Lib.hid (fun W v h ho => by
    obtain ⟨A', c', e, hr⟩ := ho.rowL rtDm.len
    subst e
    refine (curve_any A' c' (l ++ [mr]) n W (by simp; omega) ⟨A', c', rfl, hr⟩).mono ?_
    rintro e w' ⟨A, c, b, rfl, h1, _, h2, h3, h4⟩
    exact ⟨A, c, b, rfl, h1, h2, h3, Below.trans h (Below.mono h4 h.size)⟩)
  have HLM : Hid (∀ W, SW w1 W → DmL W (.slice A l.length c) l) := Lib.hid (fun W h => HL.out.more (Below.trans HW1.out (Below.mono h HW1.out.size)))
  have HLn : Hid (([] : List Dm).length + l.length ≤ 100000000) := Lib.hid (by simp; omega)
  have HLn2 : Hid (([] ++ l : List Dm).length ≤ 100000000) := Lib.hid (by simp; omega)
  go_cut [9, 10] from 22 (fun v9 v10 wx => ∃ (A2 : Option Addr) (c2 : Nat) (b : List Int), v9 = .slice A2 b.length c2 ∧ v10 = .int .i64 (curE (l ++ [mr]) n) ∧ Hid (IntR wx (.slice A2 b.length c2) b ∧ (curE (l ++ [mr]) n = 0 → CurveR (l ++ [mr]) n.toNat b) ∧ (curE (l ++ [mr]) n ≠ 0 → b = []) ∧ SW w1 wx))
  case first =>
    have hS : SW w1 _ := SW.drew w1
    refine wp_region_held_drew (S := SW w1) (by kernel_rfl) hS (fun _ => ?_)
    refine wpAnyH_take (i := 1) (v := ?vJ1) rfl (by kernel_rfl) (by kernel_rfl) (by kernel_rfl) (fun _ _ _ h => h) (Or.inl ⟨by rfl, ?hyJ1⟩) hS ?restJ1
    case hyJ1 =>
      intro w hSw
      have k0 := f0 w hSw; have k1 := f1 w hSw
      first | (go_simp; done) | (go_simp; with_reducible rfl)
    try simp only [Act.put, List.setIfInBounds_toArray, List.set_cons_zero, List.set_cons_succ]
    refine wpAnyH_take (i := 3) (v := ?vJ3) rfl (by kernel_rfl) (by kernel_rfl) (by kernel_rfl) (fun _ _ _ h => h) (Or.inl ⟨by rfl, ?hyJ3⟩) hS ?restJ3
    case hyJ3 =>
      intro w hSw
      have k0 := f0 w hSw; have k1 := f1 w hSw
      first | (go_simp; done) | (go_simp; with_reducible rfl)
    try simp only [Act.put, List.setIfInBounds_toArray, List.set_cons_zero, List.set_cons_succ]
    refine wpAnyH_take (i := 6) (v := ?vJ6) rfl (by kernel_rfl) (by kernel_rfl) (by kernel_rfl) (fun _ _ _ h => h) (Or.inl ⟨by rfl, ?hyJ6⟩) hS ?restJ6
    case hyJ6 =>
      intro w hSw
      have k0 := f0 w hSw; have k1 := f1 w hSw
      first | (go_simp; done) | (go_simp; with_reducible rfl)
    try simp only [Act.put, List.setIfInBounds_toArray, List.set_cons_zero, List.set_cons_succ]
    refine wpAnyH_ready (rs := [0, 4]) (by kernel_rfl) (by simp) ?_
    refine AllReadyH.cons rfl (fun K hK => ?_) (AllReadyH.cons rfl (fun K hK => ?_) AllReadyH.nil)
    · go_simp
      have hO := ROwn.new (e := dmT) (sz := 2) (enc := encD) (B := w1.heap.size) (Below.size hS) [] (fun x => rfl) (cs := #[]) rfl (by simp)
      have hS := Below.trans hS ((bel_alloc _ (.cells #[] dmT)).mono (Below.size hS))
      refine hK.out _ _ hS (fun _ => ?_)
      clear hK K
      refine wpAnyH_ready (rs := [2, 4]) (by kernel_rfl) (by simp) ?_
      refine AllReadyH.cons rfl (fun K hK => ?_) (AllReadyH.cons rfl (fun K hK => ?_) AllReadyH.nil)
      · refine step_rappl rtDm rfl _ _ rfl hO rfl l _ rfl (HLM.out _ hS) HLn.out ?_
        intro v3 w3 hO3 hC3
        go_simp
        have hS := Below.trans hS (hC3.below hO)
        have hW := Below.refl w3.heap.size w3
        have hS3x : Hid (SW w1 w3) := Lib.hid hS
        refine hK.out _ _ hS (fun _ => ?_)
        clear hK K
        refine wpAnyH_ready (rs := [4]) (by kernel_rfl) (by simp) ?_
        refine AllReadyH.cons rfl (fun K hK => ?_) AllReadyH.nil
        go_simp
        have hW := bel_alloc _ (.cells #[.int .i64 mr.v, .int .i64 mr.c] dmT) |>.mono (Nat.le_refl w3.heap.size)
        have hN := heap_alloc_new w3 (.cells #[.int .i64 mr.v, .int .i64 mr.c] dmT)
        have hS := Below.trans hS ((bel_alloc _ (.cells #[.int .i64 mr.v, .int .i64 mr.c] dmT)).mono (Below.size hS))
        refine hK.out _ _ hS (fun _ => ?_)
        clear hK K
        refine wpAnyH_ready (rs := [5]) (by kernel_rfl) (by simp) ?_
        refine AllReadyH.cons rfl (fun K hK => ?_) AllReadyH.nil
        have hS3 : SW w1 w3 := hS3x.out
        refine step_rapp rtDm rfl _ _ rfl hO3 rfl hW _ mr _ rfl (cs := #[.int .i64 mr.v, .int .i64 mr.c]) rfl (by first | exact hN | simpa using hN) HLn2.out ?_
        intro v5 w5 hO5 hC5
        go_simp
        have hS := Below.trans hS3 (hC5.below hO3)
        refine hK.out _ _ hS (fun _ => ?_)
        clear hK K
        refine wpAnyH_ready (rs := [7]) (by kernel_rfl) (by simp) ?_
        refine AllReadyH.cons rfl (fun K hK => ?_) AllReadyH.nil
        go_simp
        go_wp2_with ((go_at_call 9; refine (KD.out _ _ hS hO5).mono ?_; rintro e w8 ⟨A2, c2, b, rfl, hi2, hb0, hb1, hS⟩))
        refine hK.out _ _ hS (fun _ => ?_)
        clear hK K
        refine wpAnyH_take (i := 8) (v := ?vJaaaaa8) rfl (by kernel_rfl) (by kernel_rfl) (by kernel_rfl) (fun _ _ _ h => h) (Or.inl ⟨by rfl, ?hyJaaaaa8⟩) hS ?restJaaaaa8
        case hyJaaaaa8 =>
          intro w hSw
          have k0 := f0 w hSw; have k1 := f1 w hSw
          first | (go_simp; done) | (go_simp; with_reducible rfl)
        try simp only [Act.put, List.setIfInBounds_toArray, List.set_cons_zero, List.set_cons_succ]
        refine wpAnyH_take (i := 9) (v := ?vJaaaaa9) rfl (by kernel_rfl) (by kernel_rfl) (by kernel_rfl) (fun _ _ _ h => h) (Or.inl ⟨by rfl, ?hyJaaaaa9⟩) hS ?restJaaaaa9
        case hyJaaaaa9 =>
          intro w hSw
          have k0 := f0 w hSw; have k1 := f1 w hSw
          first | (go_simp; done) | (go_simp; with_reducible rfl)
        try simp only [Act.put, List.setIfInBounds_toArray, List.set_cons_zero, List.set_cons_succ]
        refine wpAnyH_take (i := 10) (v := ?vJaaaaa10) rfl (by kernel_rfl) (by kernel_rfl) (by kernel_rfl) (fun _ _ _ h => h) (Or.inl ⟨by rfl, ?hyJaaaaa10⟩) hS ?restJaaaaa10
        case hyJaaaaa10 =>
          intro w hSw
          have k0 := f0 w hSw; have k1 := f1 w hSw
          first | (go_simp; done) | (go_simp; with_reducible rfl)
        try simp only [Act.put, List.setIfInBounds_toArray, List.set_cons_zero, List.set_cons_succ]
        refine wpAnyH_take (i := 11) (v := ?vJaaaaa11) rfl (by kernel_rfl) (by kernel_rfl) (by kernel_rfl) (fun _ _ _ h => h) (Or.inl ⟨by rfl, ?hyJaaaaa11⟩) hS ?restJaaaaa11
        case hyJaaaaa11 =>
          intro w hSw
          have k0 := f0 w hSw; have k1 := f1 w hSw
          first | (go_simp; done) | (go_simp; with_reducible rfl)
        try simp only [Act.put, List.setIfInBounds_toArray, List.set_cons_zero, List.set_cons_succ]
        refine wpAnyH_take (i := 12) (v := ?vJaaaaa12) rfl (by kernel_rfl) (by kernel_rfl) (by kernel_rfl) (fun _ _ _ h => h) (Or.inl ⟨by rfl, ?hyJaaaaa12⟩) hS ?restJaaaaa12
        case hyJaaaaa12 =>
          intro w hSw
          have k0 := f0 w hSw; have k1 := f1 w hSw
          first | (go_simp; done) | (go_simp; with_reducible rfl)
        try simp only [Act.put, List.setIfInBounds_toArray, List.set_cons_zero, List.set_cons_succ]
        refine wpAnyH_done (by kernel_rfl) ?_ _
        try simp only [List.getElem_toArray, List.getElem_cons_succ, List.getElem_cons_zero, List.set_cons_zero, List.set_cons_succ]
        go_wp2
        go_meet
        exact ⟨A2, c2, b, rfl, rfl, Lib.hid ⟨hi2, hb0, hb1, hS⟩⟩
      · go_simp
        have hN := heap_alloc_new (w1.drew.alloc (.cells #[] dmT)) (.cells #[.int .i64 mr.v, .int .i64 mr.c] dmT)
        have hO := hO.more (bel_low (Below.size hS) (bel_alloc _ (.cells #[.int .i64 mr.v, .int .i64 mr.c] dmT)))
        have hS := Below.trans hS ((bel_alloc _ (.cells #[.int .i64 mr.v, .int .i64 mr.c] dmT)).mono (Below.size hS))
        refine hK.out _ _ hS (fun _ => ?_)
        clear hK K
        refine wpAnyH_ready (rs := [2]) (by kernel_rfl) (by simp) ?_
        refine AllReadyH.cons rfl (fun K hK => ?_) AllReadyH.nil
        refine step_rappl rtDm rfl _ _ rfl hO rfl l _ rfl (HLM.out _ hS) HLn.out ?_
        intro v3 w3 hO3 hC3
        go_simp
        have hN := chg_heap hC3 hN (by simp [Value.ownBlock]; try omega)
        have hS := Below.trans hS (hC3.below hO)
        have hW := Below.refl w3.heap.size w3
        have hS3x : Hid (SW w1 w3) := Lib.hid hS
        refine hK.out _ _ hS (fun _ => ?_)
        clear hK K
        refine wpAnyH_ready (rs := [5]) (by kernel_rfl) (by simp) ?_
        refine AllReadyH.cons rfl (fun K hK => ?_) AllReadyH.nil
        have hS3 : SW w1 w3 := hS3x.out
        refine step_rapp rtDm rfl _ _ rfl hO3 rfl hW _ mr _ rfl (cs := #[.int .i64 mr.v, .int .i64 mr.c]) rfl (by first | exact hN | simpa using hN) HLn2.out ?_
        intro v5 w5 hO5 hC5
        go_simp
        have hS := Below.trans hS3 (hC5.below hO3)
        refine hK.out _ _ hS (fun _ => ?_)
        clear hK K
        refine wpAnyH_ready (rs := [7]) (by kernel_rfl) (by simp) ?_
        refine AllReadyH.cons rfl (fun K hK => ?_) AllReadyH.nil
        go_simp
        go_wp2_with ((go_at_call 9; refine (KD.out _ _ hS hO5).mono ?_; rintro e w8 ⟨A2, c2, b, rfl, hi2, hb0, hb1, hS⟩))
        refine hK.out _ _ hS (fun _ => ?_)
        clear hK K
        refine wpAnyH_take (i := 8) (v := ?vJabaaa8) rfl (by kernel_rfl) (by kernel_rfl) (by kernel_rfl) (fun _ _ _ h => h) (Or.inl ⟨by rfl, ?hyJabaaa8⟩) hS ?restJabaaa8
        case hyJabaaa8 =>
          intro w hSw
          have k0 := f0 w hSw; have k1 := f1 w hSw
          first | (go_simp; done) | (go_simp; with_reducible rfl)
        try simp only [Act.put, List.setIfInBounds_toArray, List.set_cons_zero, List.set_cons_succ]
        refine wpAnyH_take (i := 9) (v := ?vJabaaa9) rfl (by kernel_rfl) (by kernel_rfl) (by kernel_rfl) (fun _ _ _ h => h) (Or.inl ⟨by rfl, ?hyJabaaa9⟩) hS ?restJabaaa9
        case hyJabaaa9 =>
          intro w hSw
          have k0 := f0 w hSw; have k1 := f1 w hSw
          first | (go_simp; done) | (go_simp; with_reducible rfl)
        try simp only [Act.put, List.setIfInBounds_toArray, List.set_cons_zero, List.set_cons_succ]
        refine wpAnyH_take (i := 10) (v := ?vJabaaa10) rfl (by kernel_rfl) (by kernel_rfl) (by kernel_rfl) (fun _ _ _ h => h) (Or.inl ⟨by rfl, ?hyJabaaa10⟩) hS ?restJabaaa10
        case hyJabaaa10 =>
          intro w hSw
          have k0 := f0 w hSw; have k1 := f1 w hSw
          first | (go_simp; done) | (go_simp; with_reducible rfl)
        try simp only [Act.put, List.setIfInBounds_toArray, List.set_cons_zero, List.set_cons_succ]
        refine wpAnyH_take (i := 11) (v := ?vJabaaa11) rfl (by kernel_rfl) (by kernel_rfl) (by kernel_rfl) (fun _ _ _ h => h) (Or.inl ⟨by rfl, ?hyJabaaa11⟩) hS ?restJabaaa11
        case hyJabaaa11 =>
          intro w hSw
          have k0 := f0 w hSw; have k1 := f1 w hSw
          first | (go_simp; done) | (go_simp; with_reducible rfl)
        try simp only [Act.put, List.setIfInBounds_toArray, List.set_cons_zero, List.set_cons_succ]
        refine wpAnyH_take (i := 12) (v := ?vJabaaa12) rfl (by kernel_rfl) (by kernel_rfl) (by kernel_rfl) (fun _ _ _ h => h) (Or.inl ⟨by rfl, ?hyJabaaa12⟩) hS ?restJabaaa12
        case hyJabaaa12 =>
          intro w hSw
          have k0 := f0 w hSw; have k1 := f1 w hSw
          first | (go_simp; done) | (go_simp; with_reducible rfl)
        try simp only [Act.put, List.setIfInBounds_toArray, List.set_cons_zero, List.set_cons_succ]
        refine wpAnyH_done (by kernel_rfl) ?_ _
        try simp only [List.getElem_toArray, List.getElem_cons_succ, List.getElem_cons_zero, List.set_cons_zero, List.set_cons_succ]
        go_wp2
        go_meet
        exact ⟨A2, c2, b, rfl, rfl, Lib.hid ⟨hi2, hb0, hb1, hS⟩⟩
    · go_simp
      have hN := heap_alloc_new w1.drew (.cells #[.int .i64 mr.v, .int .i64 mr.c] dmT)
      have hS := Below.trans hS ((bel_alloc _ (.cells #[.int .i64 mr.v, .int .i64 mr.c] dmT)).mono (Below.size hS))
      refine hK.out _ _ hS (fun _ => ?_)
      clear hK K
      refine wpAnyH_ready (rs := [0]) (by kernel_rfl) (by simp) ?_
      refine AllReadyH.cons rfl (fun K hK => ?_) AllReadyH.nil
      go_simp
      have hO := ROwn.new (e := dmT) (sz := 2) (enc := encD) (B := w1.heap.size) (Below.size hS) [] (fun x => rfl) (cs := #[]) rfl (by simp)
      have e9 : (w1.drew.alloc (.cells #[.int .i64 mr.v, .int .i64 mr.c] dmT)).heap.size = w1.heap.size + 1 := by simp
      rw [e9] at hO
      have hNe := heap_size_ne hN
      have hN := heap_old hN (.cells #[] dmT)
      have hS := Below.trans hS ((bel_alloc _ (.cells #[] dmT)).mono (Below.size hS))
      refine hK.out _ _ hS (fun _ => ?_)
      clear hK K
      refine wpAnyH_ready (rs := [2]) (by kernel_rfl) (by simp) ?_
      refine AllReadyH.cons rfl (fun K hK => ?_) AllReadyH.nil
      refine step_rappl rtDm rfl _ _ rfl hO rfl l _ rfl (HLM.out _ hS) HLn.out ?_
      intro v3 w3 hO3 hC3
      go_simp
      have hN := chg_heap hC3 hN (by simp [Value.ownBlock]; try omega)
      have hS := Below.trans hS (hC3.below hO)
      have hW := Below.refl w3.heap.size w3
      have hS3x : Hid (SW w1 w3) := Lib.hid hS
      refine hK.out _ _ hS (fun _ => ?_)
      clear hK K
      refine wpAnyH_ready (rs := [5]) (by kernel_rfl) (by simp) ?_
      refine AllReadyH.cons rfl (fun K hK => ?_) AllReadyH.nil
      have hS3 : SW w1 w3 := hS3x.out
      refine step_rapp rtDm rfl _ _ rfl hO3 rfl hW _ mr _ rfl (cs := #[.int .i64 mr.v, .int .i64 mr.c]) rfl (by first | exact hN | simpa using hN) HLn2.out ?_
      intro v5 w5 hO5 hC5
      go_simp
      have hS := Below.trans hS3 (hC5.below hO3)
      refine hK.out _ _ hS (fun _ => ?_)
      clear hK K
      refine wpAnyH_ready (rs := [7]) (by kernel_rfl) (by simp) ?_
      refine AllReadyH.cons rfl (fun K hK => ?_) AllReadyH.nil
      go_simp
      go_wp2_with ((go_at_call 9; refine (KD.out _ _ hS hO5).mono ?_; rintro e w8 ⟨A2, c2, b, rfl, hi2, hb0, hb1, hS⟩))
      refine hK.out _ _ hS (fun _ => ?_)
      clear hK K
      refine wpAnyH_take (i := 8) (v := ?vJbaaaa8) rfl (by kernel_rfl) (by kernel_rfl) (by kernel_rfl) (fun _ _ _ h => h) (Or.inl ⟨by rfl, ?hyJbaaaa8⟩) hS ?restJbaaaa8
      case hyJbaaaa8 =>
        intro w hSw
        have k0 := f0 w hSw; have k1 := f1 w hSw
        first | (go_simp; done) | (go_simp; with_reducible rfl)
      try simp only [Act.put, List.setIfInBounds_toArray, List.set_cons_zero, List.set_cons_succ]
      refine wpAnyH_take (i := 9) (v := ?vJbaaaa9) rfl (by kernel_rfl) (by kernel_rfl) (by kernel_rfl) (fun _ _ _ h => h) (Or.inl ⟨by rfl, ?hyJbaaaa9⟩) hS ?restJbaaaa9
      case hyJbaaaa9 =>
        intro w hSw
        have k0 := f0 w hSw; have k1 := f1 w hSw
        first | (go_simp; done) | (go_simp; with_reducible rfl)
      try simp only [Act.put, List.setIfInBounds_toArray, List.set_cons_zero, List.set_cons_succ]
      refine wpAnyH_take (i := 10) (v := ?vJbaaaa10) rfl (by kernel_rfl) (by kernel_rfl) (by kernel_rfl) (fun _ _ _ h => h) (Or.inl ⟨by rfl, ?hyJbaaaa10⟩) hS ?restJbaaaa10
      case hyJbaaaa10 =>
        intro w hSw
        have k0 := f0 w hSw; have k1 := f1 w hSw
        first | (go_simp; done) | (go_simp; with_reducible rfl)
      try simp only [Act.put, List.setIfInBounds_toArray, List.set_cons_zero, List.set_cons_succ]
      refine wpAnyH_take (i := 11) (v := ?vJbaaaa11) rfl (by kernel_rfl) (by kernel_rfl) (by kernel_rfl) (fun _ _ _ h => h) (Or.inl ⟨by rfl, ?hyJbaaaa11⟩) hS ?restJbaaaa11
      case hyJbaaaa11 =>
        intro w hSw
        have k0 := f0 w hSw; have k1 := f1 w hSw
        first | (go_simp; done) | (go_simp; with_reducible rfl)
      try simp only [Act.put, List.setIfInBounds_toArray, List.set_cons_zero, List.set_cons_succ]
      refine wpAnyH_take (i := 12) (v := ?vJbaaaa12) rfl (by kernel_rfl) (by kernel_rfl) (by kernel_rfl) (fun _ _ _ h => h) (Or.inl ⟨by rfl, ?hyJbaaaa12⟩) hS ?restJbaaaa12
      case hyJbaaaa12 =>
        intro w hSw
        have k0 := f0 w hSw; have k1 := f1 w hSw
        first | (go_simp; done) | (go_simp; with_reducible rfl)
      try simp only [Act.put, List.setIfInBounds_toArray, List.set_cons_zero, List.set_cons_succ]
      refine wpAnyH_done (by kernel_rfl) ?_ _
      try simp only [List.getElem_toArray, List.getElem_cons_succ, List.getElem_cons_zero, List.set_cons_zero, List.set_cons_succ]
      go_wp2
      go_meet
      exact ⟨A2, c2, b, rfl, rfl, Lib.hid ⟨hi2, hb0, hb1, hS⟩⟩
  case rest =>
    obtain ⟨A2, c2, b, rfl, rfl, HT⟩ := hcut
    obtain ⟨x1, hx1⟩ : ∃ x, x = curE l n := ⟨_, rfl⟩
    obtain ⟨x2, hx2⟩ : ∃ x, x = curE (l ++ [mr]) n := ⟨_, rfl⟩
    have HX1 := Lib.hid hx1
    have HX2 := Lib.hid hx2
    rw [← hx1] at HA0 HA1 ⊢
    rw [← hx2] at HT ⊢
    have hrl := cur_right (l := l) (n := n) (a := a) (by rw [← hx1]; exact HA0.out) (by rw [← hx1]; exact HA1.out)
    have hrb := cur_right (l := l ++ [mr]) (n := n) (a := b) (by rw [← hx2]; exact HT.out.2.1) (by rw [← hx2]; exact HT.out.2.2.1)
    have HRL := Lib.hid hrl
    have HRB := Lib.hid hrb
    have hal := hrl.2
    have hbl := hrb.2
    clear hx1 hx2 hrl hrb KD HLM HLn HLn2
    have HWC : Hid (SW w wc) := Lib.hid (Below.trans HW1.out (Below.mono HT.out.2.2.2 HW1.out.size))
    by_cases h1 : x1 = 0
    rotate_left
    · have g0 : (x1 != 0) = true := by simp [h1]
      have hnil := HA1.out h1
      have g1 : ((a.length : Int) == 0) = true := by simp [hnil]
      clear h1 hnil
      go_wp2_with (go_at_call 8; with_reducible refine (KA.out _).mono ?_; rintro e wd ⟨rfl, hbd⟩)
      go_ret
      exact ⟨rfl, HWC.out.trans (hbd.mono HWC.out.size)⟩
    have g0 : (x1 != 0) = false := by simp [h1]
    have g0' : (x1 == 0) = true := by simp [h1]
    by_cases h2 : x2 = 0
    rotate_left
    · have g1 : (x2 != 0) = true := by simp [h2]
      clear h2
      by_cases h3 : a.length = 0
      · have g2 : ((a.length : Int) == 0) = true := by simp [h3]
        clear h1 h3
        go_wp2_with (go_at_call 8; with_reducible refine (KA.out _).mono ?_; rintro e wd ⟨rfl, hbd⟩)
        go_ret
        exact ⟨rfl, HWC.out.trans (hbd.mono HWC.out.size)⟩
      · have g2 : ((a.length : Int) == 0) = false := by rw [beq_eq_false_iff_ne]; omega
        clear h1 h3
        go_wp2_with (go_at_call 8; with_reducible refine (KA.out _).mono ?_; rintro e wd ⟨rfl, hbd⟩)
        go_ret
        exact ⟨rfl, HWC.out.trans (hbd.mono HWC.out.size)⟩
    have g1 : (x2 != 0) = false := by simp [h2]
    have hn := (curE_zero (HX1.out.symm.trans h1)).1
    obtain ⟨m, rfl⟩ : ∃ m : Nat, n = (m : Int) := ⟨n.toNat, by omega⟩
    have HCA : Hid (CurveR l m a) := Lib.hid (HA0.out h1)
    have HCB : Hid (CurveR (l ++ [mr]) m b) := Lib.hid (HT.out.2.1 h2)
    have HIA : Hid (∀ W, SW wc W → IntR W (.slice A1 a.length c1) a) := Lib.hid (fun W h => (HI.out.more HT.out.2.2.2).more h)
    have HIB : Hid (∀ W, SW wc W → IntR W (.slice A2 b.length c2) b) := Lib.hid (fun W h => HT.out.1.more h)
    have hla : a.length = m := HCA.out.len
    have hlb : b.length = m := HCB.out.len
    have HCAP := Lib.hid hcap
    clear h1 h2 HA0 HA1 HX1 HX2 HT HI hcap
    rw [hla] at HIA ⊢
    rw [hlb] at HIB ⊢
    rw [hla] at HCAP
    have HLA := Lib.hid hla
    have HLB := Lib.hid hlb
    clear hla hlb hal hbl
    go_wp2
    go_loopw [11] (fun vi wr => ∃ i : Nat, i ≤ m ∧ vi = .int .i64 i ∧ Hid (SW wc wr)) (fun vi _ => m - (intOf vi).toNat)
    case atStart => exact ⟨0, Nat.zero_le _, rfl, Lib.hid (Below.refl _ _)⟩
    case round =>
      obtain ⟨i, hi, rfl, HB⟩ := hrel
      by_cases hlt : i < m
      · obtain ⟨x, hx⟩ : ∃ x, a[i]? = some x := ⟨_, List.getElem?_eq_getElem (by rw [HLA.out]; exact hlt)⟩
        obtain ⟨y, hy⟩ : ∃ y, b[i]? = some y := ⟨_, List.getElem?_eq_getElem (by rw [HLB.out]; exact hlt)⟩
        obtain ⟨p1, p2, p3, p4, p5⟩ := worth_more HRL.out.1 hx
        have hxy := HCA.out.rise HCB.out hx hy
        obtain ⟨b1, o1, e1, hg1, ha1⟩ := row_get (HIA.out _ HB.out) hx
        cases e1
        obtain ⟨b2, o2, e2, hg2, ha2⟩ := row_get (HIB.out _ HB.out) hy
        cases e2
        have z1 := ha1 0 _ rfl
        have z2 := ha2 0 _ rfl
        rw [Nat.mul_one, Nat.add_zero] at z1 z2
        have i2 : (i : Int) < (m : Int) := by omega
        have KW : Hid (∀ (q : Int) (W : World), SW wr W → Calls Try.prog 16 #[.slice (some ⟨b1, o1, none⟩) m c1, .int .i64 q] W fun e w' => e = .returned (.int .i64 (wrF a q)) ∧ SW wr w') := Lib.hid (fun q W h => by
          have h2 := HIA.out W (Below.trans HB.out (Below.mono h HB.out.size))
          rw [← HLA.out] at h2 ⊢
          refine (worth_any _ c1 a q W (by rw [HLA.out]; exact HCAP.out) HRL.out.1 h2).mono ?_
          rintro e w' ⟨rfl, hb'⟩
          exact ⟨rfl, Below.trans h (Below.mono hb' h.size)⟩)
        have KP : Hid (∀ (q : Int) (W : World), SW wr W → Calls Try.prog 13 #[.slice (some ⟨b1, o1, none⟩) m c1, .int .i64 q] W fun e w' => e = .returned (.int .i64 (prF a q)) ∧ SW wr w') := Lib.hid (fun q W h => by
          have h2 := HIA.out W (Below.trans HB.out (Below.mono h HB.out.size))
          rw [← HLA.out] at h2 ⊢
          refine (price_any _ c1 a q W (by rw [HLA.out]; omega) h2).mono ?_
          rintro e w' ⟨rfl, rfl⟩
          exact ⟨rfl, h⟩)
        have KW1 := Lib.hid (KW.out ((i : Int) + 1))
        have KW0 := Lib.hid (KW.out (i : Int))
        have KP1 := Lib.hid (KP.out ((i : Int) + 1))
        rw [p3] at KP1 p1
        generalize wrF a ((i : Int) + 1) = W1 at *
        generalize wrF a (i : Int) = W0 at *
        have g2 : decide ((m : Int) ≤ (i : Int)) = false := decide_eq_false (by omega)
        have g2' : decide (m ≤ i) = false := decide_eq_false (by omega)
        have g3 : decide (y < x) = false := decide_eq_false (by omega)
        have g4 : (W1 != W0 + x) = false := by simp [p1]
        have q1 := fun z : Wd (SW wr) => SW.cell z1 z
        have q2 := fun z : Wd (SW wr) => SW.cell z2 z
        have hS0 := SW.drew wr
        clear ha1 ha2 hg1 hg2 hx hy KW KP p1 hxy p3 z1 z2
        go_wp2
        have hNe : Nonempty (Wd (SW wr)) := ⟨⟨_, hS0⟩⟩
        refine quietS (S := SW wr) (by kernel_rfl) (by kernel_rfl) (hS0) ?_
        repeat (first | go_big_quiet_skip | (go_big_quiet_want; go_big_quiet_op; first | go_big_quiet_on | go_big_quiet_call (((first | (go_at_call 16; with_reducible exact quiet_S (KW1.out _ (Wd.ok _))) | (go_at_call 16; with_reducible exact quiet_S (KW0.out _ (Wd.ok _))) | (go_at_call 13; with_reducible exact quiet_S (KP1.out _ (Wd.ok _))))))))
        refine wpQuiet_nil ?_
        rintro W ⟨⟨_, hW⟩, rfl⟩
        go_wp2
        go_roundw
        case rel => exact ⟨i + 1, by omega, by go_num, Lib.hid (Below.trans HB.out (Below.mono hW HB.out.size))⟩
        case measure => simp [intOf]; omega
      · have i2 : ¬ (i : Int) < (m : Int) := by omega
        have HE := Lib.hid (Below.trans HWC.out (Below.mono HB.out HWC.out.size))
        have g2 : ((m : Int) == (m : Int)) = true := by simp
        go_wp2_with (go_at_call 8; with_reducible refine (KA.out _).mono ?_; rintro e wd ⟨rfl, hbd⟩)
        go_ret
        exact ⟨rfl, HE.out.trans (hbd.mono HE.out.size)⟩
end Go.Proofs.Ytjogjlfgfohihaa
