/- Words and walks that the laws below ask: FliN, FliJ, PlaF, FliO, FliH, PlaE, PlaG. -/
import Derived.DeepKeys4
import Derived.WideKeyPair
import Derived.Test.YtfgmlbmjjihhfaaGreatDoorPk2
import Derived.Test.YtfgmlbmjjihhfaaGreatDoorPk3
import Derived.Test.YtfgmlbmjjihhfaaGreatDoorPk4
import Derived.Test.YtfgmlbmjjihhfaaGreatDoorPk5
import Derived.Test.YtfgmlbmjjihhfaaGreatDoorPk6
import Derived.Test.YtfgmlbmjjihhfaaGreatDoorPk7
import Derived.Test.YtfgmlbmjjihhfaaGreatDoorPk8
/- Walk of flight.Print. -/
namespace Go.Proofs.YtfgmlbmjjihhfaaGreatDoor
open Go.RowKit Go.Shelf
set_option linter.unusedSimpArgs false
set_option linter.unusedVariables false

theorem five_cells (w : World) (a b c d e : ByteArray) (t : TypeId) (i : Nat) (y : ByteArray) (j : Nat) (u : Value) (hi : [a, b, c, d, e][i]? = some y) (hu : (encS y)[j]? = some u) :
    (w.alloc (.cells #[.string a, .string b, .string c, .string d, .string e] t)).cell? ⟨w.heap.size, 0 + i * 1 + j, none⟩ = some u := by
  have hj : j = 0 := by
    have := (List.getElem?_eq_some_iff.1 hu).1
    simp [encS] at this
    exact this
  subst hj
  simp [encS] at hu
  subst hu
  have hlt := (List.getElem?_eq_some_iff.1 hi).1
  simp at hlt
  rw [cells_new]
  have h5 : i = 0 ∨ i = 1 ∨ i = 2 ∨ i = 3 ∨ i = 4 := by omega
  rcases h5 with rfl | rfl | rfl | rfl | rfl <;> (simp at hi; subst hi; rfl)

set_option maxRecDepth 100000 in
set_option maxHeartbeats 8000000 in
theorem fprint_any (f : FV) (w : World) (hE : EnvP w) (hG : LegL w (.slice f.A f.lg.length f.c) f.lg) (hc0 : f.car.size ≤ maxLen) (ho : ∀ x ∈ f.lg, OkG x) (hn : f.lg.length ≤ 1000000) :
    Calls Tryz.prog 27 #[encFl f] w fun e w' => e = .returned (.tuple #[.string (prS f), .int .i64 (prE f)]) ∧ Below w.heap.size w w' := by
  obtain ⟨PW, hPW⟩ : ∃ P : Nat → List ByteArray, P = fun k => prW f k := ⟨_, rfl⟩
  have HSU : Hid (∀ k x, f.lg[k]? = some x → PW (k + 1) = PW k ++ [x.f, x.t, decT x.dep, decT x.arr, x.eq]) := Lib.hid (by rw [hPW]; exact fun k x h => prW_succ h)
  have HLE : Hid (∀ k, (PW k).length ≤ 3 + k * 5) := Lib.hid (by rw [hPW]; exact fun k => prW_len f k)
  have HP := Lib.hid (show prS f = if prE f = 0 then prT f else noB from rfl)
  have HZ : Hid (prE f = 0 → ((bytesOf (PW f.lg.length)).map List.length).sum ≤ 2000 ∧ f.lg.length ≤ 6 ∧ (∀ x ∈ f.lg, -1440 ≤ x.dep ∧ x.dep ≤ 5759 ∧ -1440 ≤ x.arr ∧ x.arr ≤ 5759) ∧ 1 ≤ f.num ∧ f.num ≤ 9999) := Lib.hid (fun h => by
    obtain ⟨_, h2, _, h4, h5⟩ := prE_zero h
    refine ⟨by rw [hPW]; exact prW_sum h, (cnt_bd h4).2, fun x hx => ?_, num_bd h2⟩
    have := (lgE_all h5 x hx).2
    simp only [timB, Bool.and_eq_true] at this
    have h6 := min_bd this.1
    have h7 := min_bd this.2
    omega)
  have HPT : Hid (prT f = ⟨(joinL (bytesOf (PW f.lg.length))).toArray⟩) := Lib.hid (by rw [hPW]; rfl)
  have HW0 : Hid (PW 0 = [f.car, decT f.num, perT f]) := Lib.hid (by rw [hPW]; simp [prW])
  have KC0 := Lib.hid (fun W hG => checkPrint_any f W hG hc0 ho hn)
  have hpt := Per.pprint_any f.pf f.pt f.pd
  have hpe : (⟨(Per.perL (f.pf, f.pt, f.pd)).toArray⟩ : ByteArray) = perT f := rfl
  rw [hpe] at hpt
  have KPP := Lib.hid hpt
  clear hPW hpt hpe
  generalize prE f = pe at *
  generalize prS f = ps at *
  generalize prT f = pT at *
  generalize perT f = sp at *
  obtain ⟨car, num, pf, pt, pd, A, c, lg⟩ := f
  dsimp only at *
  have hb0 := bel_alloc w (.cells #[.string car, .int .i64 num, .int .i64 pf, .int .i64 pt, .int .i64 pd, .slice A lg.length c] fliT)
  have q0 := (cells_new w #[.string car, .int .i64 num, .int .i64 pf, .int .i64 pt, .int .i64 pd, .slice A lg.length c] fliT 0).trans (show _ = some (.string car) from rfl)
  have q1 := (cells_new w #[.string car, .int .i64 num, .int .i64 pf, .int .i64 pt, .int .i64 pd, .slice A lg.length c] fliT 1).trans (show _ = some (.int .i64 num) from rfl)
  have q2 := (cells_new w #[.string car, .int .i64 num, .int .i64 pf, .int .i64 pt, .int .i64 pd, .slice A lg.length c] fliT 2).trans (show _ = some (.int .i64 pf) from rfl)
  have q3 := (cells_new w #[.string car, .int .i64 num, .int .i64 pf, .int .i64 pt, .int .i64 pd, .slice A lg.length c] fliT 3).trans (show _ = some (.int .i64 pt) from rfl)
  have q4 := (cells_new w #[.string car, .int .i64 num, .int .i64 pf, .int .i64 pt, .int .i64 pd, .slice A lg.length c] fliT 4).trans (show _ = some (.int .i64 pd) from rfl)
  have q5 := (cells_new w #[.string car, .int .i64 num, .int .i64 pf, .int .i64 pt, .int .i64 pd, .slice A lg.length c] fliT 5).trans (show _ = some (.slice A lg.length c) from rfl)
  have KC := Lib.hid (KC0.out _ (hG.more hb0))
  have HG := Lib.hid (hG.more hb0)
  have HE := Lib.hid (hE.more hb0)
  clear hG ho hc0 hE KC0
  cases hpe : (pe != 0) with
  | true =>
    have HR : Hid (ps = noB) := Lib.hid (by rw [HP.out, if_neg (by simpa using hpe)])
    go_enter Tryz.func27, Tryz.ntmps27
    go_wp2_with (go_at_call 79; refine KC.out.mono ?_; rintro e w1 ⟨rfl, hb1⟩)
    exact bodyPost_ret (results_tmp2 rfl _ _ _) rfl ⟨by rw [HR.out]; rfl, hb0.trans (Below.mono hb1 hb0.size)⟩
  | false =>
    have h0 : pe = 0 := by simpa using hpe
    subst h0
    have HR : Hid (ps = pT) := Lib.hid (by rw [HP.out, if_pos rfl])
    have hz := HZ.out rfl
    have HS := Lib.hid hz.1
    have HB := Lib.hid hz.2.2.1
    have h6 := hz.2.1
    have KD1 : Hid (∀ W, SW (w.alloc (.cells #[.string car, .int .i64 num, .int .i64 pf, .int .i64 pt, .int .i64 pd, .slice A lg.length c] fliT)) W → Calls Tryz.prog 56 #[.int .i64 num] W fun e w' => e = .returned (.string (decT num)) ∧ SW (w.alloc (.cells #[.string car, .int .i64 num, .int .i64 pf, .int .i64 pt, .int .i64 pd, .slice A lg.length c] fliT)) w') :=
      Lib.hid (SW.call (fun W h => dec_any num W (by have := hz.2.2.2.1; omega) (by have := hz.2.2.2.2; omega) (HE.out.more h)))
    have KP1 : Hid (∀ W, SW (w.alloc (.cells #[.string car, .int .i64 num, .int .i64 pf, .int .i64 pt, .int .i64 pd, .slice A lg.length c] fliT)) W → Calls Tryz.prog 80 #[.agg #[.int .i64 pf, .int .i64 pt, .int .i64 pd]] W fun e w' => e = .returned (.string sp) ∧ SW (w.alloc (.cells #[.string car, .int .i64 num, .int .i64 pf, .int .i64 pt, .int .i64 pd, .slice A lg.length c] fliT)) w') :=
      Lib.hid (SW.call (fun W h => KPP.out W))
    clear hz HZ HP hpe
    go_enter Tryz.func27, Tryz.ntmps27
    go_upto_region 4 with (go_at_call 79; refine KC.out.mono ?_; rintro e w1 ⟨rfl, hb1⟩)
    have hS1 : SW (w.alloc (.cells #[.string car, .int .i64 num, .int .i64 pf, .int .i64 pt, .int .i64 pd, .slice A lg.length c] fliT)) w1 := hb1
    have f0 := bel_get q0
    have f1 := bel_get q1
    have f2 := bel_get q2
    have f3 := bel_get q3
    have f4 := bel_get q4
    have f5 := bel_get q5
    clear q0 q1 q2 q3 q4 q5
    generalize hw5 : w.alloc (.cells #[.string car, .int .i64 num, .int .i64 pf, .int .i64 pt, .int .i64 pd, .slice A lg.length c] fliT) = w5 at *
    clear hw5 hb1
    generalize decT num = sn at *
    have hS : (SW w5) _ := Below.drew hS1
    refine wp_region_held_drew (S := SW w5) (by kernel_rfl) hS (fun _ => ?_)
    refine wpAnyH_take (i := 0) (v := ?vP0) rfl (by kernel_rfl) (by kernel_rfl) (by kernel_rfl) (fun _ _ _ h => h) (Or.inl ⟨by rfl, ?hyP0⟩) hS ?restP0
    case hyP0 =>
      intro w hSw
      first | (go_simp; done) | (go_simp; with_reducible rfl)
    try simp only [Act.put, List.setIfInBounds_toArray, List.set_cons_zero, List.set_cons_succ]
    refine wpAnyH_take (i := 1) (v := ?vP1) rfl (by kernel_rfl) (by kernel_rfl) (by kernel_rfl) (fun _ _ _ h => h) (Or.inl ⟨by rfl, ?hyP1⟩) hS ?restP1
    case hyP1 =>
      intro w hSw
      have k0 := f0 w hSw
      first | (go_simp; done) | (go_simp; with_reducible rfl)
    try simp only [Act.put, List.setIfInBounds_toArray, List.set_cons_zero, List.set_cons_succ]
    refine wpAnyH_take (i := 2) (v := ?vP2) rfl (by kernel_rfl) (by kernel_rfl) (by kernel_rfl) (fun _ _ _ h => h) (Or.inl ⟨by rfl, ?hyP2⟩) hS ?restP2
    case hyP2 =>
      intro w hSw
      first | (go_simp; done) | (go_simp; with_reducible rfl)
    try simp only [Act.put, List.setIfInBounds_toArray, List.set_cons_zero, List.set_cons_succ]
    refine wpAnyH_take (i := 3) (v := ?vP3) rfl (by kernel_rfl) (by kernel_rfl) (by kernel_rfl) (fun _ _ _ h => h) (Or.inl ⟨by rfl, ?hyP3⟩) hS ?restP3
    case hyP3 =>
      intro w hSw
      have k0 := f1 w hSw
      first | (go_simp; done) | (go_simp; with_reducible rfl)
    try simp only [Act.put, List.setIfInBounds_toArray, List.set_cons_zero, List.set_cons_succ]
    refine wpAnyH_take (i := 5) (v := ?vP5) rfl (by kernel_rfl) (by kernel_rfl) (by kernel_rfl) (fun _ _ _ h => h) (Or.inl ⟨by rfl, ?hyP5⟩) hS ?restP5
    case hyP5 =>
      intro w hSw
      first | (go_simp; done) | (go_simp; with_reducible rfl)
    try simp only [Act.put, List.setIfInBounds_toArray, List.set_cons_zero, List.set_cons_succ]
    refine wpAnyH_take (i := 6) (v := ?vP6) rfl (by kernel_rfl) (by kernel_rfl) (by kernel_rfl) (fun _ _ _ h => h) (Or.inl ⟨by rfl, ?hyP6⟩) hS ?restP6
    case hyP6 =>
      intro w hSw
      have k0 := f2 w hSw; have k1 := f3 w hSw; have k2 := f4 w hSw
      first | (go_simp; done) | (go_simp; with_reducible rfl)
    try simp only [Act.put, List.setIfInBounds_toArray, List.set_cons_zero, List.set_cons_succ]
    refine wpAnyH_ready (rs := [4]) (by kernel_rfl) (by simp) ?_
    refine AllReadyH.cons rfl (fun K hK => ?_) AllReadyH.nil
    go_simp
    go_wp2_with ((go_at_call 56; with_reducible refine (KD1.out _ hS).mono ?_; rintro e w2 ⟨rfl, hS⟩))
    refine hK.out _ _ hS (fun _ => ?_)
    clear hK K
    refine wpAnyH_ready (rs := [7]) (by kernel_rfl) (by simp) ?_
    refine AllReadyH.cons rfl (fun K hK => ?_) AllReadyH.nil
    go_simp
    go_wp2_with ((go_at_call 80; with_reducible refine (KP1.out _ hS).mono ?_; rintro e w2 ⟨rfl, hS⟩))
    refine hK.out _ _ hS (fun _ => ?_)
    clear hK K
    refine wpAnyH_ready (rs := [8]) (by kernel_rfl) (by simp) ?_
    refine AllReadyH.cons rfl (fun K hK => ?_) AllReadyH.nil
    go_simp
    have hSp := hS
    have hS : SW w5 _ := Below.trans hS (Below.mono (bel_alloc w2 (.cells #[.string car, .string sn, .string sp] 9)) hS.size)
    refine hK.out _ _ hS (fun _ => ?_)
    clear hK K
    refine wpAnyH_take (i := 9) (v := ?vP9) rfl (by kernel_rfl) (by kernel_rfl) (by kernel_rfl) (fun _ _ _ h => h) (Or.inl ⟨by rfl, ?hyP9⟩) hS ?restP9
    case hyP9 =>
      intro w hSw
      first | (go_simp; done) | (go_simp; with_reducible rfl)
    try simp only [Act.put, List.setIfInBounds_toArray, List.set_cons_zero, List.set_cons_succ]
    refine wpAnyH_done (by kernel_rfl) ?_ _
    simp only [List.getElem_toArray, List.getElem_cons_succ, List.getElem_cons_zero, List.set_cons_zero, List.set_cons_succ]
    generalize hw6 : w2.alloc (.cells #[.string car, .string sn, .string sp] 9) = w6 at *
    have HL : Hid (ROwn 9 1 encS w5.heap.size w6 (.slice (some ⟨w2.heap.size, 0, none⟩) 3 3) (PW 0)) := Lib.hid (by
      rw [HW0.out, ← hw6]
      exact ROwn.new (enc := encS) (sz := 1) hSp.size [car, sn, sp] rtS.len rfl (by show 3 ≤ 1000000; omega))
    have hS6 : SW w5 w6 := hS
    clear HW0 KD1 KP1 hw6
    have z5 := f5 _ hS6
    go_wp2
    go_loopg [5, 25] lg.length (fun kx v5 vi wr => ∃ (v : Value) (k : Nat), v = v5 ∧ vi = .int .i64 k ∧ k + kx = lg.length ∧ Hid (ROwn 9 1 encS w5.heap.size wr v (PW k) ∧ SW w5 wr))
    case atStart => exact ⟨_, 0, rfl, rfl, by omega, Lib.hid ⟨HL.out, hS6⟩⟩
    case round =>
      obtain ⟨v, k, rfl, rfl, hkx, HH⟩ := hrel
      clear HL
      have HKX := Lib.hid hkx
      have hSr : SW w5 wr := HH.out.2
      by_cases hlt : k < lg.length
      · clear hkx
        obtain ⟨b, o, x, rfl, hbl, hx, c0, c1, c2, c3, c4⟩ := LegL.get (HG.out.more hSr) hlt
        have hbd := HB.out x (List.mem_of_getElem? hx)
        have HTk := Lib.hid (HSU.out k x hx)
        have HLn : Hid ((PW k).length + 5 ≤ 100000000) := Lib.hid (by have := HLE.out k; omega)
        have hO := HH.out.1
        have HV1 : Hid (∀ g, v.ownBlock = some g → w5.heap.size ≤ g ∧ g < wr.heap.size) := Lib.hid (fun g hg => hO.low hg)
        have hvN : v.ownBlock ≠ some wr.heap.size := fun h => by have := (HV1.out _ h).2; omega
        have hb6 := bel_alloc wr (.cells #[.string x.f, .string x.t, .int .i64 x.dep, .int .i64 x.arr, .string x.eq] legT)
        have HSW : Hid (∀ W, SX (wr.alloc (.cells #[.string x.f, .string x.t, .int .i64 x.dep, .int .i64 x.arr, .string x.eq] legT)) v W → SW w5 W) := Lib.hid (fun W h => Below.trans hSr ((hb6.mono hSr.size).trans (h.below (Nat.le_trans hSr.size hb6.size) (fun k' hk' hv => by have := (HV1.out _ hv).1; omega))))
        have n0 : ∀ W, SX (wr.alloc (.cells #[.string x.f, .string x.t, .int .i64 x.dep, .int .i64 x.arr, .string x.eq] legT)) v W → W.cell? ⟨wr.heap.size, 0, none⟩ = some (Value.string x.f) := fun W h => SX.cell ((cells_new wr #[.string x.f, .string x.t, .int .i64 x.dep, .int .i64 x.arr, .string x.eq] legT 0).trans (show _ = some (Value.string x.f) from rfl)) hvN h
        have n1 : ∀ W, SX (wr.alloc (.cells #[.string x.f, .string x.t, .int .i64 x.dep, .int .i64 x.arr, .string x.eq] legT)) v W → W.cell? ⟨wr.heap.size, 1, none⟩ = some (Value.string x.t) := fun W h => SX.cell ((cells_new wr #[.string x.f, .string x.t, .int .i64 x.dep, .int .i64 x.arr, .string x.eq] legT 1).trans (show _ = some (Value.string x.t) from rfl)) hvN h
        have n2 : ∀ W, SX (wr.alloc (.cells #[.string x.f, .string x.t, .int .i64 x.dep, .int .i64 x.arr, .string x.eq] legT)) v W → W.cell? ⟨wr.heap.size, 2, none⟩ = some (Value.int .i64 x.dep) := fun W h => SX.cell ((cells_new wr #[.string x.f, .string x.t, .int .i64 x.dep, .int .i64 x.arr, .string x.eq] legT 2).trans (show _ = some (Value.int .i64 x.dep) from rfl)) hvN h
        have n3 : ∀ W, SX (wr.alloc (.cells #[.string x.f, .string x.t, .int .i64 x.dep, .int .i64 x.arr, .string x.eq] legT)) v W → W.cell? ⟨wr.heap.size, 3, none⟩ = some (Value.int .i64 x.arr) := fun W h => SX.cell ((cells_new wr #[.string x.f, .string x.t, .int .i64 x.dep, .int .i64 x.arr, .string x.eq] legT 3).trans (show _ = some (Value.int .i64 x.arr) from rfl)) hvN h
        have n4 : ∀ W, SX (wr.alloc (.cells #[.string x.f, .string x.t, .int .i64 x.dep, .int .i64 x.arr, .string x.eq] legT)) v W → W.cell? ⟨wr.heap.size, 4, none⟩ = some (Value.string x.eq) := fun W h => SX.cell ((cells_new wr #[.string x.f, .string x.t, .int .i64 x.dep, .int .i64 x.arr, .string x.eq] legT 4).trans (show _ = some (Value.string x.eq) from rfl)) hvN h
        have KD2 : Hid (∀ W, SX (wr.alloc (.cells #[.string x.f, .string x.t, .int .i64 x.dep, .int .i64 x.arr, .string x.eq] legT)) v W → Calls Tryz.prog 56 #[.int .i64 x.dep] W fun e w' => e = .returned (.string (decT x.dep)) ∧ Below W.heap.size W w') := Lib.hid (fun W h => dec_any x.dep W (by omega) (by omega) (HE.out.more (HSW.out W h)))
        have KD3 : Hid (∀ W, SX (wr.alloc (.cells #[.string x.f, .string x.t, .int .i64 x.dep, .int .i64 x.arr, .string x.eq] legT)) v W → Calls Tryz.prog 56 #[.int .i64 x.arr] W fun e w' => e = .returned (.string (decT x.arr)) ∧ Below W.heap.size W w') := Lib.hid (fun W h => dec_any x.arr W (by omega) (by omega) (HE.out.more (HSW.out W h)))
        generalize decT x.dep = sd at *
        generalize decT x.arr = sa at *
        have i2 : (k : Int) < (lg.length : Int) := by omega
        have hO := hO.more (hb6.trans ((Below.refl _ (wr.alloc (.cells #[.string x.f, .string x.t, .int .i64 x.dep, .int .i64 x.arr, .string x.eq] legT))).drew.mono hb6.size))
        clear hx hbl hbd
        go_upto_region 8 with (fail)
        generalize hw6 : wr.alloc (.cells #[.string x.f, .string x.t, .int .i64 x.dep, .int .i64 x.arr, .string x.eq] legT) = w6 at *
        clear hw6 c0 c1 c2 c3 c4
        have hS : (SX w6 v) _ := But.of_below (Below.refl _ _).drew
        refine wp_region_held_drew (S := SX w6 v) (by kernel_rfl) hS (fun _ => ?_)
        refine wpAnyH_take (i := 0) (v := ?vQ0) rfl (by kernel_rfl) (by kernel_rfl) (by kernel_rfl) (fun _ _ _ h => h) (Or.inl ⟨by rfl, ?hyQ0⟩) hS ?restQ0
        case hyQ0 =>
          intro w hSw
          first | (go_simp; done) | (go_simp; with_reducible rfl)
        try simp only [Act.put, List.setIfInBounds_toArray, List.set_cons_zero, List.set_cons_succ]
        refine wpAnyH_take (i := 1) (v := ?vQ1) rfl (by kernel_rfl) (by kernel_rfl) (by kernel_rfl) (fun _ _ _ h => h) (Or.inl ⟨by rfl, ?hyQ1⟩) hS ?restQ1
        case hyQ1 =>
          intro w hSw
          first | (go_simp; done) | (go_simp; with_reducible rfl)
        try simp only [Act.put, List.setIfInBounds_toArray, List.set_cons_zero, List.set_cons_succ]
        refine wpAnyH_take (i := 2) (v := ?vQ2) rfl (by kernel_rfl) (by kernel_rfl) (by kernel_rfl) (fun _ _ _ h => h) (Or.inl ⟨by rfl, ?hyQ2⟩) hS ?restQ2
        case hyQ2 =>
          intro w hSw
          have k0 := n0 w hSw
          first | (go_simp; done) | (go_simp; with_reducible rfl)
        try simp only [Act.put, List.setIfInBounds_toArray, List.set_cons_zero, List.set_cons_succ]
        refine wpAnyH_take (i := 3) (v := ?vQ3) rfl (by kernel_rfl) (by kernel_rfl) (by kernel_rfl) (fun _ _ _ h => h) (Or.inl ⟨by rfl, ?hyQ3⟩) hS ?restQ3
        case hyQ3 =>
          intro w hSw
          first | (go_simp; done) | (go_simp; with_reducible rfl)
        try simp only [Act.put, List.setIfInBounds_toArray, List.set_cons_zero, List.set_cons_succ]
        refine wpAnyH_take (i := 4) (v := ?vQ4) rfl (by kernel_rfl) (by kernel_rfl) (by kernel_rfl) (fun _ _ _ h => h) (Or.inl ⟨by rfl, ?hyQ4⟩) hS ?restQ4
        case hyQ4 =>
          intro w hSw
          have k0 := n1 w hSw
          first | (go_simp; done) | (go_simp; with_reducible rfl)
        try simp only [Act.put, List.setIfInBounds_toArray, List.set_cons_zero, List.set_cons_succ]
        refine wpAnyH_take (i := 5) (v := ?vQ5) rfl (by kernel_rfl) (by kernel_rfl) (by kernel_rfl) (fun _ _ _ h => h) (Or.inl ⟨by rfl, ?hyQ5⟩) hS ?restQ5
        case hyQ5 =>
          intro w hSw
          first | (go_simp; done) | (go_simp; with_reducible rfl)
        try simp only [Act.put, List.setIfInBounds_toArray, List.set_cons_zero, List.set_cons_succ]
        refine wpAnyH_take (i := 6) (v := ?vQ6) rfl (by kernel_rfl) (by kernel_rfl) (by kernel_rfl) (fun _ _ _ h => h) (Or.inl ⟨by rfl, ?hyQ6⟩) hS ?restQ6
        case hyQ6 =>
          intro w hSw
          have k0 := n2 w hSw
          first | (go_simp; done) | (go_simp; with_reducible rfl)
        try simp only [Act.put, List.setIfInBounds_toArray, List.set_cons_zero, List.set_cons_succ]
        refine wpAnyH_take (i := 8) (v := ?vQ8) rfl (by kernel_rfl) (by kernel_rfl) (by kernel_rfl) (fun _ _ _ h => h) (Or.inl ⟨by rfl, ?hyQ8⟩) hS ?restQ8
        case hyQ8 =>
          intro w hSw
          first | (go_simp; done) | (go_simp; with_reducible rfl)
        try simp only [Act.put, List.setIfInBounds_toArray, List.set_cons_zero, List.set_cons_succ]
        refine wpAnyH_take (i := 9) (v := ?vQ9) rfl (by kernel_rfl) (by kernel_rfl) (by kernel_rfl) (fun _ _ _ h => h) (Or.inl ⟨by rfl, ?hyQ9⟩) hS ?restQ9
        case hyQ9 =>
          intro w hSw
          have k0 := n3 w hSw
          first | (go_simp; done) | (go_simp; with_reducible rfl)
        try simp only [Act.put, List.setIfInBounds_toArray, List.set_cons_zero, List.set_cons_succ]
        refine wpAnyH_take (i := 11) (v := ?vQ11) rfl (by kernel_rfl) (by kernel_rfl) (by kernel_rfl) (fun _ _ _ h => h) (Or.inl ⟨by rfl, ?hyQ11⟩) hS ?restQ11
        case hyQ11 =>
          intro w hSw
          first | (go_simp; done) | (go_simp; with_reducible rfl)
        try simp only [Act.put, List.setIfInBounds_toArray, List.set_cons_zero, List.set_cons_succ]
        refine wpAnyH_take (i := 12) (v := ?vQ12) rfl (by kernel_rfl) (by kernel_rfl) (by kernel_rfl) (fun _ _ _ h => h) (Or.inl ⟨by rfl, ?hyQ12⟩) hS ?restQ12
        case hyQ12 =>
          intro w hSw
          have k0 := n4 w hSw
          first | (go_simp; done) | (go_simp; with_reducible rfl)
        try simp only [Act.put, List.setIfInBounds_toArray, List.set_cons_zero, List.set_cons_succ]
        refine wpAnyH_ready (rs := [7]) (by kernel_rfl) (by simp) ?_
        refine AllReadyH.cons rfl (fun K hK => ?_) AllReadyH.nil
        go_simp
        go_wp2_with ((go_at_call 56; with_reducible refine (KD2.out _ hS).mono ?_; rintro e w' ⟨rfl, hb'⟩; have hO := hO.more hb'; have hS := hS.on hb'))
        refine hK.out _ _ hS (fun _ => ?_)
        clear hK K
        refine wpAnyH_ready (rs := [10]) (by kernel_rfl) (by simp) ?_
        refine AllReadyH.cons rfl (fun K hK => ?_) AllReadyH.nil
        go_simp
        go_wp2_with ((go_at_call 56; with_reducible refine (KD3.out _ hS).mono ?_; rintro e w' ⟨rfl, hb'⟩; have hO := hO.more hb'; have hS := hS.on hb'))
        refine hK.out _ _ hS (fun _ => ?_)
        clear hK K
        refine wpAnyH_ready (rs := [13]) (by kernel_rfl) (by simp) ?_
        refine AllReadyH.cons rfl (fun K hK => ?_) AllReadyH.nil
        go_simp
        have hSp := hS
        have hS := hS.on (bel_alloc _ (.cells #[.string x.f, .string x.t, .string sd, .string sa, .string x.eq] 9))
        refine hK.out _ _ hS (fun _ => ?_)
        clear hK K
        refine wpAnyH_ready (rs := [14]) (by kernel_rfl) (by simp) ?_
        refine AllReadyH.cons rfl (fun K hK => ?_) AllReadyH.nil
        refine step_rapps rtS rfl _ _ rfl (hO.alloc (.cells #[.string x.f, .string x.t, .string sd, .string sa, .string x.eq] 9)) rfl w'.heap.size 0 [x.f, x.t, sd, sa, x.eq] 5 _ rfl rfl (by omega) (fun i y j u hi hu => ?_) HLn.out ?_
        · exact five_cells w' _ _ _ _ _ _ i y j u hi hu
        intro v8 w8 hO8 hC8
        go_simp
        have hS := hS.trans hC8.but (fun _ _ h => h)
        refine hK.out _ _ hS (fun _ => ?_)
        clear hK K
        refine wpAnyH_take (i := 15) (v := ?vQ15) rfl (by kernel_rfl) (by kernel_rfl) (by kernel_rfl) (fun _ _ _ h => h) (Or.inl ⟨by rfl, ?hyQ15⟩) hS ?restQ15
        case hyQ15 =>
          intro w hSw
          first | (go_simp; done) | (go_simp; with_reducible rfl)
        try simp only [Act.put, List.setIfInBounds_toArray, List.set_cons_zero, List.set_cons_succ]
        refine wpAnyH_done (by kernel_rfl) ?_ _
        simp only [List.getElem_toArray, List.getElem_cons_succ, List.getElem_cons_zero, List.set_cons_zero, List.set_cons_succ]
        have HY : Hid (ROwn 9 1 encS w5.heap.size w8 v8 (PW (k + 1)) ∧ SW w5 w8) := Lib.hid ⟨by rw [HTk.out]; exact hO8, HSW.out _ hS⟩
        clear hO8 hC8 hS hSp hO
        go_wp2
        go_roundg (lg.length - (k + 1))
        case measure => have := HKX.out; omega
        case rel => exact ⟨_, k + 1, rfl, by go_num, by omega, HY⟩
      · have hk : k = lg.length := by omega
        have hO := HH.out.1
        rw [hk] at hO
        have hv := RowL.strL (hO.rowL rtS.len)
        have HLn : Hid ((PW lg.length).length ≤ 2000) := Lib.hid (by have := HLE.out lg.length; omega)
        have KJ := Lib.hid (join_any v (PW lg.length) wr hv HLn.out HS.out)
        have hSw : Below w.heap.size w wr := hb0.trans (Below.mono hSr hb0.size)
        rw [← HPT.out] at KJ
        have i1 : ¬ (k : Int) < (lg.length : Int) := by omega
        clear HH hkx hk hO hv
        go_wp2_with (go_at_call 81; refine KJ.out.mono ?_; rintro e w9 ⟨rfl, hb9⟩)
        exact bodyPost_ret (results_tmp2 rfl _ _ _) rfl ⟨by rw [HR.out]; rfl, hSw.trans (Below.mono hb9 hSw.size)⟩

end Go.Proofs.YtfgmlbmjjihhfaaGreatDoor

/- Walk of Legs. -/
namespace Go.Proofs.YtfgmlbmjjihhfaaGreatDoor
open Go.RowKit Go.Shelf
set_option linter.unusedSimpArgs false
set_option linter.unusedVariables false

/-- a leg on a day -/
structure Dt where
  car : ByteArray
  num : Int
  day : Int
  f : ByteArray
  t : ByteArray
  dep : Int
  arr : Int
  eq : ByteArray
abbrev datT : TypeId := 45
def encDt (d : Dt) : List Value := [.string d.car, .int .i64 d.num, .int .i64 d.day, .string d.f, .string d.t, .int .i64 d.dep, .int .i64 d.arr, .string d.eq]
theorem rtD : RT Tryz.prog 37 datT 8 encDt where
  ht := Tryz.underlying37
  info := ⟨.agg #[.string noB, .int .i64 0, .int .i64 0, .string noB, .string noB, .int .i64 0, .int .i64 0, .string noB], 96, by kernel_rfl, rfl, by omega⟩
  len x := rfl
  one x u hu := by simp [encDt] at hu; rcases hu with rfl | rfl | rfl | rfl | rfl | rfl | rfl | rfl <;> rfl
  pos := by omega
def datL (l : List Air) (f : FV) (day : Int) (x : Lg) : Dt := ⟨f.car, f.num, day, x.f, x.t, depL l x day, arrL l x day, x.eq⟩
def legE (f : FV) (day : Int) : Int := if Per.hasQ (f.pf, f.pt, f.pd) day then 0 else 12
def legF (l : List Air) (f : FV) (day : Int) : List Dt := if Per.hasQ (f.pf, f.pt, f.pd) day then f.lg.map (datL l f day) else []
theorem has_bd {q : Int × Int × Int} {d : Int} (h : Per.hasQ q d = true) : 0 ≤ d ∧ d < 36525 := days_bd ((Per.daysQ_mem _ _).2 h)

set_option maxRecDepth 100000 in
set_option maxHeartbeats 8000000 in
theorem legs_any (p : PV) (f : FV) (day : Int) (w : World) (hl : p.l.length ≤ 40) (hL : AirL w p.A p.l) (hs : ∀ a ∈ p.l, a.shs.length ≤ 300) (hz : ∀ a ∈ p.l, OkZ a.off a.shs) (hG : LegL w (.slice f.A f.lg.length f.c) f.lg) (hn : f.lg.length ≤ 100)
    (hm : ∀ x ∈ f.lg, (-1000000 ≤ x.dep ∧ x.dep ≤ 1000000) ∧ -1000000 ≤ x.arr ∧ x.arr ≤ 1000000) (hd1 : -9223372036854775808 ≤ day) (hd2 : day ≤ 9223372036854775807) :
    Calls Tryz.prog 20 #[encP p, encFl f, .int .i64 day] w fun e w' => ∃ v, e = .returned (.tuple #[v, .int .i64 (legE f day)]) ∧ ROwn datT 8 encDt w.heap.size w' v (legF p.l f day) ∧ Below w.heap.size w w' := by
  have hb1 := bel_alloc w (.cells #[.slice p.A p.l.length p.ca, .slice p.D p.ds.length p.cd] placesT)
  have hb2 := bel_alloc (w.alloc (.cells #[.slice p.A p.l.length p.ca, .slice p.D p.ds.length p.cd] placesT)) (.cells #[.string f.car, .int .i64 f.num, .int .i64 f.pf, .int .i64 f.pt, .int .i64 f.pd, .slice f.A f.lg.length f.c] fliT)
  have hb0 := hb1.trans (hb2.mono hb1.size)
  have p0 := bel_cell hb2 ((cells_new w #[.slice p.A p.l.length p.ca, .slice p.D p.ds.length p.cd] placesT 0).trans (show _ = some (.slice p.A p.l.length p.ca) from rfl))
  have p1 := bel_cell hb2 ((cells_new w #[.slice p.A p.l.length p.ca, .slice p.D p.ds.length p.cd] placesT 1).trans (show _ = some (.slice p.D p.ds.length p.cd) from rfl))
  have q0 := (cells_new (w.alloc (.cells #[.slice p.A p.l.length p.ca, .slice p.D p.ds.length p.cd] placesT)) #[.string f.car, .int .i64 f.num, .int .i64 f.pf, .int .i64 f.pt, .int .i64 f.pd, .slice f.A f.lg.length f.c] fliT 0).trans (show _ = some (.string f.car) from rfl)
  have q1 := (cells_new (w.alloc (.cells #[.slice p.A p.l.length p.ca, .slice p.D p.ds.length p.cd] placesT)) #[.string f.car, .int .i64 f.num, .int .i64 f.pf, .int .i64 f.pt, .int .i64 f.pd, .slice f.A f.lg.length f.c] fliT 1).trans (show _ = some (.int .i64 f.num) from rfl)
  have q5 := (cells_new (w.alloc (.cells #[.slice p.A p.l.length p.ca, .slice p.D p.ds.length p.cd] placesT)) #[.string f.car, .int .i64 f.num, .int .i64 f.pf, .int .i64 f.pt, .int .i64 f.pd, .slice f.A f.lg.length f.c] fliT 5).trans (show _ = some (.slice f.A f.lg.length f.c) from rfl)
  rw [World.size_alloc] at q0 q1 q5
  have HZ := Lib.hid hz
  have HM := Lib.hid hm
  have KH := Lib.hid (fun w => Per.has_any f.pf f.pt f.pd day w hd1 hd2)
  cases hh : Per.hasQ (f.pf, f.pt, f.pd) day with
  | false =>
    have HE : Hid (legE f day = 12 ∧ legF p.l f day = []) := Lib.hid ⟨by rw [legE, hh]; rfl, by rw [legF, hh]; rfl⟩
    rw [hh] at KH
    clear hh hz hm
    go_enter Tryz.func20, Tryz.ntmps20
    go_wp2_with (go_at_call 71; refine (KH.out _).mono ?_; rintro e w1 ⟨rfl, hbh⟩)
    have h1 := hb0.trans (Below.mono hbh hb0.size)
    exact bodyPost_ret (results_tmp2 rfl _ _ _) rfl ⟨_, by rw [HE.out.1]; rfl, by rw [HE.out.2]; exact ROwn.nil h1.size, h1⟩
  | true =>
    have hdb := has_bd hh
    have HE : Hid (legE f day = 0 ∧ legF p.l f day = f.lg.map (datL p.l f day)) := Lib.hid ⟨by rw [legE, hh]; rfl, by rw [legF, hh]; rfl⟩
    rw [hh] at KH
    have KN := Lib.hid (fun w hA hG => nonstops_any p f.A f.c f.lg w hl hA hs hG hn)
    have HL := Lib.hid (hL.more hb0)
    have HG := Lib.hid (hG.more hb0)
    have HD := Lib.hid hdb
    clear hh hz hm hL hG hd1 hd2 hdb
    go_enter Tryz.func20, Tryz.ntmps20
    go_wp2_with (first | (go_at_call 72; refine (KN.out _ (HL.out.more hbh) (HG.out.more hbh)).mono ?_; rintro e w2 ⟨v1, N1, rfl, hv1, hLn, hN, hbn⟩; obtain ⟨A1, c1, rfl, hvc⟩ := id (hv1.rowL rtN.len); rw [hLn]) | (go_at_call 71; refine (KH.out _).mono ?_; rintro e w1 ⟨rfl, hbh⟩; have r0 := bel_cell hbh p0; have r1 := bel_cell hbh p1; have r5 := bel_cell hbh q5))
    have hS0 : Below w.heap.size w w2 := hb0.trans ((hbh.mono hb0.size).trans (hbn.mono (Nat.le_trans hb0.size hbh.size)))
    have HV := Lib.hid (hv1.rowL rtN.len)
    have HN := Lib.hid hN
    have HLn := Lib.hid hLn
    have c0 := bel_cell hbn (bel_cell hbh q0)
    have c1' := bel_cell hbn (bel_cell hbh q1)
    have hsz : w.heap.size + 2 ≤ w2.heap.size := by have h1 := hbh.size; have h2 := hbn.size; rw [World.size_alloc, World.size_alloc] at h1; omega
    have HNil : Hid (ROwn datT 8 encDt w2.heap.size w2 (.slice none 0 0) []) := Lib.hid (ROwn.nil (Nat.le_refl _))
    clear hv1 hN hLn hvc KN KH q0 q1 q5 p0 p1 r0 r1 r5
    go_loopg [8, 21] f.lg.length (fun kx v8 vi wr => ∃ (v : Value) (k : Nat), v = v8 ∧ vi = .int .i64 k ∧ k + kx = f.lg.length ∧ Hid (ROwn datT 8 encDt w2.heap.size wr v ((f.lg.take k).map (datL p.l f day)) ∧ SW w2 wr))
    case atStart => exact ⟨_, 0, rfl, rfl, by omega, Lib.hid ⟨HNil.out, Below.refl _ _⟩⟩
    case round =>
      obtain ⟨v, k, rfl, rfl, hkx, HH⟩ := hrel
      clear HNil
      have HKX := Lib.hid hkx
      have hSr : SW w2 wr := HH.out.2
      by_cases hlt : k < f.lg.length
      · clear hkx
        obtain ⟨x, hx⟩ : ∃ x, f.lg[k]? = some x := ⟨_, List.getElem?_eq_getElem hlt⟩
        obtain ⟨b, o, n, e1, hbl, hnk, hc⟩ := RowL.get9 (HV.out.more hSr) (show k < N1.length by have := HLn.out; omega)
        cases e1
        have hns := HN.out k x n hx hnk
        have hzf := okZ_of HZ.out x.f
        have hzt := okZ_of HZ.out x.t
        have hmx := HM.out x (List.mem_of_getElem? hx)
        have hdb := HD.out
        obtain ⟨dd, hdd⟩ : ∃ dd, dd = utcZ n.fo n.fs (day * 1440 + n.x.dep) := ⟨_, rfl⟩
        obtain ⟨aa, haa⟩ : ∃ aa, aa = utcZ n.ti n.ts (day * 1440 + n.x.arr) := ⟨_, rfl⟩
        have HX : Hid (datL p.l f day x = (⟨f.car, f.num, day, n.x.f, n.x.t, dd, aa, n.x.eq⟩ : Dt)) := Lib.hid (by unfold datL depL arrL; rw [hdd, haa, hns.fo, hns.fs, hns.ti, hns.ts, hns.ex])
        have HTk : Hid ((f.lg.take (k + 1)).map (datL p.l f day) = (f.lg.take k).map (datL p.l f day) ++ [(⟨f.car, f.num, day, n.x.f, n.x.t, dd, aa, n.x.eq⟩ : Dt)]) := Lib.hid (by
          rw [List.take_add_one, hx, List.map_append, ← HX.out]; rfl)
        have hO := HH.out.1
        have HLL : Hid (((f.lg.take k).map (datL p.l f day)).length ≤ 100000000) := Lib.hid (by have := List.length_take_le k f.lg; rw [List.length_map]; omega)
        have HV1 : Hid (∀ g, v.ownBlock = some g → w2.heap.size ≤ g ∧ g < wr.heap.size) := Lib.hid (fun g hg => hO.low hg)
        have hvf : v.ownBlock ≠ some (w.heap.size + 1) := fun h => by have := (HV1.out _ h).1; omega
        have hvn : v.ownBlock ≠ some wr.heap.size := fun h => by have := (HV1.out _ h).2; omega
        have hb6 := bel_alloc wr (.cells (encNS n).toArray nonT)
        have g0 : ∀ W, SX (wr.alloc (.cells (encNS n).toArray nonT)) v W → W.cell? ⟨w.heap.size + 1, 0, none⟩ = some (.string f.car) := fun W h => SX.cell (bel_cell hb6 (bel_cell hSr c0)) hvf h
        have g1 : ∀ W, SX (wr.alloc (.cells (encNS n).toArray nonT)) v W → W.cell? ⟨w.heap.size + 1, 1, none⟩ = some (.int .i64 f.num) := fun W h => SX.cell (bel_cell hb6 (bel_cell hSr c1')) hvf h
        have n0 : ∀ W, SX (wr.alloc (.cells (encNS n).toArray nonT)) v W → W.cell? ⟨wr.heap.size, 0, none⟩ = some (Value.string n.x.f) := fun W h => SX.cell ((cells_new wr (encNS n).toArray nonT 0).trans (show _ = some (Value.string n.x.f) from rfl)) hvn h
        have n1 : ∀ W, SX (wr.alloc (.cells (encNS n).toArray nonT)) v W → W.cell? ⟨wr.heap.size, 1, none⟩ = some (Value.string n.x.t) := fun W h => SX.cell ((cells_new wr (encNS n).toArray nonT 1).trans (show _ = some (Value.string n.x.t) from rfl)) hvn h
        have n2 : ∀ W, SX (wr.alloc (.cells (encNS n).toArray nonT)) v W → W.cell? ⟨wr.heap.size, 2, none⟩ = some (Value.int .i64 n.x.dep) := fun W h => SX.cell ((cells_new wr (encNS n).toArray nonT 2).trans (show _ = some (Value.int .i64 n.x.dep) from rfl)) hvn h
        have n3 : ∀ W, SX (wr.alloc (.cells (encNS n).toArray nonT)) v W → W.cell? ⟨wr.heap.size, 3, none⟩ = some (Value.int .i64 n.x.arr) := fun W h => SX.cell ((cells_new wr (encNS n).toArray nonT 3).trans (show _ = some (Value.int .i64 n.x.arr) from rfl)) hvn h
        have n4 : ∀ W, SX (wr.alloc (.cells (encNS n).toArray nonT)) v W → W.cell? ⟨wr.heap.size, 4, none⟩ = some (Value.string n.x.eq) := fun W h => SX.cell ((cells_new wr (encNS n).toArray nonT 4).trans (show _ = some (Value.string n.x.eq) from rfl)) hvn h
        have n5 : ∀ W, SX (wr.alloc (.cells (encNS n).toArray nonT)) v W → W.cell? ⟨wr.heap.size, 5, none⟩ = some (Value.int .i64 n.fo) := fun W h => SX.cell ((cells_new wr (encNS n).toArray nonT 5).trans (show _ = some (Value.int .i64 n.fo) from rfl)) hvn h
        have n6 : ∀ W, SX (wr.alloc (.cells (encNS n).toArray nonT)) v W → W.cell? ⟨wr.heap.size, 6, none⟩ = some (Value.slice n.fA n.fs.length n.fc) := fun W h => SX.cell ((cells_new wr (encNS n).toArray nonT 6).trans (show _ = some (Value.slice n.fA n.fs.length n.fc) from rfl)) hvn h
        have n7 : ∀ W, SX (wr.alloc (.cells (encNS n).toArray nonT)) v W → W.cell? ⟨wr.heap.size, 7, none⟩ = some (Value.int .i64 n.ti) := fun W h => SX.cell ((cells_new wr (encNS n).toArray nonT 7).trans (show _ = some (Value.int .i64 n.ti) from rfl)) hvn h
        have n8 : ∀ W, SX (wr.alloc (.cells (encNS n).toArray nonT)) v W → W.cell? ⟨wr.heap.size, 8, none⟩ = some (Value.slice n.tA n.ts.length n.tc) := fun W h => SX.cell ((cells_new wr (encNS n).toArray nonT 8).trans (show _ = some (Value.slice n.tA n.ts.length n.tc) from rfl)) hvn h
        have HSW : Hid (∀ W, SX (wr.alloc (.cells (encNS n).toArray nonT)) v W → Below w2.heap.size w2 W) := Lib.hid (fun W h => Below.trans hSr (((hb6.mono hSr.size)).trans (h.below (Nat.le_trans hSr.size hb6.size) (fun k' hk' hv => by have := (HV1.out _ hv).1; omega))))
        have K1 : Hid (∀ W, SX (wr.alloc (.cells (encNS n).toArray nonT)) v W → Calls Tryz.prog 73 #[encN n, .int .i64 day] W fun e w' => e = .returned (.int .i64 dd) ∧ Below W.heap.size W w') :=
          Lib.hid (fun W hW => by rw [hdd]; exact departure_any n day W (by rw [hns.fo, hns.fs]; exact hzf) (hns.shf.1.more (HSW.out W hW)) (by omega) (by rw [hns.ex]; exact hmx.1))
        have K2 : Hid (∀ W, SX (wr.alloc (.cells (encNS n).toArray nonT)) v W → Calls Tryz.prog 74 #[encN n, .int .i64 day] W fun e w' => e = .returned (.int .i64 aa) ∧ Below W.heap.size W w') :=
          Lib.hid (fun W hW => by rw [haa]; exact arrival_any n day W (by rw [hns.ti, hns.ts]; exact hzt) (hns.sht.1.more (HSW.out W hW)) (by omega) (by rw [hns.ex]; exact hmx.2))
        have i2 : (k : Int) < (f.lg.length : Int) := by omega
        have z0 := hc 0 _ rfl
        have z1 := hc 1 _ rfl
        have z2 := hc 2 _ rfl
        have z3 := hc 3 _ rfl
        have z4 := hc 4 _ rfl
        have z5 := hc 5 _ rfl
        have z6 := hc 6 _ rfl
        have z7 := hc 7 _ rfl
        have z8 := hc 8 _ rfl
        rw [Nat.add_zero] at z0
        have hO := hO.more (hb6.trans ((Below.refl _ (wr.alloc (.cells (encNS n).toArray nonT))).drew.mono hb6.size))
        clear hns hx hnk hc hzf hzt hmx hdd haa hdb HX
        unfold encNS at *
        go_upto_region 7 with (fail)
        generalize hw6 : wr.alloc (.cells [.string n.x.f, .string n.x.t, .int .i64 n.x.dep, .int .i64 n.x.arr, .string n.x.eq, .int .i64 n.fo, .slice n.fA n.fs.length n.fc, .int .i64 n.ti, .slice n.tA n.ts.length n.tc].toArray nonT) = w6 at *
        have hS : (SX w6 v) _ := But.of_below (Below.refl _ _).drew
        refine wp_region_held_drew (S := SX w6 v) (by kernel_rfl) hS (fun _ => ?_)
        refine wpAnyH_take (i := 0) (v := ?vL0) rfl (by kernel_rfl) (by kernel_rfl) (by kernel_rfl) (fun _ _ _ h => h) (Or.inl ⟨by rfl, ?hyL0⟩) hS ?restL0
        case hyL0 =>
          intro w hSw
          first | (go_simp; done) | (go_simp; with_reducible rfl)
        try simp only [Act.put, List.setIfInBounds_toArray, List.set_cons_zero, List.set_cons_succ]
        refine wpAnyH_take (i := 1) (v := ?vL1) rfl (by kernel_rfl) (by kernel_rfl) (by kernel_rfl) (fun _ _ _ h => h) (Or.inl ⟨by rfl, ?hyL1⟩) hS ?restL1
        case hyL1 =>
          intro w hSw
          first | (go_simp; done) | (go_simp; with_reducible rfl)
        try simp only [Act.put, List.setIfInBounds_toArray, List.set_cons_zero, List.set_cons_succ]
        refine wpAnyH_take (i := 2) (v := ?vL2) rfl (by kernel_rfl) (by kernel_rfl) (by kernel_rfl) (fun _ _ _ h => h) (Or.inl ⟨by rfl, ?hyL2⟩) hS ?restL2
        case hyL2 =>
          intro w hSw
          have k0 := g0 w hSw; have k1 := g1 w hSw; have k2 := n0 w hSw; have k3 := n1 w hSw; have k4 := n2 w hSw; have k5 := n3 w hSw; have k6 := n4 w hSw; have k7 := n5 w hSw; have k8 := n6 w hSw; have k9 := n7 w hSw; have k10 := n8 w hSw
          first | (go_simp; done) | (go_simp; with_reducible rfl)
        try simp only [Act.put, List.setIfInBounds_toArray, List.set_cons_zero, List.set_cons_succ]
        refine wpAnyH_take (i := 3) (v := ?vL3) rfl (by kernel_rfl) (by kernel_rfl) (by kernel_rfl) (fun _ _ _ h => h) (Or.inl ⟨by rfl, ?hyL3⟩) hS ?restL3
        case hyL3 =>
          intro w hSw
          first | (go_simp; done) | (go_simp; with_reducible rfl)
        try simp only [Act.put, List.setIfInBounds_toArray, List.set_cons_zero, List.set_cons_succ]
        refine wpAnyH_take (i := 4) (v := ?vL4) rfl (by kernel_rfl) (by kernel_rfl) (by kernel_rfl) (fun _ _ _ h => h) (Or.inl ⟨by rfl, ?hyL4⟩) hS ?restL4
        case hyL4 =>
          intro w hSw
          have k0 := g0 w hSw; have k1 := g1 w hSw; have k2 := n0 w hSw; have k3 := n1 w hSw; have k4 := n2 w hSw; have k5 := n3 w hSw; have k6 := n4 w hSw; have k7 := n5 w hSw; have k8 := n6 w hSw; have k9 := n7 w hSw; have k10 := n8 w hSw
          first | (go_simp; done) | (go_simp; with_reducible rfl)
        try simp only [Act.put, List.setIfInBounds_toArray, List.set_cons_zero, List.set_cons_succ]
        refine wpAnyH_take (i := 5) (v := ?vL5) rfl (by kernel_rfl) (by kernel_rfl) (by kernel_rfl) (fun _ _ _ h => h) (Or.inl ⟨by rfl, ?hyL5⟩) hS ?restL5
        case hyL5 =>
          intro w hSw
          first | (go_simp; done) | (go_simp; with_reducible rfl)
        try simp only [Act.put, List.setIfInBounds_toArray, List.set_cons_zero, List.set_cons_succ]
        refine wpAnyH_take (i := 6) (v := ?vL6) rfl (by kernel_rfl) (by kernel_rfl) (by kernel_rfl) (fun _ _ _ h => h) (Or.inl ⟨by rfl, ?hyL6⟩) hS ?restL6
        case hyL6 =>
          intro w hSw
          first | (go_simp; done) | (go_simp; with_reducible rfl)
        try simp only [Act.put, List.setIfInBounds_toArray, List.set_cons_zero, List.set_cons_succ]
        refine wpAnyH_take (i := 7) (v := ?vL7) rfl (by kernel_rfl) (by kernel_rfl) (by kernel_rfl) (fun _ _ _ h => h) (Or.inl ⟨by rfl, ?hyL7⟩) hS ?restL7
        case hyL7 =>
          intro w hSw
          first | (go_simp; done) | (go_simp; with_reducible rfl)
        try simp only [Act.put, List.setIfInBounds_toArray, List.set_cons_zero, List.set_cons_succ]
        refine wpAnyH_take (i := 8) (v := ?vL8) rfl (by kernel_rfl) (by kernel_rfl) (by kernel_rfl) (fun _ _ _ h => h) (Or.inl ⟨by rfl, ?hyL8⟩) hS ?restL8
        case hyL8 =>
          intro w hSw
          have k0 := g0 w hSw; have k1 := g1 w hSw; have k2 := n0 w hSw; have k3 := n1 w hSw; have k4 := n2 w hSw; have k5 := n3 w hSw; have k6 := n4 w hSw; have k7 := n5 w hSw; have k8 := n6 w hSw; have k9 := n7 w hSw; have k10 := n8 w hSw
          first | (go_simp; done) | (go_simp; with_reducible rfl)
        try simp only [Act.put, List.setIfInBounds_toArray, List.set_cons_zero, List.set_cons_succ]
        refine wpAnyH_take (i := 9) (v := ?vL9) rfl (by kernel_rfl) (by kernel_rfl) (by kernel_rfl) (fun _ _ _ h => h) (Or.inl ⟨by rfl, ?hyL9⟩) hS ?restL9
        case hyL9 =>
          intro w hSw
          first | (go_simp; done) | (go_simp; with_reducible rfl)
        try simp only [Act.put, List.setIfInBounds_toArray, List.set_cons_zero, List.set_cons_succ]
        refine wpAnyH_take (i := 10) (v := ?vL10) rfl (by kernel_rfl) (by kernel_rfl) (by kernel_rfl) (fun _ _ _ h => h) (Or.inl ⟨by rfl, ?hyL10⟩) hS ?restL10
        case hyL10 =>
          intro w hSw
          first | (go_simp; done) | (go_simp; with_reducible rfl)
        try simp only [Act.put, List.setIfInBounds_toArray, List.set_cons_zero, List.set_cons_succ]
        refine wpAnyH_take (i := 11) (v := ?vL11) rfl (by kernel_rfl) (by kernel_rfl) (by kernel_rfl) (fun _ _ _ h => h) (Or.inl ⟨by rfl, ?hyL11⟩) hS ?restL11
        case hyL11 =>
          intro w hSw
          have k0 := g0 w hSw; have k1 := g1 w hSw; have k2 := n0 w hSw; have k3 := n1 w hSw; have k4 := n2 w hSw; have k5 := n3 w hSw; have k6 := n4 w hSw; have k7 := n5 w hSw; have k8 := n6 w hSw; have k9 := n7 w hSw; have k10 := n8 w hSw
          first | (go_simp; done) | (go_simp; with_reducible rfl)
        try simp only [Act.put, List.setIfInBounds_toArray, List.set_cons_zero, List.set_cons_succ]
        refine wpAnyH_take (i := 12) (v := ?vL12) rfl (by kernel_rfl) (by kernel_rfl) (by kernel_rfl) (fun _ _ _ h => h) (Or.inl ⟨by rfl, ?hyL12⟩) hS ?restL12
        case hyL12 =>
          intro w hSw
          have k0 := g0 w hSw; have k1 := g1 w hSw; have k2 := n0 w hSw; have k3 := n1 w hSw; have k4 := n2 w hSw; have k5 := n3 w hSw; have k6 := n4 w hSw; have k7 := n5 w hSw; have k8 := n6 w hSw; have k9 := n7 w hSw; have k10 := n8 w hSw
          first | (go_simp; done) | (go_simp; with_reducible rfl)
        try simp only [Act.put, List.setIfInBounds_toArray, List.set_cons_zero, List.set_cons_succ]
        refine wpAnyH_take (i := 13) (v := ?vL13) rfl (by kernel_rfl) (by kernel_rfl) (by kernel_rfl) (fun _ _ _ h => h) (Or.inl ⟨by rfl, ?hyL13⟩) hS ?restL13
        case hyL13 =>
          intro w hSw
          first | (go_simp; done) | (go_simp; with_reducible rfl)
        try simp only [Act.put, List.setIfInBounds_toArray, List.set_cons_zero, List.set_cons_succ]
        refine wpAnyH_take (i := 15) (v := ?vL15) rfl (by kernel_rfl) (by kernel_rfl) (by kernel_rfl) (fun _ _ _ h => h) (Or.inl ⟨by rfl, ?hyL15⟩) hS ?restL15
        case hyL15 =>
          intro w hSw
          have k0 := g0 w hSw; have k1 := g1 w hSw; have k2 := n0 w hSw; have k3 := n1 w hSw; have k4 := n2 w hSw; have k5 := n3 w hSw; have k6 := n4 w hSw; have k7 := n5 w hSw; have k8 := n6 w hSw; have k9 := n7 w hSw; have k10 := n8 w hSw
          first | (go_simp; done) | (go_simp; with_reducible rfl)
        try simp only [Act.put, List.setIfInBounds_toArray, List.set_cons_zero, List.set_cons_succ]
        refine wpAnyH_take (i := 16) (v := ?vL16) rfl (by kernel_rfl) (by kernel_rfl) (by kernel_rfl) (fun _ _ _ h => h) (Or.inl ⟨by rfl, ?hyL16⟩) hS ?restL16
        case hyL16 =>
          intro w hSw
          first | (go_simp; done) | (go_simp; with_reducible rfl)
        try simp only [Act.put, List.setIfInBounds_toArray, List.set_cons_zero, List.set_cons_succ]
        refine wpAnyH_take (i := 18) (v := ?vL18) rfl (by kernel_rfl) (by kernel_rfl) (by kernel_rfl) (fun _ _ _ h => h) (Or.inl ⟨by rfl, ?hyL18⟩) hS ?restL18
        case hyL18 =>
          intro w hSw
          first | (go_simp; done) | (go_simp; with_reducible rfl)
        try simp only [Act.put, List.setIfInBounds_toArray, List.set_cons_zero, List.set_cons_succ]
        refine wpAnyH_take (i := 19) (v := ?vL19) rfl (by kernel_rfl) (by kernel_rfl) (by kernel_rfl) (fun _ _ _ h => h) (Or.inl ⟨by rfl, ?hyL19⟩) hS ?restL19
        case hyL19 =>
          intro w hSw
          first | (go_simp; done) | (go_simp; with_reducible rfl)
        try simp only [Act.put, List.setIfInBounds_toArray, List.set_cons_zero, List.set_cons_succ]
        refine wpAnyH_take (i := 20) (v := ?vL20) rfl (by kernel_rfl) (by kernel_rfl) (by kernel_rfl) (fun _ _ _ h => h) (Or.inl ⟨by rfl, ?hyL20⟩) hS ?restL20
        case hyL20 =>
          intro w hSw
          have k0 := g0 w hSw; have k1 := g1 w hSw; have k2 := n0 w hSw; have k3 := n1 w hSw; have k4 := n2 w hSw; have k5 := n3 w hSw; have k6 := n4 w hSw; have k7 := n5 w hSw; have k8 := n6 w hSw; have k9 := n7 w hSw; have k10 := n8 w hSw
          first | (go_simp; done) | (go_simp; with_reducible rfl)
        try simp only [Act.put, List.setIfInBounds_toArray, List.set_cons_zero, List.set_cons_succ]
        refine wpAnyH_ready (rs := [14]) (by kernel_rfl) (by simp) ?_
        refine AllReadyH.cons rfl (fun K hK => ?_) AllReadyH.nil
        go_simp
        go_wp2_with ((go_at_call 73; refine (K1.out _ hS).mono ?_; rintro e w' ⟨rfl, hb'⟩; have hO := hO.more hb'; have hS := hS.on hb'))
        refine hK.out _ _ hS (fun _ => ?_)
        clear hK K
        refine wpAnyH_ready (rs := [17]) (by kernel_rfl) (by simp) ?_
        refine AllReadyH.cons rfl (fun K hK => ?_) AllReadyH.nil
        go_simp
        go_wp2_with ((go_at_call 74; refine (K2.out _ hS).mono ?_; rintro e w' ⟨rfl, hb'⟩; have hO := hO.more hb'; have hS := hS.on hb'))
        refine hK.out _ _ hS (fun _ => ?_)
        clear hK K
        refine wpAnyH_take (i := 21) (v := ?vL21) rfl (by kernel_rfl) (by kernel_rfl) (by kernel_rfl) (fun _ _ _ h => h) (Or.inl ⟨by rfl, ?hyL21⟩) hS ?restL21
        case hyL21 =>
          intro w hSw
          first | (go_simp; done) | (go_simp; with_reducible rfl)
        try simp only [Act.put, List.setIfInBounds_toArray, List.set_cons_zero, List.set_cons_succ]
        refine wpAnyH_ready (rs := [22]) (by kernel_rfl) (by simp) ?_
        refine AllReadyH.cons rfl (fun K hK => ?_) AllReadyH.nil
        go_simp
        have hSp := hS
        have hS := hS.on (bel_alloc _ (.cells #[.string f.car, .int .i64 f.num, .int .i64 day, .string n.x.f, .string n.x.t, .int .i64 dd, .int .i64 aa, .string n.x.eq] datT))
        refine hK.out _ _ hS (fun _ => ?_)
        clear hK K
        refine wpAnyH_ready (rs := [23]) (by kernel_rfl) (by simp) ?_
        refine AllReadyH.cons rfl (fun K hK => ?_) AllReadyH.nil
        refine step_rapp rtD rfl _ _ rfl hO rfl (bel_alloc _ _) _ (⟨f.car, f.num, day, n.x.f, n.x.t, dd, aa, n.x.eq⟩ : Dt) _ rfl (cs := #[.string f.car, .int .i64 f.num, .int .i64 day, .string n.x.f, .string n.x.t, .int .i64 dd, .int .i64 aa, .string n.x.eq]) rfl (heap_alloc_new _ _) HLL.out ?_
        intro v8 w8 hO8 hC8
        go_simp
        have hS := hSp.trans hC8.but (fun _ _ h => h)
        refine hK.out _ _ hS (fun _ => ?_)
        clear hK K
        refine wpAnyH_take (i := 24) (v := ?vL24) rfl (by kernel_rfl) (by kernel_rfl) (by kernel_rfl) (fun _ _ _ h => h) (Or.inl ⟨by rfl, ?hyL24⟩) hS ?restL24
        case hyL24 =>
          intro w hSw
          first | (go_simp; done) | (go_simp; with_reducible rfl)
        try simp only [Act.put, List.setIfInBounds_toArray, List.set_cons_zero, List.set_cons_succ]
        refine wpAnyH_done (by kernel_rfl) ?_ _
        simp only [List.getElem_toArray, List.getElem_cons_succ, List.getElem_cons_zero, List.set_cons_zero, List.set_cons_succ]
        have HY : Hid (ROwn datT 8 encDt w2.heap.size w8 v8 ((f.lg.take (k + 1)).map (datL p.l f day)) ∧ SW w2 w8) := Lib.hid ⟨by rw [HTk.out]; exact hO8, HSW.out _ hS⟩
        clear hO8 hC8 hS hSp hO
        go_wp2
        go_roundg (f.lg.length - (k + 1))
        case measure => have := HKX.out; omega
        case rel => exact ⟨_, k + 1, rfl, by go_num, by omega, HY⟩
      · have hk : k = f.lg.length := by omega
        have HR : Hid (ROwn datT 8 encDt w.heap.size wr v (f.lg.map (datL p.l f day)) ∧ Below w.heap.size w wr) := Lib.hid ⟨⟨by
          have h := HH.out.1.own
          rw [hk, List.take_length] at h
          exact h.mono hS0.size, Nat.le_trans hS0.size hSr.size⟩, hS0.trans (Below.mono hSr hS0.size)⟩
        clear HH hkx hk
        go_wp2
        exact bodyPost_ret (results_tmp2 rfl _ _ _) rfl ⟨v, by rw [HE.out.1]; rfl, by rw [HE.out.2]; exact HR.out.1, HR.out.2⟩

end Go.Proofs.YtfgmlbmjjihhfaaGreatDoor

/- Walk of the law's sample. -/
namespace Go.Proofs.YtfgmlbmjjihhfaaGreatDoor
open Go.RowKit Go.Shelf
set_option linter.unusedSimpArgs false
set_option linter.unusedVariables false

def xLHR : ByteArray := ⟨#[76, 72, 82]⟩
def xLGW : ByteArray := ⟨#[76, 71, 87]⟩
def xCDG : ByteArray := ⟨#[67, 68, 71]⟩
def xFCO : ByteArray := ⟨#[70, 67, 79]⟩
def xLON : ByteArray := ⟨#[76, 79, 78]⟩
def xPAR : ByteArray := ⟨#[80, 65, 82]⟩
def xROM : ByteArray := ⟨#[82, 79, 77]⟩
def xNYC : ByteArray := ⟨#[78, 89, 67]⟩
def xGB : ByteArray := ⟨#[71, 66]⟩
def xFR : ByteArray := ⟨#[70, 82]⟩
def xIT : ByteArray := ⟨#[73, 84]⟩
def sL : List Air := [⟨xLHR, xLON, xGB, 0, none, 0, []⟩, ⟨xLGW, xLON, xGB, 0, none, 0, []⟩, ⟨xCDG, xPAR, xFR, 0, none, 0, []⟩, ⟨xFCO, xROM, xIT, 0, none, 0, []⟩]
def sD : List Dst := [⟨xLON, xPAR, 214⟩, ⟨xPAR, xROM, 688⟩]
def sP (a d : Nat) : PV := ⟨some ⟨a, 0, none⟩, 4, sL, some ⟨d, 0, none⟩, 2, sD⟩
def cellsA (l : List Air) : List Value := l.flatMap fun a => [.string a.code, .string a.city, .string a.land, .int .i64 a.off, .slice a.A a.shs.length a.c]
theorem cellsA_at : ∀ (l : List Air) (i : Nat) (a : Air), l[i]? = some a → (cellsA l)[i * 5]? = some (.string a.code) ∧ (cellsA l)[i * 5 + 1]? = some (.string a.city) ∧ (cellsA l)[i * 5 + 2]? = some (.string a.land) ∧ (cellsA l)[i * 5 + 3]? = some (.int .i64 a.off) ∧ (cellsA l)[i * 5 + 4]? = some (.slice a.A a.shs.length a.c)
  | [], i, a, h => by simp at h
  | x :: r, 0, a, h => by simp at h; subst h; simp [cellsA]
  | x :: r, i + 1, a, h => by
    have ih := cellsA_at r i a (by simpa using h)
    have e : cellsA (x :: r) = .string x.code :: .string x.city :: .string x.land :: .int .i64 x.off :: .slice x.A x.shs.length x.c :: cellsA r := by simp [cellsA]
    rw [e, show (i + 1) * 5 = i * 5 + 1 + 1 + 1 + 1 + 1 by omega, show i * 5 + 1 + 1 + 1 + 1 + 1 + 1 = (i * 5 + 1) + 1 + 1 + 1 + 1 + 1 by omega, show i * 5 + 1 + 1 + 1 + 1 + 1 + 2 = (i * 5 + 2) + 1 + 1 + 1 + 1 + 1 by omega, show i * 5 + 1 + 1 + 1 + 1 + 1 + 3 = (i * 5 + 3) + 1 + 1 + 1 + 1 + 1 by omega, show i * 5 + 1 + 1 + 1 + 1 + 1 + 4 = (i * 5 + 4) + 1 + 1 + 1 + 1 + 1 by omega]
    simp only [List.getElem?_cons_succ]
    exact ih
def cellsD (l : List Dst) : List Value := l.flatMap fun a => [.string a.f, .string a.t, .int .i64 a.m]
theorem cellsD_at : ∀ (l : List Dst) (i : Nat) (a : Dst), l[i]? = some a → (cellsD l)[i * 3]? = some (.string a.f) ∧ (cellsD l)[i * 3 + 1]? = some (.string a.t) ∧ (cellsD l)[i * 3 + 2]? = some (.int .i64 a.m)
  | [], i, a, h => by simp at h
  | x :: r, 0, a, h => by simp at h; subst h; simp [cellsD]
  | x :: r, i + 1, a, h => by
    have ih := cellsD_at r i a (by simpa using h)
    have e : cellsD (x :: r) = .string x.f :: .string x.t :: .int .i64 x.m :: cellsD r := by simp [cellsD]
    rw [e, show (i + 1) * 3 = i * 3 + 1 + 1 + 1 by omega, show i * 3 + 1 + 1 + 1 + 1 = (i * 3 + 1) + 1 + 1 + 1 by omega, show i * 3 + 1 + 1 + 1 + 2 = (i * 3 + 2) + 1 + 1 + 1 by omega]
    simp only [List.getElem?_cons_succ]
    exact ih
theorem AirL.new (w : World) (l : List Air) (h : ∀ a ∈ l, a.shs = []) : AirL (w.alloc (.cells (cellsA l).toArray airT)) (some ⟨w.heap.size, 0, none⟩) l := by
  refine .inr ⟨w.heap.size, 0, rfl, by simp, fun i a hi => ?_⟩
  obtain ⟨c0, c1, c2, c3, c4⟩ := cellsA_at l i a hi
  refine ⟨?_, ?_, ?_, ?_, ?_, .inl (h a (List.mem_of_getElem? hi))⟩
  all_goals rw [cells_new, List.getElem?_toArray]
  · rw [Nat.zero_add]; exact c0
  · rw [Nat.zero_add]; exact c1
  · rw [Nat.zero_add]; exact c2
  · rw [Nat.zero_add]; exact c3
  · rw [Nat.zero_add]; exact c4
theorem DstL.new (w : World) (l : List Dst) : DstL (w.alloc (.cells (cellsD l).toArray dstT)) (some ⟨w.heap.size, 0, none⟩) l := by
  refine .inr ⟨w.heap.size, 0, rfl, by simp, fun i a hi => ?_⟩
  obtain ⟨c0, c1, c2⟩ := cellsD_at l i a hi
  refine ⟨?_, ?_, ?_⟩
  all_goals rw [cells_new, List.getElem?_toArray]
  · rw [Nat.zero_add]; exact c0
  · rw [Nat.zero_add]; exact c1
  · rw [Nat.zero_add]; exact c2
theorem sP_ok (a d : Nat) : OkP (sP a d) where
  air x hx := by
    simp only [sP, sL, List.mem_cons, List.not_mem_nil, or_false] at hx
    rcases hx with rfl | rfl | rfl | rfl <;> exact ⟨by decide, by decide, by decide, by decide, fun k hk => absurd hk (Nat.not_lt_zero _)⟩
  dst x hx := by
    simp only [sP, sD, List.mem_cons, List.not_mem_nil, or_false] at hx
    rcases hx with rfl | rfl <;> exact ⟨by decide, by decide⟩
  la := (by decide : sL.length ≤ 40)
  ld := (by decide : sD.length ≤ 60)

end Go.Proofs.YtfgmlbmjjihhfaaGreatDoor

/- Walk of the flight laws' awake. -/
namespace Go.Proofs.YtfgmlbmjjihhfaaGreatDoor
open Go.RowKit Go.Shelf
set_option linter.unusedSimpArgs false
set_option linter.unusedVariables false

/-! ### the example -/
def s7A : List Air := [⟨⟨#[76, 72, 82]⟩, ⟨#[76, 79, 78]⟩, ⟨#[71, 66]⟩, 0, none, 0, []⟩, ⟨⟨#[74, 70, 75]⟩, ⟨#[78, 89, 67]⟩, ⟨#[85, 83]⟩, -300, none, 0, []⟩]
def s7G (arr : Int) : Lg := ⟨⟨#[76, 72, 82]⟩, ⟨#[74, 70, 75]⟩, 500, arr, ⟨#[55, 55, 55]⟩⟩
def s7F (arr : Int) (A : Option Addr) (c : Nat) : FV := ⟨⟨#[66, 65]⟩, 117, 9497, 9497, 8, A, c, [s7G arr]⟩
def s7P (N : Nat) : PV := ⟨some ⟨N, 0, none⟩, 2, s7A, none, 0, []⟩
theorem s7_ok : ∀ a ∈ s7A, OkZ a.off a.shs := by
  intro a ha
  simp only [s7A, List.mem_cons, List.not_mem_nil, or_false] at ha
  rcases ha with rfl | rfl <;> exact errZ_ok (by decide)
theorem s7_okG (arr : Int) (h : 0 ≤ arr ∧ arr ≤ 1000) : OkG (s7G arr) := ⟨show 3 ≤ maxLen by decide, show 3 ≤ maxLen by decide, show 3 ≤ maxLen by decide, by show -9223372036854775808 ≤ (500 : Int) ∧ (500 : Int) ≤ 9223372036854775807; omega, by show -9223372036854775808 ≤ arr ∧ arr ≤ 9223372036854775807; omega⟩
theorem s7_legE : legE (s7F 700 none 0) 9497 = 0 := by decide +kernel
theorem s7_dep : depL s7A (s7G 700) 9497 = 13676180 := by decide +kernel
theorem s7_arr : arrL s7A (s7G 700) 9497 = 13676680 := by decide +kernel
theorem s7_legF (A : Option Addr) (c : Nat) : legF s7A (s7F 700 A c) 9497 = [⟨⟨#[66, 65]⟩, 117, 9497, ⟨#[76, 72, 82]⟩, ⟨#[74, 70, 75]⟩, 13676180, 13676680, ⟨#[55, 55, 55]⟩⟩] := by
  have h : Per.hasQ (9497, 9497, 8) 9497 = true := by decide +kernel
  show (if Per.hasQ (9497, 9497, 8) 9497 then [datL s7A (s7F 700 A c) 9497 (s7G 700)] else []) = _
  rw [if_pos h]
  show [(⟨⟨#[66, 65]⟩, 117, 9497, ⟨#[76, 72, 82]⟩, ⟨#[74, 70, 75]⟩, depL s7A (s7G 700) 9497, arrL s7A (s7G 700) 9497, ⟨#[55, 55, 55]⟩⟩ : Dt)] = _
  rw [s7_dep, s7_arr]
theorem s7_prE (A : Option Addr) (c : Nat) : prE (s7F 700 A c) = 0 := (show prE (s7F 700 A c) = prE (s7F 700 none 0) from rfl).trans (by decide +kernel)
theorem s7_prS (A : Option Addr) (c : Nat) : prS (s7F 700 A c) = ⟨#[66, 65, 32, 49, 49, 55, 32, 50, 48, 50, 54, 45, 48, 49, 45, 48, 49, 47, 50, 48, 50, 54, 45, 48, 49, 45, 48, 49, 47, 52, 32, 76, 72, 82, 32, 74, 70, 75, 32, 53, 48, 48, 32, 55, 48, 48, 32, 55, 55, 55]⟩ := (show prS (s7F 700 A c) = prS (s7F 700 none 0) from rfl).trans (by decide +kernel)
theorem s7_ch1 (A : Option Addr) (c : Nat) : chF s7A (s7F 700 A c) = [] := (show chF s7A (s7F 700 A c) = chF s7A (s7F 700 none 0) from rfl).trans (by decide +kernel)
theorem s7_ch2 (A : Option Addr) (c : Nat) : chF s7A (s7F 200 A c) = [(13, ⟨#[100, 97, 121, 32, 50, 48, 50, 54, 45, 48, 49, 45, 48, 49]⟩)] := (show chF s7A (s7F 200 A c) = chF s7A (s7F 200 none 0) from rfl).trans (by decide +kernel)
theorem s7_airL (w w' : World) (h : Below w.heap.size (w.alloc (.cells #[.string ⟨#[76, 72, 82]⟩, .string ⟨#[76, 79, 78]⟩, .string ⟨#[71, 66]⟩, .int .i64 0, .slice none 0 0, .string ⟨#[74, 70, 75]⟩, .string ⟨#[78, 89, 67]⟩, .string ⟨#[85, 83]⟩, .int .i64 (-300), .slice none 0 0] airT)) w') (hs : w.heap.size < w'.heap.size) (hc : ∀ j v, (w.alloc (.cells #[.string ⟨#[76, 72, 82]⟩, .string ⟨#[76, 79, 78]⟩, .string ⟨#[71, 66]⟩, .int .i64 0, .slice none 0 0, .string ⟨#[74, 70, 75]⟩, .string ⟨#[78, 89, 67]⟩, .string ⟨#[85, 83]⟩, .int .i64 (-300), .slice none 0 0] airT)).cell? ⟨w.heap.size, j, none⟩ = some v → w'.cell? ⟨w.heap.size, j, none⟩ = some v) : AirL w' (some ⟨w.heap.size, 0, none⟩) s7A := by
  refine .inr ⟨w.heap.size, 0, rfl, hs, fun i a hi => ?_⟩
  have hg : ∀ j v, (#[.string ⟨#[76, 72, 82]⟩, .string ⟨#[76, 79, 78]⟩, .string ⟨#[71, 66]⟩, .int .i64 0, .slice none 0 0, .string ⟨#[74, 70, 75]⟩, .string ⟨#[78, 89, 67]⟩, .string ⟨#[85, 83]⟩, .int .i64 (-300), .slice none 0 0] : Array Value)[j]? = some v → w'.cell? ⟨w.heap.size, j, none⟩ = some v := fun j v hv => hc j v ((cells_new w #[.string ⟨#[76, 72, 82]⟩, .string ⟨#[76, 79, 78]⟩, .string ⟨#[71, 66]⟩, .int .i64 0, .slice none 0 0, .string ⟨#[74, 70, 75]⟩, .string ⟨#[78, 89, 67]⟩, .string ⟨#[85, 83]⟩, .int .i64 (-300), .slice none 0 0] airT j).trans hv)
  have hlt := (List.getElem?_eq_some_iff.1 hi).1
  have h2 : i = 0 ∨ i = 1 := by simp [s7A] at hlt; omega
  rcases h2 with rfl | rfl
  · simp [s7A] at hi
    subst hi
    exact ⟨hg 0 _ rfl, hg 1 _ rfl, hg 2 _ rfl, hg 3 _ rfl, hg 4 _ rfl, .inl rfl⟩
  · simp [s7A] at hi
    subst hi
    exact ⟨hg 5 _ rfl, hg 6 _ rfl, hg 7 _ rfl, hg 8 _ rfl, hg 9 _ rfl, .inl rfl⟩
theorem s7_legL (w : World) (arr : Int) : LegL (w.alloc (.cells #[.string ⟨#[76, 72, 82]⟩, .string ⟨#[74, 70, 75]⟩, .int .i64 500, .int .i64 arr, .string ⟨#[55, 55, 55]⟩] legT)) (.slice (some ⟨w.heap.size, 0, none⟩) 1 1) [s7G arr] :=
  RowL.new (enc := encLg) (sz := 5) w [s7G arr] legT (fun _ => rfl) rfl 1

theorem RowL.but {α : Type} {enc : α → List Value} {sz : Nat} {w w' : World} {X : Nat → Prop} {b o n c : Nat} {l : List α} (h : RowL sz enc w (.slice (some ⟨b, o, none⟩) n c) l) (hB : But w w' X) (hx : ¬ X b) : RowL sz enc w' (.slice (some ⟨b, o, none⟩) n c) l := by
  obtain ⟨A, c', e, h⟩ := h
  cases e
  refine ⟨_, _, rfl, ?_⟩
  rcases h with h | ⟨b', o', e, hlt, hc⟩
  · exact .inl h
  · cases e
    exact .inr ⟨b, o, rfl, Nat.lt_of_lt_of_le hlt hB.size, fun i x j u hi hu => (World.cell?_of_block (hB.block b hlt hx)).trans (hc i x j u hi hu)⟩

set_option maxRecDepth 100000 in
set_option maxHeartbeats 8000000 in
theorem awake7_any (w : World) (hE : EnvP w) : Calls Tryz.prog 15 #[] w fun e w' => e = .returned (.bool true) ∧ Below w.heap.size w w' := by
  have hb1 := bel_alloc w (.cells #[.string ⟨#[76, 72, 82]⟩, .string ⟨#[76, 79, 78]⟩, .string ⟨#[71, 66]⟩, .int .i64 0, .slice none 0 0, .string ⟨#[74, 70, 75]⟩, .string ⟨#[78, 89, 67]⟩, .string ⟨#[85, 83]⟩, .int .i64 (-300), .slice none 0 0] airT)
  have hb2 := bel_alloc (w.alloc (.cells #[.string ⟨#[76, 72, 82]⟩, .string ⟨#[76, 79, 78]⟩, .string ⟨#[71, 66]⟩, .int .i64 0, .slice none 0 0, .string ⟨#[74, 70, 75]⟩, .string ⟨#[78, 89, 67]⟩, .string ⟨#[85, 83]⟩, .int .i64 (-300), .slice none 0 0] airT)) (.cells #[.slice (some ⟨w.heap.size, 0, none⟩) 2 2, .slice none 0 0] placesT)
  have hb3 := bel_alloc ((w.alloc (.cells #[.string ⟨#[76, 72, 82]⟩, .string ⟨#[76, 79, 78]⟩, .string ⟨#[71, 66]⟩, .int .i64 0, .slice none 0 0, .string ⟨#[74, 70, 75]⟩, .string ⟨#[78, 89, 67]⟩, .string ⟨#[85, 83]⟩, .int .i64 (-300), .slice none 0 0] airT)).alloc (.cells #[.slice (some ⟨w.heap.size, 0, none⟩) 2 2, .slice none 0 0] placesT)) (.cells #[.string ⟨#[76, 72, 82]⟩, .string ⟨#[74, 70, 75]⟩, .int .i64 500, .int .i64 700, .string ⟨#[55, 55, 55]⟩] legT)
  have hb0 : Below w.heap.size w (((w.alloc (.cells #[.string ⟨#[76, 72, 82]⟩, .string ⟨#[76, 79, 78]⟩, .string ⟨#[71, 66]⟩, .int .i64 0, .slice none 0 0, .string ⟨#[74, 70, 75]⟩, .string ⟨#[78, 89, 67]⟩, .string ⟨#[85, 83]⟩, .int .i64 (-300), .slice none 0 0] airT)).alloc (.cells #[.slice (some ⟨w.heap.size, 0, none⟩) 2 2, .slice none 0 0] placesT)).alloc (.cells #[.string ⟨#[76, 72, 82]⟩, .string ⟨#[74, 70, 75]⟩, .int .i64 500, .int .i64 700, .string ⟨#[55, 55, 55]⟩] legT)) := hb1.trans ((hb2.mono hb1.size).trans (hb3.mono (Nat.le_trans hb1.size hb2.size)))
  have hA : AirL (((w.alloc (.cells #[.string ⟨#[76, 72, 82]⟩, .string ⟨#[76, 79, 78]⟩, .string ⟨#[71, 66]⟩, .int .i64 0, .slice none 0 0, .string ⟨#[74, 70, 75]⟩, .string ⟨#[78, 89, 67]⟩, .string ⟨#[85, 83]⟩, .int .i64 (-300), .slice none 0 0] airT)).alloc (.cells #[.slice (some ⟨w.heap.size, 0, none⟩) 2 2, .slice none 0 0] placesT)).alloc (.cells #[.string ⟨#[76, 72, 82]⟩, .string ⟨#[74, 70, 75]⟩, .int .i64 500, .int .i64 700, .string ⟨#[55, 55, 55]⟩] legT)) (some ⟨w.heap.size, 0, none⟩) s7A := s7_airL w _ ((hb2.mono hb1.size).trans (hb3.mono (Nat.le_trans hb1.size hb2.size))) (by simp; omega) (fun j v h => bel_cell hb3 (bel_cell hb2 h))
  have hG : LegL (((w.alloc (.cells #[.string ⟨#[76, 72, 82]⟩, .string ⟨#[76, 79, 78]⟩, .string ⟨#[71, 66]⟩, .int .i64 0, .slice none 0 0, .string ⟨#[74, 70, 75]⟩, .string ⟨#[78, 89, 67]⟩, .string ⟨#[85, 83]⟩, .int .i64 (-300), .slice none 0 0] airT)).alloc (.cells #[.slice (some ⟨w.heap.size, 0, none⟩) 2 2, .slice none 0 0] placesT)).alloc (.cells #[.string ⟨#[76, 72, 82]⟩, .string ⟨#[74, 70, 75]⟩, .int .i64 500, .int .i64 700, .string ⟨#[55, 55, 55]⟩] legT)) (.slice (some ⟨w.heap.size + 1 + 1, 0, none⟩) 1 1) [s7G 700] := by
    have := s7_legL ((w.alloc (.cells #[.string ⟨#[76, 72, 82]⟩, .string ⟨#[76, 79, 78]⟩, .string ⟨#[71, 66]⟩, .int .i64 0, .slice none 0 0, .string ⟨#[74, 70, 75]⟩, .string ⟨#[78, 89, 67]⟩, .string ⟨#[85, 83]⟩, .int .i64 (-300), .slice none 0 0] airT)).alloc (.cells #[.slice (some ⟨w.heap.size, 0, none⟩) 2 2, .slice none 0 0] placesT)) 700
    rw [World.size_alloc, World.size_alloc] at this
    exact this
  have p0 := bel_cell hb3 ((cells_new (w.alloc (.cells #[.string ⟨#[76, 72, 82]⟩, .string ⟨#[76, 79, 78]⟩, .string ⟨#[71, 66]⟩, .int .i64 0, .slice none 0 0, .string ⟨#[74, 70, 75]⟩, .string ⟨#[78, 89, 67]⟩, .string ⟨#[85, 83]⟩, .int .i64 (-300), .slice none 0 0] airT)) #[.slice (some ⟨w.heap.size, 0, none⟩) 2 2, .slice none 0 0] placesT 0).trans (show _ = some (Value.slice (some ⟨w.heap.size, 0, none⟩) 2 2) from rfl))
  have p1 := bel_cell hb3 ((cells_new (w.alloc (.cells #[.string ⟨#[76, 72, 82]⟩, .string ⟨#[76, 79, 78]⟩, .string ⟨#[71, 66]⟩, .int .i64 0, .slice none 0 0, .string ⟨#[74, 70, 75]⟩, .string ⟨#[78, 89, 67]⟩, .string ⟨#[85, 83]⟩, .int .i64 (-300), .slice none 0 0] airT)) #[.slice (some ⟨w.heap.size, 0, none⟩) 2 2, .slice none 0 0] placesT 1).trans (show _ = some (Value.slice none 0 0) from rfl))
  rw [World.size_alloc] at p0 p1
  have hE3 := hE.more hb0
  have hsz : (((w.alloc (.cells #[.string ⟨#[76, 72, 82]⟩, .string ⟨#[76, 79, 78]⟩, .string ⟨#[71, 66]⟩, .int .i64 0, .slice none 0 0, .string ⟨#[74, 70, 75]⟩, .string ⟨#[78, 89, 67]⟩, .string ⟨#[85, 83]⟩, .int .i64 (-300), .slice none 0 0] airT)).alloc (.cells #[.slice (some ⟨w.heap.size, 0, none⟩) 2 2, .slice none 0 0] placesT)).alloc (.cells #[.string ⟨#[76, 72, 82]⟩, .string ⟨#[74, 70, 75]⟩, .int .i64 500, .int .i64 700, .string ⟨#[55, 55, 55]⟩] legT)).heap.size = w.heap.size + 1 + 1 + 1 := by simp
  go_enter Tryz.func15, Tryz.ntmps15
  go_upto_region 3 with fail
  generalize hw3 : ((w.alloc (.cells #[.string ⟨#[76, 72, 82]⟩, .string ⟨#[76, 79, 78]⟩, .string ⟨#[71, 66]⟩, .int .i64 0, .slice none 0 0, .string ⟨#[74, 70, 75]⟩, .string ⟨#[78, 89, 67]⟩, .string ⟨#[85, 83]⟩, .int .i64 (-300), .slice none 0 0] airT)).alloc (.cells #[.slice (some ⟨w.heap.size, 0, none⟩) 2 2, .slice none 0 0] placesT)).alloc (.cells #[.string ⟨#[76, 72, 82]⟩, .string ⟨#[74, 70, 75]⟩, .int .i64 500, .int .i64 700, .string ⟨#[55, 55, 55]⟩] legT) = w3 at *
  have q0 := (cells_new w3 #[.string ⟨#[66, 65]⟩, .int .i64 117, .int .i64 9497, .int .i64 9497, .int .i64 8, .slice (some ⟨w.heap.size + 1 + 1, 0, none⟩) 1 1] fliT 0).trans (show _ = some (Value.string ⟨#[66, 65]⟩) from rfl)
  have q1 := (cells_new w3 #[.string ⟨#[66, 65]⟩, .int .i64 117, .int .i64 9497, .int .i64 9497, .int .i64 8, .slice (some ⟨w.heap.size + 1 + 1, 0, none⟩) 1 1] fliT 1).trans (show _ = some (Value.int .i64 117) from rfl)
  have q2 := (cells_new w3 #[.string ⟨#[66, 65]⟩, .int .i64 117, .int .i64 9497, .int .i64 9497, .int .i64 8, .slice (some ⟨w.heap.size + 1 + 1, 0, none⟩) 1 1] fliT 2).trans (show _ = some (Value.int .i64 9497) from rfl)
  have q3 := (cells_new w3 #[.string ⟨#[66, 65]⟩, .int .i64 117, .int .i64 9497, .int .i64 9497, .int .i64 8, .slice (some ⟨w.heap.size + 1 + 1, 0, none⟩) 1 1] fliT 3).trans (show _ = some (Value.int .i64 9497) from rfl)
  have q4 := (cells_new w3 #[.string ⟨#[66, 65]⟩, .int .i64 117, .int .i64 9497, .int .i64 9497, .int .i64 8, .slice (some ⟨w.heap.size + 1 + 1, 0, none⟩) 1 1] fliT 4).trans (show _ = some (Value.int .i64 8) from rfl)
  have q5 := (cells_new w3 #[.string ⟨#[66, 65]⟩, .int .i64 117, .int .i64 9497, .int .i64 9497, .int .i64 8, .slice (some ⟨w.heap.size + 1 + 1, 0, none⟩) 1 1] fliT 5).trans (show _ = some (Value.slice (some ⟨w.heap.size + 1 + 1, 0, none⟩) 1 1) from rfl)
  rw [hsz] at q0 q1 q2 q3 q4 q5
  have hb4 := bel_alloc w3 (.cells #[.string ⟨#[66, 65]⟩, .int .i64 117, .int .i64 9497, .int .i64 9497, .int .i64 8, .slice (some ⟨w.heap.size + 1 + 1, 0, none⟩) 1 1] fliT)
  have hNb := heap_alloc_new w3 (.cells #[.string ⟨#[66, 65]⟩, .int .i64 117, .int .i64 9497, .int .i64 9497, .int .i64 8, .slice (some ⟨w.heap.size + 1 + 1, 0, none⟩) 1 1] fliT)
  rw [hsz] at hNb
  have hsz4 : (w3.alloc (.cells #[.string ⟨#[66, 65]⟩, .int .i64 117, .int .i64 9497, .int .i64 9497, .int .i64 8, .slice (some ⟨w.heap.size + 1 + 1, 0, none⟩) 1 1] fliT)).heap.size = w.heap.size + 1 + 1 + 1 + 1 := by rw [World.size_alloc, hsz]
  generalize hw4 : w3.alloc (.cells #[.string ⟨#[66, 65]⟩, .int .i64 117, .int .i64 9497, .int .i64 9497, .int .i64 8, .slice (some ⟨w.heap.size + 1 + 1, 0, none⟩) 1 1] fliT) = w4 at *
  clear hw3 hw4 hb1 hb2 hb3
  have hNl : w.heap.size + 1 + 1 + 1 < w4.heap.size := by omega
  have fz : ∀ W, SW w4 W → W.frozen? ⟨w.heap.size + 1 + 1 + 1, 5, none⟩ = false := fun W hW => frozen_more hW hNl (frozen_of_row w4 _ 5 _ _ hNb)
  have HNb := Lib.hid hNb
  clear hNb
  have HS3 : Hid (∀ W, SW w4 W → SW w3 W) := Lib.hid (fun W h => Below.trans hb4 (Below.mono h hb4.size))
  have hle : ∀ a ∈ s7A, a.shs.length ≤ 300 := by decide
  have KL : Hid (∀ W, SW w4 W → Calls Tryz.prog 20 #[.agg #[.slice (some ⟨w.heap.size, 0, none⟩) 2 2, .slice none 0 0], .agg #[.string ⟨#[66, 65]⟩, .int .i64 117, .int .i64 9497, .int .i64 9497, .int .i64 8, .slice (some ⟨w.heap.size + 1 + 1, 0, none⟩) 1 1], .int .i64 9497] W fun e w' => ∃ g c, e = .returned (.tuple #[.slice (some ⟨g, 0, none⟩) 1 c, .int .i64 0]) ∧ w'.cell? ⟨g, 5, none⟩ = some (.int .i64 13676180) ∧ w'.cell? ⟨g, 6, none⟩ = some (.int .i64 13676680) ∧ w4.heap.size ≤ g ∧ SW w4 w') := Lib.hid (fun W h => (legs_any (s7P w.heap.size) (s7F 700 (some ⟨w.heap.size + 1 + 1, 0, none⟩) 1) 9497 W (show 2 ≤ 40 by omega) (hA.more (HS3.out W h)) hle s7_ok (hG.more (HS3.out W h)) (show 1 ≤ 100 by omega) (fun x hx => by
      simp [s7F] at hx; subst hx; exact ⟨by show -1000000 ≤ (500 : Int) ∧ (500 : Int) ≤ 1000000; omega, by show -1000000 ≤ (700 : Int) ∧ (700 : Int) ≤ 1000000; omega⟩) (by omega) (by omega)).mono (by
    rintro e w' ⟨v, rfl, hO, hb⟩
    rw [show (s7P w.heap.size).l = s7A from rfl, s7_legF] at hO
    obtain ⟨g, c, rfl, h1, h2⟩ := hO.own.form (by simp [cellsR, encDt])
    have hc := hO.own.cells (g := g) rfl
    have hadd : ∀ j, (⟨g, 0, none⟩ : Addr).add j = ⟨g, j, none⟩ := fun j => by unfold Addr.add; split <;> simp_all
    refine ⟨g, c, ?_, ?_, ?_, Nat.le_trans h.size h1, Below.trans h (Below.mono hb h.size)⟩
    · rw [show legE (s7F 700 (some ⟨w.heap.size + 1 + 1, 0, none⟩) 1) 9497 = 0 from s7_legE]
      rfl
    · have := hc 5 (.int .i64 13676180) rfl
      rwa [hadd] at this
    · have := hc 6 (.int .i64 13676680) rfl
      rwa [hadd] at this))
  have KP : Hid (∀ W, SW w4 W → Calls Tryz.prog 27 #[.agg #[.string ⟨#[66, 65]⟩, .int .i64 117, .int .i64 9497, .int .i64 9497, .int .i64 8, .slice (some ⟨w.heap.size + 1 + 1, 0, none⟩) 1 1]] W fun e w' => e = .returned (.tuple #[.string ⟨#[66, 65, 32, 49, 49, 55, 32, 50, 48, 50, 54, 45, 48, 49, 45, 48, 49, 47, 50, 48, 50, 54, 45, 48, 49, 45, 48, 49, 47, 52, 32, 76, 72, 82, 32, 74, 70, 75, 32, 53, 48, 48, 32, 55, 48, 48, 32, 55, 55, 55]⟩, .int .i64 0]) ∧ Below W.heap.size W w') := Lib.hid (fun W h => (fprint_any (s7F 700 (some ⟨w.heap.size + 1 + 1, 0, none⟩) 1) W (hE3.more (HS3.out W h)) (hG.more (HS3.out W h)) (show 2 ≤ maxLen by decide) (fun x hx => by
      simp [s7F] at hx; subst hx; exact s7_okG 700 (by omega)) (show 1 ≤ 1000000 by omega)).mono (by
    rintro e w' ⟨rfl, hb⟩
    exact ⟨by rw [s7_prS, s7_prE], hb⟩))
  have KC1 : Hid (∀ W, SW w4 W → Calls Tryz.prog 17 #[.agg #[.slice (some ⟨w.heap.size, 0, none⟩) 2 2, .slice none 0 0], .agg #[.string ⟨#[66, 65]⟩, .int .i64 117, .int .i64 9497, .int .i64 9497, .int .i64 8, .slice (some ⟨w.heap.size + 1 + 1, 0, none⟩) 1 1]] W fun e w' => ∃ A c, e = .returned (.slice A 0 c) ∧ Below W.heap.size W w') := Lib.hid (fun W h => (fcheck_any (s7P w.heap.size) (s7F 700 (some ⟨w.heap.size + 1 + 1, 0, none⟩) 1) W (show 2 ≤ 40 by omega) (hA.more (HS3.out W h)) hle s7_ok (hG.more (HS3.out W h)) (show 1 ≤ 100 by omega) (show 1 ≤ 1 by omega) (show 2 ≤ maxLen by decide) (fun x hx => by
      simp [s7F] at hx; subst hx; exact s7_okG 700 (by omega)) (fun _ _ W' hW' => checkTimes_any (s7P w.heap.size) (s7F 700 (some ⟨w.heap.size + 1 + 1, 0, none⟩) 1) W' (show 2 ≤ 40 by omega) ((hA.more (HS3.out W h)).more hW') hle s7_ok ((hG.more (HS3.out W h)).more hW') (show 1 ≤ 100 by omega) (fun x hx => by
      simp [s7F] at hx; subst hx; exact ⟨by show -1000000 ≤ (500 : Int) ∧ (500 : Int) ≤ 1000000; omega, by show -1000000 ≤ (700 : Int) ∧ (700 : Int) ≤ 1000000; omega⟩))).mono (by
    rintro e w' ⟨v, rfl, hO, hb⟩
    rw [show (s7P w.heap.size).l = s7A from rfl, s7_ch1] at hO
    obtain ⟨A, c, rfl, _⟩ := hO.rowL rtF.len
    exact ⟨A, c, rfl, hb⟩))
  have KC2 : Hid (∀ W b, SW w3 W → LegL W (.slice (some ⟨b, 0, none⟩) 1 1) [s7G 200] → Calls Tryz.prog 17 #[.agg #[.slice (some ⟨w.heap.size, 0, none⟩) 2 2, .slice none 0 0], .agg #[.string ⟨#[66, 65]⟩, .int .i64 117, .int .i64 9497, .int .i64 9497, .int .i64 8, .slice (some ⟨b, 0, none⟩) 1 1]] W fun e w' => ∃ g c, e = .returned (.slice (some ⟨g, 0, none⟩) 1 c) ∧ w'.cell? ⟨g, 0, none⟩ = some (.int .i64 13) ∧ w'.cell? ⟨g, 1, none⟩ = some (.string ⟨#[100, 97, 121, 32, 50, 48, 50, 54, 45, 48, 49, 45, 48, 49]⟩) ∧ Below W.heap.size W w') := Lib.hid (fun W b h hG2 => (fcheck_any (s7P w.heap.size) (s7F 200 (some ⟨b, 0, none⟩) 1) W (show 2 ≤ 40 by omega) (hA.more h) hle s7_ok hG2 (show 1 ≤ 100 by omega) (show 1 ≤ 1 by omega) (show 2 ≤ maxLen by decide) (fun x hx => by
      simp [s7F] at hx; subst hx; exact s7_okG 200 (by omega)) (fun _ _ W' hW' => checkTimes_any (s7P w.heap.size) (s7F 200 (some ⟨b, 0, none⟩) 1) W' (show 2 ≤ 40 by omega) ((hA.more h).more hW') hle s7_ok (hG2.more hW') (show 1 ≤ 100 by omega) (fun x hx => by
      simp [s7F] at hx; subst hx; exact ⟨by show -1000000 ≤ (500 : Int) ∧ (500 : Int) ≤ 1000000; omega, by show -1000000 ≤ (200 : Int) ∧ (200 : Int) ≤ 1000000; omega⟩))).mono (by
    rintro e w' ⟨v, rfl, hO, hb⟩
    rw [show (s7P w.heap.size).l = s7A from rfl, s7_ch2] at hO
    obtain ⟨g, c, rfl, h1, h2⟩ := hO.own.form (by simp [cellsR, encF])
    have hc := hO.own.cells (g := g) rfl
    have hadd : ∀ j, (⟨g, 0, none⟩ : Addr).add j = ⟨g, j, none⟩ := fun j => by unfold Addr.add; split <;> simp_all
    refine ⟨g, c, rfl, ?_, ?_, hb⟩
    · have := hc 0 (.int .i64 13) rfl
      rwa [hadd] at this
    · have := hc 1 (.string ⟨#[100, 97, 121, 32, 50, 48, 50, 54, 45, 48, 49, 45, 48, 49]⟩) rfl
      rwa [hadd] at this))
  have f0 := bel_get q0
  have f1 := bel_get q1
  have f2 := bel_get q2
  have f3 := bel_get q3
  have f4 := bel_get q4
  have f5 := bel_get q5
  have y0 : ∀ W, SW w4 W → W.cell? ⟨w.heap.size + 1, 0, none⟩ = some (.slice (some ⟨w.heap.size, 0, none⟩) 2 2) := fun W h => bel_get p0 W (HS3.out W h)
  have y1 : ∀ W, SW w4 W → W.cell? ⟨w.heap.size + 1, 1, none⟩ = some (.slice none 0 0) := fun W h => bel_get p1 W (HS3.out W h)
  have hS : SW w4 w4 := Below.refl _ _
  have z0 := y0 _ hS
  have z1 := y1 _ hS
  have HSZ := Lib.hid hsz
  have HSZ4 := Lib.hid hsz4
  have HP := Lib.hid (And.intro p0 p1)
  clear hA hG hle hsz hsz4 hE hE3 p0 p1
  go_upto_region 7 with (first
    | (go_at_call 20; refine (KL.out _ hS).mono ?_; rintro e w5 ⟨g1, c1, rfl, hd0, ha0, hg1, hS⟩; have z0 := y0 _ hS; have z1 := y1 _ hS; have q0 := f0 _ hS; have q1 := f1 _ hS; have q2 := f2 _ hS; have q3 := f3 _ hS; have q4 := f4 _ hS; have q5 := f5 _ hS)
    | (go_at_call 27; refine (KP.out _ hS).mono ?_; rintro e w6 ⟨rfl, hb6⟩; have hS : SW w4 w6 := Below.trans hS (Below.mono hb6 hS.size); have z0 := y0 _ hS; have z1 := y1 _ hS; have q0 := f0 _ hS; have q1 := f1 _ hS; have q2 := f2 _ hS; have q3 := f3 _ hS; have q4 := f4 _ hS; have q5 := f5 _ hS; have hd0 := bel_cell hb6 hd0; have ha0 := bel_cell hb6 ha0)
    | (go_at_call 17; refine (KC1.out _ hS).mono ?_; rintro e w7 ⟨A2, c2, rfl, hb7⟩; have hS : SW w4 w7 := Below.trans hS (Below.mono hb7 hS.size); have z0 := y0 _ hS; have z1 := y1 _ hS; have q0 := f0 _ hS; have q1 := f1 _ hS; have q2 := f2 _ hS; have q3 := f3 _ hS; have q4 := f4 _ hS; have q5 := f5 _ hS; have hd0 := bel_cell hb7 hd0; have ha0 := bel_cell hb7 ha0; have hSb : SW w4 (w7.alloc (.cells #[.string ⟨#[76, 72, 82]⟩, .string ⟨#[74, 70, 75]⟩, .int .i64 500, .int .i64 200, .string ⟨#[55, 55, 55]⟩] legT)) := Below.alloc hS hS.size _; have fz5 := fz _ hSb; have r0 := f0 _ hSb; have r1 := f1 _ hSb; have r2 := f2 _ hSb; have r3 := f3 _ hSb; have r4 := f4 _ hSb; have r5 := f5 _ hSb))
  have hM7 : (w7.alloc (.cells #[.string ⟨#[76, 72, 82]⟩, .string ⟨#[74, 70, 75]⟩, .int .i64 500, .int .i64 200, .string ⟨#[55, 55, 55]⟩] legT)).heap[w.heap.size + 1 + 1 + 1]? = some (.cells #[.string ⟨#[66, 65]⟩, .int .i64 117, .int .i64 9497, .int .i64 9497, .int .i64 8, .slice (some ⟨w.heap.size + 1 + 1, 0, none⟩) 1 1] fliT (0, 0)) := (hSb.block _ hNl).trans HNb.out
  have hM8 := heap_setCell_same _ _ 5 _ fliT (.slice (some ⟨w7.heap.size, 0, none⟩) 1 1) hM7
  have hB8 := But.setCell (w7.alloc (.cells #[.string ⟨#[76, 72, 82]⟩, .string ⟨#[74, 70, 75]⟩, .int .i64 500, .int .i64 200, .string ⟨#[55, 55, 55]⟩] legT)) (w.heap.size + 1 + 1 + 1) 5 (.slice (some ⟨w7.heap.size, 0, none⟩) 1 1)
  have hS8 : SW w3 ((w7.alloc (.cells #[.string ⟨#[76, 72, 82]⟩, .string ⟨#[74, 70, 75]⟩, .int .i64 500, .int .i64 200, .string ⟨#[55, 55, 55]⟩] legT)).setCell ⟨w.heap.size + 1 + 1 + 1, 5, none⟩ (.slice (some ⟨w7.heap.size, 0, none⟩) 1 1)) := Below.setCell (HS3.out _ hSb) (by show w3.heap.size ≤ w.heap.size + 1 + 1 + 1; have := HSZ.out; omega) _
  have hlt7 : w.heap.size + 1 + 1 + 1 < w7.heap.size := Nat.lt_of_lt_of_le hNl hS.size
  have hG2 := RowL.but (s7_legL w7 200) hB8 (by omega)
  have hlg1 : g1 < w7.heap.size := World.block_lt_of_cell? _ _ hd0
  have hng1 : ¬ g1 = w.heap.size + 1 + 1 + 1 := by omega
  have hd0 := (World.cell?_of_block (hB8.block g1 (Nat.lt_of_lt_of_le hlg1 (bel_alloc w7 (.cells #[.string ⟨#[76, 72, 82]⟩, .string ⟨#[74, 70, 75]⟩, .int .i64 500, .int .i64 200, .string ⟨#[55, 55, 55]⟩] legT)).size) hng1)).trans (bel_cell (bel_alloc w7 (.cells #[.string ⟨#[76, 72, 82]⟩, .string ⟨#[74, 70, 75]⟩, .int .i64 500, .int .i64 200, .string ⟨#[55, 55, 55]⟩] legT)) hd0)
  have ha0 := (World.cell?_of_block (hB8.block g1 (Nat.lt_of_lt_of_le hlg1 (bel_alloc w7 (.cells #[.string ⟨#[76, 72, 82]⟩, .string ⟨#[74, 70, 75]⟩, .int .i64 500, .int .i64 200, .string ⟨#[55, 55, 55]⟩] legT)).size) hng1)).trans (bel_cell (bel_alloc w7 (.cells #[.string ⟨#[76, 72, 82]⟩, .string ⟨#[74, 70, 75]⟩, .int .i64 500, .int .i64 200, .string ⟨#[55, 55, 55]⟩] legT)) ha0)
  have u0 := (cell_of_row _ _ 0 _ _ (0, 0) hM8).trans (show _ = some _ from rfl)
  have u1 := (cell_of_row _ _ 1 _ _ (0, 0) hM8).trans (show _ = some _ from rfl)
  have u2 := (cell_of_row _ _ 2 _ _ (0, 0) hM8).trans (show _ = some _ from rfl)
  have u3 := (cell_of_row _ _ 3 _ _ (0, 0) hM8).trans (show _ = some _ from rfl)
  have u4 := (cell_of_row _ _ 4 _ _ (0, 0) hM8).trans (show _ = some _ from rfl)
  have u5 := (cell_of_row _ _ 5 _ _ (0, 0) hM8).trans (show _ = some _ from rfl)
  have x0 := bel_get HP.out.1 _ hS8
  have x1 := bel_get HP.out.2 _ hS8
  clear hM7 hM8 hB8 hS hSb fz5 r0 r1 r2 r3 r4 r5 hlt7 hlg1 hng1 hb6 hb7 z0 z1 q0 q1 q2 q3 q4 q5 f0 f1 f2 f3 f4 f5 y0 y1 fz hg1
  generalize hw8 : (w7.alloc (.cells #[.string ⟨#[76, 72, 82]⟩, .string ⟨#[74, 70, 75]⟩, .int .i64 500, .int .i64 200, .string ⟨#[55, 55, 55]⟩] legT)).setCell ⟨w.heap.size + 1 + 1 + 1, 5, none⟩ (.slice (some ⟨w7.heap.size, 0, none⟩) 1 1) = w8 at *
  clear hw8
  go_wp2_with (go_at_call 17; refine (KC2.out _ _ hS8 hG2).mono ?_; rintro e w9 ⟨g2, c2', rfl, he0, he1, hb9⟩; have hd0 := bel_cell hb9 hd0; have ha0 := bel_cell hb9 ha0)
  go_ret
  exact ⟨rfl, hb0.trans ((Below.trans hS8 (Below.mono hb9 hS8.size)).mono hb0.size)⟩
end Go.Proofs.YtfgmlbmjjihhfaaGreatDoor

/- Walk of the reference's Big. -/
namespace Go.Proofs.YtfgmlbmjjihhfaaGreatDoor
open Go.RowKit Go.Shelf
set_option linter.unusedSimpArgs false
set_option linter.unusedVariables false

set_option maxRecDepth 100000 in
set_option maxHeartbeats 4000000 in
/-- what is not big has few legs, airports and distances -/
theorem big_any (p : PV) (f : FV) (w : World) (hG : LegL w (.slice f.A f.lg.length f.c) f.lg) (h0 : f.lg.length < 9223372036854775808) (h1 : p.l.length < 9223372036854775808) (h2 : p.ds.length < 9223372036854775808) :
    Calls Tryz.prog 13 #[encP p, encFl f] w fun e w' => ∃ v : Value, e = .returned v ∧ Hid (v = .bool true ∨ (v = .bool false ∧ f.lg.length ≤ 12 ∧ p.l.length ≤ 20 ∧ p.ds.length ≤ 40)) ∧ Below w.heap.size w w' := by
  obtain ⟨A, ca, l, D, cd, ds⟩ := p
  obtain ⟨car, num, pf, pt, pd, G, gc, lg⟩ := f
  dsimp only at *
  have hb1 := bel_alloc w (.cells #[.slice A l.length ca, .slice D ds.length cd] placesT)
  have hb2 := bel_alloc (w.alloc (.cells #[.slice A l.length ca, .slice D ds.length cd] placesT)) (.cells #[.string car, .int .i64 num, .int .i64 pf, .int .i64 pt, .int .i64 pd, .slice G lg.length gc] fliT)
  have hb0 := hb1.trans (hb2.mono hb1.size)
  have p0 := bel_cell hb2 ((cells_new w #[.slice A l.length ca, .slice D ds.length cd] placesT 0).trans (show _ = some _ from rfl))
  have p1 := bel_cell hb2 ((cells_new w #[.slice A l.length ca, .slice D ds.length cd] placesT 1).trans (show _ = some _ from rfl))
  have q0 := (cells_new (w.alloc (.cells #[.slice A l.length ca, .slice D ds.length cd] placesT)) #[.string car, .int .i64 num, .int .i64 pf, .int .i64 pt, .int .i64 pd, .slice G lg.length gc] fliT 0).trans (show _ = some _ from rfl)
  have q5 := (cells_new (w.alloc (.cells #[.slice A l.length ca, .slice D ds.length cd] placesT)) #[.string car, .int .i64 num, .int .i64 pf, .int .i64 pt, .int .i64 pd, .slice G lg.length gc] fliT 5).trans (show _ = some _ from rfl)
  rw [World.size_alloc] at q0 q5
  have hG5 := hG.more hb0
  clear hG
  go_enter Tryz.func13, Tryz.ntmps13
  go_wp2
  generalize (w.alloc (.cells #[.slice A l.length ca, .slice D ds.length cd] placesT)).alloc (.cells #[.string car, .int .i64 num, .int .i64 pf, .int .i64 pt, .int .i64 pd, .slice G lg.length gc] fliT) = w5 at *
  go_loopw [5, 6] (fun vn vi wr => ∃ (k : Nat) (N : Int), k ≤ lg.length ∧ k ≤ 20 ∧ vn = .int .i64 N ∧ vi = .int .i64 k ∧ SW w5 wr) (fun _ vi _ => lg.length - (intOf vi).toNat)
  case atStart => exact ⟨0, _, Nat.zero_le _, by omega, rfl, rfl, Below.refl _ _⟩
  case round =>
    obtain ⟨k, N, hk, hk20, rfl, rfl, hS⟩ := hrel
    have t0 := bel_cell hS p0
    have t1 := bel_cell hS p1
    have t5 := bel_cell hS q5
    by_cases hlt : k < lg.length
    · have i1 : (k : Int) < (lg.length : Int) := by omega
      by_cases h20 : k < 20
      · obtain ⟨b, o, x, rfl, _, hx, c0, c1, c2, c3, c4⟩ := LegL.get (hG5.more hS) hlt
        have i2 : (k : Int) < 20 := by omega
        have f0 := SW.cell c0
        have f1 := SW.cell c1
        have f4 := SW.cell c4
        have f5 := SW.cell t5
        clear hx c0 c1 c2 c3 c4
        go_wp2
        have hNe : Nonempty (Wd (SW wr)) := ⟨⟨_, SW.drew _⟩⟩
        refine quietS (S := SW wr) (by kernel_rfl) (by kernel_rfl) (SW.drew _) ?_
        repeat (first | go_big_quiet_skip | (go_big_quiet_want; go_big_quiet_op; first | go_big_quiet_on | go_big_quiet_call ((fail))))
        refine wpQuiet_nil ?_
        rintro W ⟨⟨_, hW⟩, rfl⟩
        go_wp2
        go_roundw
        case rel => exact ⟨k + 1, _, by omega, by omega, rfl, by go_num, Below.trans hS (Below.mono hW hS.size)⟩
        case measure => simp [intOf]; omega
      · have i2 : ¬ (k : Int) < 20 := by omega
        have g1 : (12 : Int) < (lg.length : Int) := by omega
        by_cases g0 : (400 : Int) < N
        · go_wp2
          go_ret
          exact ⟨.bool true, rfl, Lib.hid (Or.inl rfl), hb0.trans (Below.mono hS hb0.size)⟩
        · go_wp2
          go_ret
          exact ⟨.bool true, rfl, Lib.hid (Or.inl rfl), hb0.trans (Below.mono hS hb0.size)⟩
    · have i1 : ¬ (k : Int) < (lg.length : Int) := by omega
      by_cases g0 : (400 : Int) < N
      · go_wp2
        go_ret
        exact ⟨.bool true, rfl, Lib.hid (Or.inl rfl), hb0.trans (Below.mono hS hb0.size)⟩
      · skip
        by_cases g1 : (12 : Int) < (lg.length : Int)
        · go_wp2
          go_ret
          exact ⟨.bool true, rfl, Lib.hid (Or.inl rfl), hb0.trans (Below.mono hS hb0.size)⟩
        · skip
          by_cases g2 : (20 : Int) < (l.length : Int)
          · go_wp2
            go_ret
            exact ⟨.bool true, rfl, Lib.hid (Or.inl rfl), hb0.trans (Below.mono hS hb0.size)⟩
          · skip
            by_cases g3 : (40 : Int) < (ds.length : Int)
            · go_wp2
              go_ret
              exact ⟨.bool true, rfl, Lib.hid (Or.inl rfl), hb0.trans (Below.mono hS hb0.size)⟩
            · skip
              go_wp2
              go_ret
              exact ⟨.bool false, rfl, Lib.hid (Or.inr ⟨rfl, by omega, by omega, by omega⟩), hb0.trans (Below.mono hS hb0.size)⟩

end Go.Proofs.YtfgmlbmjjihhfaaGreatDoor

/- Walk of checkDistances, whatever there is to report. -/
namespace Go.Proofs.YtfgmlbmjjihhfaaGreatDoor
open Go.RowKit Go.Shelf Go.Maps
set_option linter.unusedSimpArgs false
set_option linter.unusedVariables false

theorem laidOutP : laidOutB Tryz.prog = true := by kernel_rfl
def enT (c : ByteArray × ByteArray) : Value := .agg #[.string c.1, .string c.2]
theorem enT_inj (c c' : ByteArray × ByteArray) (h : enT c = enT c') : c = c' := by
  obtain ⟨a, b⟩ := c
  obtain ⟨a', b'⟩ := c'
  simp [enT] at h
  obtain ⟨rfl, rfl⟩ := h
  rfl
def gK (L : List Air) (c : ByteArray) : Option Value := if L.any (fun b => decide (b.city = c)) then some (.bool true) else none
theorem gK_put (L : List Air) (a : Air) : (fun c' => if c' = a.city then some (Value.bool true) else gK L c') = gK (L ++ [a]) := by
  funext c
  unfold gK
  by_cases e : c = a.city
  · subst e; simp
  · have e' : ¬ a.city = c := fun h => e h.symm
    simp [e, e']
theorem gK_get (L : List Air) (c : ByteArray) : (gK L c).getD (.bool false) = .bool (L.any fun b => decide (b.city = c)) := by
  unfold gK
  cases L.any fun b => decide (b.city = c) <;> rfl
def gQ (L : List Dst) (c : ByteArray × ByteArray) : Option Value := if L.any (fun x => decide (ordP x.f x.t = c)) then some (.bool true) else none
theorem gQ_put (L : List Dst) (d : Dst) : (fun c' => if c' = ordP d.f d.t then some (Value.bool true) else gQ L c') = gQ (L ++ [d]) := by
  funext c
  unfold gQ
  by_cases e : c = ordP d.f d.t
  · subst e; simp
  · have e' : ¬ ordP d.f d.t = c := fun h => e h.symm
    simp [e, e']
theorem gQ_get (L : List Dst) (d : Dst) : (gQ L (ordP d.f d.t)).getD (.bool false) = .bool (twB L d) := by
  rw [tw_iff]
  unfold gQ
  cases L.any fun x => decide (ordP x.f x.t = ordP d.f d.t) <;> rfl
theorem ord_size (a b : ByteArray) (ha : a.size ≤ maxLen) (hb : b.size ≤ maxLen) : (ordP a b).1.size ≤ maxLen ∧ (ordP a b).2.size ≤ maxLen := by
  unfold ordP
  split
  · exact ⟨ha, hb⟩
  · exact ⟨hb, ha⟩
theorem eq_dec (a b : ByteArray) : (a.toList == b.toList) = decide (a = b) := by
  by_cases h : a = b
  · subst h; simp
  · rw [decide_eq_false h]
    cases hh : (a.toList == b.toList) with
    | false => rfl
    | true => exact absurd ((eqS_iff a b).1 hh) h

end Go.Proofs.YtfgmlbmjjihhfaaGreatDoor

/- Walk of Check of places. -/
namespace Go.Proofs.YtfgmlbmjjihhfaaGreatDoor
open Go.RowKit Go.Shelf
set_option linter.unusedSimpArgs false
set_option linter.unusedVariables false

def xsP : List Flt := []
theorem sample_chk (a d : Nat) : chkP (sP a d) = [] := by
  show airF sL sL.length ++ dstF sL sD sD.length = []
  decide +kernel
theorem chk_nil {p : PV} (h : chkP p = []) : (∀ (k : Nat) (a : Air), p.l[k]? = some a → okE (airE (p.l.take k) a) = []) := by
  intro k a hk
  have h1 : airF p.l p.l.length = [] := (List.append_eq_nil_iff.1 h).1
  unfold airF at h1
  rw [List.flatMap_eq_nil_iff] at h1
  have := h1 k (List.mem_range.2 (List.getElem?_eq_some_iff.1 hk).1)
  rw [hk] at this
  unfold pick at this
  exact List.map_eq_nil_iff.1 this

end Go.Proofs.YtfgmlbmjjihhfaaGreatDoor
