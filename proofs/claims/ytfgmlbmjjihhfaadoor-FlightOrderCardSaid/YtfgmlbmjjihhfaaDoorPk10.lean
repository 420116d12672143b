/- Words and walks that the laws below ask: FliT, PlaE, PlaG, FliX, PlaR, PlaY, PlaZ, PlaQA, PlaQB, RDec. -/
import Derived.DeepKeys4
import Derived.WideKeyPair
import Derived.Deep.CutRange
import Derived.Deep.Onto
import Derived.Lib.ItoaLen
import Derived.Test.YtfgmlbmjjihhfaaDoorPk2
import Derived.Test.YtfgmlbmjjihhfaaDoorPk3
import Derived.Test.YtfgmlbmjjihhfaaDoorPk4
import Derived.Test.YtfgmlbmjjihhfaaDoorPk5
import Derived.Test.YtfgmlbmjjihhfaaDoorPk7
import Derived.Test.YtfgmlbmjjihhfaaDoorPk8
import Derived.Test.YtfgmlbmjjihhfaaDoorPk9
/- Walk of the law FlightSames. -/
namespace Go.Proofs.YtfgmlbmjjihhfaaDoor
open Go.RowKit Go.Shelf
set_option linter.unusedSimpArgs false
set_option linter.unusedVariables false

set_option maxRecDepth 100000 in
set_option maxHeartbeats 8000000 in
theorem flightSames_walk (a b : FV) (w : World) (hE : EnvP w) (ha : LegL w (.slice a.A a.lg.length a.c) a.lg) (hb : LegL w (.slice b.A b.lg.length b.c) b.lg) (oa : OkFl a) (ob : OkFl b) :
    Calls Tryd.prog 4 #[encFl a, encFl b] w fun e w' => e = .returned (.bool true) ∧ Below w.heap.size w w' := by
  have hb1 := bel_alloc w (.cells #[.string a.car, .int .i64 a.num, .int .i64 a.pf, .int .i64 a.pt, .int .i64 a.pd, .slice a.A a.lg.length a.c] fliT)
  have hb2 := bel_alloc (w.alloc (.cells #[.string a.car, .int .i64 a.num, .int .i64 a.pf, .int .i64 a.pt, .int .i64 a.pd, .slice a.A a.lg.length a.c] fliT)) (.cells #[.string b.car, .int .i64 b.num, .int .i64 b.pf, .int .i64 b.pt, .int .i64 b.pd, .slice b.A b.lg.length b.c] fliT)
  have hb0 := hb1.trans (hb2.mono hb1.size)
  have p0 := bel_cell hb2 ((cells_new w #[.string a.car, .int .i64 a.num, .int .i64 a.pf, .int .i64 a.pt, .int .i64 a.pd, .slice a.A a.lg.length a.c] fliT 0).trans (show _ = some (Value.string a.car) from rfl))
  have p1 := bel_cell hb2 ((cells_new w #[.string a.car, .int .i64 a.num, .int .i64 a.pf, .int .i64 a.pt, .int .i64 a.pd, .slice a.A a.lg.length a.c] fliT 1).trans (show _ = some (Value.int .i64 a.num) from rfl))
  have p2 := bel_cell hb2 ((cells_new w #[.string a.car, .int .i64 a.num, .int .i64 a.pf, .int .i64 a.pt, .int .i64 a.pd, .slice a.A a.lg.length a.c] fliT 2).trans (show _ = some (Value.int .i64 a.pf) from rfl))
  have p3 := bel_cell hb2 ((cells_new w #[.string a.car, .int .i64 a.num, .int .i64 a.pf, .int .i64 a.pt, .int .i64 a.pd, .slice a.A a.lg.length a.c] fliT 3).trans (show _ = some (Value.int .i64 a.pt) from rfl))
  have p4 := bel_cell hb2 ((cells_new w #[.string a.car, .int .i64 a.num, .int .i64 a.pf, .int .i64 a.pt, .int .i64 a.pd, .slice a.A a.lg.length a.c] fliT 4).trans (show _ = some (Value.int .i64 a.pd) from rfl))
  have p5 := bel_cell hb2 ((cells_new w #[.string a.car, .int .i64 a.num, .int .i64 a.pf, .int .i64 a.pt, .int .i64 a.pd, .slice a.A a.lg.length a.c] fliT 5).trans (show _ = some (Value.slice a.A a.lg.length a.c) from rfl))
  have q0 := (cells_new (w.alloc (.cells #[.string a.car, .int .i64 a.num, .int .i64 a.pf, .int .i64 a.pt, .int .i64 a.pd, .slice a.A a.lg.length a.c] fliT)) #[.string b.car, .int .i64 b.num, .int .i64 b.pf, .int .i64 b.pt, .int .i64 b.pd, .slice b.A b.lg.length b.c] fliT 0).trans (show _ = some (Value.string b.car) from rfl)
  have q1 := (cells_new (w.alloc (.cells #[.string a.car, .int .i64 a.num, .int .i64 a.pf, .int .i64 a.pt, .int .i64 a.pd, .slice a.A a.lg.length a.c] fliT)) #[.string b.car, .int .i64 b.num, .int .i64 b.pf, .int .i64 b.pt, .int .i64 b.pd, .slice b.A b.lg.length b.c] fliT 1).trans (show _ = some (Value.int .i64 b.num) from rfl)
  have q2 := (cells_new (w.alloc (.cells #[.string a.car, .int .i64 a.num, .int .i64 a.pf, .int .i64 a.pt, .int .i64 a.pd, .slice a.A a.lg.length a.c] fliT)) #[.string b.car, .int .i64 b.num, .int .i64 b.pf, .int .i64 b.pt, .int .i64 b.pd, .slice b.A b.lg.length b.c] fliT 2).trans (show _ = some (Value.int .i64 b.pf) from rfl)
  have q3 := (cells_new (w.alloc (.cells #[.string a.car, .int .i64 a.num, .int .i64 a.pf, .int .i64 a.pt, .int .i64 a.pd, .slice a.A a.lg.length a.c] fliT)) #[.string b.car, .int .i64 b.num, .int .i64 b.pf, .int .i64 b.pt, .int .i64 b.pd, .slice b.A b.lg.length b.c] fliT 3).trans (show _ = some (Value.int .i64 b.pt) from rfl)
  have q4 := (cells_new (w.alloc (.cells #[.string a.car, .int .i64 a.num, .int .i64 a.pf, .int .i64 a.pt, .int .i64 a.pd, .slice a.A a.lg.length a.c] fliT)) #[.string b.car, .int .i64 b.num, .int .i64 b.pf, .int .i64 b.pt, .int .i64 b.pd, .slice b.A b.lg.length b.c] fliT 4).trans (show _ = some (Value.int .i64 b.pd) from rfl)
  have q5 := (cells_new (w.alloc (.cells #[.string a.car, .int .i64 a.num, .int .i64 a.pf, .int .i64 a.pt, .int .i64 a.pd, .slice a.A a.lg.length a.c] fliT)) #[.string b.car, .int .i64 b.num, .int .i64 b.pf, .int .i64 b.pt, .int .i64 b.pd, .slice b.A b.lg.length b.c] fliT 5).trans (show _ = some (Value.slice b.A b.lg.length b.c) from rfl)
  rw [World.size_alloc] at q0 q1 q2 q3 q4 q5
  have HA := Lib.hid (ha.more hb0)
  have HB := Lib.hid (hb.more hb0)
  have HE := Lib.hid (hE.more hb0)
  have la := oa.len
  have lb := ob.len
  clear ha hb hE oa ob
  go_enter Tryd.func4, Tryd.ntmps4
  go_upto_region 1 with (fail)
  generalize hw5 : (w.alloc (.cells #[.string a.car, .int .i64 a.num, .int .i64 a.pf, .int .i64 a.pt, .int .i64 a.pd, .slice a.A a.lg.length a.c] fliT)).alloc (.cells #[.string b.car, .int .i64 b.num, .int .i64 b.pf, .int .i64 b.pt, .int .i64 b.pd, .slice b.A b.lg.length b.c] fliT) = w5 at *
  clear hw5 hb1 hb2
  have f0 := bel_get p0
  have g0 := bel_get q0
  have f1 := bel_get p1
  have g1 := bel_get q1
  have f2 := bel_get p2
  have g2 := bel_get q2
  have f3 := bel_get p3
  have g3 := bel_get q3
  have f4 := bel_get p4
  have g4 := bel_get q4
  have f5 := bel_get p5
  have g5 := bel_get q5
  clear p0 p1 p2 p3 p4 p5 q0 q1 q2 q3 q4 q5
  have KW : Hid (∀ W, SW w5 W → Calls Tryd.prog 8 #[] W fun e w' => e = .returned (.bool true) ∧ SW w5 w') := Lib.hid (SW.call (fun W h => awake7_any W (HE.out.more h)))
  have KB1 : Hid (∀ W, SW w5 W → Calls Tryd.prog 5 #[.agg #[.slice none 0 0, .slice none 0 0], encFl a] W fun e w' => ∃ v : Value, e = .returned v ∧ Hid (v = .bool true ∨ (v = .bool false ∧ a.lg.length ≤ 12)) ∧ SW w5 w') := Lib.hid (fun W h => (big_any ⟨none, 0, [], none, 0, []⟩ a W (HA.out.more h) la (by simp) (by simp)).mono (by
    rintro e w' ⟨v, rfl, hv, hb⟩
    exact ⟨v, rfl, Lib.hid (hv.out.imp id fun h => ⟨h.1, h.2.1⟩), Below.trans h (Below.mono hb h.size)⟩))
  have KB2 : Hid (∀ W, SW w5 W → Calls Tryd.prog 5 #[.agg #[.slice none 0 0, .slice none 0 0], encFl b] W fun e w' => ∃ v : Value, e = .returned v ∧ Hid (v = .bool true ∨ (v = .bool false ∧ b.lg.length ≤ 12)) ∧ SW w5 w') := Lib.hid (fun W h => (big_any ⟨none, 0, [], none, 0, []⟩ b W (HB.out.more h) lb (by simp) (by simp)).mono (by
    rintro e w' ⟨v, rfl, hv, hb⟩
    exact ⟨v, rfl, Lib.hid (hv.out.imp id fun h => ⟨h.1, h.2.1⟩), Below.trans h (Below.mono hb h.size)⟩))
  have hS : SW w5 w5 := Below.refl _ _
  have k0 := f0 _ hS
  have k1 := f1 _ hS
  have k2 := f2 _ hS
  have k3 := f3 _ hS
  have k4 := f4 _ hS
  have k5 := f5 _ hS
  go_wp2_with (go_at_call 5; refine (KB1.out _ hS).mono ?_; rintro e w1 ⟨v1, rfl, hv1, hS⟩; refine Hid.out ?_)
  rcases hv1.out with rfl | ⟨rfl, h12⟩
  · refine Lib.hid ?_
    clear hv1
    go_wp2_with (go_at_call 8; refine (KW.out _ hS).mono ?_; rintro e w2 ⟨rfl, hS⟩)
    go_ret
    exact ⟨rfl, hb0.trans (Below.mono hS hb0.size)⟩
  · refine Lib.hid ?_
    clear hv1
    clear k0 k1 k2 k3 k4 k5
    have m0 := g0 _ hS
    have m1 := g1 _ hS
    have m2 := g2 _ hS
    have m3 := g3 _ hS
    have m4 := g4 _ hS
    have m5 := g5 _ hS
    go_wp2_with (go_at_call 5; refine (KB2.out _ hS).mono ?_; rintro e w2 ⟨v2, rfl, hv2, hS⟩; refine Hid.out ?_)
    rcases hv2.out with rfl | ⟨rfl, g12⟩
    · refine Lib.hid ?_
      clear hv2
      go_wp2_with (go_at_call 8; refine (KW.out _ hS).mono ?_; rintro e w3 ⟨rfl, hS⟩)
      go_ret
      exact ⟨rfl, hb0.trans (Below.mono hS hb0.size)⟩
    · refine Lib.hid ?_
      clear hv2
      have K1 : Hid (∀ W, SW w5 W → Calls Tryd.prog 10 #[encFl a, encFl b] W fun e w' => e = .returned (.bool (sameB a b)) ∧ SW w5 w') := Lib.hid (SW.call (fun W h => same_any7 a b W (HA.out.more h) (HB.out.more h) (by omega) (by omega)))
      have K2 : Hid (∀ W, SW w5 W → Calls Tryd.prog 11 #[encFl a, encFl b] W fun e w' => e = .returned (.bool (sameB a b)) ∧ SW w5 w') := Lib.hid (SW.call (fun W h => rsame_any7 a b W (HA.out.more h) (HB.out.more h) (by omega) (by omega)))
      have K3 : Hid (∀ W, SW w5 W → Calls Tryd.prog 10 #[encFl a, encFl a] W fun e w' => e = .returned (.bool true) ∧ SW w5 w') := Lib.hid (SW.call (fun W h => by rw [← sameB_refl a]; exact same_any7 a a W (HA.out.more h) (HA.out.more h) (by omega) (by omega)))
      generalize sameB a b = sb at *
      have hss : (sb == sb) = true := by simp
      clear la lb h12 g12
      go_upto_region 3 with (fail)
      clear m0 m1 m2 m3 m4 m5
      have hS : (SW w5) _ := Below.drew hS
      refine wp_region_held_drew (S := SW w5) (by kernel_rfl) hS (fun _ => ?_)
      refine wpAnyH_take (i := 0) (v := ?vS0) rfl (by kernel_rfl) (by kernel_rfl) (by kernel_rfl) (fun _ _ _ h => h) (Or.inl ⟨by rfl, ?hyS0⟩) hS ?restS0
      case hyS0 =>
        intro w hSw
        have k0 := f0 w hSw; have k1 := f1 w hSw; have k2 := f2 w hSw; have k3 := f3 w hSw; have k4 := f4 w hSw; have k5 := f5 w hSw
        first | (go_simp; done) | (go_simp; with_reducible rfl)
      try simp only [Act.put, List.setIfInBounds_toArray, List.set_cons_zero, List.set_cons_succ]
      refine wpAnyH_take (i := 1) (v := ?vS1) rfl (by kernel_rfl) (by kernel_rfl) (by kernel_rfl) (fun _ _ _ h => h) (Or.inl ⟨by rfl, ?hyS1⟩) hS ?restS1
      case hyS1 =>
        intro w hSw
        have k0 := g0 w hSw; have k1 := g1 w hSw; have k2 := g2 w hSw; have k3 := g3 w hSw; have k4 := g4 w hSw; have k5 := g5 w hSw
        first | (go_simp; done) | (go_simp; with_reducible rfl)
      try simp only [Act.put, List.setIfInBounds_toArray, List.set_cons_zero, List.set_cons_succ]
      refine wpAnyH_take (i := 3) (v := ?vS3) rfl (by kernel_rfl) (by kernel_rfl) (by kernel_rfl) (fun _ _ _ h => h) (Or.inl ⟨by rfl, ?hyS3⟩) hS ?restS3
      case hyS3 =>
        intro w hSw
        have k0 := f0 w hSw; have k1 := f1 w hSw; have k2 := f2 w hSw; have k3 := f3 w hSw; have k4 := f4 w hSw; have k5 := f5 w hSw
        first | (go_simp; done) | (go_simp; with_reducible rfl)
      try simp only [Act.put, List.setIfInBounds_toArray, List.set_cons_zero, List.set_cons_succ]
      refine wpAnyH_take (i := 4) (v := ?vS4) rfl (by kernel_rfl) (by kernel_rfl) (by kernel_rfl) (fun _ _ _ h => h) (Or.inl ⟨by rfl, ?hyS4⟩) hS ?restS4
      case hyS4 =>
        intro w hSw
        have k0 := g0 w hSw; have k1 := g1 w hSw; have k2 := g2 w hSw; have k3 := g3 w hSw; have k4 := g4 w hSw; have k5 := g5 w hSw
        first | (go_simp; done) | (go_simp; with_reducible rfl)
      try simp only [Act.put, List.setIfInBounds_toArray, List.set_cons_zero, List.set_cons_succ]
      refine wpAnyH_ready (rs := [2]) (by kernel_rfl) (by simp) ?_
      refine AllReadyH.cons rfl (fun K hK => ?_) AllReadyH.nil
      go_simp
      go_wp2_with ((go_at_call 10; with_reducible refine (K1.out _ hS).mono ?_; rintro e w9 ⟨rfl, hS⟩))
      refine hK.out _ _ hS (fun _ => ?_)
      clear hK K
      refine wpAnyH_ready (rs := [5]) (by kernel_rfl) (by simp) ?_
      refine AllReadyH.cons rfl (fun K hK => ?_) AllReadyH.nil
      go_simp
      go_wp2_with ((go_at_call 11; with_reducible refine (K2.out _ hS).mono ?_; rintro e w9 ⟨rfl, hS⟩))
      refine hK.out _ _ hS (fun _ => ?_)
      clear hK K
      refine wpAnyH_take (i := 6) (v := ?vS6) rfl (by kernel_rfl) (by kernel_rfl) (by kernel_rfl) (fun _ _ _ h => h) (Or.inl ⟨by rfl, ?hyS6⟩) hS ?restS6
      case hyS6 =>
        intro w hSw
        first | (go_simp; done) | (go_simp; with_reducible rfl)
      try simp only [Act.put, List.setIfInBounds_toArray, List.set_cons_zero, List.set_cons_succ]
      refine wpAnyH_take (i := 7) (v := ?vS7) rfl (by kernel_rfl) (by kernel_rfl) (by kernel_rfl) (fun _ _ _ h => h) (Or.inl ⟨by rfl, ?hyS7⟩) hS ?restS7
      case hyS7 =>
        intro w hSw
        first | (go_simp; done) | (go_simp; with_reducible rfl)
      try simp only [Act.put, List.setIfInBounds_toArray, List.set_cons_zero, List.set_cons_succ]
      refine wpAnyH_take (i := 8) (v := ?vS8) rfl (by kernel_rfl) (by kernel_rfl) (by kernel_rfl) (fun _ _ _ h => h) (Or.inl ⟨by kernel_rfl, ?hyS8⟩) hS ?restS8
      case hyS8 =>
        intro w hSw
        have k0 := f0 w hSw; have k1 := f1 w hSw; have k2 := f2 w hSw; have k3 := f3 w hSw; have k4 := f4 w hSw; have k5 := f5 w hSw
        first | (go_simp; done) | (go_simp; with_reducible rfl)
      try simp only [Act.put, List.setIfInBounds_toArray, List.set_cons_zero, List.set_cons_succ]
      refine wpAnyH_take (i := 9) (v := ?vS9) rfl (by kernel_rfl) (by kernel_rfl) (by kernel_rfl) (fun _ _ _ h => h) (Or.inl ⟨by kernel_rfl, ?hyS9⟩) hS ?restS9
      case hyS9 =>
        intro w hSw
        have k0 := f0 w hSw; have k1 := f1 w hSw; have k2 := f2 w hSw; have k3 := f3 w hSw; have k4 := f4 w hSw; have k5 := f5 w hSw
        first | (go_simp; done) | (go_simp; with_reducible rfl)
      try simp only [Act.put, List.setIfInBounds_toArray, List.set_cons_zero, List.set_cons_succ]
      refine wpAnyH_ready (rs := [10]) (by kernel_rfl) (by simp) ?_
      refine AllReadyH.cons rfl (fun K hK => ?_) AllReadyH.nil
      go_simp
      go_wp2_with ((go_at_call 10; with_reducible refine (K3.out _ hS).mono ?_; rintro e w9 ⟨rfl, hS⟩))
      refine hK.out _ _ hS (fun _ => ?_)
      clear hK K
      refine wpAnyH_take (i := 11) (v := ?vS11) rfl (by kernel_rfl) (by kernel_rfl) (by kernel_rfl) (fun _ _ _ h => h) (Or.inl ⟨by rfl, ?hyS11⟩) hS ?restS11
      case hyS11 =>
        intro w hSw
        first | (go_simp; done) | (go_simp; with_reducible rfl)
      try simp only [Act.put, List.setIfInBounds_toArray, List.set_cons_zero, List.set_cons_succ]
      refine wpAnyH_take (i := 12) (v := ?vS12) rfl (by kernel_rfl) (by kernel_rfl) (by kernel_rfl) (fun _ _ _ h => h) (Or.inl ⟨by rfl, ?hyS12⟩) hS ?restS12
      case hyS12 =>
        intro w hSw
        first | (go_simp; done) | (go_simp; with_reducible rfl)
      try simp only [Act.put, List.setIfInBounds_toArray, List.set_cons_zero, List.set_cons_succ]
      refine wpAnyH_ready (rs := [13]) (by kernel_rfl) (by simp) ?_
      refine AllReadyH.cons rfl (fun K hK => ?_) AllReadyH.nil
      go_simp
      go_wp2_with ((go_at_call 8; with_reducible refine (KW.out _ hS).mono ?_; rintro e w9 ⟨rfl, hS⟩))
      refine hK.out _ _ hS (fun _ => ?_)
      clear hK K
      refine wpAnyH_take (i := 14) (v := ?vS14) rfl (by kernel_rfl) (by kernel_rfl) (by kernel_rfl) (fun _ _ _ h => h) (Or.inl ⟨by rfl, ?hyS14⟩) hS ?restS14
      case hyS14 =>
        intro w hSw
        first | (go_simp; done) | (go_simp; with_reducible rfl)
      try simp only [Act.put, List.setIfInBounds_toArray, List.set_cons_zero, List.set_cons_succ]
      refine wpAnyH_take (i := 15) (v := ?vS15) rfl (by kernel_rfl) (by kernel_rfl) (by kernel_rfl) (fun _ _ _ h => h) (Or.inl ⟨by rfl, ?hyS15⟩) hS ?restS15
      case hyS15 =>
        intro w hSw
        first | (go_simp; done) | (go_simp; with_reducible rfl)
      try simp only [Act.put, List.setIfInBounds_toArray, List.set_cons_zero, List.set_cons_succ]
      refine wpAnyH_done (by kernel_rfl) ?_ _
      simp only [List.getElem_toArray, List.getElem_cons_succ, List.getElem_cons_zero, List.set_cons_zero, List.set_cons_succ]
      go_wp2
      go_ret
      exact ⟨rfl, hb0.trans (Below.mono hS hb0.size)⟩

end Go.Proofs.YtfgmlbmjjihhfaaDoor

/- Walk of checkDistances, whatever there is to report. -/
namespace Go.Proofs.YtfgmlbmjjihhfaaDoor
open Go.RowKit Go.Shelf Go.Maps
set_option linter.unusedSimpArgs false
set_option linter.unusedVariables false

theorem laidOutP : laidOutB Tryd.prog = true := by kernel_rfl
def enT (c : ByteArray × ByteArray) : Value := .agg #[.string c.1, .string c.2]
theorem enT_inj (c c' : ByteArray × ByteArray) (h : enT c = enT c') : c = c' := by
  obtain ⟨a, b⟩ := c
  obtain ⟨a', b'⟩ := c'
  simp [enT] at h
  obtain ⟨rfl, rfl⟩ := h
  rfl
def gK (L : List Air) (c : ByteArray) : Option Value := if L.any (fun b => decide (b.city = c)) then some (.bool true) else none
theorem gK_put (L : List Air) (a : Air) : (fun c' => if c' = a.city then some (Value.bool true) else gK L c') = gK (L ++ [a]) := by
  funext c
  unfold gK
  by_cases e : c = a.city
  · subst e; simp
  · have e' : ¬ a.city = c := fun h => e h.symm
    simp [e, e']
theorem gK_get (L : List Air) (c : ByteArray) : (gK L c).getD (.bool false) = .bool (L.any fun b => decide (b.city = c)) := by
  unfold gK
  cases L.any fun b => decide (b.city = c) <;> rfl
def gQ (L : List Dst) (c : ByteArray × ByteArray) : Option Value := if L.any (fun x => decide (ordP x.f x.t = c)) then some (.bool true) else none
theorem gQ_put (L : List Dst) (d : Dst) : (fun c' => if c' = ordP d.f d.t then some (Value.bool true) else gQ L c') = gQ (L ++ [d]) := by
  funext c
  unfold gQ
  by_cases e : c = ordP d.f d.t
  · subst e; simp
  · have e' : ¬ ordP d.f d.t = c := fun h => e h.symm
    simp [e, e']
theorem gQ_get (L : List Dst) (d : Dst) : (gQ L (ordP d.f d.t)).getD (.bool false) = .bool (twB L d) := by
  rw [tw_iff]
  unfold gQ
  cases L.any fun x => decide (ordP x.f x.t = ordP d.f d.t) <;> rfl
theorem ord_size (a b : ByteArray) (ha : a.size ≤ maxLen) (hb : b.size ≤ maxLen) : (ordP a b).1.size ≤ maxLen ∧ (ordP a b).2.size ≤ maxLen := by
  unfold ordP
  split
  · exact ⟨ha, hb⟩
  · exact ⟨hb, ha⟩
theorem eq_dec (a b : ByteArray) : (a.toList == b.toList) = decide (a = b) := by
  by_cases h : a = b
  · subst h; simp
  · rw [decide_eq_false h]
    cases hh : (a.toList == b.toList) with
    | false => rfl
    | true => exact absurd ((eqS_iff a b).1 hh) h

end Go.Proofs.YtfgmlbmjjihhfaaDoor

/- Walk of Check of places. -/
namespace Go.Proofs.YtfgmlbmjjihhfaaDoor
open Go.RowKit Go.Shelf
set_option linter.unusedSimpArgs false
set_option linter.unusedVariables false

def xsP : List Flt := []
theorem sample_chk (a d : Nat) : chkP (sP a d) = [] := by
  show airF sL sL.length ++ dstF sL sD sD.length = []
  decide +kernel
theorem chk_nil {p : PV} (h : chkP p = []) : (∀ (k : Nat) (a : Air), p.l[k]? = some a → okE (airE (p.l.take k) a) = []) := by
  intro k a hk
  have h1 : airF p.l p.l.length = [] := (List.append_eq_nil_iff.1 h).1
  unfold airF at h1
  rw [List.flatMap_eq_nil_iff] at h1
  have := h1 k (List.mem_range.2 (List.getElem?_eq_some_iff.1 hk).1)
  rw [hk] at this
  unfold pick at this
  exact List.map_eq_nil_iff.1 this

end Go.Proofs.YtfgmlbmjjihhfaaDoor

/- Plain facts on flights without violations. -/
namespace Go.Proofs.YtfgmlbmjjihhfaaDoor
open Go.RowKit Go.Shelf
set_option linter.unusedSimpArgs false
set_option linter.unusedVariables false

/-- places without violations have zones without violations -/
theorem chk_okZ {p : PV} (h : chkP p = []) : ∀ a ∈ p.l, OkZ a.off a.shs := by
  intro a ha
  obtain ⟨k, hk⟩ := List.getElem?_of_mem ha
  have h1 := chk_nil h k a hk
  have h2 := List.filter_eq_nil_iff.1 h1 (errZ a.off a.shs) (by simp [airE])
  exact errZ_ok (by simpa using h2)
theorem chk_few {p : PV} (h : chkP p = []) : ∀ a ∈ p.l, a.shs.length ≤ 300 := fun a ha => Nat.le_trans (chk_okZ h a ha).len (by omega)
/-- without a violation of legs all times are in bounds, and each leg continues those before it -/
theorem lgs_at {l : List Air} {lg : List Lg} (h : lgsF l lg lg.length = []) {k : Nat} {x : Lg} (hk : lg[k]? = some x) : okE (lgEs l (lg.take k) x) = [] := by
  have hlt := (List.getElem?_eq_some_iff.1 hk).1
  unfold lgsF at h
  have h2 := List.flatMap_eq_nil_iff.1 h k (List.mem_range.2 hlt)
  rw [hk] at h2
  simpa [pick] using h2
theorem lgs_times {l : List Air} {lg : List Lg} (h : lgsF l lg lg.length = []) {x : Lg} (hx : x ∈ lg) : (-1000000 ≤ x.dep ∧ x.dep ≤ 1000000) ∧ -1000000 ≤ x.arr ∧ x.arr ≤ 1000000 := by
  obtain ⟨k, hk⟩ := List.getElem?_of_mem hx
  have h3 := lgs_at h hk
  have h4 : (if (!(minB x.dep && minB x.arr)) = true then (2 : Int) else 0) = 0 := by
    have := List.filter_eq_nil_iff.1 h3 (if (!(minB x.dep && minB x.arr)) = true then (2 : Int) else 0) (by simp [lgEs])
    simpa using this
  cases h5 : minB x.dep <;> cases h6 : minB x.arr <;> rw [h5, h6] at h4 <;> simp at h4
  have m1 := min_bd h5
  have m2 := min_bd h6
  omega
theorem lgs_next {l : List Air} {lg : List Lg} (h : lgsF l lg lg.length = []) {k : Nat} {x : Lg} (hk : lg[k]? = some x) : nextB (lg.take k) x = true := by
  have h3 := lgs_at h hk
  have h4 : (if (!nextB (lg.take k) x) = true then (15 : Int) else 0) = 0 := by
    have := List.filter_eq_nil_iff.1 h3 (if (!nextB (lg.take k) x) = true then (15 : Int) else 0) (by simp [lgEs])
    simpa using this
  cases h5 : nextB (lg.take k) x
  · rw [h5] at h4; simp at h4
  · rfl
theorem lgs_meet {l : List Air} {lg : List Lg} (h : lgsF l lg lg.length = []) {k : Nat} {x y : Lg} (hk : lg[k]? = some x) (h0 : k ≠ 0) (hy : lg[k - 1]? = some y) : (x.f.toList == y.t.toList) = true := by
  have h3 := lgs_next h hk
  unfold nextB at h3
  rw [Bool.and_eq_true] at h3
  have hlt := (List.getElem?_eq_some_iff.1 hk).1
  have h4 := h3.1
  unfold badF at h4
  rw [List.getLast?_eq_getElem?, List.length_take, Nat.min_eq_left (by omega), List.getElem?_take, if_pos (by omega), hy] at h4
  simpa using h4
theorem chF_nil {l : List Air} {f : FV} (h : chF l f = []) : cntB f.lg.length = true ∧ hdF f = [] ∧ lgsF l f.lg f.lg.length = [] ∧ timF l f = [] := by
  unfold chF at h
  by_cases hc : cntB f.lg.length = true
  · rw [if_pos hc] at h
    by_cases h0 : (hdF f ++ lgsF l f.lg f.lg.length).length = 0
    · rw [if_pos h0] at h
      have h1 := List.eq_nil_of_length_eq_zero h0
      exact ⟨hc, (List.append_eq_nil_iff.1 h1).1, (List.append_eq_nil_iff.1 h1).2, h⟩
    · rw [if_neg h0] at h
      rw [h] at h0
      exact absurd rfl h0
  · rw [if_neg hc] at h
    have := (List.append_eq_nil_iff.1 h).2
    simp [pick, okE] at this
theorem badD_all {l : List Air} {lg : List Lg} : ∀ {D : List Int}, badD l lg D = [] → ∀ d ∈ D, ordT true 0 (timL l lg d) = true
  | [], _, d, hd => by simp at hd
  | e :: r, h, d, hd => by
    unfold badD at h
    cases ho : ordT true 0 (timL l lg e)
    · rw [ho] at h; simp at h
    · rw [ho] at h
      rcases List.mem_cons.1 hd with rfl | hd
      · exact ho
      · exact badD_all (by simpa using h) d hd
theorem ordT_all : ∀ (L : List (Int × Int)) (first : Bool) (before : Int), ordT first before L = true → ∀ (k : Nat) (d a : Int), L[k]? = some (d, a) → d < a ∧ (k = 0 → first = false → before ≤ d) ∧ (∀ d' a', k ≠ 0 → L[k - 1]? = some (d', a') → a' ≤ d)
  | [], _, _, _, k, d, a, hk => by simp at hk
  | (d0, a0) :: r, first, before, h, k, d, a, hk => by
    unfold ordT at h
    by_cases h1 : a0 ≤ d0
    · rw [if_pos h1] at h; cases h
    rw [if_neg h1] at h
    by_cases h2 : first = false ∧ d0 < before
    · rw [if_pos h2] at h; cases h
    rw [if_neg h2] at h
    match k, hk with
    | 0, hk =>
      simp at hk
      obtain ⟨rfl, rfl⟩ := hk
      exact ⟨by omega, fun _ hf => by by_cases h3 : d0 < before; exact absurd ⟨hf, h3⟩ h2; omega, fun _ _ h0 => absurd rfl h0⟩
    | k + 1, hk =>
      have hk2 : r[k]? = some (d, a) := by simpa using hk
      obtain ⟨r1, r2, r3⟩ := ordT_all r false a0 h k d a hk2
      refine ⟨r1, fun h0 => by omega, fun d' a' _ hy => ?_⟩
      match k, r2, r3, hy with
      | 0, r2, r3, hy =>
        simp at hy
        obtain ⟨rfl, rfl⟩ := hy
        exact r2 rfl rfl
      | j + 1, r2, r3, hy => exact r3 d' a' (by omega) (by simpa using hy)
/-- on a day of a flight without violations the times of its legs are ordered -/
theorem chF_ord {l : List Air} {f : FV} (h : chF l f = []) {day : Int} (hd : Per.hasQ (f.pf, f.pt, f.pd) day = true) {k : Nat} {x : Lg} (hk : f.lg[k]? = some x) :
    depL l x day < arrL l x day ∧ (∀ y, k ≠ 0 → f.lg[k - 1]? = some y → arrL l y day ≤ depL l x day) := by
  have h1 := (chF_nil h).2.2.2
  have h2 := badD_all h1 day ((Per.daysQ_mem _ _).2 hd)
  have h3 := ordT_all _ _ _ h2 k (depL l x day) (arrL l x day) (by unfold timL; rw [List.getElem?_map, hk]; rfl)
  exact ⟨h3.1, fun y h0 hy => h3.2.2 (depL l y day) (arrL l y day) h0 (by unfold timL; rw [List.getElem?_map, hy]; rfl)⟩

end Go.Proofs.YtfgmlbmjjihhfaaDoor

/- Walks of the reference's Find and town. -/
namespace Go.Proofs.YtfgmlbmjjihhfaaDoor
open Go.RowKit Go.Shelf
set_option linter.unusedSimpArgs false
set_option linter.unusedVariables false

theorem find_at {q : Air → Bool} {l : List Air} {k : Nat} {a : Air} (h : (l.take k).find? q = none) (hk : l[k]? = some a) : (q a = true → l.find? q = some a) ∧ (q a = false → (l.take (k + 1)).find? q = none) := by
  obtain ⟨hlt, rfl⟩ := List.getElem?_eq_some_iff.1 hk
  constructor
  · intro hp
    have e : l.take k ++ l.drop k = l := List.take_append_drop k l
    rw [List.drop_eq_getElem_cons hlt] at e
    have e2 : (l.take k ++ l[k] :: l.drop (k + 1)).find? q = some l[k] := by rw [List.find?_append, h, List.find?_cons, hp]; rfl
    rwa [e] at e2
  · intro hp
    rw [List.take_add_one, hk, List.find?_append, h]
    simp [hp]

set_option maxRecDepth 100000 in
set_option maxHeartbeats 4000000 in
theorem rtown_any (p : PV) (s : ByteArray) (w : World) (hl : p.l.length ≤ 40) (hL : AirL w p.A p.l) :
    Calls Tryd.prog 38 #[encP p, .string s] w fun e w' => e = .returned (.tuple #[encA ((findT p.l s).getD airZ), .bool (findT p.l s).isSome]) ∧ Below w.heap.size w w' := by
  obtain ⟨A, ca, l, D, cd, ds⟩ := p
  dsimp only at *
  have hb1 := bel_alloc w (.cells #[.slice A l.length ca, .slice D ds.length cd] placesT)
  have hb0 : Below w.heap.size w ((w.alloc (.cells #[.slice A l.length ca, .slice D ds.length cd] placesT)).alloc (.cells #[.string noB, .string noB, .string noB, .int .i64 0, .slice none 0 0] airT)) := hb1.alloc hb1.size _
  have hb2 := bel_alloc (w.alloc (.cells #[.slice A l.length ca, .slice D ds.length cd] placesT)) (.cells #[.string noB, .string noB, .string noB, .int .i64 0, .slice none 0 0] airT)
  have p0 := bel_cell hb2 ((cells_new w #[.slice A l.length ca, .slice D ds.length cd] placesT 0).trans (show _ = some _ from rfl))
  have p1 := bel_cell hb2 ((cells_new w #[.slice A l.length ca, .slice D ds.length cd] placesT 1).trans (show _ = some _ from rfl))
  have hN := heap_alloc_new (w.alloc (.cells #[.slice A l.length ca, .slice D ds.length cd] placesT)) (.cells #[.string noB, .string noB, .string noB, .int .i64 0, .slice none 0 0] airT)
  simp only [World.size_alloc] at hN
  have hL5 := hL.more hb0
  go_enter Tryd.func38, Tryd.ntmps38
  generalize hw5 : (w.alloc (.cells #[.slice A l.length ca, .slice D ds.length cd] placesT)).alloc (.cells #[.string noB, .string noB, .string noB, .int .i64 0, .slice none 0 0] airT) = w5 at *
  have hNl : w.heap.size + 1 < w5.heap.size := (Array.getElem?_eq_some_iff.1 hN).1
  have n0 := (cell_of_row w5 _ 0 _ _ (0, 0) hN).trans (show _ = some _ from rfl)
  have n1 := (cell_of_row w5 _ 1 _ _ (0, 0) hN).trans (show _ = some _ from rfl)
  have n2 := (cell_of_row w5 _ 2 _ _ (0, 0) hN).trans (show _ = some _ from rfl)
  have n3 := (cell_of_row w5 _ 3 _ _ (0, 0) hN).trans (show _ = some _ from rfl)
  have n4 := (cell_of_row w5 _ 4 _ _ (0, 0) hN).trans (show _ = some _ from rfl)
  have z0 := frozen_of_row w5 _ 0 _ _ hN
  have z1 := frozen_of_row w5 _ 1 _ _ hN
  have z2 := frozen_of_row w5 _ 2 _ _ hN
  have z3 := frozen_of_row w5 _ 3 _ _ hN
  have z4 := frozen_of_row w5 _ 4 _ _ hN
  have HN := Lib.hid hN
  have HB := Lib.hid hb0
  clear hb1 hb2 hN hb0 hL
  go_wp2
  go_loop [6] (fun vi => ∃ k : Nat, k ≤ l.length ∧ vi = .int .i64 k ∧ Hid ((l.take k).find? (fun a => eqS a.city s) = none)) (fun vi => l.length - (intOf vi).toNat)
  case atStart => exact ⟨0, Nat.zero_le _, rfl, Lib.hid rfl⟩
  case round =>
    obtain ⟨k, hk, rfl, HK⟩ := hrel
    by_cases hlt : k < l.length
    · obtain ⟨b, o, a, rfl, hgl, hka, ha⟩ := hL5.at hlt
      have i2 : (k : Int) < (l.length : Int) := by omega
      obtain ⟨a0, a1, a2, a3, a4, ash⟩ := ha
      have hf := Lib.hid (find_at HK.out hka)
      cases he : (a.city.toList == s.toList)
      · have HX := Lib.hid (hf.out.2 he)
        clear hka ash
        go_wp2
        go_round
        case rel => exact ⟨k + 1, by omega, by go_num, HX⟩
        case measure => simp [intOf]; omega
      · have HR : Hid (findT l s = some a) := Lib.hid (hf.out.1 he)
        clear hka ash hL5
        go_wp2
        have hx := S5.heap HN.out (.string a.code) (.string a.city) (.string a.land) (.int .i64 a.off) (.slice a.A a.shs.length a.c)
        have hbt := S5.but w5 (w.heap.size + 1) (.string a.code) (.string a.city) (.string a.land) (.int .i64 a.off) (.slice a.A a.shs.length a.c)
        have c0 := (cell_of_row _ _ 0 _ _ (0, 0) hx).trans (show _ = some _ from rfl)
        have c1 := (cell_of_row _ _ 1 _ _ (0, 0) hx).trans (show _ = some _ from rfl)
        have c2 := (cell_of_row _ _ 2 _ _ (0, 0) hx).trans (show _ = some _ from rfl)
        have c3 := (cell_of_row _ _ 3 _ _ (0, 0) hx).trans (show _ = some _ from rfl)
        have c4 := (cell_of_row _ _ 4 _ _ (0, 0) hx).trans (show _ = some _ from rfl)
        have hbw : Below w.heap.size w (S5 w5 (w.heap.size + 1) (.string a.code) (.string a.city) (.string a.land) (.int .i64 a.off) (.slice a.A a.shs.length a.c)) := HB.out.trans (hbt.below HB.out.size (fun k hk => by omega))
        refine bodyPost_ret (v := .tuple #[encA a, .bool true]) ?_ rfl ⟨by rw [HR.out]; rfl, hbw⟩
        change (results _ _).run Tryd.prog (S5 w5 (w.heap.size + 1) (.string a.code) (.string a.city) (.string a.land) (.int .i64 a.off) (.slice a.A a.shs.length a.c)) = .ok _ (S5 w5 (w.heap.size + 1) (.string a.code) (.string a.city) (.string a.land) (.int .i64 a.off) (.slice a.A a.shs.length a.c))
        generalize S5 w5 (w.heap.size + 1) (.string a.code) (.string a.city) (.string a.land) (.int .i64 a.off) (.slice a.A a.shs.length a.c) = W at c0 c1 c2 c3 c4 ⊢
        simp [results, Tryd.results38, go_sem, c0, c1, c2, c3, c4]
    · have HR : Hid (findT l s = none) := Lib.hid (by have h := HK.out; rwa [List.take_of_length_le (by omega)] at h)
      clear hL5
      go_wp2
      have hx := S5.heap HN.out (.string noB) (.string noB) (.string noB) (.int .i64 0) (.slice none 0 0)
      have hbt := S5.but w5 (w.heap.size + 1) (.string noB) (.string noB) (.string noB) (.int .i64 0) (.slice none 0 0)
      have c0 := (cell_of_row _ _ 0 _ _ (0, 0) hx).trans (show _ = some _ from rfl)
      have c1 := (cell_of_row _ _ 1 _ _ (0, 0) hx).trans (show _ = some _ from rfl)
      have c2 := (cell_of_row _ _ 2 _ _ (0, 0) hx).trans (show _ = some _ from rfl)
      have c3 := (cell_of_row _ _ 3 _ _ (0, 0) hx).trans (show _ = some _ from rfl)
      have c4 := (cell_of_row _ _ 4 _ _ (0, 0) hx).trans (show _ = some _ from rfl)
      have hbw : Below w.heap.size w (S5 w5 (w.heap.size + 1) (.string noB) (.string noB) (.string noB) (.int .i64 0) (.slice none 0 0)) := HB.out.trans (hbt.below HB.out.size (fun k hk => by omega))
      refine bodyPost_ret (v := .tuple #[encA airZ, .bool false]) ?_ rfl ⟨by rw [HR.out]; rfl, hbw⟩
      change (results _ _).run Tryd.prog (S5 w5 (w.heap.size + 1) (.string noB) (.string noB) (.string noB) (.int .i64 0) (.slice none 0 0)) = .ok _ (S5 w5 (w.heap.size + 1) (.string noB) (.string noB) (.string noB) (.int .i64 0) (.slice none 0 0))
      generalize S5 w5 (w.heap.size + 1) (.string noB) (.string noB) (.string noB) (.int .i64 0) (.slice none 0 0) = W at c0 c1 c2 c3 c4 ⊢
      simp [results, Tryd.results38, go_sem, c0, c1, c2, c3, c4, airZ]

end Go.Proofs.YtfgmlbmjjihhfaaDoor

/- Walk of the reference's City. -/
namespace Go.Proofs.YtfgmlbmjjihhfaaDoor
open Go.RowKit Go.Shelf
set_option linter.unusedSimpArgs false
set_option linter.unusedVariables false

end Go.Proofs.YtfgmlbmjjihhfaaDoor

/- Walk of the reference's Country. -/
namespace Go.Proofs.YtfgmlbmjjihhfaaDoor
open Go.RowKit Go.Shelf
set_option linter.unusedSimpArgs false
set_option linter.unusedVariables false

end Go.Proofs.YtfgmlbmjjihhfaaDoor

/- Walk of the reference's airport. -/
namespace Go.Proofs.YtfgmlbmjjihhfaaDoor
open Go.RowKit Go.Shelf
set_option linter.unusedSimpArgs false
set_option linter.unusedVariables false

abbrev errnT : TypeId := 37
def encE (x : Int) : List Value := [.int .i64 x]
theorem rtE : RT Tryd.prog 46 errnT 1 encE where
  ht := Tryd.underlying46
  info := ⟨.int .i64 0, 8, by kernel_rfl, rfl, by omega⟩
  len x := rfl
  one x u hu := by simp [encE] at hu; subst hu; rfl
  pos := by omega
abbrev EOwn (B : Nat) (w : World) (v : Value) (l : List Int) : Prop := ROwn errnT 1 encE B w v l
theorem rairp_any (s : ByteArray) (w : World) (hs : s.size ≤ maxLen) : Calls Tryd.prog 34 #[.string s] w fun e w' => e = .returned (.bool (capsB s 3)) ∧ w = w' := by
  go_enter Tryd.func34, Tryd.ntmps34
  go_wp2_with (go_at_call 56; refine (letters_any _ _ _ hs).mono ?_; rintro e w' ⟨rfl, rfl⟩)
  go_ret
  exact ⟨rfl, rfl⟩
theorem rland_any (s : ByteArray) (w : World) (hs : s.size ≤ maxLen) : Calls Tryd.prog 35 #[.string s] w fun e w' => e = .returned (.bool (capsB s 2)) ∧ w = w' := by
  go_enter Tryd.func35, Tryd.ntmps35
  go_wp2_with (go_at_call 56; refine (letters_any _ _ _ hs).mono ?_; rintro e w' ⟨rfl, rfl⟩)
  go_ret
  exact ⟨rfl, rfl⟩
theorem okE_app (a b : List Int) : okE (a ++ b) = okE a ++ okE b := by simp [okE]
theorem okE_one (e : Int) (h : e ≠ 0) : okE [e] = [e] := by simp [okE, h]
theorem any_take {α : Type} (q : α → Bool) (l : List α) (k : Nat) (a : α) (h : l[k]? = some a) : (l.take (k + 1)).any q = ((l.take k).any q || q a) := by
  rw [List.take_add_one, h, List.any_append]
  simp
theorem eqB (a b : ByteArray) : (a.toList == b.toList) = decide (a = b) := by
  by_cases h : a = b
  · subst h; simp
  · rw [decide_eq_false h]
    cases hh : (a.toList == b.toList) with
    | false => rfl
    | true => exact absurd ((eqS_iff a b).1 hh) h

set_option maxRecDepth 100000 in
set_option maxHeartbeats 8000000 in
theorem rairport_any (p : PV) (i : Nat) (a : Air) (w : World) (hp : OkP p) (hL : PlL w p) (hi : p.l[i]? = some a) :
    Calls Tryd.prog 12 #[encP p, .int .i64 (i : Int)] w fun e w' => ∃ v', e = .returned v' ∧ EOwn w.heap.size w' v' (okE (airE (p.l.take i) a)) ∧ Below w.heap.size w w' := by
  obtain ⟨A, ca, l, D, cd, ds⟩ := p
  obtain ⟨hA, hD, hla, hld⟩ := hp
  obtain ⟨hLa, hLd⟩ := hL
  dsimp only at *
  have hil := (List.getElem?_eq_some_iff.1 hi).1
  obtain ⟨bb, off, a', rfl, hgl, hka, ha⟩ := hLa.at hil
  rw [hi] at hka
  obtain rfl := Option.some.inj hka
  obtain ⟨s1, s2, s3, s4, s5⟩ := hA a (List.mem_of_getElem? hi)
  have hb1 := bel_alloc w (.cells #[.slice (some ⟨bb, off, none⟩) l.length ca, .slice D ds.length cd] placesT)
  have hb2 := bel_alloc (w.alloc (.cells #[.slice (some ⟨bb, off, none⟩) l.length ca, .slice D ds.length cd] placesT)) (.cells #[.string a.code, .string a.city, .string a.land, .int .i64 a.off, .slice a.A a.shs.length a.c] airT)
  have p0 := bel_cell hb2 ((cells_new w #[.slice (some ⟨bb, off, none⟩) l.length ca, .slice D ds.length cd] placesT 0).trans (show _ = some _ from rfl))
  have p1 := bel_cell hb2 ((cells_new w #[.slice (some ⟨bb, off, none⟩) l.length ca, .slice D ds.length cd] placesT 1).trans (show _ = some _ from rfl))
  have q0 := (cells_new (w.alloc (.cells #[.slice (some ⟨bb, off, none⟩) l.length ca, .slice D ds.length cd] placesT)) #[.string a.code, .string a.city, .string a.land, .int .i64 a.off, .slice a.A a.shs.length a.c] airT 0).trans (show _ = some _ from rfl)
  have q1 := (cells_new (w.alloc (.cells #[.slice (some ⟨bb, off, none⟩) l.length ca, .slice D ds.length cd] placesT)) #[.string a.code, .string a.city, .string a.land, .int .i64 a.off, .slice a.A a.shs.length a.c] airT 1).trans (show _ = some _ from rfl)
  have q2 := (cells_new (w.alloc (.cells #[.slice (some ⟨bb, off, none⟩) l.length ca, .slice D ds.length cd] placesT)) #[.string a.code, .string a.city, .string a.land, .int .i64 a.off, .slice a.A a.shs.length a.c] airT 2).trans (show _ = some _ from rfl)
  have q3 := (cells_new (w.alloc (.cells #[.slice (some ⟨bb, off, none⟩) l.length ca, .slice D ds.length cd] placesT)) #[.string a.code, .string a.city, .string a.land, .int .i64 a.off, .slice a.A a.shs.length a.c] airT 3).trans (show _ = some _ from rfl)
  have q4 := (cells_new (w.alloc (.cells #[.slice (some ⟨bb, off, none⟩) l.length ca, .slice D ds.length cd] placesT)) #[.string a.code, .string a.city, .string a.land, .int .i64 a.off, .slice a.A a.shs.length a.c] airT 4).trans (show _ = some _ from rfl)
  rw [World.size_alloc] at q0 q1 q2 q3 q4
  have hb0 := hb1.trans (hb2.mono hb1.size)
  have hLa5 := hLa.more hb0
  have hsh5 := ha.sh.more hb0
  have i1 : (i : Int) < (l.length : Int) := by omega
  have C1 := Lib.hid (fun w => rairp_any a.code w s1)
  have C2 := Lib.hid (fun w => rairp_any a.city w s2)
  have C3 := Lib.hid (fun w => rland_any a.land w s3)
  have HB : Hid (codesB a = (capsB a.code 3 && capsB a.city 3 && capsB a.land 2)) := Lib.hid rfl
  have HAE : Hid (airE (l.take i) a = [if codesB a then 0 else 5, if (l.take i).any (fun b => decide (b.code = a.code)) then 6 else 0, if (l.take i).any (fun b => decide (b.city = a.city) && !decide (b.land = a.land)) then 8 else 0, errZ a.off a.shs]) := Lib.hid rfl
  obtain ⟨a0, a1, a2, a3, a4, ash⟩ := ha
  go_enter Tryd.func12, Tryd.ntmps12
  go_upto_region 3 with fail
  clear a0 a1 a2 a3 a4 ash hLa hLd hgl hb1 hb2
  generalize hw5 : (w.alloc (.cells #[.slice (some ⟨bb, off, none⟩) l.length ca, .slice D ds.length cd] placesT)).alloc (.cells #[.string a.code, .string a.city, .string a.land, .int .i64 a.off, .slice a.A a.shs.length a.c] airT) = w5 at *
  clear hw5
  go_cut [31] from 16 (fun v wx => v = .bool (!codesB a) ∧ wx = w5)
  case first =>
    cases b1 : capsB a.code 3
    · rw [b1] at C1 HB
      go_wp2_with (go_at_call 34; refine (C1.out _).mono ?_; rintro e w' ⟨rfl, rfl⟩)
      go_meet
      exact ⟨by rw [HB.out]; rfl, rfl⟩
    rw [b1] at C1 HB
    cases b2 : capsB a.city 3
    · rw [b2] at C2 HB
      go_wp2_with (first | (go_at_call 34; with_reducible refine (C1.out _).mono ?_; rintro e w' ⟨rfl, rfl⟩) | (go_at_call 34; with_reducible refine (C2.out _).mono ?_; rintro e w' ⟨rfl, rfl⟩))
      all_goals
        go_meet
        exact ⟨by rw [HB.out]; rfl, rfl⟩
    rw [b2] at C2 HB
    cases b3 : capsB a.land 2 <;> rw [b3] at C3 HB <;>
    · go_wp2_with (first | (go_at_call 35; refine (C3.out _).mono ?_; rintro e w' ⟨rfl, rfl⟩) | (go_at_call 34; with_reducible refine (C1.out _).mono ?_; rintro e w' ⟨rfl, rfl⟩) | (go_at_call 34; with_reducible refine (C2.out _).mono ?_; rintro e w' ⟨rfl, rfl⟩))
      go_meet
      exact ⟨by rw [HB.out]; rfl, rfl⟩
  case rest =>
    obtain ⟨rfl, hwc⟩ := hcut
    obtain rfl := hwc.symm
    clear C1 C2 C3 HB
    have hBw := hb0.size
    go_upto_if 31 with fail
    go_cut [5] from 16 (fun v wx => Hid (EOwn w5.heap.size wx v (okE [if codesB a then 0 else 5]) ∧ SW w5 wx))
    case first =>
      cases hcb : codesB a with
      | true =>
        go_wp2
        go_meet
        exact Lib.hid ⟨by rw [hcb]; exact ROwn.nil (Nat.le_refl _), Below.refl _ _⟩
      | false =>
        have hN : EOwn w5.heap.size w5 (.slice none 0 0) [] := ROwn.nil (Nat.le_refl _)
        go_wp2_with (at_builtin; refine wpList_rapp rtE rfl _ _ rfl hN rfl (bel_alloc _ _) _ 5 _ rfl (cs := #[.int .i64 5]) rfl (heap_alloc_new _ _) (by simp) ?_; intro v' w' hO hC)
        go_meet
        exact Lib.hid ⟨by rw [hcb]; exact hO, hC.but.below (Nat.le_refl _) (fun k hk hv => by cases hv)⟩
    case rest =>
      have HC := Lib.hid hcut.out.1
      have hS0 : SW w5 wc := hcut.out.2
      generalize (if codesB a then (0 : Int) else 5) = x0 at *
      clear hcut
      have f0 := bel_get p0
      have g0 := bel_get q0
      have g1 := bel_get q1
      have g2 := bel_get q2
      have g3 := bel_get q3
      have g4 := bel_get q4
      go_wp2
      go_loopw [7, 8, 9] (fun v7 v8 vi wr => ∃ (k : Nat) (tw mv : Bool), k ≤ i ∧ vi = .int .i64 k ∧ v7 = .bool tw ∧ v8 = .bool mv ∧ Hid (tw = (l.take k).any (fun b => decide (b.code = a.code))) ∧ Hid (mv = (l.take k).any (fun b => decide (b.city = a.city) && !decide (b.land = a.land))) ∧ SW wc wr) (fun _ _ vi _ => i - (intOf vi).toNat)
      case atStart => exact ⟨0, false, false, Nat.zero_le _, rfl, rfl, rfl, Lib.hid rfl, Lib.hid rfl, Below.refl _ _⟩
      case round =>
        obtain ⟨k, tw, mv, hk, rfl, rfl, rfl, HT, HM, hS⟩ := hrel
        have hSr : SW w5 wr := Below.trans hS0 (Below.mono hS hS0.size)
        by_cases hlt : k < i
        · obtain ⟨bb', off', b, e, hgl', hkb, hb⟩ := (hLa5.more hSr).at (show k < l.length by omega)
          cases e
          have HT2 := Lib.hid (any_take (fun b => decide (b.code = a.code)) l k b hkb)
          have HM2 := Lib.hid (any_take (fun b => decide (b.city = a.city) && !decide (b.land = a.land)) l k b hkb)
          have i2 : (k : Int) < (i : Int) := by omega
          have i3 : (k : Int) < (l.length : Int) := by omega
          have e1 := eqB b.code a.code
          have e2 := eqB b.city a.city
          have e3 := eqB b.land a.land
          have k0 := SW.cell (f0 _ hSr)
          have k1 := SW.cell (g0 _ hSr)
          have k2 := SW.cell (g1 _ hSr)
          have k3 := SW.cell (g2 _ hSr)
          have k4 := SW.cell hb.c0
          have k5 := SW.cell hb.c1
          have k6 := SW.cell hb.c2
          clear hkb hb
          cases tw with
          | true =>
            have HT3 : Hid (true = (l.take (k + 1)).any (fun b => decide (b.code = a.code))) := Lib.hid (by rw [HT2.out, ← HT.out]; simp)
            cases mv with
            | true =>
              have HM3 : Hid (true = (l.take (k + 1)).any (fun b => decide (b.city = a.city) && !decide (b.land = a.land))) := Lib.hid (by rw [HM2.out, ← HM.out]; simp)
              clear HT2 HM2
              clear e1 e3
              go_wp2
              have hNe : Nonempty (Wd (SW wr)) := ⟨⟨_, SW.drew _⟩⟩
              refine quietS (S := SW wr) (by kernel_rfl) (by kernel_rfl) (SW.drew _) ?_
              repeat (first | go_big_quiet_skip | (go_big_quiet_want; go_big_quiet_op; first | go_big_quiet_on | go_big_quiet_call ((fail))))
              refine wpQuiet_nil ?_
              rintro W ⟨⟨_, hW⟩, rfl⟩
              go_wp2
              have hNe : Nonempty (Wd (SW wr)) := ⟨⟨_, (Below.drew hW)⟩⟩
              refine quietS (S := SW wr) (by kernel_rfl) (by kernel_rfl) ((Below.drew hW)) ?_
              repeat (first | go_big_quiet_skip | (go_big_quiet_want; go_big_quiet_op; first | go_big_quiet_on | go_big_quiet_call ((fail))))
              refine wpQuiet_nil ?_
              rintro W ⟨⟨_, hW⟩, rfl⟩
              go_wp2
              go_roundw
              case rel => exact ⟨k + 1, true, true, by omega, by go_num, rfl, rfl, HT3, HM3, Below.trans hS (Below.mono hW hS.size)⟩
              case measure => simp [intOf]; omega
            | false =>
              cases hce : decide (b.city = a.city) with
              | true =>
                rw [hce] at e2
                have HM3 : Hid ((!(b.land.toList == a.land.toList)) = (l.take (k + 1)).any (fun b => decide (b.city = a.city) && !decide (b.land = a.land))) := Lib.hid (by rw [HM2.out, ← HM.out, hce, e3]; simp)
                clear HT2 HM2 hce
                clear e1 e3
                go_wp2
                have hNe : Nonempty (Wd (SW wr)) := ⟨⟨_, SW.drew _⟩⟩
                refine quietS (S := SW wr) (by kernel_rfl) (by kernel_rfl) (SW.drew _) ?_
                repeat (first | go_big_quiet_skip | (go_big_quiet_want; go_big_quiet_op; first | go_big_quiet_on | go_big_quiet_call ((fail))))
                refine wpQuiet_nil ?_
                rintro W ⟨⟨_, hW⟩, rfl⟩
                go_wp2
                have hNe : Nonempty (Wd (SW wr)) := ⟨⟨_, (Below.drew hW)⟩⟩
                refine quietS (S := SW wr) (by kernel_rfl) (by kernel_rfl) ((Below.drew hW)) ?_
                repeat (first | go_big_quiet_skip | (go_big_quiet_want; go_big_quiet_op; first | go_big_quiet_on | go_big_quiet_call ((fail))))
                refine wpQuiet_nil ?_
                rintro W ⟨⟨_, hW⟩, rfl⟩
                go_wp2
                go_roundw
                case rel => exact ⟨k + 1, true, (!(b.land.toList == a.land.toList)), by omega, by go_num, rfl, rfl, HT3, HM3, Below.trans hS (Below.mono hW hS.size)⟩
                case measure => simp [intOf]; omega
              | false =>
                rw [hce] at e2
                have HM3 : Hid (false = (l.take (k + 1)).any (fun b => decide (b.city = a.city) && !decide (b.land = a.land))) := Lib.hid (by rw [HM2.out, ← HM.out, hce]; simp)
                clear HT2 HM2 hce
                clear e1 e3
                go_wp2
                have hNe : Nonempty (Wd (SW wr)) := ⟨⟨_, SW.drew _⟩⟩
                refine quietS (S := SW wr) (by kernel_rfl) (by kernel_rfl) (SW.drew _) ?_
                repeat (first | go_big_quiet_skip | (go_big_quiet_want; go_big_quiet_op; first | go_big_quiet_on | go_big_quiet_call ((fail))))
                refine wpQuiet_nil ?_
                rintro W ⟨⟨_, hW⟩, rfl⟩
                go_wp2
                have hNe : Nonempty (Wd (SW wr)) := ⟨⟨_, (Below.drew hW)⟩⟩
                refine quietS (S := SW wr) (by kernel_rfl) (by kernel_rfl) ((Below.drew hW)) ?_
                repeat (first | go_big_quiet_skip | (go_big_quiet_want; go_big_quiet_op; first | go_big_quiet_on | go_big_quiet_call ((fail))))
                refine wpQuiet_nil ?_
                rintro W ⟨⟨_, hW⟩, rfl⟩
                go_wp2
                go_roundw
                case rel => exact ⟨k + 1, true, false, by omega, by go_num, rfl, rfl, HT3, HM3, Below.trans hS (Below.mono hW hS.size)⟩
                case measure => simp [intOf]; omega
          | false =>
            have HT3 : Hid ((b.code.toList == a.code.toList) = (l.take (k + 1)).any (fun b => decide (b.code = a.code))) := Lib.hid (by rw [HT2.out, ← HT.out, e1]; simp)
            cases mv with
            | true =>
              have HM3 : Hid (true = (l.take (k + 1)).any (fun b => decide (b.city = a.city) && !decide (b.land = a.land))) := Lib.hid (by rw [HM2.out, ← HM.out]; simp)
              clear HT2 HM2
              clear e1 e3
              go_wp2
              have hNe : Nonempty (Wd (SW wr)) := ⟨⟨_, SW.drew _⟩⟩
              refine quietS (S := SW wr) (by kernel_rfl) (by kernel_rfl) (SW.drew _) ?_
              repeat (first | go_big_quiet_skip | (go_big_quiet_want; go_big_quiet_op; first | go_big_quiet_on | go_big_quiet_call ((fail))))
              refine wpQuiet_nil ?_
              rintro W ⟨⟨_, hW⟩, rfl⟩
              go_wp2
              have hNe : Nonempty (Wd (SW wr)) := ⟨⟨_, (Below.drew hW)⟩⟩
              refine quietS (S := SW wr) (by kernel_rfl) (by kernel_rfl) ((Below.drew hW)) ?_
              repeat (first | go_big_quiet_skip | (go_big_quiet_want; go_big_quiet_op; first | go_big_quiet_on | go_big_quiet_call ((fail))))
              refine wpQuiet_nil ?_
              rintro W ⟨⟨_, hW⟩, rfl⟩
              go_wp2
              go_roundw
              case rel => exact ⟨k + 1, (b.code.toList == a.code.toList), true, by omega, by go_num, rfl, rfl, HT3, HM3, Below.trans hS (Below.mono hW hS.size)⟩
              case measure => simp [intOf]; omega
            | false =>
              cases hce : decide (b.city = a.city) with
              | true =>
                rw [hce] at e2
                have HM3 : Hid ((!(b.land.toList == a.land.toList)) = (l.take (k + 1)).any (fun b => decide (b.city = a.city) && !decide (b.land = a.land))) := Lib.hid (by rw [HM2.out, ← HM.out, hce, e3]; simp)
                clear HT2 HM2 hce
                clear e1 e3
                go_wp2
                have hNe : Nonempty (Wd (SW wr)) := ⟨⟨_, SW.drew _⟩⟩
                refine quietS (S := SW wr) (by kernel_rfl) (by kernel_rfl) (SW.drew _) ?_
                repeat (first | go_big_quiet_skip | (go_big_quiet_want; go_big_quiet_op; first | go_big_quiet_on | go_big_quiet_call ((fail))))
                refine wpQuiet_nil ?_
                rintro W ⟨⟨_, hW⟩, rfl⟩
                go_wp2
                have hNe : Nonempty (Wd (SW wr)) := ⟨⟨_, (Below.drew hW)⟩⟩
                refine quietS (S := SW wr) (by kernel_rfl) (by kernel_rfl) ((Below.drew hW)) ?_
                repeat (first | go_big_quiet_skip | (go_big_quiet_want; go_big_quiet_op; first | go_big_quiet_on | go_big_quiet_call ((fail))))
                refine wpQuiet_nil ?_
                rintro W ⟨⟨_, hW⟩, rfl⟩
                go_wp2
                go_roundw
                case rel => exact ⟨k + 1, (b.code.toList == a.code.toList), (!(b.land.toList == a.land.toList)), by omega, by go_num, rfl, rfl, HT3, HM3, Below.trans hS (Below.mono hW hS.size)⟩
                case measure => simp [intOf]; omega
              | false =>
                rw [hce] at e2
                have HM3 : Hid (false = (l.take (k + 1)).any (fun b => decide (b.city = a.city) && !decide (b.land = a.land))) := Lib.hid (by rw [HM2.out, ← HM.out, hce]; simp)
                clear HT2 HM2 hce
                clear e1 e3
                go_wp2
                have hNe : Nonempty (Wd (SW wr)) := ⟨⟨_, SW.drew _⟩⟩
                refine quietS (S := SW wr) (by kernel_rfl) (by kernel_rfl) (SW.drew _) ?_
                repeat (first | go_big_quiet_skip | (go_big_quiet_want; go_big_quiet_op; first | go_big_quiet_on | go_big_quiet_call ((fail))))
                refine wpQuiet_nil ?_
                rintro W ⟨⟨_, hW⟩, rfl⟩
                go_wp2
                have hNe : Nonempty (Wd (SW wr)) := ⟨⟨_, (Below.drew hW)⟩⟩
                refine quietS (S := SW wr) (by kernel_rfl) (by kernel_rfl) ((Below.drew hW)) ?_
                repeat (first | go_big_quiet_skip | (go_big_quiet_want; go_big_quiet_op; first | go_big_quiet_on | go_big_quiet_call ((fail))))
                refine wpQuiet_nil ?_
                rintro W ⟨⟨_, hW⟩, rfl⟩
                go_wp2
                go_roundw
                case rel => exact ⟨k + 1, (b.code.toList == a.code.toList), false, by omega, by go_num, rfl, rfl, HT3, HM3, Below.trans hS (Below.mono hW hS.size)⟩
                case measure => simp [intOf]; omega
        · have hki : k = i := by omega
          subst hki
          have hO := HC.out.more hS
          have HLn : Hid ((okE [x0]).length ≤ 1) := Lib.hid (by unfold okE; exact List.length_filter_le _ _)
          have KZ : Hid (∀ W, SW w5 W → Calls Tryd.prog 36 #[.agg #[.int .i64 a.off, .slice a.A a.shs.length a.c]] W fun e w' => e = .returned (.int .i64 (errZ a.off a.shs)) ∧ Below W.heap.size W w') := Lib.hid (fun W hW => rcheck_any a.off a.A a.c a.shs W s4 (hsh5.more hW) s5)
          rw [← HT.out, ← HM.out] at HAE
          clear HT HM HC hLa5 hsh5
          generalize errZ a.off a.shs = ez at *
          have HE3 : Hid (okE (airE (l.take k) a) = okE [x0] ++ okE [if tw = true then 6 else 0] ++ okE [if mv = true then 8 else 0] ++ okE [ez]) := Lib.hid (by rw [HAE.out, ← okE_app, ← okE_app, ← okE_app]; rfl)
          clear HAE
          cases tw with
          | true =>
            cases mv with
            | true =>
              by_cases hez : ez = 0
              · subst hez
                have HF : Hid (okE (airE (l.take k) a) = okE [x0] ++ [6] ++ [8]) := Lib.hid (by rw [HE3.out]; simp [okE])
                clear HE3
                have z3 := g3 _ hSr
                have z4 := g4 _ hSr
                go_wp2_with (first | (go_at_call 36; refine (KZ.out _ hSb).mono ?_; rintro e wz ⟨rfl, hbz⟩; have hOz := hOb.more hbz; have hSz : SW w5 wz := Below.trans hSb (Below.mono hbz hSb.size)) | (at_builtin; refine wpList_rapp rtE rfl _ _ rfl hOa rfl (bel_alloc _ _) _ (8 : Int) _ rfl (cs := #[.int .i64 8]) rfl (heap_alloc_new _ _) (by have := HLn.out; (try simp only [List.length_append, List.length_cons, List.length_nil]); omega) ?_; intro vb wb hOb hCb; have hSb : SW w5 wb := Below.trans hSa ((hCb.below hOa).mono (Nat.le_refl _)); have z3 := g3 _ hSb; have z4 := g4 _ hSb) | (at_builtin; refine wpList_rapp rtE rfl _ _ rfl hO rfl (bel_alloc _ _) _ (6 : Int) _ rfl (cs := #[.int .i64 6]) rfl (heap_alloc_new _ _) (by have := HLn.out; (try simp only [List.length_append, List.length_cons, List.length_nil]); omega) ?_; intro va wa hOa hCa; have hSa : SW w5 wa := Below.trans hSr ((hCa.below hO).mono (Nat.le_refl _)); have z3 := g3 _ hSa; have z4 := g4 _ hSa))
                go_ret
                exact ⟨_, rfl, ⟨by rw [HF.out]; exact hOz.own.mono hBw, Nat.le_trans hBw hSz.size⟩, hb0.trans (Below.mono hSz hBw)⟩
              · have hez2 : (ez != 0) = true := by simp [hez]
                have HF : Hid (okE (airE (l.take k) a) = okE [x0] ++ [6] ++ [8] ++ [ez]) := Lib.hid (by rw [HE3.out]; rw [okE_one ez hez]; simp [okE])
                clear HE3 hez
                have z3 := g3 _ hSr
                have z4 := g4 _ hSr
                go_wp2_with (first | (at_builtin; refine wpList_rapp rtE rfl _ _ rfl hOz rfl (bel_alloc _ _) _ (ez : Int) _ rfl (cs := #[.int .i64 ez]) rfl (heap_alloc_new _ _) (by have := HLn.out; (try simp only [List.length_append, List.length_cons, List.length_nil]); omega) ?_; intro vc wc hOc hCc; have hSc : SW w5 wc := Below.trans hSz ((hCc.below hOz).mono (Nat.le_refl _)); have z3 := g3 _ hSc; have z4 := g4 _ hSc) | (go_at_call 36; refine (KZ.out _ hSb).mono ?_; rintro e wz ⟨rfl, hbz⟩; have hOz := hOb.more hbz; have hSz : SW w5 wz := Below.trans hSb (Below.mono hbz hSb.size)) | (at_builtin; refine wpList_rapp rtE rfl _ _ rfl hOa rfl (bel_alloc _ _) _ (8 : Int) _ rfl (cs := #[.int .i64 8]) rfl (heap_alloc_new _ _) (by have := HLn.out; (try simp only [List.length_append, List.length_cons, List.length_nil]); omega) ?_; intro vb wb hOb hCb; have hSb : SW w5 wb := Below.trans hSa ((hCb.below hOa).mono (Nat.le_refl _)); have z3 := g3 _ hSb; have z4 := g4 _ hSb) | (at_builtin; refine wpList_rapp rtE rfl _ _ rfl hO rfl (bel_alloc _ _) _ (6 : Int) _ rfl (cs := #[.int .i64 6]) rfl (heap_alloc_new _ _) (by have := HLn.out; (try simp only [List.length_append, List.length_cons, List.length_nil]); omega) ?_; intro va wa hOa hCa; have hSa : SW w5 wa := Below.trans hSr ((hCa.below hO).mono (Nat.le_refl _)); have z3 := g3 _ hSa; have z4 := g4 _ hSa))
                go_ret
                exact ⟨_, rfl, ⟨by rw [HF.out]; exact hOc.own.mono hBw, Nat.le_trans hBw hSc.size⟩, hb0.trans (Below.mono hSc hBw)⟩
            | false =>
              by_cases hez : ez = 0
              · subst hez
                have HF : Hid (okE (airE (l.take k) a) = okE [x0] ++ [6]) := Lib.hid (by rw [HE3.out]; simp [okE])
                clear HE3
                have z3 := g3 _ hSr
                have z4 := g4 _ hSr
                go_wp2_with (first | (go_at_call 36; refine (KZ.out _ hSa).mono ?_; rintro e wz ⟨rfl, hbz⟩; have hOz := hOa.more hbz; have hSz : SW w5 wz := Below.trans hSa (Below.mono hbz hSa.size)) | (at_builtin; refine wpList_rapp rtE rfl _ _ rfl hO rfl (bel_alloc _ _) _ (6 : Int) _ rfl (cs := #[.int .i64 6]) rfl (heap_alloc_new _ _) (by have := HLn.out; (try simp only [List.length_append, List.length_cons, List.length_nil]); omega) ?_; intro va wa hOa hCa; have hSa : SW w5 wa := Below.trans hSr ((hCa.below hO).mono (Nat.le_refl _)); have z3 := g3 _ hSa; have z4 := g4 _ hSa))
                go_ret
                exact ⟨_, rfl, ⟨by rw [HF.out]; exact hOz.own.mono hBw, Nat.le_trans hBw hSz.size⟩, hb0.trans (Below.mono hSz hBw)⟩
              · have hez2 : (ez != 0) = true := by simp [hez]
                have HF : Hid (okE (airE (l.take k) a) = okE [x0] ++ [6] ++ [ez]) := Lib.hid (by rw [HE3.out]; rw [okE_one ez hez]; simp [okE])
                clear HE3 hez
                have z3 := g3 _ hSr
                have z4 := g4 _ hSr
                go_wp2_with (first | (at_builtin; refine wpList_rapp rtE rfl _ _ rfl hOz rfl (bel_alloc _ _) _ (ez : Int) _ rfl (cs := #[.int .i64 ez]) rfl (heap_alloc_new _ _) (by have := HLn.out; (try simp only [List.length_append, List.length_cons, List.length_nil]); omega) ?_; intro vc wc hOc hCc; have hSc : SW w5 wc := Below.trans hSz ((hCc.below hOz).mono (Nat.le_refl _)); have z3 := g3 _ hSc; have z4 := g4 _ hSc) | (go_at_call 36; refine (KZ.out _ hSa).mono ?_; rintro e wz ⟨rfl, hbz⟩; have hOz := hOa.more hbz; have hSz : SW w5 wz := Below.trans hSa (Below.mono hbz hSa.size)) | (at_builtin; refine wpList_rapp rtE rfl _ _ rfl hO rfl (bel_alloc _ _) _ (6 : Int) _ rfl (cs := #[.int .i64 6]) rfl (heap_alloc_new _ _) (by have := HLn.out; (try simp only [List.length_append, List.length_cons, List.length_nil]); omega) ?_; intro va wa hOa hCa; have hSa : SW w5 wa := Below.trans hSr ((hCa.below hO).mono (Nat.le_refl _)); have z3 := g3 _ hSa; have z4 := g4 _ hSa))
                go_ret
                exact ⟨_, rfl, ⟨by rw [HF.out]; exact hOc.own.mono hBw, Nat.le_trans hBw hSc.size⟩, hb0.trans (Below.mono hSc hBw)⟩
          | false =>
            cases mv with
            | true =>
              by_cases hez : ez = 0
              · subst hez
                have HF : Hid (okE (airE (l.take k) a) = okE [x0] ++ [8]) := Lib.hid (by rw [HE3.out]; simp [okE])
                clear HE3
                have z3 := g3 _ hSr
                have z4 := g4 _ hSr
                go_wp2_with (first | (go_at_call 36; refine (KZ.out _ hSb).mono ?_; rintro e wz ⟨rfl, hbz⟩; have hOz := hOb.more hbz; have hSz : SW w5 wz := Below.trans hSb (Below.mono hbz hSb.size)) | (at_builtin; refine wpList_rapp rtE rfl _ _ rfl hO rfl (bel_alloc _ _) _ (8 : Int) _ rfl (cs := #[.int .i64 8]) rfl (heap_alloc_new _ _) (by have := HLn.out; (try simp only [List.length_append, List.length_cons, List.length_nil]); omega) ?_; intro vb wb hOb hCb; have hSb : SW w5 wb := Below.trans hSr ((hCb.below hO).mono (Nat.le_refl _)); have z3 := g3 _ hSb; have z4 := g4 _ hSb))
                go_ret
                exact ⟨_, rfl, ⟨by rw [HF.out]; exact hOz.own.mono hBw, Nat.le_trans hBw hSz.size⟩, hb0.trans (Below.mono hSz hBw)⟩
              · have hez2 : (ez != 0) = true := by simp [hez]
                have HF : Hid (okE (airE (l.take k) a) = okE [x0] ++ [8] ++ [ez]) := Lib.hid (by rw [HE3.out]; rw [okE_one ez hez]; simp [okE])
                clear HE3 hez
                have z3 := g3 _ hSr
                have z4 := g4 _ hSr
                go_wp2_with (first | (at_builtin; refine wpList_rapp rtE rfl _ _ rfl hOz rfl (bel_alloc _ _) _ (ez : Int) _ rfl (cs := #[.int .i64 ez]) rfl (heap_alloc_new _ _) (by have := HLn.out; (try simp only [List.length_append, List.length_cons, List.length_nil]); omega) ?_; intro vc wc hOc hCc; have hSc : SW w5 wc := Below.trans hSz ((hCc.below hOz).mono (Nat.le_refl _)); have z3 := g3 _ hSc; have z4 := g4 _ hSc) | (go_at_call 36; refine (KZ.out _ hSb).mono ?_; rintro e wz ⟨rfl, hbz⟩; have hOz := hOb.more hbz; have hSz : SW w5 wz := Below.trans hSb (Below.mono hbz hSb.size)) | (at_builtin; refine wpList_rapp rtE rfl _ _ rfl hO rfl (bel_alloc _ _) _ (8 : Int) _ rfl (cs := #[.int .i64 8]) rfl (heap_alloc_new _ _) (by have := HLn.out; (try simp only [List.length_append, List.length_cons, List.length_nil]); omega) ?_; intro vb wb hOb hCb; have hSb : SW w5 wb := Below.trans hSr ((hCb.below hO).mono (Nat.le_refl _)); have z3 := g3 _ hSb; have z4 := g4 _ hSb))
                go_ret
                exact ⟨_, rfl, ⟨by rw [HF.out]; exact hOc.own.mono hBw, Nat.le_trans hBw hSc.size⟩, hb0.trans (Below.mono hSc hBw)⟩
            | false =>
              by_cases hez : ez = 0
              · subst hez
                have HF : Hid (okE (airE (l.take k) a) = okE [x0]) := Lib.hid (by rw [HE3.out]; simp [okE])
                clear HE3
                have z3 := g3 _ hSr
                have z4 := g4 _ hSr
                go_wp2_with (first | (go_at_call 36; refine (KZ.out _ hSr).mono ?_; rintro e wz ⟨rfl, hbz⟩; have hOz := hO.more hbz; have hSz : SW w5 wz := Below.trans hSr (Below.mono hbz hSr.size)))
                go_ret
                exact ⟨_, rfl, ⟨by rw [HF.out]; exact hOz.own.mono hBw, Nat.le_trans hBw hSz.size⟩, hb0.trans (Below.mono hSz hBw)⟩
              · have hez2 : (ez != 0) = true := by simp [hez]
                have HF : Hid (okE (airE (l.take k) a) = okE [x0] ++ [ez]) := Lib.hid (by rw [HE3.out]; rw [okE_one ez hez]; simp [okE])
                clear HE3 hez
                have z3 := g3 _ hSr
                have z4 := g4 _ hSr
                go_wp2_with (first | (at_builtin; refine wpList_rapp rtE rfl _ _ rfl hOz rfl (bel_alloc _ _) _ (ez : Int) _ rfl (cs := #[.int .i64 ez]) rfl (heap_alloc_new _ _) (by have := HLn.out; (try simp only [List.length_append, List.length_cons, List.length_nil]); omega) ?_; intro vc wc hOc hCc; have hSc : SW w5 wc := Below.trans hSz ((hCc.below hOz).mono (Nat.le_refl _)); have z3 := g3 _ hSc; have z4 := g4 _ hSc) | (go_at_call 36; refine (KZ.out _ hSr).mono ?_; rintro e wz ⟨rfl, hbz⟩; have hOz := hO.more hbz; have hSz : SW w5 wz := Below.trans hSr (Below.mono hbz hSr.size)))
                go_ret
                exact ⟨_, rfl, ⟨by rw [HF.out]; exact hOc.own.mono hBw, Nat.le_trans hBw hSc.size⟩, hb0.trans (Below.mono hSc hBw)⟩

end Go.Proofs.YtfgmlbmjjihhfaaDoor

/- Walk of the reference's distance. -/
namespace Go.Proofs.YtfgmlbmjjihhfaaDoor
open Go.RowKit Go.Shelf
set_option linter.unusedSimpArgs false
set_option linter.unusedVariables false

theorem town_any (l : List Air) (s : ByteArray) : (findT l s).isSome = l.any fun b => decide (b.city = s) := by
  have e : (fun b : Air => decide (b.city = s)) = fun b => eqS b.city s := by
    funext b
    unfold eqS
    rw [eqB]
  rw [e]
  unfold findT
  rw [Bool.eq_iff_iff, List.find?_isSome, List.any_eq_true]

set_option maxRecDepth 100000 in
set_option maxHeartbeats 8000000 in
theorem rdistance_any (p : PV) (i : Nat) (d : Dst) (w : World) (hp : OkP p) (hL : PlL w p) (hi : p.ds[i]? = some d) :
    Calls Tryd.prog 14 #[encP p, .int .i64 (i : Int)] w fun e w' => ∃ v', e = .returned v' ∧ EOwn w.heap.size w' v' (okE (dstE p.l (p.ds.take i) d)) ∧ Below w.heap.size w w' := by
  obtain ⟨A, ca, l, D, cd, ds⟩ := p
  obtain ⟨hA, hD, hla, hld⟩ := hp
  obtain ⟨hLa, hLd⟩ := hL
  dsimp only at *
  have hil := (List.getElem?_eq_some_iff.1 hi).1
  obtain ⟨bb, off, d', rfl, hgl, hka, hd⟩ := hLd.at hil
  rw [hi] at hka
  obtain rfl := Option.some.inj hka
  have hb1 := bel_alloc w (.cells #[.slice A l.length ca, .slice (some ⟨bb, off, none⟩) ds.length cd] placesT)
  have hb2 := bel_alloc (w.alloc (.cells #[.slice A l.length ca, .slice (some ⟨bb, off, none⟩) ds.length cd] placesT)) (.cells #[.string d.f, .string d.t, .int .i64 d.m] dstT)
  have p0 := bel_cell hb2 ((cells_new w #[.slice A l.length ca, .slice (some ⟨bb, off, none⟩) ds.length cd] placesT 0).trans (show _ = some _ from rfl))
  have p1 := bel_cell hb2 ((cells_new w #[.slice A l.length ca, .slice (some ⟨bb, off, none⟩) ds.length cd] placesT 1).trans (show _ = some _ from rfl))
  have q0 := (cells_new (w.alloc (.cells #[.slice A l.length ca, .slice (some ⟨bb, off, none⟩) ds.length cd] placesT)) #[.string d.f, .string d.t, .int .i64 d.m] dstT 0).trans (show _ = some _ from rfl)
  have q1 := (cells_new (w.alloc (.cells #[.slice A l.length ca, .slice (some ⟨bb, off, none⟩) ds.length cd] placesT)) #[.string d.f, .string d.t, .int .i64 d.m] dstT 1).trans (show _ = some _ from rfl)
  have q2 := (cells_new (w.alloc (.cells #[.slice A l.length ca, .slice (some ⟨bb, off, none⟩) ds.length cd] placesT)) #[.string d.f, .string d.t, .int .i64 d.m] dstT 2).trans (show _ = some _ from rfl)
  rw [World.size_alloc] at q0 q1 q2
  have hb0 := hb1.trans (hb2.mono hb1.size)
  have hLa5 := hLa.more hb0
  have hLd5 := hLd.more hb0
  have hBw := hb0.size
  have i1 : (i : Int) < (ds.length : Int) := by omega
  obtain ⟨a0, a1, a2⟩ := hd
  have HAE : Hid (dstE l (ds.take i) d = [if l.any (fun b => decide (b.city = d.f)) && l.any (fun b => decide (b.city = d.t)) then 0 else 14, if (ds.take i).any (fun x => (decide (x.f = d.f) && decide (x.t = d.t)) || (decide (x.f = d.t) && decide (x.t = d.f))) then 6 else 0, if useB d && !decide (d.f = d.t) then 0 else 2]) := Lib.hid rfl
  go_enter Tryd.func14, Tryd.ntmps14
  go_upto_region 3 with fail
  clear a0 a1 a2 hLa hLd hgl hb1 hb2
  generalize hw5 : (w.alloc (.cells #[.slice A l.length ca, .slice (some ⟨bb, off, none⟩) ds.length cd] placesT)).alloc (.cells #[.string d.f, .string d.t, .int .i64 d.m] dstT) = w5 at *
  clear hw5
  have f0 := bel_get p0
  have f1 := bel_get p1
  have g0 := bel_get q0
  have g1 := bel_get q1
  have g2 := bel_get q2
  have KT : Hid (∀ s W, SW w5 W → Calls Tryd.prog 38 #[.agg #[.slice A l.length ca, .slice (some ⟨bb, off, none⟩) ds.length cd], .string s] W fun e w' => ∃ y : Air, e = .returned (.tuple #[.agg #[.string y.code, .string y.city, .string y.land, .int .i64 y.off, .slice y.A y.shs.length y.c], .bool (l.any fun b => decide (b.city = s))]) ∧ SW w5 w') :=
    Lib.hid (fun s W hW => (rtown_any ⟨A, ca, l, some ⟨bb, off, none⟩, cd, ds⟩ s W hla (hLa5.more hW)).mono (by rintro e w' ⟨rfl, hb⟩; exact ⟨(findT l s).getD airZ, by rw [← town_any], Below.trans hW (hb.mono hW.size)⟩))
  have hS0 : SW w5 w5 := Below.refl _ _
  have HU2 := Lib.hid (fun W => rusable_any d W)
  have HED := Lib.hid (eqB d.f d.t)
  rw [← HED.out] at HAE
  obtain ⟨kf, hkf⟩ : ∃ b, b = (l.any fun b => decide (b.city = d.f)) := ⟨_, rfl⟩
  obtain ⟨kt, hkt⟩ : ∃ b, b = (l.any fun b => decide (b.city = d.t)) := ⟨_, rfl⟩
  have KF := KT.out d.f
  have KG := KT.out d.t
  rw [← hkf] at KF HAE
  rw [← hkt] at KG HAE
  have KF := Lib.hid KF
  have KG := Lib.hid KG
  generalize useB d = us at *
  clear hLa5 hi KT hkf hkt hla
  have z0 := f0 _ hS0
  have z1 := f1 _ hS0
  have z2 := g0 _ hS0
  have z3 := g1 _ hS0
  go_upto_region 5 with (first
    | (go_at_call 38; refine (KG.out _ hS2).mono ?_; rintro e w3 ⟨y3, rfl, hS3⟩; have hS4 := Below.alloc hS3 hS3.size (.cells #[.string y3.code, .string y3.city, .string y3.land, .int .i64 y3.off, .slice y3.A y3.shs.length y3.c] airT))
    | (go_at_call 38; refine (KF.out _ hS0).mono ?_; rintro e w1 ⟨y1, rfl, hS1⟩; have hS2 : SW w5 (w1.alloc (.cells #[.string y1.code, .string y1.city, .string y1.land, .int .i64 y1.off, .slice y1.A y1.shs.length y1.c] airT)) := Below.alloc hS1 hS1.size _; have z0 := f0 _ hS2; have z1 := f1 _ hS2; have z2 := g0 _ hS2; have z3 := g1 _ hS2))
  have hS4 : SW w5 (w3.alloc (.cells #[.string y3.code, .string y3.city, .string y3.land, .int .i64 y3.off, .slice y3.A y3.shs.length y3.c] airT)) := Below.alloc hS3 hS3.size _
  generalize w3.alloc (.cells #[.string y3.code, .string y3.city, .string y3.land, .int .i64 y3.off, .slice y3.A y3.shs.length y3.c] airT) = w6 at *
  clear KF KG z0 z1 z2 z3
  go_cut [38] from 33 (fun v wx => v = .bool (!(kf && kt)) ∧ wx = w6)
  case first =>
    cases kf
    · go_wp2
      go_meet
      exact ⟨rfl, rfl⟩
    · go_wp2
      go_meet
      exact ⟨by cases kt <;> rfl, rfl⟩
  case rest =>
  obtain ⟨rfl, hwc⟩ := hcut
  obtain rfl := hwc.symm
  go_upto_if 38 with fail
  go_cut [5] from 33 (fun v wx => Hid (EOwn w5.heap.size wx v (okE [if (kf && kt) = true then 0 else 14]) ∧ SW w5 wx))
  case first =>
    cases hkk : (kf && kt) with
    | false =>
      have hN : EOwn w5.heap.size w6 (.slice none 0 0) [] := ROwn.nil hS4.size
      go_wp2_with (at_builtin; refine wpList_rapp rtE rfl _ _ rfl hN rfl (bel_alloc _ _) _ 14 _ rfl (cs := #[.int .i64 14]) rfl (heap_alloc_new _ _) (by simp) ?_; intro v' w' hO hC)
      go_meet
      exact Lib.hid ⟨by rw [hkk]; exact hO, Below.trans hS4 ((hC.below hN).mono (Nat.le_refl _))⟩
    | true =>
      go_wp2
      go_meet
      exact Lib.hid ⟨by rw [hkk]; exact ROwn.nil hS4.size, hS4⟩
  case rest =>
    have HC := Lib.hid hcut.out.1
    have hS9 : SW w5 wc := hcut.out.2
    generalize (if (kf && kt) = true then (0 : Int) else 14) = x0 at *
    clear hcut hS4
    go_wp2
    go_loopw [11, 12] (fun v7 vi wr => ∃ (k : Nat) (tw : Bool), k ≤ i ∧ vi = .int .i64 k ∧ v7 = .bool tw ∧ Hid (tw = (ds.take k).any (fun x => (decide (x.f = d.f) && decide (x.t = d.t)) || (decide (x.f = d.t) && decide (x.t = d.f)))) ∧ SW wc wr) (fun _ vi _ => i - (intOf vi).toNat)
    case atStart => exact ⟨0, false, Nat.zero_le _, rfl, rfl, Lib.hid rfl, Below.refl _ _⟩
    case round =>
      obtain ⟨k, tw, hk, rfl, rfl, HT, hS⟩ := hrel
      have hSr : SW w5 wr := Below.trans hS9 (Below.mono hS hS9.size)
      by_cases hlt : k < i
      · obtain ⟨bb', off', x, e, hgl', hkx, hx⟩ := (hLd5.more hSr).at (show k < ds.length by omega)
        cases e
        have HT2 := Lib.hid (any_take (fun x => (decide (x.f = d.f) && decide (x.t = d.t)) || (decide (x.f = d.t) && decide (x.t = d.f))) ds k x hkx)
        have i2 : (k : Int) < (i : Int) := by omega
        have i3 : (k : Int) < (ds.length : Int) := by omega
        have e1 := eqB x.f d.f
        have e2 := eqB x.t d.t
        have e3 := eqB x.f d.t
        have e4 := eqB x.t d.f
        obtain ⟨c0, c1, c2⟩ := hx
        have z0 := f0 _ hSr
        have z1 := f1 _ hSr
        have hSx : SW w5 (wr.alloc (.cells #[.string x.f, .string x.t, .int .i64 x.m] dstT)) := Below.alloc hSr hSr.size _
        have z2 := g0 _ hSx
        have z3 := g1 _ hSx
        have hSy : SW wc (wr.alloc (.cells #[.string x.f, .string x.t, .int .i64 x.m] dstT)) := Below.alloc hS hS.size _
        clear hkx hgl'
        cases tw with
        | true =>
          have HT3 : Hid (true = (ds.take (k + 1)).any (fun x => (decide (x.f = d.f) && decide (x.t = d.t)) || (decide (x.f = d.t) && decide (x.t = d.f)))) := Lib.hid (by rw [HT2.out, ← HT.out, ← e1, ← e2, ← e3, ← e4]; simp)
          clear HT2 e1 e2 e3 e4
          go_wp2
          go_roundw
          case rel => exact ⟨k + 1, true, by omega, by go_num, rfl, HT3, hSy⟩
          case measure => simp [intOf]; omega
        | false =>
          cases hff : (x.f.toList == d.f.toList) with
          | true =>
            cases htt : (x.t.toList == d.t.toList) with
            | true =>
              have HT3 : Hid (true = (ds.take (k + 1)).any (fun x => (decide (x.f = d.f) && decide (x.t = d.t)) || (decide (x.f = d.t) && decide (x.t = d.f)))) := Lib.hid (by rw [HT2.out, ← HT.out, ← e1, ← e2, ← e3, ← e4, hff, htt]; simp)
              clear HT2 e1 e2 e3 e4
              go_wp2
              go_roundw
              case rel => exact ⟨k + 1, true, by omega, by go_num, rfl, HT3, hSy⟩
              case measure => simp [intOf]; omega
            | false =>
              cases hft : (x.f.toList == d.t.toList) with
              | true =>
                have HT3 : Hid ((x.t.toList == d.f.toList) = (ds.take (k + 1)).any (fun x => (decide (x.f = d.f) && decide (x.t = d.t)) || (decide (x.f = d.t) && decide (x.t = d.f)))) := Lib.hid (by rw [HT2.out, ← HT.out, ← e1, ← e2, ← e3, ← e4, hff, htt, hft]; simp)
                clear HT2 e1 e2 e3 e4
                go_wp2
                go_roundw
                case rel => exact ⟨k + 1, (x.t.toList == d.f.toList), by omega, by go_num, rfl, HT3, hSy⟩
                case measure => simp [intOf]; omega
              | false =>
                have HT3 : Hid (false = (ds.take (k + 1)).any (fun x => (decide (x.f = d.f) && decide (x.t = d.t)) || (decide (x.f = d.t) && decide (x.t = d.f)))) := Lib.hid (by rw [HT2.out, ← HT.out, ← e1, ← e2, ← e3, ← e4, hff, htt, hft]; simp)
                clear HT2 e1 e2 e3 e4
                go_wp2
                go_roundw
                case rel => exact ⟨k + 1, false, by omega, by go_num, rfl, HT3, hSy⟩
                case measure => simp [intOf]; omega
          | false =>
            cases hft : (x.f.toList == d.t.toList) with
            | true =>
              have HT3 : Hid ((x.t.toList == d.f.toList) = (ds.take (k + 1)).any (fun x => (decide (x.f = d.f) && decide (x.t = d.t)) || (decide (x.f = d.t) && decide (x.t = d.f)))) := Lib.hid (by rw [HT2.out, ← HT.out, ← e1, ← e2, ← e3, ← e4, hff, hft]; simp)
              clear HT2 e1 e2 e3 e4
              go_wp2
              go_roundw
              case rel => exact ⟨k + 1, (x.t.toList == d.f.toList), by omega, by go_num, rfl, HT3, hSy⟩
              case measure => simp [intOf]; omega
            | false =>
              have HT3 : Hid (false = (ds.take (k + 1)).any (fun x => (decide (x.f = d.f) && decide (x.t = d.t)) || (decide (x.f = d.t) && decide (x.t = d.f)))) := Lib.hid (by rw [HT2.out, ← HT.out, ← e1, ← e2, ← e3, ← e4, hff, hft]; simp)
              clear HT2 e1 e2 e3 e4
              go_wp2
              go_roundw
              case rel => exact ⟨k + 1, false, by omega, by go_num, rfl, HT3, hSy⟩
              case measure => simp [intOf]; omega
      · have hki : k = i := by omega
        subst hki
        have hO := HC.out.more hS
        have HLn : Hid ((okE [x0]).length ≤ 1) := Lib.hid (by unfold okE; exact List.length_filter_le _ _)
        rw [← HT.out] at HAE
        have z2 := g0 _ hSr
        have z3 := g1 _ hSr
        have z4 := g2 _ hSr
        clear HT HC hLd5 hS9
        have HE3 : Hid (okE (dstE l (ds.take k) d) = okE [x0] ++ okE [if tw = true then 6 else 0] ++ okE [if (us && !(d.f.toList == d.t.toList)) = true then 0 else 2]) := Lib.hid (by rw [HAE.out, ← okE_app, ← okE_app]; rfl)
        clear HAE
        cases tw with
        | true =>
          cases us with
          | false =>
            have HF : Hid (okE (dstE l (ds.take k) d) = okE [x0] ++ [6] ++ [2]) := Lib.hid (by rw [HE3.out]; simp [okE])
            clear HE3
            go_wp2_with (first | (at_builtin; refine wpList_rapp rtE rfl _ _ rfl hOu rfl (bel_alloc _ _) _ (2 : Int) _ rfl (cs := #[.int .i64 2]) rfl (heap_alloc_new _ _) (by have := HLn.out; (try simp only [List.length_append, List.length_cons, List.length_nil]); omega) ?_; intro vb wb hOb hCb; have hSb : SW w5 wb := Below.trans hSu ((hCb.below hOu).mono (Nat.le_refl _))) | (go_at_call 39; refine (HU2.out _).mono ?_; rintro e wu ⟨rfl, hbu⟩; have hOu := hOa.more hbu; have hSu : SW w5 wu := Below.trans hSa (Below.mono hbu hSa.size); have z2 := g0 _ hSu; have z3 := g1 _ hSu) | (at_builtin; refine wpList_rapp rtE rfl _ _ rfl hO rfl (bel_alloc _ _) _ (6 : Int) _ rfl (cs := #[.int .i64 6]) rfl (heap_alloc_new _ _) (by have := HLn.out; omega) ?_; intro va wa hOa hCa; have hSa : SW w5 wa := Below.trans hSr ((hCa.below hO).mono (Nat.le_refl _)); have z2 := g0 _ hSa; have z3 := g1 _ hSa; have z4 := g2 _ hSa))
            go_ret
            exact ⟨_, rfl, ⟨by rw [HF.out]; exact hOb.own.mono hBw, Nat.le_trans hBw hSb.size⟩, hb0.trans (Below.mono hSb hBw)⟩
          | true =>
            cases hfe : (d.f.toList == d.t.toList) with
            | true =>
              have HF : Hid (okE (dstE l (ds.take k) d) = okE [x0] ++ [6] ++ [2]) := Lib.hid (by rw [HE3.out, hfe]; simp [okE])
              clear HE3
              go_wp2_with (first | (at_builtin; refine wpList_rapp rtE rfl _ _ rfl hOu rfl (bel_alloc _ _) _ (2 : Int) _ rfl (cs := #[.int .i64 2]) rfl (heap_alloc_new _ _) (by have := HLn.out; (try simp only [List.length_append, List.length_cons, List.length_nil]); omega) ?_; intro vb wb hOb hCb; have hSb : SW w5 wb := Below.trans hSu ((hCb.below hOu).mono (Nat.le_refl _))) | (go_at_call 39; refine (HU2.out _).mono ?_; rintro e wu ⟨rfl, hbu⟩; have hOu := hOa.more hbu; have hSu : SW w5 wu := Below.trans hSa (Below.mono hbu hSa.size); have z2 := g0 _ hSu; have z3 := g1 _ hSu) | (at_builtin; refine wpList_rapp rtE rfl _ _ rfl hO rfl (bel_alloc _ _) _ (6 : Int) _ rfl (cs := #[.int .i64 6]) rfl (heap_alloc_new _ _) (by have := HLn.out; omega) ?_; intro va wa hOa hCa; have hSa : SW w5 wa := Below.trans hSr ((hCa.below hO).mono (Nat.le_refl _)); have z2 := g0 _ hSa; have z3 := g1 _ hSa; have z4 := g2 _ hSa))
              go_ret
              exact ⟨_, rfl, ⟨by rw [HF.out]; exact hOb.own.mono hBw, Nat.le_trans hBw hSb.size⟩, hb0.trans (Below.mono hSb hBw)⟩
            | false =>
              have HF : Hid (okE (dstE l (ds.take k) d) = okE [x0] ++ [6]) := Lib.hid (by rw [HE3.out, hfe]; simp [okE])
              clear HE3
              go_wp2_with (first | (go_at_call 39; refine (HU2.out _).mono ?_; rintro e wu ⟨rfl, hbu⟩; have hOu := hOa.more hbu; have hSu : SW w5 wu := Below.trans hSa (Below.mono hbu hSa.size); have z2 := g0 _ hSu; have z3 := g1 _ hSu) | (at_builtin; refine wpList_rapp rtE rfl _ _ rfl hO rfl (bel_alloc _ _) _ (6 : Int) _ rfl (cs := #[.int .i64 6]) rfl (heap_alloc_new _ _) (by have := HLn.out; omega) ?_; intro va wa hOa hCa; have hSa : SW w5 wa := Below.trans hSr ((hCa.below hO).mono (Nat.le_refl _)); have z2 := g0 _ hSa; have z3 := g1 _ hSa; have z4 := g2 _ hSa))
              go_ret
              exact ⟨_, rfl, ⟨by rw [HF.out]; exact hOu.own.mono hBw, Nat.le_trans hBw hSu.size⟩, hb0.trans (Below.mono hSu hBw)⟩
        | false =>
          cases us with
          | false =>
            have HF : Hid (okE (dstE l (ds.take k) d) = okE [x0] ++ [2]) := Lib.hid (by rw [HE3.out]; simp [okE])
            clear HE3
            go_wp2_with (first | (at_builtin; refine wpList_rapp rtE rfl _ _ rfl hOu rfl (bel_alloc _ _) _ (2 : Int) _ rfl (cs := #[.int .i64 2]) rfl (heap_alloc_new _ _) (by have := HLn.out; (try simp only [List.length_append, List.length_cons, List.length_nil]); omega) ?_; intro vb wb hOb hCb; have hSb : SW w5 wb := Below.trans hSu ((hCb.below hOu).mono (Nat.le_refl _))) | (go_at_call 39; refine (HU2.out _).mono ?_; rintro e wu ⟨rfl, hbu⟩; have hOu := hO.more hbu; have hSu : SW w5 wu := Below.trans hSr (Below.mono hbu hSr.size); have z2 := g0 _ hSu; have z3 := g1 _ hSu))
            go_ret
            exact ⟨_, rfl, ⟨by rw [HF.out]; exact hOb.own.mono hBw, Nat.le_trans hBw hSb.size⟩, hb0.trans (Below.mono hSb hBw)⟩
          | true =>
            cases hfe : (d.f.toList == d.t.toList) with
            | true =>
              have HF : Hid (okE (dstE l (ds.take k) d) = okE [x0] ++ [2]) := Lib.hid (by rw [HE3.out, hfe]; simp [okE])
              clear HE3
              go_wp2_with (first | (at_builtin; refine wpList_rapp rtE rfl _ _ rfl hOu rfl (bel_alloc _ _) _ (2 : Int) _ rfl (cs := #[.int .i64 2]) rfl (heap_alloc_new _ _) (by have := HLn.out; (try simp only [List.length_append, List.length_cons, List.length_nil]); omega) ?_; intro vb wb hOb hCb; have hSb : SW w5 wb := Below.trans hSu ((hCb.below hOu).mono (Nat.le_refl _))) | (go_at_call 39; refine (HU2.out _).mono ?_; rintro e wu ⟨rfl, hbu⟩; have hOu := hO.more hbu; have hSu : SW w5 wu := Below.trans hSr (Below.mono hbu hSr.size); have z2 := g0 _ hSu; have z3 := g1 _ hSu))
              go_ret
              exact ⟨_, rfl, ⟨by rw [HF.out]; exact hOb.own.mono hBw, Nat.le_trans hBw hSb.size⟩, hb0.trans (Below.mono hSb hBw)⟩
            | false =>
              have HF : Hid (okE (dstE l (ds.take k) d) = okE [x0]) := Lib.hid (by rw [HE3.out, hfe]; simp [okE])
              clear HE3
              go_wp2_with (first | (go_at_call 39; refine (HU2.out _).mono ?_; rintro e wu ⟨rfl, hbu⟩; have hOu := hO.more hbu; have hSu : SW w5 wu := Below.trans hSr (Below.mono hbu hSr.size); have z2 := g0 _ hSu; have z3 := g1 _ hSu))
              go_ret
              exact ⟨_, rfl, ⟨by rw [HF.out]; exact hOu.own.mono hBw, Nat.le_trans hBw hSu.size⟩, hb0.trans (Below.mono hSu hBw)⟩

end Go.Proofs.YtfgmlbmjjihhfaaDoor

/- Walks of the reference: digits, Decimal (a copy of TextG that stands without the rest of stage 1). -/
namespace Go.Proofs.YtfgmlbmjjihhfaaDoor
open Go.RowKit
set_option linter.unusedSimpArgs false
set_option linter.unusedVariables false

def tenA : ByteArray := ⟨#[48, 49, 50, 51, 52, 53, 54, 55, 56, 57]⟩
theorem ten_all : ∀ n : Fin 10, (tenA.extract n.val (n.val + 1)).data.toList = [UInt8.ofNat (48 + n.val)] := by decide +kernel
theorem ten_cut (n m : Nat) (h : n < 10) (hm : m = n + 1) : (⟨#[48, 49, 50, 51, 52, 53, 54, 55, 56, 57]⟩ : ByteArray).extract n m = ⟨[UInt8.ofNat (48 + n)].toArray⟩ := by
  subst hm
  exact WideShapes.bytes_inj (ten_all ⟨n, h⟩)

theorem quiet_ex {P : Program} {f : FuncId} {args : Array Value} {w : World} {n : Nat} {v : Value} (h : ∀ W, Calls P f args W fun e w' => e = .returned v ∧ ∃ m, w' = W.drewN m) :
    Calls P f args (w.drewN n) fun e w'' => e = .returned v ∧ ∃ m, w'' = w.drewN m :=
  (h _).mono fun _ _ ⟨he, m, hm⟩ => ⟨he, n + m, by rw [hm, World.drewN_drewN]⟩
theorem dec_len (u : Nat) (h : u ≤ 9223372036854775807) : (⟨(Lib.decDigits u).toArray⟩ : ByteArray).size ≤ 21 := by
  have h1 := Lib.itoa_length_le (u : Int) (by omega) (by omega)
  have h2 : Lib.itoa (u : Int) = Lib.decDigits u := by
    unfold Lib.itoa
    rw [if_neg (by omega)]
    congr 1
  rw [h2] at h1
  simpa [ByteArray.size] using h1
def U64 (n : Nat) : Prop := n < 18446744073709551616
theorem u64_div (n : Nat) (h : U64 n) : IntKind.u64.wrap ((n : Int) / 10) = (n : Int) / 10 := by rw [IntKind.wrap_u64]; unfold U64 at h; omega

set_option maxRecDepth 100000 in
set_option maxHeartbeats 1000000 in
theorem rdigits_any : ∀ (n : Nat) (w : World), U64 n →
    Calls Tryd.prog 37 #[.int .u64 n] w fun e w' => e = .returned (.string ⟨(Lib.decDigits n).toArray⟩) ∧ ∃ k, w' = w.drewN k
  | n, w, hn => by
    by_cases h : n < 10
    · have HD : Hid (Lib.decDigits n = [UInt8.ofNat (48 + n)]) := Lib.hid (decDigits_small n h)
      have b1 : (n : Int) < 10 := by omega
      have HC := Lib.hid (ten_cut n (n + 1) h rfl)
      go_enter Tryd.func37, Tryd.ntmps37
      go_wp2
      go_ret
      exact ⟨by rw [HD.out, ← HC.out]; rfl, 0, rfl⟩
    · have ih : ∀ w, Calls Tryd.prog 37 #[.int .u64 ((n : Int) / 10)] w fun e w' => e = .returned (.string ⟨(Lib.decDigits (n / 10)).toArray⟩) ∧ ∃ k, w' = w.drewN k := by
        intro w
        rw [show ((n : Int) / 10) = ((n / 10 : Nat) : Int) from by omega]
        exact rdigits_any (n / 10) w (by unfold U64 at hn ⊢; omega)
      have HIH := Lib.hid ih
      have e1 := u64_div n hn
      have e2 : ((n : Int)).tmod 10 = (n : Int) % 10 := Int.tmod_eq_emod_of_nonneg (by omega)
      have e3 : IntKind.u64.wrap ((n : Int) % 10 + 1) = (n : Int) % 10 + 1 := by rw [IntKind.wrap_u64]; omega
      have HF : Hid ((⟨(Lib.decDigits (n / 10)).toArray⟩ : ByteArray) ++ (⟨#[48, 49, 50, 51, 52, 53, 54, 55, 56, 57]⟩ : ByteArray).extract ((n : Int) % 10).toNat ((n : Int) % 10 + 1).toNat = ⟨(Lib.decDigits n).toArray⟩) := Lib.hid (by
        rw [ten_cut ((n : Int) % 10).toNat ((n : Int) % 10 + 1).toNat (by omega) (by omega), decDigits_step n (by omega)]
        apply WideShapes.bytes_inj
        rw [show ((n : Int) % 10).toNat = n % 10 from by omega]
        simp)
      have hadd := fun W => run_string_add_sum (P := Tryd.prog) (w := W) (⟨(Lib.decDigits (n / 10)).toArray⟩ : ByteArray) ((⟨#[48, 49, 50, 51, 52, 53, 54, 55, 56, 57]⟩ : ByteArray).extract ((n : Int) % 10).toNat ((n : Int) % 10 + 1).toNat) (by
        have h1 := dec_len (n / 10) (by unfold U64 at hn; omega)
        have h2 : ((⟨#[48, 49, 50, 51, 52, 53, 54, 55, 56, 57]⟩ : ByteArray).extract ((n : Int) % 10).toNat ((n : Int) % 10 + 1).toNat).size ≤ 10 := by
          rw [ByteArray.size_extract]; show min _ 10 - _ ≤ 10; omega
        omega)
      clear ih hn
      have b1 : ¬ (n : Int) < 10 := by omega
      have c1 : (0 : Int) ≤ (n : Int) % 10 := by omega
      have c2 : (n : Int) % 10 < 10 := by omega
      have hsl := fun W => run_slice_string (P := Tryd.prog) W 9 (⟨#[48, 49, 50, 51, 52, 53, 54, 55, 56, 57]⟩ : ByteArray) .u64 .u64 ((n : Int) % 10) ((n : Int) % 10 + 1) Tryd.underlying9 c1 (by omega) (by show (n : Int) % 10 + 1 ≤ 10; omega)
      go_enter Tryd.func37, Tryd.ntmps37
      go_wp2_with (fail)
      go_quiet ((go_at_call 37; exact quiet_ex HIH.out))
      go_wp2
      go_ret
      exact ⟨by rw [← HF.out]; rfl, _, rfl⟩
termination_by n => n
decreasing_by omega

theorem neg_arg (n : Int) (h0 : -9223372036854775808 ≤ n) (hn : n < 0) : IntKind.u64.wrap (IntKind.u64.wrap (wrap64 (-wrap64 (n + 1))) + 1) = (n.natAbs : Int) := by
  have e1 : wrap64 (n + 1) = n + 1 := by unfold wrap64; omega
  have e2 : wrap64 (-(n + 1)) = -(n + 1) := by unfold wrap64; omega
  rw [e1, e2, IntKind.wrap_u64, IntKind.wrap_u64]
  omega
theorem pos_arg (n : Int) (h1 : n ≤ 9223372036854775807) (hn : ¬ n < 0) : IntKind.u64.wrap n = (n.toNat : Int) := by
  rw [IntKind.wrap_u64]
  omega
set_option maxRecDepth 100000 in
set_option maxHeartbeats 1000000 in
theorem rdecimal_any (n : Int) (w : World) (h0 : -9223372036854775808 ≤ n) (h1 : n ≤ 9223372036854775807) :
    Calls Tryd.prog 13 #[.int .i64 n] w fun e w' => e = .returned (.string ⟨(Lib.itoa n).toArray⟩) ∧ ∃ k, w' = w.drewN k := by
  by_cases hn : n < 0
  · have HC : Hid (∀ w, Calls Tryd.prog 37 #[.int .u64 (IntKind.u64.wrap (IntKind.u64.wrap (wrap64 (-wrap64 (n + 1))) + 1))] w fun e w' => e = .returned (.string ⟨(Lib.decDigits n.natAbs).toArray⟩) ∧ ∃ k, w' = w.drewN k) := Lib.hid (by
      intro w; rw [neg_arg n h0 hn]; exact rdigits_any n.natAbs w (by unfold U64; omega))
    have HF : Hid ((⟨#[45]⟩ : ByteArray) ++ (⟨(Lib.decDigits n.natAbs).toArray⟩ : ByteArray) = ⟨(Lib.itoa n).toArray⟩) := Lib.hid (by
      apply WideShapes.bytes_inj
      unfold Lib.itoa
      rw [if_pos hn]
      simp)
    have hlen : (⟨#[45]⟩ : ByteArray).size + (⟨(Lib.decDigits n.natAbs).toArray⟩ : ByteArray).size ≤ 9223372036854775807 := by
      have h2 := Lib.itoa_length_le n h0 h1
      unfold Lib.itoa at h2
      rw [if_pos hn] at h2
      have h3 : (⟨(Lib.decDigits n.natAbs).toArray⟩ : ByteArray).size = (Lib.decDigits n.natAbs).length := by simp [ByteArray.size]
      have h4 : (⟨#[45]⟩ : ByteArray).size = 1 := rfl
      simp only [List.length_cons] at h2
      omega
    have hadd := fun W => run_string_add_sum (P := Tryd.prog) (w := W) (⟨#[45]⟩ : ByteArray) (⟨(Lib.decDigits n.natAbs).toArray⟩ : ByteArray) hlen
    clear h0 h1 hlen
    go_enter Tryd.func13, Tryd.ntmps13
    go_wp2_with (go_at_call 37; refine (HC.out _).mono ?_; rintro e w' ⟨rfl, k, rfl⟩)
    go_ret
    exact ⟨by rw [← HF.out]; rfl, k, rfl⟩
  · have HC : Hid (∀ w, Calls Tryd.prog 37 #[.int .u64 (IntKind.u64.wrap n)] w fun e w' => e = .returned (.string ⟨(Lib.decDigits n.toNat).toArray⟩) ∧ ∃ k, w' = w.drewN k) := Lib.hid (by
      intro w; rw [pos_arg n h1 hn]; exact rdigits_any n.toNat w (by unfold U64; omega))
    have HF : Hid ((⟨(Lib.decDigits n.toNat).toArray⟩ : ByteArray) = ⟨(Lib.itoa n).toArray⟩) := Lib.hid (by
      unfold Lib.itoa
      rw [if_neg hn])
    clear h0 h1
    go_enter Tryd.func13, Tryd.ntmps13
    go_wp2_with (go_at_call 37; refine (HC.out _).mono ?_; rintro e w' ⟨rfl, k, rfl⟩)
    go_ret
    exact ⟨by rw [← HF.out]; rfl, k, rfl⟩
end Go.Proofs.YtfgmlbmjjihhfaaDoor
