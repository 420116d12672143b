/- Walk of the law PlacesChecks. -/
import Derived.Test.YtjokpfeiganigaaDoorPlaX
import Derived.Test.YtjokpfeiganigaaDoorPlaN1
import Derived.Test.YtjokpfeiganigaaDoorPlaQC
namespace Go.Proofs.YtjokpfeiganigaaDoor
open Go.RowKit Go.Shelf
set_option linter.unusedSimpArgs false
set_option linter.unusedVariables false

set_option maxRecDepth 100000 in
set_option maxHeartbeats 8000000 in
theorem placesChecks_walk (p : PV) (w : World) (hL : PlL w p) (hA : ∀ a ∈ p.l, OkA a) (hD : ∀ d ∈ p.ds, OkD d) (h1 : p.l.length < 9223372036854775808) (h2 : p.ds.length < 9223372036854775808) :
    Calls Tryd.prog 3 #[encP p] w fun e w' => e = .returned (.bool true) ∧ Below w.heap.size w w' := by
  have hb0 := bel_alloc w (.cells #[.slice p.A p.l.length p.ca, .slice p.D p.ds.length p.cd] placesT)
  have q0 := (cells_new w #[.slice p.A p.l.length p.ca, .slice p.D p.ds.length p.cd] placesT 0).trans (show _ = some _ from rfl)
  have q1 := (cells_new w #[.slice p.A p.l.length p.ca, .slice p.D p.ds.length p.cd] placesT 1).trans (show _ = some _ from rfl)
  have hL5 := hL.more hb0
  go_enter Tryd.func3, Tryd.ntmps3
  go_upto_region 1 with fail
  generalize hw5 : w.alloc (.cells #[.slice p.A p.l.length p.ca, .slice p.D p.ds.length p.cd] placesT) = w5 at *
  clear hw5
  have y0 := bel_get q0
  have y1 := bel_get q1
  have KS : Hid (∀ W, SW w5 W → Calls Tryd.prog 10 #[.agg #[.slice p.A p.l.length p.ca, .slice p.D p.ds.length p.cd]] W fun e w' => e = .returned (.bool (smallB p)) ∧ SW w5 w') := Lib.hid (SW.call (w5 := w5) (fun W hW => small_any p W (hL5.more hW).air h1 h2 (fun a ha => (hA a ha).len)))
  have KW := Lib.hid (SW.call (w5 := w5) (fun W hW => awake_any W))
  have hS : SW w5 w5 := Below.refl _ _
  have v0 := y0 _ hS
  have v1 := y1 _ hS
  cases hs : smallB p
  case false =>
    rw [hs] at KS
    clear hs hL hL5
    go_wp2_with (first
      | (go_at_call 10; with_reducible refine (KS.out _ hS).mono ?_)
      | (go_at_call 11; with_reducible refine (KW.out _ hS).mono ?_)
      | (with_reducible rintro e w' ⟨rfl, hS⟩))
    go_ret
    exact ⟨rfl, hb0.trans (Below.mono hS hb0.size)⟩
  rw [hs] at KS
  simp only [smallB, Bool.and_eq_true, decide_eq_true_eq] at hs
  have ok : OkP p := ⟨hA, hD, hs.1.1, hs.1.2⟩
  have K1 : Hid (∀ W, SW w5 W → Calls Tryd.prog 13 #[.agg #[.slice p.A p.l.length p.ca, .slice p.D p.ds.length p.cd]] W fun e w' => ∃ v', e = .returned v' ∧ FltL w' v' (chkP p) ∧ SW w5 w') :=
    Lib.hid (fun W hW => (check6_any p W ok (hL5.more hW)).mono (by rintro e w' ⟨v', rfl, h, hb⟩; exact ⟨v', rfl, ROwn.rowL h rtF.len, Below.trans hW (hb.mono hW.size)⟩))
  have K2 : Hid (∀ W, SW w5 W → Calls Tryd.prog 14 #[.agg #[.slice p.A p.l.length p.ca, .slice p.D p.ds.length p.cd]] W fun e w' => ∃ v', e = .returned v' ∧ FltL w' v' (chkP p) ∧ Below W.heap.size W w') :=
    Lib.hid (fun W hW => (rcheck6_any p W ok (hL5.more hW)).mono (by rintro e w' ⟨v', rfl, h, hb⟩; exact ⟨v', rfl, ROwn.rowL h rtF.len, hb⟩))
  have KE : Hid (∀ u v W, FltL W u (chkP p) → FltL W v (chkP p) → SW w5 W → Calls Tryd.prog 12 #[u, v] W fun e w' => e = .returned (.bool true) ∧ SW w5 w') :=
    Lib.hid (fun u v W hu hv hW => (sameF_any u v (chkP p) W hu hv (by
      have e1 := airF_le p.l p.l.length
      have e2 := dstF_le p.l p.ds p.ds.length
      have := ok.la
      have := ok.ld
      unfold chkP
      rw [List.length_append]
      omega)).mono (by rintro e w' ⟨rfl, hb⟩; exact ⟨rfl, Below.trans hW (hb.mono hW.size)⟩))
  generalize chkP p = fl at *
  clear hs hL hL5 h1 h2 hA hD q0 q1
  go_wp2_with (first
    | (go_at_call 10; with_reducible refine (KS.out _ hS).mono ?_; rintro e w1 ⟨rfl, hS⟩))
  have hS : (SW w5) _ := Below.drew hS
  refine wp_region_held_drew (S := SW w5) (by kernel_rfl) hS (fun _ => ?_)
  refine wpAnyH_take (i := 0) (v := ?vQ0) rfl (by kernel_rfl) (by kernel_rfl) (by kernel_rfl) (fun _ _ _ h => h) (Or.inl ⟨by rfl, ?hyQ0⟩) hS ?restQ0
  case hyQ0 =>
    intro w hSw
    have k0 := y0 w hSw; have k1 := y1 w hSw
    first | (go_simp; done) | (go_simp; with_reducible rfl)
  try simp only [Act.put, List.setIfInBounds_toArray, List.set_cons_zero, List.set_cons_succ]
  refine wpAnyH_take (i := 2) (v := ?vQ2) rfl (by kernel_rfl) (by kernel_rfl) (by kernel_rfl) (fun _ _ _ h => h) (Or.inl ⟨by rfl, ?hyQ2⟩) hS ?restQ2
  case hyQ2 =>
    intro w hSw
    have k0 := y0 w hSw; have k1 := y1 w hSw
    first | (go_simp; done) | (go_simp; with_reducible rfl)
  try simp only [Act.put, List.setIfInBounds_toArray, List.set_cons_zero, List.set_cons_succ]
  refine wpAnyH_ready (rs := [1]) (by kernel_rfl) (by simp) ?_
  refine AllReadyH.cons rfl (fun K hK => ?_) AllReadyH.nil
  go_simp
  go_wp2_with ((go_at_call 13; refine (K1.out _ hS).mono ?_; rintro e w2 ⟨u1, rfl, hF1, hS⟩))
  refine hK.out _ _ hS (fun _ => ?_)
  clear hK K
  refine wpAnyH_ready (rs := [3]) (by kernel_rfl) (by simp) ?_
  refine AllReadyH.cons rfl (fun K hK => ?_) AllReadyH.nil
  go_simp
  go_wp2_with ((go_at_call 14; refine (K2.out _ hS).mono ?_; rintro e w3 ⟨u3, rfl, hF3, hb3⟩; have hF1 := hF1.more hb3; have hS : SW w5 w3 := Below.trans hS (Below.mono hb3 hS.size)))
  refine hK.out _ _ hS (fun _ => ?_)
  clear hK K
  refine wpAnyH_ready (rs := [4]) (by kernel_rfl) (by simp) ?_
  refine AllReadyH.cons rfl (fun K hK => ?_) AllReadyH.nil
  go_simp
  go_wp2_with ((go_at_call 12; refine (KE.out _ _ _ hF1 hF3 hS).mono ?_; rintro e w4 ⟨rfl, hS⟩))
  refine hK.out _ _ hS (fun _ => ?_)
  clear hK K
  refine wpAnyH_take (i := 5) (v := ?vQ5) rfl (by kernel_rfl) (by kernel_rfl) (by kernel_rfl) (fun _ _ _ h => h) (Or.inl ⟨by rfl, ?hyQ5⟩) hS ?restQ5
  case hyQ5 =>
    intro w hSw
    first | (go_simp; done) | (go_simp; with_reducible rfl)
  try simp only [Act.put, List.setIfInBounds_toArray, List.set_cons_zero, List.set_cons_succ]
  refine wpAnyH_ready (rs := [6]) (by kernel_rfl) (by simp) ?_
  refine AllReadyH.cons rfl (fun K hK => ?_) AllReadyH.nil
  go_simp
  go_wp2_with ((go_at_call 11; refine (KW.out _ hS).mono ?_; rintro e w6 ⟨rfl, hS⟩))
  refine hK.out _ _ hS (fun _ => ?_)
  clear hK K
  refine wpAnyH_take (i := 7) (v := ?vQ7) rfl (by kernel_rfl) (by kernel_rfl) (by kernel_rfl) (fun _ _ _ h => h) (Or.inl ⟨by rfl, ?hyQ7⟩) hS ?restQ7
  case hyQ7 =>
    intro w hSw
    first | (go_simp; done) | (go_simp; with_reducible rfl)
  try simp only [Act.put, List.setIfInBounds_toArray, List.set_cons_zero, List.set_cons_succ]
  refine wpAnyH_take (i := 8) (v := ?vQ8) rfl (by kernel_rfl) (by kernel_rfl) (by kernel_rfl) (fun _ _ _ h => h) (Or.inl ⟨by rfl, ?hyQ8⟩) hS ?restQ8
  case hyQ8 =>
    intro w hSw
    first | (go_simp; done) | (go_simp; with_reducible rfl)
  try simp only [Act.put, List.setIfInBounds_toArray, List.set_cons_zero, List.set_cons_succ]
  refine wpAnyH_done (by kernel_rfl) ?_ _
  simp only [List.getElem_toArray, List.getElem_cons_succ, List.getElem_cons_zero, List.set_cons_zero, List.set_cons_succ]
  go_wp2
  go_ret
  exact ⟨rfl, hb0.trans (Below.mono hS hb0.size)⟩

end Go.Proofs.YtjokpfeiganigaaDoor
