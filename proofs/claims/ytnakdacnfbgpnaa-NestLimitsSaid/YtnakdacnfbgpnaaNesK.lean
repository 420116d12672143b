/- The laws NestOpens and NestSells. -/
import Derived.Test.YtnakdacnfbgpnaaNesJ
import Derived.Deep.LoopGhost
import Derived.BigQuiet
import Derived.Deep.CutRange
import Derived.Deep.CutBlock
namespace Go.Proofs.Ytnakdacnfbgpnaa
open Go.RowKit Go.Shelf
set_option linter.unusedSimpArgs false
set_option linter.unusedVariables false


set_option maxRecDepth 100000 in
set_option maxHeartbeats 8000000 in
theorem nestOpens_walk (b : Cb) (A : Option Addr) (c : Nat) (s : List Int) (w : World) (hd : RdC b) (hb : CbAt w b) (hL : IntR w (.slice A s.length c) s) (hh : b.l.length < 9223372036854775808) (hh2 : s.length < 9223372036854775808) :
    Calls Try.prog 3 #[aggCb b, .slice A s.length c] w fun e w' => e = .returned (.bool true) ∧ Below w.heap.size w w' := by
  have KA := Lib.hid awake_any
  have hbA := bel_alloc w (.cells #[.string b.name, .int .i64 b.seats, .int .i64 b.over, .slice b.A b.l.length b.c] cbT)
  have q0 := cb_cells w b 0 _ rfl
  have q1 := cb_cells w b 1 _ rfl
  have q2 := cb_cells w b 2 _ rfl
  have q3 := cb_cells w b 3 _ rfl
  by_cases hrt : rtP b s
  rotate_left
  · have KR := Lib.hid (right_no b A c s _ hd (hb.more hbA) (hL.more hbA) hh hh2 hrt)
    have HA := Lib.hid hbA
    clear hrt hb hL
    go_enter Try.func3, Try.ntmps3
    go_wp2_with (first
      | (go_at_call 9; refine (KA.out _).mono ?_; rintro e wd ⟨rfl, hbd⟩)
      | (go_at_call 8; refine KR.out.mono ?_; rintro e w6 ⟨rfl, hb6⟩; have hA6 := Below.trans HA.out (Below.mono hb6 HA.out.size)))
    go_ret
    exact ⟨rfl, hA6.trans (hbd.mono hA6.size)⟩
  have hs : s.length ≤ 1000 := by have := hrt.2.1; omega
  have hP := hrt.rgC.lim
  have KR := Lib.hid (right_yes b A c s _ hd (hb.more hbA) hrt)
  have HB := Lib.hid hb
  have HL := Lib.hid hL
  have HA := Lib.hid hbA
  have HP := Lib.hid hP
  clear hrt hb hL hP
  go_enter Try.func3, Try.ntmps3
  go_upto_region 3 with (go_at_call 8; refine KR.out.mono ?_; rintro e w6 ⟨rfl, hb6⟩)
  have HW6 : Hid (SW w w6) := Lib.hid (Below.trans HA.out (Below.mono hb6 HA.out.size))
  have k0 := bel_cell hb6 q0
  have k1 := bel_cell hb6 q1
  have k2 := bel_cell hb6 q2
  have k3 := bel_cell hb6 q3
  clear q0 q1 q2 q3 hb6 hbA KR
  obtain ⟨B, hB⟩ : ∃ B, B = w.heap.size := ⟨_, rfl⟩
  rw [← hB] at k0 k1 k2 k3
  rw [← hB]
  clear hB
  have f0 : ∀ W, SW w6 W → W.cell? ⟨B, 0, none⟩ = some (Value.string b.name) := fun W h => bel_get k0 _ h
  have f1 : ∀ W, SW w6 W → W.cell? ⟨B, 1, none⟩ = some (Value.int .i64 b.seats) := fun W h => bel_get k1 _ h
  have f2 : ∀ W, SW w6 W → W.cell? ⟨B, 2, none⟩ = some (Value.int .i64 b.over) := fun W h => bel_get k2 _ h
  have f3 : ∀ W, SW w6 W → W.cell? ⟨B, 3, none⟩ = some (Value.slice b.A b.l.length b.c) := fun W h => bel_get k3 _ h
  have HT : Hid (∀ W, SW w6 W → SW w W) := Lib.hid (fun W h => Below.trans HW6.out (Below.mono h HW6.out.size))
  have KO : Hid (∀ W, SW w6 W → Calls Try.prog 11 #[.agg #[.string b.name, .int .i64 b.seats, .int .i64 b.over, .slice b.A b.l.length b.c], .slice A s.length c] W fun e w' => ∃ v', e = .returned v' ∧ IntR w' v' (opL b s) ∧ Below W.heap.size W w') := Lib.hid (fun W h => open_any b A c s W (HB.out.more (HT.out W h)) HP.out hs (HL.out.more (HT.out W h)))
  have KP : Hid (∀ W, SW w6 W → Calls Try.prog 12 #[.agg #[.string b.name, .int .i64 b.seats, .int .i64 b.over, .slice b.A b.l.length b.c], .slice A s.length c] W fun e w' => ∃ v', e = .returned v' ∧ IntR w' v' (opL b s) ∧ Below W.heap.size W w') := Lib.hid (fun W h => ropen_any b A c s W (HB.out.more (HT.out W h)) HP.out hs (HL.out.more (HT.out W h)))
  have KF : Hid (∀ W, SW w6 W → Calls Try.prog 13 #[.agg #[.string b.name, .int .i64 b.seats, .int .i64 b.over, .slice b.A b.l.length b.c], .slice A s.length c] W fun e w' => e = .returned (.bool (fitB b s)) ∧ Below W.heap.size W w') := Lib.hid (fun W h => fits_any b A c s W (HB.out.more (HT.out W h)) HP.out hs (HL.out.more (HT.out W h)))
  have KG : Hid (∀ W, SW w6 W → Calls Try.prog 14 #[.agg #[.string b.name, .int .i64 b.seats, .int .i64 b.over, .slice b.A b.l.length b.c], .slice A s.length c] W fun e w' => e = .returned (.bool (fitB b s)) ∧ Below W.heap.size W w') := Lib.hid (fun W h => rfits_any b A c s W (HB.out.more (HT.out W h)) HP.out hs (HL.out.more (HT.out W h)))
  have KX : Hid (∀ W, SW w6 W → Calls Try.prog 15 #[.agg #[.string b.name, .int .i64 b.seats, .int .i64 b.over, .slice b.A b.l.length b.c], .slice A s.length c] W fun e w' => e = .returned (.int .i64 (exP b s)) ∧ Below W.heap.size W w') := Lib.hid (fun W h => excess_any b A c s W (HB.out.more (HT.out W h)) HP.out hs (HL.out.more (HT.out W h)))
  have KY : Hid (∀ W, SW w6 W → Calls Try.prog 16 #[.agg #[.string b.name, .int .i64 b.seats, .int .i64 b.over, .slice b.A b.l.length b.c], .slice A s.length c] W fun e w' => e = .returned (.int .i64 (exP b s)) ∧ Below W.heap.size W w') := Lib.hid (fun W h => rexcess_any b A c s W (HB.out.more (HT.out W h)) HP.out hs (HL.out.more (HT.out W h)))
  have hlo : (opL b s).length ≤ 1000000 := by
    unfold opL
    split
    · rw [tab_len]; omega
    · simp
  have KE : Hid (∀ (W : World) (u v : Value), SW w6 W → IntR W u (opL b s) → IntR W v (opL b s) → Calls Try.prog 10 #[u, v] W fun e w' => e = .returned (.bool true) ∧ Below W.heap.size W w') := Lib.hid (fun W u v h hu hv => sameI_any u v (opL b s) W hu hv hlo)
  clear k0 k1 k2 k3 hlo
  generalize opL b s = ol at *
  generalize fitB b s = fb at *
  generalize exP b s = xb at *
  have g1 : (fb == fb) = true := by simp
  have g2 : (xb == xb) = true := by simp
  have hS : (SW w6) _ := SW.drew _
  refine wp_region_held_drew (S := SW w6) (by kernel_rfl) hS (fun _ => ?_)
  refine wpAnyH_take (i := 0) (v := ?vN0) rfl (by kernel_rfl) (by kernel_rfl) (by kernel_rfl) (fun _ _ _ h => h) (Or.inl ⟨by rfl, ?hyN0⟩) hS ?restN0
  case hyN0 =>
    intro w hSw
    have k0 := f0 w hSw; have k1 := f1 w hSw; have k2 := f2 w hSw; have k3 := f3 w hSw
    first | (go_simp; done) | (go_simp; with_reducible rfl)
  try simp only [Act.put, List.setIfInBounds_toArray, List.set_cons_zero, List.set_cons_succ]
  refine wpAnyH_take (i := 1) (v := ?vN1) rfl (by kernel_rfl) (by kernel_rfl) (by kernel_rfl) (fun _ _ _ h => h) (Or.inl ⟨by rfl, ?hyN1⟩) hS ?restN1
  case hyN1 =>
    intro w hSw
    first | (go_simp; done) | (go_simp; with_reducible rfl)
  try simp only [Act.put, List.setIfInBounds_toArray, List.set_cons_zero, List.set_cons_succ]
  refine wpAnyH_take (i := 3) (v := ?vN3) rfl (by kernel_rfl) (by kernel_rfl) (by kernel_rfl) (fun _ _ _ h => h) (Or.inl ⟨by rfl, ?hyN3⟩) hS ?restN3
  case hyN3 =>
    intro w hSw
    have k0 := f0 w hSw; have k1 := f1 w hSw; have k2 := f2 w hSw; have k3 := f3 w hSw
    first | (go_simp; done) | (go_simp; with_reducible rfl)
  try simp only [Act.put, List.setIfInBounds_toArray, List.set_cons_zero, List.set_cons_succ]
  refine wpAnyH_take (i := 4) (v := ?vN4) rfl (by kernel_rfl) (by kernel_rfl) (by kernel_rfl) (fun _ _ _ h => h) (Or.inl ⟨by rfl, ?hyN4⟩) hS ?restN4
  case hyN4 =>
    intro w hSw
    first | (go_simp; done) | (go_simp; with_reducible rfl)
  try simp only [Act.put, List.setIfInBounds_toArray, List.set_cons_zero, List.set_cons_succ]
  refine wpAnyH_ready (rs := [2]) (by kernel_rfl) (by simp) ?_
  refine AllReadyH.cons rfl (fun K hK => ?_) AllReadyH.nil
  go_simp
  go_wp2_with ((go_at_call 11; refine (KO.out _ hS).mono ?_; rintro e wx1 ⟨v1, rfl, hv1, hb⟩; have hS := Below.trans hS (Below.mono hb hS.size)))
  refine hK.out _ _ hS (fun _ => ?_)
  clear hK K
  refine wpAnyH_ready (rs := [5]) (by kernel_rfl) (by simp) ?_
  refine AllReadyH.cons rfl (fun K hK => ?_) AllReadyH.nil
  go_simp
  go_wp2_with ((go_at_call 12; refine (KP.out _ hS).mono ?_; rintro e wx2 ⟨v2, rfl, hv2, hb⟩; have hv1 := RowL.more hv1 hb; have hS := Below.trans hS (Below.mono hb hS.size)))
  refine hK.out _ _ hS (fun _ => ?_)
  clear hK K
  refine wpAnyH_ready (rs := [6]) (by kernel_rfl) (by simp) ?_
  refine AllReadyH.cons rfl (fun K hK => ?_) AllReadyH.nil
  go_simp
  go_wp2_with ((go_at_call 10; refine (KE.out _ _ _ hS hv1 hv2).mono ?_; rintro e wx3 ⟨rfl, hb⟩; have hS := Below.trans hS (Below.mono hb hS.size)))
  refine hK.out _ _ hS (fun _ => ?_)
  clear hK K
  refine wpAnyH_take (i := 7) (v := ?vN7) rfl (by kernel_rfl) (by kernel_rfl) (by kernel_rfl) (fun _ _ _ h => h) (Or.inl ⟨by rfl, ?hyN7⟩) hS ?restN7
  case hyN7 =>
    intro w hSw
    first | (go_simp; done) | (go_simp; with_reducible rfl)
  try simp only [Act.put, List.setIfInBounds_toArray, List.set_cons_zero, List.set_cons_succ]
  refine wpAnyH_take (i := 8) (v := ?vN8) rfl (by kernel_rfl) (by kernel_rfl) (by kernel_rfl) (fun _ _ _ h => h) (Or.inl ⟨by kernel_rfl, ?hyN8⟩) hS ?restN8
  case hyN8 =>
    intro w hSw
    have k0 := f0 w hSw; have k1 := f1 w hSw; have k2 := f2 w hSw; have k3 := f3 w hSw
    first | (go_simp; done) | (go_simp; with_reducible rfl)
  try simp only [Act.put, List.setIfInBounds_toArray, List.set_cons_zero, List.set_cons_succ]
  refine wpAnyH_take (i := 9) (v := ?vN9) rfl (by kernel_rfl) (by kernel_rfl) (by kernel_rfl) (fun _ _ _ h => h) (Or.inl ⟨by kernel_rfl, ?hyN9⟩) hS ?restN9
  case hyN9 =>
    intro w hSw
    first | (go_simp; done) | (go_simp; with_reducible rfl)
  try simp only [Act.put, List.setIfInBounds_toArray, List.set_cons_zero, List.set_cons_succ]
  refine wpAnyH_take (i := 11) (v := ?vN11) rfl (by kernel_rfl) (by kernel_rfl) (by kernel_rfl) (fun _ _ _ h => h) (Or.inl ⟨by kernel_rfl, ?hyN11⟩) hS ?restN11
  case hyN11 =>
    intro w hSw
    have k0 := f0 w hSw; have k1 := f1 w hSw; have k2 := f2 w hSw; have k3 := f3 w hSw
    first | (go_simp; done) | (go_simp; with_reducible rfl)
  try simp only [Act.put, List.setIfInBounds_toArray, List.set_cons_zero, List.set_cons_succ]
  refine wpAnyH_take (i := 12) (v := ?vN12) rfl (by kernel_rfl) (by kernel_rfl) (by kernel_rfl) (fun _ _ _ h => h) (Or.inl ⟨by kernel_rfl, ?hyN12⟩) hS ?restN12
  case hyN12 =>
    intro w hSw
    first | (go_simp; done) | (go_simp; with_reducible rfl)
  try simp only [Act.put, List.setIfInBounds_toArray, List.set_cons_zero, List.set_cons_succ]
  refine wpAnyH_ready (rs := [10]) (by kernel_rfl) (by simp) ?_
  refine AllReadyH.cons rfl (fun K hK => ?_) AllReadyH.nil
  go_simp
  go_wp2_with ((go_at_call 13; refine (KF.out _ hS).mono ?_; rintro e wx4 ⟨rfl, hb⟩; have hS := Below.trans hS (Below.mono hb hS.size)))
  refine hK.out _ _ hS (fun _ => ?_)
  clear hK K
  refine wpAnyH_ready (rs := [13]) (by kernel_rfl) (by simp) ?_
  refine AllReadyH.cons rfl (fun K hK => ?_) AllReadyH.nil
  go_simp
  go_wp2_with ((go_at_call 14; refine (KG.out _ hS).mono ?_; rintro e wx5 ⟨rfl, hb⟩; have hS := Below.trans hS (Below.mono hb hS.size)))
  refine hK.out _ _ hS (fun _ => ?_)
  clear hK K
  refine wpAnyH_take (i := 14) (v := ?vN14) rfl (by kernel_rfl) (by kernel_rfl) (by kernel_rfl) (fun _ _ _ h => h) (Or.inl ⟨by kernel_rfl, ?hyN14⟩) hS ?restN14
  case hyN14 =>
    intro w hSw
    first | (go_simp; done) | (go_simp; with_reducible rfl)
  try simp only [Act.put, List.setIfInBounds_toArray, List.set_cons_zero, List.set_cons_succ]
  refine wpAnyH_take (i := 15) (v := ?vN15) rfl (by kernel_rfl) (by kernel_rfl) (by kernel_rfl) (fun _ _ _ h => h) (Or.inl ⟨by rfl, ?hyN15⟩) hS ?restN15
  case hyN15 =>
    intro w hSw
    first | (go_simp; done) | (go_simp; with_reducible rfl)
  try simp only [Act.put, List.setIfInBounds_toArray, List.set_cons_zero, List.set_cons_succ]
  refine wpAnyH_take (i := 16) (v := ?vN16) rfl (by kernel_rfl) (by kernel_rfl) (by kernel_rfl) (fun _ _ _ h => h) (Or.inl ⟨by rfl, ?hyN16⟩) hS ?restN16
  case hyN16 =>
    intro w hSw
    first | (go_simp; done) | (go_simp; with_reducible rfl)
  try simp only [Act.put, List.setIfInBounds_toArray, List.set_cons_zero, List.set_cons_succ]
  refine wpAnyH_take (i := 17) (v := ?vN17) rfl (by kernel_rfl) (by kernel_rfl) (by kernel_rfl) (fun _ _ _ h => h) (Or.inl ⟨by kernel_rfl, ?hyN17⟩) hS ?restN17
  case hyN17 =>
    intro w hSw
    have k0 := f0 w hSw; have k1 := f1 w hSw; have k2 := f2 w hSw; have k3 := f3 w hSw
    first | (go_simp; done) | (go_simp; with_reducible rfl)
  try simp only [Act.put, List.setIfInBounds_toArray, List.set_cons_zero, List.set_cons_succ]
  refine wpAnyH_take (i := 18) (v := ?vN18) rfl (by kernel_rfl) (by kernel_rfl) (by kernel_rfl) (fun _ _ _ h => h) (Or.inl ⟨by kernel_rfl, ?hyN18⟩) hS ?restN18
  case hyN18 =>
    intro w hSw
    first | (go_simp; done) | (go_simp; with_reducible rfl)
  try simp only [Act.put, List.setIfInBounds_toArray, List.set_cons_zero, List.set_cons_succ]
  refine wpAnyH_take (i := 20) (v := ?vN20) rfl (by kernel_rfl) (by kernel_rfl) (by kernel_rfl) (fun _ _ _ h => h) (Or.inl ⟨by kernel_rfl, ?hyN20⟩) hS ?restN20
  case hyN20 =>
    intro w hSw
    have k0 := f0 w hSw; have k1 := f1 w hSw; have k2 := f2 w hSw; have k3 := f3 w hSw
    first | (go_simp; done) | (go_simp; with_reducible rfl)
  try simp only [Act.put, List.setIfInBounds_toArray, List.set_cons_zero, List.set_cons_succ]
  refine wpAnyH_take (i := 21) (v := ?vN21) rfl (by kernel_rfl) (by kernel_rfl) (by kernel_rfl) (fun _ _ _ h => h) (Or.inl ⟨by kernel_rfl, ?hyN21⟩) hS ?restN21
  case hyN21 =>
    intro w hSw
    first | (go_simp; done) | (go_simp; with_reducible rfl)
  try simp only [Act.put, List.setIfInBounds_toArray, List.set_cons_zero, List.set_cons_succ]
  refine wpAnyH_ready (rs := [19]) (by kernel_rfl) (by simp) ?_
  refine AllReadyH.cons rfl (fun K hK => ?_) AllReadyH.nil
  go_simp
  go_wp2_with ((go_at_call 15; refine (KX.out _ hS).mono ?_; rintro e wx6 ⟨rfl, hb⟩; have hS := Below.trans hS (Below.mono hb hS.size)))
  refine hK.out _ _ hS (fun _ => ?_)
  clear hK K
  refine wpAnyH_ready (rs := [22]) (by kernel_rfl) (by simp) ?_
  refine AllReadyH.cons rfl (fun K hK => ?_) AllReadyH.nil
  go_simp
  go_wp2_with ((go_at_call 16; refine (KY.out _ hS).mono ?_; rintro e wx7 ⟨rfl, hb⟩; have hS := Below.trans hS (Below.mono hb hS.size)))
  refine hK.out _ _ hS (fun _ => ?_)
  clear hK K
  refine wpAnyH_take (i := 23) (v := ?vN23) rfl (by kernel_rfl) (by kernel_rfl) (by kernel_rfl) (fun _ _ _ h => h) (Or.inl ⟨by kernel_rfl, ?hyN23⟩) hS ?restN23
  case hyN23 =>
    intro w hSw
    first | (go_simp; done) | (go_simp; with_reducible rfl)
  try simp only [Act.put, List.setIfInBounds_toArray, List.set_cons_zero, List.set_cons_succ]
  refine wpAnyH_take (i := 24) (v := ?vN24) rfl (by kernel_rfl) (by kernel_rfl) (by kernel_rfl) (fun _ _ _ h => h) (Or.inl ⟨by rfl, ?hyN24⟩) hS ?restN24
  case hyN24 =>
    intro w hSw
    first | (go_simp; done) | (go_simp; with_reducible rfl)
  try simp only [Act.put, List.setIfInBounds_toArray, List.set_cons_zero, List.set_cons_succ]
  refine wpAnyH_take (i := 25) (v := ?vN25) rfl (by kernel_rfl) (by kernel_rfl) (by kernel_rfl) (fun _ _ _ h => h) (Or.inl ⟨by rfl, ?hyN25⟩) hS ?restN25
  case hyN25 =>
    intro w hSw
    first | (go_simp; done) | (go_simp; with_reducible rfl)
  try simp only [Act.put, List.setIfInBounds_toArray, List.set_cons_zero, List.set_cons_succ]
  refine wpAnyH_ready (rs := [26]) (by kernel_rfl) (by simp) ?_
  refine AllReadyH.cons rfl (fun K hK => ?_) AllReadyH.nil
  go_simp
  go_wp2_with ((go_at_call 9; refine (KA.out _).mono ?_; rintro e wx8 ⟨rfl, hb⟩; have hS := Below.trans hS (Below.mono hb hS.size)))
  refine hK.out _ _ hS (fun _ => ?_)
  clear hK K
  refine wpAnyH_take (i := 27) (v := ?vN27) rfl (by kernel_rfl) (by kernel_rfl) (by kernel_rfl) (fun _ _ _ h => h) (Or.inl ⟨by rfl, ?hyN27⟩) hS ?restN27
  case hyN27 =>
    intro w hSw
    first | (go_simp; done) | (go_simp; with_reducible rfl)
  try simp only [Act.put, List.setIfInBounds_toArray, List.set_cons_zero, List.set_cons_succ]
  refine wpAnyH_take (i := 28) (v := ?vN28) rfl (by kernel_rfl) (by kernel_rfl) (by kernel_rfl) (fun _ _ _ h => h) (Or.inl ⟨by rfl, ?hyN28⟩) hS ?restN28
  case hyN28 =>
    intro w hSw
    first | (go_simp; done) | (go_simp; with_reducible rfl)
  try simp only [Act.put, List.setIfInBounds_toArray, List.set_cons_zero, List.set_cons_succ]
  refine wpAnyH_done (by kernel_rfl) ?_ _
  try simp only [List.getElem_toArray, List.getElem_cons_succ, List.getElem_cons_zero, List.set_cons_zero, List.set_cons_succ]
  try simp only [List.setIfInBounds_toArray, List.set_cons_zero, List.set_cons_succ]
  go_wp2
  go_ret
  exact ⟨rfl, HW6.out.trans (Below.mono hS HW6.out.size)⟩
end Go.Proofs.Ytnakdacnfbgpnaa
