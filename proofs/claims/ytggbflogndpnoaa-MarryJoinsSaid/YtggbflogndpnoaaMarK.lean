/- Groups: the walk. -/
import Derived.Test.YtggbflogndpnoaaMarJ
import Derived.Test.YtggbflogndpnoaaTxtR
import Derived.Deep.RegionHeld3
import Derived.OrdersHeld
namespace Go.Proofs.Ytggbflogndpnoaa
open Go.RowKit Go.Shelf Go.Maps
set_option linter.unusedSimpArgs false
set_option linter.unusedVariables false
attribute [local go_sem] Oper.semAt_some
attribute [local simp] wide_fn

set_option maxRecDepth 100000 in
set_option maxHeartbeats 4000000 in
theorem groups_in (A : Option Addr) (c : Nat) (l : List Int) (w : World) (hl : l.length ≤ 1000) (hi : I64L l) (hL : IntR w (.slice A l.length c) l) :
    CallsIn Fence.wide 10 Try.prog 8 #[.slice A l.length c] w (GrpR (grpP l) (chkP l) w) := by
  have KC := Lib.hid (check_any A c l w hl hi hL)
  have HL := Lib.hid hL
  obtain ⟨n, hn⟩ : ∃ n, n = l.length := ⟨_, rfl⟩
  have HN := Lib.hid hn
  rw [← hn] at hl KC
  rw [← hn]
  clear hL hi hn
  refine callsIn_of_wp_marks Try.func8 rfl trivial ?_ rfl
  simp only [Try.ntmps8, List.size_toArray, List.length_cons, List.length_nil, Nat.reduceAdd, Nat.reduceSub, Array.replicate_succ, Array.replicate_zero, List.push_toArray, List.append_toArray, List.nil_append, List.cons_append]
  obtain ⟨ce, hce⟩ : ∃ ce, ce = chkP l := ⟨_, rfl⟩
  rw [← hce] at KC ⊢
  by_cases h0 : ce = 0
  rotate_left
  · have HF : Hid (∀ W e, Below w.heap.size w W → e = .returned (.tuple #[.slice none 0 0, .int .i64 ce]) → GrpR (grpP l) ce w e W) := Lib.hid (fun W e h he => ⟨_, [], he, by unfold grpP; rw [if_neg (by rw [← hce]; exact h0)]; rfl, gpL_nil h.size, h⟩)
    have g0 : (ce != 0) = true := by simpa using h0
    clear hce h0
    gi_wp2_with (gi_at_call 10; refine (callsIn_wide.2 KC.out).mono ?_; rintro e w2 ⟨rfl, hb2⟩)
    refine ⟨.tuple #[.slice none 0 0, .int .i64 ce], ?_, HF.out _ _ hb2 rfl⟩
    simp [results, Try.f8, go_sem]
  · have HE := Lib.hid (hce.symm.trans h0)
    clear hce
    subst h0
    gi_wp2_with (first
      | (gi_at_call 10; refine (callsIn_wide.2 KC.out).mono ?_; rintro e w2 ⟨rfl, hb2⟩)
      | (gi_at_call 21; refine (runs_any _ _ _ _).mono ?_; rintro e w' ⟨rfl, rfl⟩))
    obtain ⟨B, hB⟩ : ∃ B, B = w2.heap.size := ⟨_, rfl⟩
    have hwB : w.heap.size ≤ B := by rw [hB]; exact hb2.size
    obtain ⟨W0, hW0⟩ : ∃ W0, W0 = (w2.alloc (Obj.cells #[Value.slice none 0 0] ggT)).alloc (Obj.cells #[Value.slice A n c] insT) := ⟨_, rfl⟩
    have hs0 : W0.heap.size = B + 2 := by rw [hW0, hB]; simp
    have hbx : Boxed W0 B ggT (.slice none 0 0) := by rw [hW0, hB]; exact (Boxed.new w2 ggT _).alloc _
    have hbl : Below w.heap.size w W0 := by rw [hW0]; exact hb2.trans ((((Below.refl _ w2).alloc (Nat.le_refl _) _).alloc (by simp) _).mono hb2.size)
    have hGI : GI l w B [] W0 := ⟨⟨_, [], hbx, gpL_nil (by omega), rfl⟩, hbl, by omega⟩
    have b5 : Boxed W0 (B + 1) insT (.slice A n c) := by
      rw [hW0, hB]
      have h := Boxed.new (w2.alloc (Obj.cells #[Value.slice none 0 0] ggT)) insT (.slice A n c)
      rw [World.size_alloc] at h
      exact h
    have hIB : InB w.heap.size W0 A l := (inB_of HL.out).more hbl
    rw [show (w2.alloc (Obj.cells #[Value.slice none 0 0] ggT)).alloc (Obj.cells #[Value.slice A n c] insT) = W0 from hW0.symm, ← hB]
    clear hW0 hbx hbl KC hb2 hB
    refine wpIn_rangeFunc_ownG rfl (by omega) (gf := 29) (lb := #[.pointer (some ⟨B + 1, 0, none⟩)]) rfl trivial (enters_of Try.func29 (by kernel_rfl) rfl)
      (runs_stops (B + 1) w.heap.size A c l (by have := HN.out; omega) W0 (by omega) (by rw [← HN.out]; exact b5) hIB) kp_t (kp_b (by omega) (by omega)) (Below.refl _ _) (fun _ => rfl)
      (GI l w B) (fun _ _ _ => False) (gi_own l w B _ (by omega) hwB) (fun _ _ _ _ _ hs _ _ => hs) hGI
      (fun x => { tmps := #[.slice A n c, undef, .slice none 0 0, .int .i64 0, .int .i64 0, .pointer (some ⟨B, 0, none⟩), .int .i64 (x.1.1 : Int), .int .i64 (x.1.2 : Int), .slice A n c, .int .i64 0, .int .i64 0, .bool false, undef, .slice A n c, .func (.func 29) #[] #[.pointer (some ⟨B + 1, 0, none⟩)], .int .i64 (x.1.1 : Int), .int .i64 (x.1.2 : Int), undef, undef, undef, undef, undef, undef, undef], defers := [] }) ?assign ?body ?done ?stop
    case assign =>
      intro lp x W K hK
      dsimp only [encR]
      rw [zip_two]
      gi_wp2
      exact hK
    case body =>
      rintro lp pre ⟨⟨f, t⟩, he⟩ W hI hlt
      dsimp only
      obtain ⟨v, gs, h1, h2, h3⟩ := hI.ex
      have hlg : gs.length ≤ 1001 := by
        have := congrArg List.length h3
        rw [List.length_map, List.length_map, rvs_len] at this
        omega
      have d1 : W.drew.cell? ⟨B, 0, none⟩ = some v := h1.cell
      have htf : (f : Int) ≤ (t : Int) := by have : f < t := he.lt; omega
      have htn : t ≤ 1000 := by have : t ≤ l.length := he.le; have := HN.out; omega
      have KI := Lib.hid (fun W3 => indices_any f t W3 (by omega) htn)
      have hlg : gs.length ≤ 100000000 := by omega
      have HO : Hid (∀ w3, Below W.drew.heap.size W.drew w3 → ROwn insT 1 encGp (B + 2) w3 v gs) := Lib.hid (fun w3 hb => h2.own.more (((Below.refl W.heap.size W).drew).trans hb))
      have HD : Hid (∀ (w3 : World) (g : Nat) (v5 : Value) (w5 : World), Below W.drew.heap.size W.drew w3 → W.drew.heap.size ≤ g → Row w3 g (rgP f t) → ROwn insT 1 encGp (B + 2) w5 v5 (gs ++ [⟨g, t - f, rgP f t⟩]) → Chg w3 w5 v v5 → Boxed w5 B ggT v ∧ Below w.heap.size w w5 ∧
          Hid (KeepsFrom W0.heap.size W (w5.setCell ⟨B, 0, none⟩ v5) ∧ KpB w.heap.size (B + 1) W (w5.setCell ⟨B, 0, none⟩ v5) ∧ GI l w B (pre ++ [⟨(f, t), he⟩]) (w5.setCell ⟨B, 0, none⟩ v5))) := Lib.hid (fun w3 g v5 w5 hb hg hr hO hC => by
        have hbW : Below W.heap.size W w3 := ((Below.refl W.heap.size W).drew).trans hb
        have hst := gi_step (B0 := W0.heap.size) (v' := v5) (g := g) (c := t - f) ⟨(f, t), he⟩ hwB hs0 h1 h2 h3 hI.bel hI.sz hbW hg hr hO hC
        exact ⟨hst.1, hst.2.1, Lib.hid hst.2.2⟩)
      have hS0 : Below w.heap.size w W.drew := hI.bel.drew
      clear hI h1 h2 h3 hIB
      gi_wp2
      have hS : (fun W' => Below w.heap.size w W') _ := hS0
      refine region_round (S := fun W' => Below w.heap.size w W') (by kernel_rfl) (by kernel_rfl) hS (fun _ => ?_)
      refine wpAnyH_take (i := 1) (v := ?vG1) rfl (by kernel_rfl) (by kernel_rfl) (by kernel_rfl) (fun _ _ _ h => h) (Or.inl ⟨by rfl, ?hyG1⟩) hS ?restG1
      case hyG1 =>
        intro w hSw
        first | (go_simp; done) | (go_simp; with_reducible rfl)
      try simp only [Act.put, List.setIfInBounds_toArray, List.set_cons_zero, List.set_cons_succ]
      refine wpAnyH_take (i := 2) (v := ?vG2) rfl (by kernel_rfl) (by kernel_rfl) (by kernel_rfl) (fun _ _ _ h => h) (Or.inl ⟨by rfl, ?hyG2⟩) hS ?restG2
      case hyG2 =>
        intro w hSw
        first | (go_simp; done) | (go_simp; with_reducible rfl)
      try simp only [Act.put, List.setIfInBounds_toArray, List.set_cons_zero, List.set_cons_succ]
      refine wpAnyH_ready (rs := [0, 3]) (by kernel_rfl) (by simp) ?_
      refine AllReadyH.cons rfl (fun K hK => ?_) (AllReadyH.cons rfl (fun K hK => ?_) AllReadyH.nil)
      · go_simp
        refine hK.out _ _ hS (fun _ => ?_)
        clear hK K
        refine wpAnyH_ready (rs := [3]) (by kernel_rfl) (by simp) ?_
        refine AllReadyH.cons rfl (fun K hK => ?_) AllReadyH.nil
        go_simp
        go_wp2_with (go_at_call 22; refine (KI.out _).mono ?_; rintro e w3 ⟨g, rfl, hg, hrow, hb3⟩; have hS : Below w.heap.size w w3 := hS.trans (hb3.mono hS.size); have d3 := bel_cell hb3 d1; have d4 := bel_cell (bel_alloc w3 (.cells #[.slice (some ⟨g, 0, none⟩) (t - f) (t - f)] insT)) d3)
        refine hK.out _ _ hS (fun _ => ?_)
        clear hK K
        refine wpAnyH_ready (rs := [4]) (by kernel_rfl) (by simp) ?_
        refine AllReadyH.cons rfl (fun K hK => ?_) AllReadyH.nil
        go_simp
        have hSp := hS
        have hS : Below w.heap.size w (w3.alloc (.cells #[.slice (some ⟨g, 0, none⟩) (t - f) (t - f)] insT)) := hSp.alloc hSp.size _
        refine hK.out _ _ hS (fun _ => ?_)
        clear hK K
        refine wpAnyH_ready (rs := [5]) (by kernel_rfl) (by simp) ?_
        refine AllReadyH.cons rfl (fun K hK => ?_) AllReadyH.nil
        refine step_rapp rowGp rfl _ _ rfl (HO.out _ hb3) rfl (bel_alloc w3 _) _ ⟨g, t - f, rgP f t⟩ _ rfl (cs := #[.slice (some ⟨g, 0, none⟩) (t - f) (t - f)]) (by simp [encGp, rgP_len]) (heap_alloc_new _ _) hlg ?_
        intro v5 w5 hO5 hC5
        go_simp
        obtain ⟨hx5, hS, HST⟩ := HD.out w3 g v5 w5 hb3 hg hrow hO5 hC5
        obtain ⟨A5, n5, k5, rfl⟩ := own_slice hO5.own
        have hc5 := hx5.cell
        have hf5 := hx5.frozen
        refine hK.out _ _ hS (fun _ => ?_)
        clear hK K
        refine wpAnyH_ready (rs := [6]) (by kernel_rfl) (by simp) ?_
        refine AllReadyH.cons rfl (fun K hK => ?_) AllReadyH.nil
        go_simp
        have hSp := hS
        have hS : Below w.heap.size w (w5.setCell ⟨B, 0, none⟩ (.slice A5 n5 k5)) := hSp.setCell (p := ⟨B, 0, none⟩) hwB _
        refine hK.out _ _ hS (fun _ => ?_)
        clear hK K
        refine wpAnyH_done (by kernel_rfl) ?_ _
        try simp only [List.getElem_toArray, List.getElem_cons_succ, List.getElem_cons_zero, List.set_cons_zero, List.set_cons_succ]
        refine ⟨rfl, ?_⟩
        gi_wp2
        exact HST.out
      · go_simp
        go_wp2_with (go_at_call 22; refine (KI.out _).mono ?_; rintro e w3 ⟨g, rfl, hg, hrow, hb3⟩; have hS : Below w.heap.size w w3 := hS.trans (hb3.mono hS.size); have d3 := bel_cell hb3 d1; have d4 := bel_cell (bel_alloc w3 (.cells #[.slice (some ⟨g, 0, none⟩) (t - f) (t - f)] insT)) d3)
        refine hK.out _ _ hS (fun _ => ?_)
        clear hK K
        refine wpAnyH_ready (rs := [0, 4]) (by kernel_rfl) (by simp) ?_
        refine AllReadyH.cons rfl (fun K hK => ?_) (AllReadyH.cons rfl (fun K hK => ?_) AllReadyH.nil)
        · go_simp
          refine hK.out _ _ hS (fun _ => ?_)
          clear hK K
          refine wpAnyH_ready (rs := [4]) (by kernel_rfl) (by simp) ?_
          refine AllReadyH.cons rfl (fun K hK => ?_) AllReadyH.nil
          go_simp
          have hSp := hS
          have hS : Below w.heap.size w (w3.alloc (.cells #[.slice (some ⟨g, 0, none⟩) (t - f) (t - f)] insT)) := hSp.alloc hSp.size _
          refine hK.out _ _ hS (fun _ => ?_)
          clear hK K
          refine wpAnyH_ready (rs := [5]) (by kernel_rfl) (by simp) ?_
          refine AllReadyH.cons rfl (fun K hK => ?_) AllReadyH.nil
          refine step_rapp rowGp rfl _ _ rfl (HO.out _ hb3) rfl (bel_alloc w3 _) _ ⟨g, t - f, rgP f t⟩ _ rfl (cs := #[.slice (some ⟨g, 0, none⟩) (t - f) (t - f)]) (by simp [encGp, rgP_len]) (heap_alloc_new _ _) hlg ?_
          intro v5 w5 hO5 hC5
          go_simp
          obtain ⟨hx5, hS, HST⟩ := HD.out w3 g v5 w5 hb3 hg hrow hO5 hC5
          obtain ⟨A5, n5, k5, rfl⟩ := own_slice hO5.own
          have hc5 := hx5.cell
          have hf5 := hx5.frozen
          refine hK.out _ _ hS (fun _ => ?_)
          clear hK K
          refine wpAnyH_ready (rs := [6]) (by kernel_rfl) (by simp) ?_
          refine AllReadyH.cons rfl (fun K hK => ?_) AllReadyH.nil
          go_simp
          have hSp := hS
          have hS : Below w.heap.size w (w5.setCell ⟨B, 0, none⟩ (.slice A5 n5 k5)) := hSp.setCell (p := ⟨B, 0, none⟩) hwB _
          refine hK.out _ _ hS (fun _ => ?_)
          clear hK K
          refine wpAnyH_done (by kernel_rfl) ?_ _
          try simp only [List.getElem_toArray, List.getElem_cons_succ, List.getElem_cons_zero, List.set_cons_zero, List.set_cons_succ]
          refine ⟨rfl, ?_⟩
          gi_wp2
          exact HST.out
        · go_simp
          have hSp := hS
          have hS : Below w.heap.size w (w3.alloc (.cells #[.slice (some ⟨g, 0, none⟩) (t - f) (t - f)] insT)) := hSp.alloc hSp.size _
          refine hK.out _ _ hS (fun _ => ?_)
          clear hK K
          refine wpAnyH_ready (rs := [0]) (by kernel_rfl) (by simp) ?_
          refine AllReadyH.cons rfl (fun K hK => ?_) AllReadyH.nil
          go_simp
          refine hK.out _ _ hS (fun _ => ?_)
          clear hK K
          refine wpAnyH_ready (rs := [5]) (by kernel_rfl) (by simp) ?_
          refine AllReadyH.cons rfl (fun K hK => ?_) AllReadyH.nil
          refine step_rapp rowGp rfl _ _ rfl (HO.out _ hb3) rfl (bel_alloc w3 _) _ ⟨g, t - f, rgP f t⟩ _ rfl (cs := #[.slice (some ⟨g, 0, none⟩) (t - f) (t - f)]) (by simp [encGp, rgP_len]) (heap_alloc_new _ _) hlg ?_
          intro v5 w5 hO5 hC5
          go_simp
          obtain ⟨hx5, hS, HST⟩ := HD.out w3 g v5 w5 hb3 hg hrow hO5 hC5
          obtain ⟨A5, n5, k5, rfl⟩ := own_slice hO5.own
          have hc5 := hx5.cell
          have hf5 := hx5.frozen
          refine hK.out _ _ hS (fun _ => ?_)
          clear hK K
          refine wpAnyH_ready (rs := [6]) (by kernel_rfl) (by simp) ?_
          refine AllReadyH.cons rfl (fun K hK => ?_) AllReadyH.nil
          go_simp
          have hSp := hS
          have hS : Below w.heap.size w (w5.setCell ⟨B, 0, none⟩ (.slice A5 n5 k5)) := hSp.setCell (p := ⟨B, 0, none⟩) hwB _
          refine hK.out _ _ hS (fun _ => ?_)
          clear hK K
          refine wpAnyH_done (by kernel_rfl) ?_ _
          try simp only [List.getElem_toArray, List.getElem_cons_succ, List.getElem_cons_zero, List.set_cons_zero, List.set_cons_succ]
          refine ⟨rfl, ?_⟩
          gi_wp2
          exact HST.out
    case done =>
      rintro D ys W hD hys hI hK
      obtain ⟨v, gs, h1, h2, h3⟩ := hI.ex
      have c0 := h1.cell
      have HF : Hid (GrpR (grpP l) 0 w (.returned (.tuple #[v, .int .i64 0])) (W.putObj D (.deferred none))) := Lib.hid ⟨v, gs, rfl, by rw [h3]; unfold grpP; rw [if_pos HE.out, hys.groups], (h2.kept (grownBy_putObj' _ D (.deferred none)) (fun r e => by cases e; exact ⟨_, hK, rfl⟩)).base (by omega), hI.bel.trans (belowK_b (w := w) (Nat.le_refl _) W D _ _ (by omega) hK rfl rfl)⟩
      clear hI h1 h2 h3
      gi_wp2
      refine ⟨by simp, .inl ⟨_, _, rfl, run_takeDeferred hK, ?_⟩⟩
      refine ⟨.tuple #[v, .int .i64 0], ?_, HF.out⟩
      simp [results, Try.f8, go_sem]
    case stop =>
      rintro D cd pre W hD _ hX hK
      exact hX.elim
theorem groups_any (A : Option Addr) (c : Nat) (l : List Int) (w : World) (hl : l.length ≤ 1000) (hi : I64L l) (hL : IntR w (.slice A l.length c) l) :
    Calls Try.prog 8 #[.slice A l.length c] w (GrpR (grpP l) (chkP l) w) := callsIn_wide.1 (groups_in A c l w hl hi hL)
end Go.Proofs.Ytggbflogndpnoaa
