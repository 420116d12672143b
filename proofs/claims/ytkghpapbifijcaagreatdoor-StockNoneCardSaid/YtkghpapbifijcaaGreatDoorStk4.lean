/- New. -/
import Derived.Test.YtkghpapbifijcaaGreatDoorStk3
namespace Go.Proofs.YtkghpapbifijcaaGreatDoor
open Go.RowKit Go.Shelf Go.Maps Go.MapKept
set_option linter.unusedSimpArgs false
set_option linter.unusedVariables false

theorem mk_hint {P : Program} {t k e : TypeId} (hu : P.underlying t = some (.map k e)) (n : Int) (w : World) : (Instr.makeMap t (some (.int .i64 n))).run P w = .ok (.map (some w.heap.size)) (w.alloc (.map #[] 0)) := by
  simp [Instr.makeMap, run_underlying hu, asInt, asIntOf, Result.andThen]
/-- while the configurations are copied -/
structure NewS (w : World) (l : List Cf) (mc ml B k : Nat) (W : World) (cs : List Cf) : Prop where
  sam : SamL cs (l.take k)
  cfg : MapS W mc k (gC cs)
  leg : W.heap[ml]? = some (.map #[] 0)
  c0 : W.cell? ⟨B, 0, none⟩ = some (.map (some mc))
  c1 : W.cell? ⟨B, 1, none⟩ = some (.map (some ml))
  at' : ∀ f ∈ cs, CfAt W f
  bel : Below w.heap.size w W
theorem NewS.step {w : World} {l : List Cf} {mc ml B k : Nat} {W W7 W9 : World} {cs : List Cf} (h : NewS w l mc ml B k W cs) (hne : mc ≠ ml) (hmc : w.heap.size ≤ mc) (hb : Below W.heap.size W W7) {x f : Cf} (hx : l[k]? = some x) (hf : SamC f x) (hcf : CfAt W7 f) (hno : ∀ g ∈ l.take k, eqS g.equip x.equip = false)
    (hst : MapS W9 mc (k + 1) (fun c' => if c' = x.equip then some (aggCf f) else gC cs c')) (hg : W7.grownBy W9 (some mc)) : NewS w l mc ml B (k + 1) W9 (cs ++ [f]) := by
  have hcfg7 := h.cfg.more hb
  have hbut : But W7 W9 (fun k => k = mc) := ⟨hg.os, hg.tape, hg.output, hg.size, fun j hj hn => hg.block j hj (fun e => hn (Option.some.inj e))⟩
  have hle : W.heap.size ≤ W7.heap.size := hb.size
  obtain ⟨es, cl, hmm, _⟩ := id hcfg7
  have hBm : B ≠ mc := nomap_cell (bel_cell hb h.c0) hmm
  have hlen : cs.length = k := by rw [h.sam.len, List.length_take]; have := (List.getElem?_eq_some_iff.1 hx).1; omega
  refine ⟨⟨?_, fun j a b ha hb' => ?_⟩, ?_, ?_, but_cell hbut (bel_cell hb h.c0) hBm, but_cell hbut (bel_cell hb h.c1) hBm, fun g hg' => ?_, ?_⟩
  · rw [List.length_append, hlen, List.length_take, List.length_singleton]
    have := (List.getElem?_eq_some_iff.1 hx).1
    omega
  · rw [List.take_add_one, hx] at hb'
    have hkl : (l.take k).length = k := by rw [List.length_take]; have := (List.getElem?_eq_some_iff.1 hx).1; omega
    by_cases hj : j < k
    · rw [List.getElem?_append_left (by omega)] at ha hb'
      exact h.sam.each j a b ha hb'
    · rw [List.getElem?_append_right (by omega)] at ha hb'
      rw [hlen] at ha
      rw [hkl] at hb'
      cases e : j - k with
      | zero => rw [e] at ha hb'; simp at ha hb'; subst ha hb'; exact hf
      | succ m => rw [e] at ha; simp at ha
  · have e : gC (cs ++ [f]) = _ := (gC_snoc (fun g hg' => by
      obtain ⟨j, hj, rfl⟩ := List.getElem_of_mem hg'
      have hj2 : j < (l.take k).length := by rw [← h.sam.len]; exact hj
      have h1 := h.sam.each j _ _ (List.getElem?_eq_getElem hj) (List.getElem?_eq_getElem hj2)
      rw [h1.eq, hf.eq]
      exact hno _ (List.getElem_mem hj2))).symm
    rw [e, hf.eq]
    exact hst
  · exact (hbut.block ml (by have := (Array.getElem?_eq_some_iff.1 h.leg).1; omega) (fun e => hne e.symm)).trans ((hb.block ml (Array.getElem?_eq_some_iff.1 h.leg).1).trans h.leg)
  · rcases List.mem_append.1 hg' with h1 | h1
    · exact CbL.but ((h.at' g h1).more hb) hcfg7 hbut
    · rw [List.mem_singleton.1 h1]; exact CbL.but hcf hcfg7 hbut
  · exact (h.bel.trans (hb.mono h.bel.size)).trans (hbut.below (Nat.le_trans h.bel.size hle) (fun j hj e => by omega))
/-- what New hands back -/
def NewR (w : World) (l : List Cf) (e : Ending) (w' : World) : Prop :=
  (conF l l.length ≠ [] → ∃ v, e = .returned (.tuple #[.pointer none, v]) ∧ FltL w' v (conF l l.length)) ∧
  (conF l l.length = [] → ∃ B cs R o, e = .returned (.tuple #[.pointer (some ⟨B, 0, none⟩), .slice none 0 0]) ∧ StkAt w' R o B 0 cs (fun _ => none) ∧ SamL cs l ∧ ∀ k, o k ≠ .none → w.heap.size ≤ k)
set_option maxRecDepth 100000 in
set_option maxHeartbeats 8000000 in
theorem new_any (A : Option Addr) (c : Nat) (l : List Cf) (w : World) (hv : CfL w (.slice A l.length c) l) (hs : SmallP l) (hok : ∀ f ∈ l, OkCf f) (hcap : l.length ≤ c) :
    Calls Tryz.prog 12 #[.slice A l.length c] w fun e w' => NewR w l e w' ∧ Below w.heap.size w w' := by
  have hmm := @run_makeMap Tryz.prog
  have hmh := fun (n : Int) (w : World) => mk_hint Tryz.underlying68 n w
  have K1 := Lib.hid (check_any A c l w hv hs.1 hok)
  unfold NewR
  by_cases h0 : conF l l.length = []
  · have HGD : Hid (∀ f ∈ l, GoodF f) := Lib.hid (good_of h0 hs.2 hok)
    have HEQ : Hid (∀ k f, l[k]? = some f → ∀ g ∈ l.take k, eqS g.equip f.equip = false) := Lib.hid (fun k f hk => equips_of h0 hk)
    rw [h0] at K1 ⊢
    have HV := Lib.hid hv
    have HS := Lib.hid hs
    have HOK := Lib.hid hok
    obtain ⟨n, hn⟩ : ∃ n, n = l.length := ⟨_, rfl⟩
    have HN := Lib.hid hn
    rw [← hn] at K1 hcap ⊢
    clear hv hs hok h0 hn
    go_enter Tryz.func12, Tryz.ntmps12
    go_upto_region 2 with (go_at_call 41; refine K1.out.mono ?_; rintro e w4 ⟨v, rfl, hO, hb4⟩)
    obtain ⟨A4, c4, rfl, _⟩ := hO.rowL rtF.len
    dsimp only [List.length]
    clear hO
    go_upto_region 5 with fail
    have hn4 : ((w4.alloc (.map #[] 0)).alloc (.map #[] 0)).heap.size = w4.heap.size + 1 + 1 := by simp
    have hbx := bel_alloc ((w4.alloc (.map #[] 0)).alloc (.map #[] 0)) (.cells #[.map (some w4.heap.size), .map (some (w4.heap.size + 1))] stkT)
    have hba := bel_alloc w4 (.map #[] 0)
    have hbb := bel_alloc (w4.alloc (.map #[] 0)) (.map #[] 0)
    have HST : Hid (∃ cs, NewS w l w4.heap.size (w4.heap.size + 1) (w4.heap.size + 1 + 1) 0 (((w4.alloc (.map #[] 0)).alloc (.map #[] 0)).alloc (.cells #[.map (some w4.heap.size), .map (some (w4.heap.size + 1))] stkT)) cs) := Lib.hid (by
      refine ⟨[], ⟨rfl, fun k f g h => by simp at h⟩, ((MapK.made w4 _ _ _).more hbb).more hbx, ?_, ?_, ?_, fun f hf => by simp at hf, ?_⟩
      · have h1 : ((w4.alloc (.map #[] 0)).alloc (.map #[] 0)).heap[w4.heap.size + 1]? = some (.map #[] 0) := by
          have := (MapKept.heap_alloc (w4.alloc (.map #[] 0)) (.map #[] 0)).1
          rwa [World.size_alloc] at this
        exact (hbx.block _ (Array.getElem?_eq_some_iff.1 h1).1).trans h1
      · have := (cells_new ((w4.alloc (.map #[] 0)).alloc (.map #[] 0)) #[.map (some w4.heap.size), .map (some (w4.heap.size + 1))] stkT 0).trans (show _ = some (Value.map (some w4.heap.size)) from rfl)
        rwa [hn4] at this
      · have := (cells_new ((w4.alloc (.map #[] 0)).alloc (.map #[] 0)) #[.map (some w4.heap.size), .map (some (w4.heap.size + 1))] stkT 1).trans (show _ = some (Value.map (some (w4.heap.size + 1))) from rfl)
        rwa [hn4] at this
      · exact hb4.trans ((hba.trans ((hbb.trans (hbx.mono hbb.size)).mono hba.size)).mono hb4.size))
    have HMC : Hid (w.heap.size ≤ w4.heap.size) := Lib.hid hb4.size
    clear hn4 hbx hba hbb hmm hb4 hmh
    generalize w4.heap.size = mc at *
    go_wp2
    go_loopw [22] (fun vi wr => ∃ k : Nat, k ≤ n ∧ vi = .int .i64 k ∧ Hid (∃ cs, NewS w l mc (mc + 1) (mc + 1 + 1) k wr cs)) (fun vi _ => n - (intOf vi).toNat)
    case atStart => exact ⟨0, Nat.zero_le _, rfl, HST⟩
    case round =>
      obtain ⟨k, hk, rfl, HH⟩ := hrel
      by_cases hlt : k < n
      · obtain ⟨cs, hN⟩ := HH.out
        obtain ⟨x, hx⟩ : ∃ x, l[k]? = some x := ⟨_, List.getElem?_eq_getElem (by have := HN.out; omega)⟩
        have hv' := (HV.out.more hN.bel)
        obtain ⟨b0, o0, eA, _, hcc⟩ := row_get hv'.1 hx
        have z0 := hcc 0 _ rfl
        have z1 := hcc 1 _ rfl
        rw [Nat.add_zero] at z0
        rw [eA]
        have hk8 : k < 8 := by have := HN.out; have := HS.out.1; omega
        have i1 : (0 : Int) ≤ (k : Int) := by omega
        have i2 : (k : Int) < (n : Int) := by omega
        have i3 : (k : Int) ≤ (n : Int) := by omega
        have i4 : (n : Int) ≤ (c : Int) := by omega
        have i5 : (k : Int) ≤ (c : Int) := by omega
        have i6 : ¬ c = k := by omega
        have hbA := bel_alloc wr (.cells #[.string x.equip, .slice x.A x.l.length x.c] cfT)
        have x0 := (cells_new wr #[.string x.equip, .slice x.A x.l.length x.c] cfT 0).trans (show _ = some (Value.string x.equip) from rfl)
        have x1 := (cells_new wr #[.string x.equip, .slice x.A x.l.length x.c] cfT 1).trans (show _ = some (Value.slice x.A x.l.length x.c) from rfl)
        have y0 := bel_cell hbA hN.c0
        obtain ⟨es8, cl8, hm8, _⟩ := id (hN.cfg.more hbA)
        have KF : Hid (∀ (W : World) (c' : Nat), Below wr.heap.size wr W → Calls Tryz.prog 42 #[.slice (some ⟨b0, o0 + k * 2, none⟩) (n - k) c', .string x.equip] W fun e w' => ∃ f, e = .returned (.tuple #[.agg #[.string f.equip, .slice f.A f.l.length f.c], .bool true]) ∧ CfAt w' f ∧ SamC f x ∧ Below W.heap.size W w') := Lib.hid (fun W c' hW => by
          have hvW := hv'.more hW
          have hl : (l.drop k).length = n - k := by rw [List.length_drop, HN.out]
          have h1 := find_any (some ⟨b0, o0 + k * 2, none⟩) c' (l.drop k) x.equip W ⟨by
            have := hvW.1
            rw [eA] at this
            exact this.drop k c', fun f hf => hvW.2 f (List.mem_of_mem_drop hf)⟩ (by rw [hl]; have := HS.out.1; have := HN.out; omega) (fun f hf => HOK.out f (List.mem_of_mem_drop hf))
          rw [hl] at h1
          have hq : findQ (l.drop k) x.equip = some x := by
            obtain ⟨hkl, rfl⟩ := List.getElem?_eq_some_iff.1 hx
            rw [List.drop_eq_getElem_cons hkl]
            unfold findQ
            rw [List.find?_cons, eqS_self]
          refine h1.mono ?_
          rintro e w' ⟨⟨f, rfl, h2, h3⟩, hb⟩
          rw [hq] at h3 ⊢
          exact ⟨f, rfl, h2, h3, hb⟩)
        have HPUT : Hid (∀ (W : World) (f : Cf), Below (wr.alloc (.cells #[.string x.equip, .slice x.A x.l.length x.c] cfT)).heap.size (wr.alloc (.cells #[.string x.equip, .slice x.A x.l.length x.c] cfT)) W → CfAt W f → SamC f x → ∃ w9, (Instr.mapUpdate cfmT (.map (some mc)) (.string x.equip) (.agg #[.string f.equip, .slice f.A f.l.length f.c])).run Tryz.prog W = .ok () w9 ∧ (∃ cs, NewS w l mc (mc + 1) (mc + 1 + 1) (k + 1) w9 cs) ∧ But W w9 (fun k => k = mc)) := Lib.hid (fun W f hW hcf hsm => by
          have hWr := hbA.trans (hW.mono hbA.size)
          have hmem := List.mem_of_getElem? hx
          obtain ⟨w9, hrun, hst, hg⟩ := (hN.cfg.more hWr).store (val := aggCf f) strK (fun c c' h => str_inj c c' h) Tryz.underlying68 (by unfold maxLen; omega) (str_key x.equip (HOK.out x hmem).equip)
          exact ⟨w9, hrun, ⟨_, hN.step (by omega) HMC.out hWr hx hsm hcf (HEQ.out k x hx) hst hg⟩, ⟨hg.os, hg.tape, hg.output, hg.size, fun j hj hn => hg.block j hj (fun e => hn (Option.some.inj e))⟩⟩)
        have HBA : Hid (Below wr.heap.size wr (wr.alloc (.cells #[.string x.equip, .slice x.A x.l.length x.c] cfT))) := Lib.hid hbA
        clear hcc hx hN hv' HH hbA
        go_upto_region 8 with fail
        clear z0 z1
        generalize wr.alloc (.cells #[.string x.equip, .slice x.A x.l.length x.c] cfT) = w8 at *
        have hDr : Below w8.heap.size w8 w8.drew := (Below.refl _ w8).drew
        have f0 : ∀ W, But w8 W (fun k => k = mc) → W.cell? ⟨mc + 1 + 1, 0, none⟩ = some (.map (some mc)) := fun W h => but_cell h y0 (fun e => nomap_cell y0 hm8 e)
        have f1 : ∀ W, But w8 W (fun k => k = mc) → W.cell? ⟨wr.heap.size, 0, none⟩ = some (.string x.equip) := fun W h => but_cell h x0 (fun e => nomap_cell x0 hm8 e)
        have f2 : ∀ W, But w8 W (fun k => k = mc) → W.cell? ⟨wr.heap.size, 1, none⟩ = some (.slice x.A x.l.length x.c) := fun W h => but_cell h x1 (fun e => nomap_cell x1 hm8 e)
        have hS : (fun W => But w8 W (fun k => k = mc)) _ := But.of_below (Below.refl _ _).drew
        refine wp_region_held_drew (S := fun W => But w8 W (fun k => k = mc)) (by kernel_rfl) hS (fun _ => ?_)
        refine wpAnyH_take (i := 0) (v := ?vE0) rfl (by kernel_rfl) (by kernel_rfl) (by kernel_rfl) (fun _ _ _ h => h) (Or.inl ⟨by rfl, ?hyE0⟩) hS ?restE0
        case hyE0 =>
          intro w hSw
          first | (go_simp; done) | (go_simp; with_reducible rfl)
        try simp only [Act.put, List.setIfInBounds_toArray, List.set_cons_zero, List.set_cons_succ]
        refine wpAnyH_take (i := 1) (v := ?vE1) rfl (by kernel_rfl) (by kernel_rfl) (by kernel_rfl) (fun _ _ _ h => h) (Or.inl ⟨by rfl, ?hyE1⟩) hS ?restE1
        case hyE1 =>
          intro w hSw
          first | (go_simp; done) | (go_simp; with_reducible rfl)
        try simp only [Act.put, List.setIfInBounds_toArray, List.set_cons_zero, List.set_cons_succ]
        refine wpAnyH_take (i := 2) (v := ?vE2) rfl (by kernel_rfl) (by kernel_rfl) (by kernel_rfl) (fun _ _ _ h => h) (Or.inl ⟨by rfl, ?hyE2⟩) hS ?restE2
        case hyE2 =>
          intro w hSw
          first | (go_simp; done) | (go_simp; with_reducible rfl)
        try simp only [Act.put, List.setIfInBounds_toArray, List.set_cons_zero, List.set_cons_succ]
        refine wpAnyH_take (i := 3) (v := ?vE3) rfl (by kernel_rfl) (by kernel_rfl) (by kernel_rfl) (fun _ _ _ h => h) (Or.inl ⟨by rfl, ?hyE3⟩) hS ?restE3
        case hyE3 =>
          intro w hSw
          have k0 := f0 w hSw; have k1 := f1 w hSw; have k2 := f2 w hSw
          first | (go_simp; done) | (go_simp; with_reducible rfl)
        try simp only [Act.put, List.setIfInBounds_toArray, List.set_cons_zero, List.set_cons_succ]
        refine wpAnyH_take (i := 4) (v := ?vE4) rfl (by kernel_rfl) (by kernel_rfl) (by kernel_rfl) (fun _ _ _ h => h) (Or.inl ⟨by rfl, ?hyE4⟩) hS ?restE4
        case hyE4 =>
          intro w hSw
          first | (go_simp; done) | (go_simp; with_reducible rfl)
        try simp only [Act.put, List.setIfInBounds_toArray, List.set_cons_zero, List.set_cons_succ]
        refine wpAnyH_take (i := 5) (v := ?vE5) rfl (by kernel_rfl) (by kernel_rfl) (by kernel_rfl) (fun _ _ _ h => h) (Or.inl ⟨by rfl, ?hyE5⟩) hS ?restE5
        case hyE5 =>
          intro w hSw
          have k0 := f0 w hSw; have k1 := f1 w hSw; have k2 := f2 w hSw
          first | (go_simp; done) | (go_simp; with_reducible rfl)
        try simp only [Act.put, List.setIfInBounds_toArray, List.set_cons_zero, List.set_cons_succ]
        refine wpAnyH_take (i := 6) (v := ?vE6) rfl (by kernel_rfl) (by kernel_rfl) (by kernel_rfl) (fun _ _ _ h => h) (Or.inl ⟨by rfl, ?hyE6⟩) hS ?restE6
        case hyE6 =>
          intro w hSw
          first | (go_simp; done) | (go_simp; with_reducible rfl)
        try simp only [Act.put, List.setIfInBounds_toArray, List.set_cons_zero, List.set_cons_succ]
        refine wpAnyH_take (i := 7) (v := ?vE7) rfl (by kernel_rfl) (by kernel_rfl) (by kernel_rfl) (fun _ _ _ h => h) (Or.inl ⟨by rfl, ?hyE7⟩) hS ?restE7
        case hyE7 =>
          intro w hSw
          first | (go_simp; done) | (go_simp; with_reducible rfl)
        try simp only [Act.put, List.setIfInBounds_toArray, List.set_cons_zero, List.set_cons_succ]
        refine wpAnyH_take (i := 8) (v := ?vE8) rfl (by kernel_rfl) (by kernel_rfl) (by kernel_rfl) (fun _ _ _ h => h) (Or.inl ⟨by rfl, ?hyE8⟩) hS ?restE8
        case hyE8 =>
          intro w hSw
          first | (go_simp; done) | (go_simp; with_reducible rfl)
        try simp only [Act.put, List.setIfInBounds_toArray, List.set_cons_zero, List.set_cons_succ]
        refine wpAnyH_take (i := 9) (v := ?vE9) rfl (by kernel_rfl) (by kernel_rfl) (by kernel_rfl) (fun _ _ _ h => h) (Or.inl ⟨by rfl, ?hyE9⟩) hS ?restE9
        case hyE9 =>
          intro w hSw
          first | (go_simp; done) | (go_simp; with_reducible rfl)
        try simp only [Act.put, List.setIfInBounds_toArray, List.set_cons_zero, List.set_cons_succ]
        refine wpAnyH_take (i := 10) (v := ?vE10) rfl (by kernel_rfl) (by kernel_rfl) (by kernel_rfl) (fun _ _ _ h => h) (Or.inl ⟨by rfl, ?hyE10⟩) hS ?restE10
        case hyE10 =>
          intro w hSw
          have k0 := f0 w hSw; have k1 := f1 w hSw; have k2 := f2 w hSw
          first | (go_simp; done) | (go_simp; with_reducible rfl)
        try simp only [Act.put, List.setIfInBounds_toArray, List.set_cons_zero, List.set_cons_succ]
        refine wpAnyH_ready (rs := [11]) (by kernel_rfl) (by simp) ?_
        refine AllReadyH.cons rfl (fun K hK => ?_) AllReadyH.nil
        go_simp
        go_wp2_with (go_at_call 42; refine (KF.out _ _ (HBA.out.trans (hDr.mono HBA.out.size))).mono ?_; rintro e w7 ⟨f, rfl, hcf, hsm, hb7⟩)
        have hS7 := hS.trans (But.of_below (X := fun k => k = mc) hb7) (fun _ _ h => h)
        have hS := hS7
        obtain ⟨w9, hrun, hN9, hb9⟩ := HPUT.out w7 f (hDr.trans (Below.mono hb7 hDr.size)) hcf hsm
        refine hK.out _ _ hS (fun _ => ?_)
        clear hK K
        refine wpAnyH_take (i := 12) (v := ?vE12) rfl (by kernel_rfl) (by kernel_rfl) (by kernel_rfl) (fun _ _ _ h => h) (Or.inl ⟨by rfl, ?hyE12⟩) hS ?restE12
        case hyE12 =>
          intro w hSw
          first | (go_simp; done) | (go_simp; with_reducible rfl)
        try simp only [Act.put, List.setIfInBounds_toArray, List.set_cons_zero, List.set_cons_succ]
        refine wpAnyH_take (i := 13) (v := ?vE13) rfl (by kernel_rfl) (by kernel_rfl) (by kernel_rfl) (fun _ _ _ h => h) (Or.inl ⟨by rfl, ?hyE13⟩) hS ?restE13
        case hyE13 =>
          intro w hSw
          first | (go_simp; done) | (go_simp; with_reducible rfl)
        try simp only [Act.put, List.setIfInBounds_toArray, List.set_cons_zero, List.set_cons_succ]
        refine wpAnyH_take (i := 14) (v := ?vE14) rfl (by kernel_rfl) (by kernel_rfl) (by kernel_rfl) (fun _ _ _ h => h) (Or.inl ⟨by rfl, ?hyE14⟩) hS ?restE14
        case hyE14 =>
          intro w hSw
          first | (go_simp; done) | (go_simp; with_reducible rfl)
        try simp only [Act.put, List.setIfInBounds_toArray, List.set_cons_zero, List.set_cons_succ]
        refine wpAnyH_ready (rs := [15]) (by kernel_rfl) (by simp) ?_
        refine AllReadyH.cons rfl (fun K hK => ?_) AllReadyH.nil
        go_simp
        have hS := hS7.trans hb9 (fun _ _ h => h)
        refine hK.out _ _ hS (fun _ => ?_)
        clear hK K
        refine wpAnyH_done (by kernel_rfl) ?_ _
        try simp only [List.getElem_toArray, List.getElem_cons_succ, List.getElem_cons_zero, List.set_cons_zero, List.set_cons_succ]
        have HZ := Lib.hid hN9
        clear hS hS7 hb9 hN9
        go_wp2
        go_roundw
        case rel => exact ⟨k + 1, by omega, by go_num, HZ⟩
        case measure => simp [intOf]; omega
      · obtain rfl : k = n := by omega
        go_wp2
        refine bodyPost_ret (results_tmp2 rfl _ _ _) rfl ?_
        obtain ⟨cs, hN⟩ := HH.out
        have hsam : SamL cs l := by
          have := hN.sam
          rw [HN.out, List.take_length] at this
          exact this
        refine ⟨⟨fun h => absurd rfl h, fun _ => ⟨mc + 1 + 1, cs, _, _, rfl, StkAt.made hN.c0 hN.c1 hN.cfg (by have := HN.out; have := HS.out.1; omega) hN.leg (by omega) (fun f hf => ⟨hN.at' f hf, ?_⟩), hsam, fun j hj => ?_⟩⟩, hN.bel⟩
        · obtain ⟨g, hg, h1⟩ := hsam.mem hf
          exact (HGD.out g hg).sam h1
        · by_cases e : j = mc + 1
          · have := HMC.out; omega
          · rw [if_neg e] at hj; exact absurd rfl hj
  · have HL : Hid (0 < (conF l l.length).length) := Lib.hid (by
      cases e : conF l l.length with
      | nil => exact absurd e h0
      | cons x r => simp)
    have HH0 := Lib.hid h0
    have HLE : Hid ((conF l l.length).length ≤ 755 * l.length) := Lib.hid (conF_le l hok l.length)
    clear hv hs hok h0
    generalize conF l l.length = L at *
    go_enter Tryz.func12, Tryz.ntmps12
    go_upto_region 2 with (go_at_call 41; refine K1.out.mono ?_; rintro e w4 ⟨v, rfl, hO, hb4⟩)
    obtain ⟨A4, c4, rfl, hr⟩ := id (hO.rowL rtF.len)
    have HO := Lib.hid (hO.rowL rtF.len)
    have i1 : (0 : Int) < (L.length : Int) := by have := HL.out; omega
    clear hO hr
    go_wp2
    refine bodyPost_ret (results_tmp2 rfl _ _ _) rfl ?_
    exact ⟨⟨fun _ => ⟨_, rfl, HO.out⟩, fun h => absurd h HH0.out⟩, hb4⟩
end Go.Proofs.YtkghpapbifijcaaGreatDoor
