/- Walk of the reference's Check of places. -/
import Derived.Test.YtkcdifanhdakhaaDoorPlaQB
import Derived.Test.YtkcdifanhdakhaaDoorRDec
import Derived.Test.YtkcdifanhdakhaaDoorPlaL
import Derived.Deep.LoopGhost
namespace Go.Proofs.YtkcdifanhdakhaaDoor
open Go.RowKit Go.Shelf
set_option linter.unusedSimpArgs false
set_option linter.unusedVariables false

theorem rdec_small (k : Nat) (h : k < 100) (w : World) : Calls Tryd.prog 24 #[.int .i64 (k : Int)] w fun e w' => e = .returned (.string (decA k)) ∧ Below w.heap.size w w' :=
  (rdecimal_any (k : Int) w (by omega) (by omega)).mono (by rintro e w' ⟨rfl, n, rfl⟩; exact ⟨rfl, below_drewN (Below.refl _ _) n⟩)
def tag (s : ByteArray) (es : List Int) : List Flt := es.map fun e => (e, s)
theorem tag_succ (s : ByteArray) (es : List Int) (k : Nat) (h : k < es.length) : tag s (es.take (k + 1)) = tag s (es.take k) ++ [(es[k], s)] := by
  unfold tag
  rw [← List.take_append_getElem h, List.map_append]
  rfl
theorem okE_le (es : List Int) : (okE es).length ≤ es.length := List.length_filter_le _ _
theorem airE_len (l : List Air) (a : Air) : (airE l a).length = 4 := rfl
theorem dstE_len (l : List Air) (L : List Dst) (d : Dst) : (dstE l L d).length = 3 := rfl

set_option maxRecDepth 100000 in
set_option maxHeartbeats 16000000 in
theorem rcheck6_any (p : PV) (w : World) (hp : OkP p) (hL : PlL w p) :
    Calls Tryd.prog 10 #[encP p] w fun e w' => ∃ v', e = .returned v' ∧ FOwn w.heap.size w' v' (chkP p) ∧ Below w.heap.size w w' := by
  have hb0 := bel_alloc w (.cells #[.slice p.A p.l.length p.ca, .slice p.D p.ds.length p.cd] placesT)
  have q0 := (cells_new w #[.slice p.A p.l.length p.ca, .slice p.D p.ds.length p.cd] placesT 0).trans (show _ = some _ from rfl)
  have q1 := (cells_new w #[.slice p.A p.l.length p.ca, .slice p.D p.ds.length p.cd] placesT 1).trans (show _ = some _ from rfl)
  have hL5 := hL.more hb0
  go_enter Tryd.func10, Tryd.ntmps10
  go_wp2
  generalize hw5 : w.alloc (.cells #[.slice p.A p.l.length p.ca, .slice p.D p.ds.length p.cd] placesT) = w5 at *
  clear hw5
  have y0 := bel_get q0
  have y1 := bel_get q1
  have KA : Hid (∀ (i : Nat) (a : Air) W, SW w5 W → p.l[i]? = some a → Calls Tryd.prog 23 #[.agg #[.slice p.A p.l.length p.ca, .slice p.D p.ds.length p.cd], .int .i64 (i : Int)] W fun e w' => ∃ v', e = .returned v' ∧ EOwn W.heap.size w' v' (okE (airE (p.l.take i) a)) ∧ Below W.heap.size W w') := Lib.hid (fun i a W hW hi => rairport_any p i a W hp (hL5.more hW) hi)
  have KD : Hid (∀ (i : Nat) (d : Dst) W, SW w5 W → p.ds[i]? = some d → Calls Tryd.prog 25 #[.agg #[.slice p.A p.l.length p.ca, .slice p.D p.ds.length p.cd], .int .i64 (i : Int)] W fun e w' => ∃ v', e = .returned v' ∧ EOwn W.heap.size w' v' (okE (dstE p.l (p.ds.take i) d)) ∧ Below W.heap.size W w') := Lib.hid (fun i d W hW hi => rdistance_any p i d W hp (hL5.more hW) hi)
  have hla := hp.la
  have hld := hp.ld
  have HC : Hid (chkP p = airF p.l p.l.length ++ dstF p.l p.ds p.ds.length) := Lib.hid rfl
  have HN : Hid (FOwn w5.heap.size w5 (.slice none 0 0) (airF p.l 0)) := Lib.hid (ROwn.nil (Nat.le_refl _))
  clear hL hL5 hp
  go_loopg [3, 4] p.l.length (fun kx v3 vi wr => ∃ (v : Value) (i : Nat), v = v3 ∧ vi = .int .i64 i ∧ i + kx = p.l.length ∧ Hid (FOwn w5.heap.size wr v (airF p.l i) ∧ SW w5 wr))
  case atStart => exact ⟨_, 0, rfl, rfl, by omega, Lib.hid ⟨HN.out, Below.refl _ _⟩⟩
  case round =>
    obtain ⟨v, i, rfl, rfl, hik, HH⟩ := hrel
    have HIK := Lib.hid hik
    have hSr : SW w5 wr := HH.out.2
    have z0 := y0 _ hSr
    have z1 := y1 _ hSr
    by_cases hlt : i < p.l.length
    · clear hik
      obtain ⟨a, hia⟩ : ∃ a, p.l[i]? = some a := ⟨_, List.getElem?_eq_getElem hlt⟩
      have i2 : (i : Int) < (p.l.length : Int) := by omega
      have KAi := Lib.hid (KA.out i a wr hSr hia)
      have HS := Lib.hid (airF_succ p.l i a hia)
      have HFL : Hid ((airF p.l i).length ≤ 1000) := Lib.hid (by have := airF_le p.l i; omega)
      have HEL : Hid ((okE (airE (p.l.take i) a)).length ≤ 4) := Lib.hid (Nat.le_trans (okE_le _) (by rw [airE_len]; omega))
      have hpk : pick (airW ++ decA i) (airE (p.l.take i) a) = tag (airW ++ decA i) (okE (airE (p.l.take i) a)) := rfl
      rw [hpk] at HS
      clear hia hpk
      generalize okE (airE (p.l.take i) a) = es at *
      go_wp2_with (go_at_call 23; refine KAi.out.mono ?_; rintro e w1 ⟨u, rfl, hU, hb1⟩; refine Hid.out ?_)
      have hO1 := HH.out.1.more hb1
      have hS1 : SW w5 w1 := Below.trans hSr (Below.mono hb1 hSr.size)
      have hUL : RowL 1 encE w1 u es := ROwn.rowL hU rtE.len
      have HUB : Hid (∀ k, u.ownBlock = some k → v.ownBlock ≠ some k) := Lib.hid (fun k hk hv => by have h1 := (hU.low hk).1; have h2 := (HH.out.1.low hv).2; omega)
      obtain ⟨AU, cu, rfl, hcu⟩ := hUL
      have HU : Hid (∀ k (hk : k < es.length), ∃ b o, AU = some ⟨b, o, none⟩ ∧ v.ownBlock ≠ some b ∧ w1.cell? ⟨b, o + k, none⟩ = some (.int .i64 es[k])) := Lib.hid (fun k hk => by
        rcases hcu with h | ⟨b, o, h1, h2, h3⟩
        · rw [h] at hk; simp at hk
        · subst h1
          have h4 := h3 k _ 0 _ (List.getElem?_eq_getElem hk) rfl
          rw [Nat.mul_one, Nat.add_zero] at h4
          exact ⟨b, o, rfl, HUB.out b rfl, h4⟩)
      have HJ0 : Hid (FOwn w5.heap.size w1 v (airF p.l i ++ tag (airW ++ decA i) (es.take 0)) ∧ Chg w1 w1 v v ∧ SW w5 w1) := Lib.hid ⟨by simpa [tag] using hO1, Chg.refl _ _, hS1⟩
      have KDc := Lib.hid (rdec_small i (by omega))
      clear hcu HUB hU hb1 hO1 hS1 KAi HH z0 z1
      refine Lib.hid ?_
      go_wp2
      go_loopg [3, 6] es.length (fun kq v3 vk wi => ∃ (v2 : Value) (k : Nat), v2 = v3 ∧ vk = .int .i64 k ∧ k + kq = es.length ∧ Hid (FOwn w5.heap.size wi v2 (airF p.l i ++ tag (airW ++ decA i) (es.take k)) ∧ Chg w1 wi v v2 ∧ SW w5 wi))
      case atStart => exact ⟨_, 0, rfl, rfl, by omega, HJ0⟩
      case round =>
        obtain ⟨v2, k, rfl, rfl, hkq, HJ⟩ := hrel
        clear HJ0
        have HKQ := Lib.hid hkq
        have hel4 : es.length ≤ 4 := HEL.out
        by_cases hlt2 : k < es.length
        · clear hkq
          obtain ⟨b, o, rfl, hvb, hcell⟩ := HU.out k hlt2
          have i3 : (k : Int) < (es.length : Int) := by omega
          have hc2 := HJ.out.2.1.cell hcell hvb
          have hv2b : v2.ownBlock ≠ some b := fun h => by
            rcases HJ.out.2.1.own b h with h1 | h1
            · exact hvb h1
            · have := World.block_lt_of_cell? _ _ hcell; simp at this; omega
          have HT := Lib.hid (tag_succ (airW ++ decA i) es k hlt2)
          have HLn : Hid ((airF p.l i ++ tag (airW ++ decA i) (es.take k)).length ≤ 100000000) := Lib.hid (by
            have h1 := HFL.out
            have h2 := HEL.out
            have h3 : (tag (airW ++ decA i) (es.take k)).length = (es.take k).length := List.length_map _
            have h4 := List.length_take_le k es
            rw [List.length_append]
            omega)
          have hadd : ∀ W : World, (Op.stringOp .add ⟨#[97, 105, 114, 112, 111, 114, 116, 32]⟩ (decA i)).run Tryd.prog W = .ok (.string (airW ++ decA i)) W := fun W => run_string_add_sum W _ _ (by have := decA_size i (by omega); have e : (⟨#[97, 105, 114, 112, 111, 114, 116, 32]⟩ : ByteArray).size = 8 := rfl; omega)
          have hO := HJ.out.1.more ((Below.refl _ wr).drew)
          generalize es[k] = x at *
          clear hcell
          have f0 : ∀ W, SX wr v2 W → W.cell? ⟨b, o + k, none⟩ = some (.int .i64 x) := fun W h => SX.cell hc2 hv2b h
          go_wp2
          have hS : (SX wr v2) _ := But.of_below (Below.refl _ _).drew
          refine wp_region_held_drew (S := SX wr v2) (by kernel_rfl) hS (fun _ => ?_)
          refine wpAnyH_take (i := 0) (v := ?vRA0) rfl (by kernel_rfl) (by kernel_rfl) (by kernel_rfl) (fun _ _ _ h => h) (Or.inl ⟨by rfl, ?hyRA0⟩) hS ?restRA0
          case hyRA0 =>
            intro w hSw
            first | (go_simp; done) | (go_simp; with_reducible rfl)
          try simp only [Act.put, List.setIfInBounds_toArray, List.set_cons_zero, List.set_cons_succ]
          refine wpAnyH_take (i := 1) (v := ?vRA1) rfl (by kernel_rfl) (by kernel_rfl) (by kernel_rfl) (fun _ _ _ h => h) (Or.inl ⟨by rfl, ?hyRA1⟩) hS ?restRA1
          case hyRA1 =>
            intro w hSw
            first | (go_simp; done) | (go_simp; with_reducible rfl)
          try simp only [Act.put, List.setIfInBounds_toArray, List.set_cons_zero, List.set_cons_succ]
          refine wpAnyH_take (i := 2) (v := ?vRA2) rfl (by kernel_rfl) (by kernel_rfl) (by kernel_rfl) (fun _ _ _ h => h) (Or.inl ⟨by rfl, ?hyRA2⟩) hS ?restRA2
          case hyRA2 =>
            intro w hSw
            first | (go_simp; done) | (go_simp; with_reducible rfl)
          try simp only [Act.put, List.setIfInBounds_toArray, List.set_cons_zero, List.set_cons_succ]
          refine wpAnyH_take (i := 3) (v := ?vRA3) rfl (by kernel_rfl) (by kernel_rfl) (by kernel_rfl) (fun _ _ _ h => h) (Or.inl ⟨by rfl, ?hyRA3⟩) hS ?restRA3
          case hyRA3 =>
            intro w hSw
            have k0 := f0 w hSw
            first | (go_simp; done) | (go_simp; with_reducible rfl)
          try simp only [Act.put, List.setIfInBounds_toArray, List.set_cons_zero, List.set_cons_succ]
          refine wpAnyH_take (i := 4) (v := ?vRA4) rfl (by kernel_rfl) (by kernel_rfl) (by kernel_rfl) (fun _ _ _ h => h) (Or.inl ⟨by rfl, ?hyRA4⟩) hS ?restRA4
          case hyRA4 =>
            intro w hSw
            have k0 := f0 w hSw
            first | (go_simp; done) | (go_simp; with_reducible rfl)
          try simp only [Act.put, List.setIfInBounds_toArray, List.set_cons_zero, List.set_cons_succ]
          refine wpAnyH_take (i := 5) (v := ?vRA5) rfl (by kernel_rfl) (by kernel_rfl) (by kernel_rfl) (fun _ _ _ h => h) (Or.inl ⟨by rfl, ?hyRA5⟩) hS ?restRA5
          case hyRA5 =>
            intro w hSw
            first | (go_simp; done) | (go_simp; with_reducible rfl)
          try simp only [Act.put, List.setIfInBounds_toArray, List.set_cons_zero, List.set_cons_succ]
          refine wpAnyH_ready (rs := [6]) (by kernel_rfl) (by simp) ?_
          refine AllReadyH.cons rfl (fun K hK => ?_) AllReadyH.nil
          go_simp
          go_wp2_with ((go_at_call 24; refine (KDc.out _).mono ?_; rintro e w' ⟨rfl, hb'⟩; have hO := hO.more hb'; have hS := hS.on hb'))
          refine hK.out _ _ hS (fun _ => ?_)
          clear hK K
          refine wpAnyH_take (i := 7) (v := ?vRA7) rfl (by kernel_rfl) (by kernel_rfl) (by kernel_rfl) (fun _ _ _ h => h) (Or.inl ⟨by rfl, ?hyRA7⟩) hS ?restRA7
          case hyRA7 =>
            intro w hSw
            have kadd := hadd w
            first | (go_simp; done) | (go_simp; with_reducible rfl)
          try simp only [Act.put, List.setIfInBounds_toArray, List.set_cons_zero, List.set_cons_succ]
          refine wpAnyH_take (i := 8) (v := ?vRA8) rfl (by kernel_rfl) (by kernel_rfl) (by kernel_rfl) (fun _ _ _ h => h) (Or.inl ⟨by rfl, ?hyRA8⟩) hS ?restRA8
          case hyRA8 =>
            intro w hSw
            first | (go_simp; done) | (go_simp; with_reducible rfl)
          try simp only [Act.put, List.setIfInBounds_toArray, List.set_cons_zero, List.set_cons_succ]
          refine wpAnyH_ready (rs := [9]) (by kernel_rfl) (by simp) ?_
          refine AllReadyH.cons rfl (fun K hK => ?_) AllReadyH.nil
          go_simp
          have hSp := hS
          have hS := hS.on (bel_alloc _ (.cells #[.int .i64 x, .string (airW ++ decA i)] fltT))
          refine hK.out _ _ hS (fun _ => ?_)
          clear hK K
          refine wpAnyH_ready (rs := [10]) (by kernel_rfl) (by simp) ?_
          refine AllReadyH.cons rfl (fun K hK => ?_) AllReadyH.nil
          refine step_rapp rtF rfl _ _ rfl hO rfl (bel_alloc _ _) _ (x, airW ++ decA i) _ rfl (cs := #[.int .i64 x, .string (airW ++ decA i)]) rfl (heap_alloc_new _ _) HLn.out ?_
          intro v8 w8 hO8 hC8
          go_simp
          have hS := hSp.trans hC8.but (fun _ _ h => h)
          refine hK.out _ _ hS (fun _ => ?_)
          clear hK K
          refine wpAnyH_take (i := 11) (v := ?vRA11) rfl (by kernel_rfl) (by kernel_rfl) (by kernel_rfl) (fun _ _ _ h => h) (Or.inl ⟨by rfl, ?hyRA11⟩) hS ?restRA11
          case hyRA11 =>
            intro w hSw
            first | (go_simp; done) | (go_simp; with_reducible rfl)
          try simp only [Act.put, List.setIfInBounds_toArray, List.set_cons_zero, List.set_cons_succ]
          refine wpAnyH_done (by kernel_rfl) ?_ _
          simp only [List.getElem_toArray, List.getElem_cons_succ, List.getElem_cons_zero, List.set_cons_zero, List.set_cons_succ]
          have HX : Hid (FOwn w5.heap.size w8 v8 (airF p.l i ++ tag (airW ++ decA i) (es.take (k + 1))) ∧ Chg w1 w8 v v8 ∧ SW w5 w8) := Lib.hid ⟨by rw [HT.out, ← List.append_assoc]; exact hO8, HJ.out.2.1.trans ⟨hS, fun g hg => by
              rcases hC8.own g hg with h1 | h1
              · exact .inl h1
              · exact .inr (Nat.le_trans hSp.size h1)⟩, Below.trans HJ.out.2.2 (hS.below HJ.out.1.base (fun k hk hv => by have := (HJ.out.1.low hv).1; omega))⟩
          clear hO8 hC8 hS hSp hO
          go_wp2
          go_roundg (es.length - (k + 1))
          case measure => have := HKQ.out; omega
          case rel => exact ⟨_, k + 1, rfl, by go_num, by omega, HX⟩
        · have HX : Hid (FOwn w5.heap.size wr v2 (airF p.l (i + 1)) ∧ SW w5 wr) := Lib.hid ⟨by
              rw [HS.out]
              have := HJ.out.1
              rwa [List.take_of_length_le (by omega)] at this, HJ.out.2.2⟩
          clear HJ hkq
          go_wp2
          go_roundg (p.l.length - (i + 1))
          case measure => have := HIK.out; omega
          case rel => exact ⟨_, i + 1, rfl, by go_num, by omega, HX⟩
    · have HN2 : Hid (FOwn w5.heap.size wr v (airF p.l p.l.length ++ dstF p.l p.ds 0) ∧ SW w5 wr) := Lib.hid ⟨by
          rw [dstF_zero, List.append_nil, ← show i = p.l.length by omega]
          exact HH.out.1, hSr⟩
      clear hik HH
      go_wp2
      go_loopg [3, 7] p.ds.length (fun kx v3 vi wr => ∃ (v : Value) (i : Nat), v = v3 ∧ vi = .int .i64 i ∧ i + kx = p.ds.length ∧ Hid (FOwn w5.heap.size wr v (airF p.l p.l.length ++ dstF p.l p.ds i) ∧ SW w5 wr))
      case atStart => exact ⟨_, 0, rfl, rfl, by omega, HN2⟩
      case round =>
        obtain ⟨v, i, rfl, rfl, hik, HH⟩ := hrel
        have HIK := Lib.hid hik
        have hSr : SW w5 wr := HH.out.2
        have z0 := y0 _ hSr
        have z1 := y1 _ hSr
        by_cases hlt : i < p.ds.length
        · clear hik
          obtain ⟨a, hia⟩ : ∃ a, p.ds[i]? = some a := ⟨_, List.getElem?_eq_getElem hlt⟩
          have i2 : (i : Int) < (p.ds.length : Int) := by omega
          have KAi := Lib.hid (KD.out i a wr hSr hia)
          have HS := Lib.hid (dstF_succ p.l p.ds i a hia)
          have HFL : Hid ((airF p.l p.l.length ++ dstF p.l p.ds i).length ≤ 1000) := Lib.hid (by have := airF_le p.l p.l.length; have := dstF_le p.l p.ds i; rw [List.length_append]; omega)
          have HEL : Hid ((okE (dstE p.l (p.ds.take i) a)).length ≤ 4) := Lib.hid (Nat.le_trans (okE_le _) (by rw [dstE_len]; omega))
          have hpk : pick (dstW ++ decA i) (dstE p.l (p.ds.take i) a) = tag (dstW ++ decA i) (okE (dstE p.l (p.ds.take i) a)) := rfl
          rw [hpk] at HS
          clear hia hpk
          generalize okE (dstE p.l (p.ds.take i) a) = es at *
          go_wp2_with (go_at_call 25; refine KAi.out.mono ?_; rintro e w1 ⟨u, rfl, hU, hb1⟩; refine Hid.out ?_)
          have hO1 := HH.out.1.more hb1
          have hS1 : SW w5 w1 := Below.trans hSr (Below.mono hb1 hSr.size)
          have hUL : RowL 1 encE w1 u es := ROwn.rowL hU rtE.len
          have HUB : Hid (∀ k, u.ownBlock = some k → v.ownBlock ≠ some k) := Lib.hid (fun k hk hv => by have h1 := (hU.low hk).1; have h2 := (HH.out.1.low hv).2; omega)
          obtain ⟨AU, cu, rfl, hcu⟩ := hUL
          have HU : Hid (∀ k (hk : k < es.length), ∃ b o, AU = some ⟨b, o, none⟩ ∧ v.ownBlock ≠ some b ∧ w1.cell? ⟨b, o + k, none⟩ = some (.int .i64 es[k])) := Lib.hid (fun k hk => by
            rcases hcu with h | ⟨b, o, h1, h2, h3⟩
            · rw [h] at hk; simp at hk
            · subst h1
              have h4 := h3 k _ 0 _ (List.getElem?_eq_getElem hk) rfl
              rw [Nat.mul_one, Nat.add_zero] at h4
              exact ⟨b, o, rfl, HUB.out b rfl, h4⟩)
          have HJ0 : Hid (FOwn w5.heap.size w1 v (airF p.l p.l.length ++ dstF p.l p.ds i ++ tag (dstW ++ decA i) (es.take 0)) ∧ Chg w1 w1 v v ∧ SW w5 w1) := Lib.hid ⟨by simpa [tag] using hO1, Chg.refl _ _, hS1⟩
          have KDc := Lib.hid (rdec_small i (by omega))
          clear hcu HUB hU hb1 hO1 hS1 KAi HH z0 z1
          refine Lib.hid ?_
          go_wp2
          go_loopg [3, 9] es.length (fun kq v3 vk wi => ∃ (v2 : Value) (k : Nat), v2 = v3 ∧ vk = .int .i64 k ∧ k + kq = es.length ∧ Hid (FOwn w5.heap.size wi v2 (airF p.l p.l.length ++ dstF p.l p.ds i ++ tag (dstW ++ decA i) (es.take k)) ∧ Chg w1 wi v v2 ∧ SW w5 wi))
          case atStart => exact ⟨_, 0, rfl, rfl, by omega, HJ0⟩
          case round =>
            obtain ⟨v2, k, rfl, rfl, hkq, HJ⟩ := hrel
            clear HJ0
            have HKQ := Lib.hid hkq
            have hel4 : es.length ≤ 4 := HEL.out
            by_cases hlt2 : k < es.length
            · clear hkq
              obtain ⟨b, o, rfl, hvb, hcell⟩ := HU.out k hlt2
              have i3 : (k : Int) < (es.length : Int) := by omega
              have hc2 := HJ.out.2.1.cell hcell hvb
              have hv2b : v2.ownBlock ≠ some b := fun h => by
                rcases HJ.out.2.1.own b h with h1 | h1
                · exact hvb h1
                · have := World.block_lt_of_cell? _ _ hcell; simp at this; omega
              have HT := Lib.hid (tag_succ (dstW ++ decA i) es k hlt2)
              have HLn : Hid ((airF p.l p.l.length ++ dstF p.l p.ds i ++ tag (dstW ++ decA i) (es.take k)).length ≤ 100000000) := Lib.hid (by
                have h1 := HFL.out
                have h2 := HEL.out
                have h3 : (tag (dstW ++ decA i) (es.take k)).length = (es.take k).length := List.length_map _
                have h4 := List.length_take_le k es
                rw [List.length_append]
                omega)
              have hadd : ∀ W : World, (Op.stringOp .add ⟨#[100, 105, 115, 116, 97, 110, 99, 101, 32]⟩ (decA i)).run Tryd.prog W = .ok (.string (dstW ++ decA i)) W := fun W => run_string_add_sum W _ _ (by have := decA_size i (by omega); have e : (⟨#[100, 105, 115, 116, 97, 110, 99, 101, 32]⟩ : ByteArray).size = 9 := rfl; omega)
              have hO := HJ.out.1.more ((Below.refl _ wr).drew)
              generalize es[k] = x at *
              clear hcell
              have f0 : ∀ W, SX wr v2 W → W.cell? ⟨b, o + k, none⟩ = some (.int .i64 x) := fun W h => SX.cell hc2 hv2b h
              go_wp2
              have hS : (SX wr v2) _ := But.of_below (Below.refl _ _).drew
              refine wp_region_held_drew (S := SX wr v2) (by kernel_rfl) hS (fun _ => ?_)
              refine wpAnyH_take (i := 0) (v := ?vRB0) rfl (by kernel_rfl) (by kernel_rfl) (by kernel_rfl) (fun _ _ _ h => h) (Or.inl ⟨by rfl, ?hyRB0⟩) hS ?restRB0
              case hyRB0 =>
                intro w hSw
                first | (go_simp; done) | (go_simp; with_reducible rfl)
              try simp only [Act.put, List.setIfInBounds_toArray, List.set_cons_zero, List.set_cons_succ]
              refine wpAnyH_take (i := 1) (v := ?vRB1) rfl (by kernel_rfl) (by kernel_rfl) (by kernel_rfl) (fun _ _ _ h => h) (Or.inl ⟨by rfl, ?hyRB1⟩) hS ?restRB1
              case hyRB1 =>
                intro w hSw
                first | (go_simp; done) | (go_simp; with_reducible rfl)
              try simp only [Act.put, List.setIfInBounds_toArray, List.set_cons_zero, List.set_cons_succ]
              refine wpAnyH_take (i := 2) (v := ?vRB2) rfl (by kernel_rfl) (by kernel_rfl) (by kernel_rfl) (fun _ _ _ h => h) (Or.inl ⟨by rfl, ?hyRB2⟩) hS ?restRB2
              case hyRB2 =>
                intro w hSw
                first | (go_simp; done) | (go_simp; with_reducible rfl)
              try simp only [Act.put, List.setIfInBounds_toArray, List.set_cons_zero, List.set_cons_succ]
              refine wpAnyH_take (i := 3) (v := ?vRB3) rfl (by kernel_rfl) (by kernel_rfl) (by kernel_rfl) (fun _ _ _ h => h) (Or.inl ⟨by rfl, ?hyRB3⟩) hS ?restRB3
              case hyRB3 =>
                intro w hSw
                have k0 := f0 w hSw
                first | (go_simp; done) | (go_simp; with_reducible rfl)
              try simp only [Act.put, List.setIfInBounds_toArray, List.set_cons_zero, List.set_cons_succ]
              refine wpAnyH_take (i := 4) (v := ?vRB4) rfl (by kernel_rfl) (by kernel_rfl) (by kernel_rfl) (fun _ _ _ h => h) (Or.inl ⟨by rfl, ?hyRB4⟩) hS ?restRB4
              case hyRB4 =>
                intro w hSw
                have k0 := f0 w hSw
                first | (go_simp; done) | (go_simp; with_reducible rfl)
              try simp only [Act.put, List.setIfInBounds_toArray, List.set_cons_zero, List.set_cons_succ]
              refine wpAnyH_take (i := 5) (v := ?vRB5) rfl (by kernel_rfl) (by kernel_rfl) (by kernel_rfl) (fun _ _ _ h => h) (Or.inl ⟨by rfl, ?hyRB5⟩) hS ?restRB5
              case hyRB5 =>
                intro w hSw
                first | (go_simp; done) | (go_simp; with_reducible rfl)
              try simp only [Act.put, List.setIfInBounds_toArray, List.set_cons_zero, List.set_cons_succ]
              refine wpAnyH_ready (rs := [6]) (by kernel_rfl) (by simp) ?_
              refine AllReadyH.cons rfl (fun K hK => ?_) AllReadyH.nil
              go_simp
              go_wp2_with ((go_at_call 24; refine (KDc.out _).mono ?_; rintro e w' ⟨rfl, hb'⟩; have hO := hO.more hb'; have hS := hS.on hb'))
              refine hK.out _ _ hS (fun _ => ?_)
              clear hK K
              refine wpAnyH_take (i := 7) (v := ?vRB7) rfl (by kernel_rfl) (by kernel_rfl) (by kernel_rfl) (fun _ _ _ h => h) (Or.inl ⟨by rfl, ?hyRB7⟩) hS ?restRB7
              case hyRB7 =>
                intro w hSw
                have kadd := hadd w
                first | (go_simp; done) | (go_simp; with_reducible rfl)
              try simp only [Act.put, List.setIfInBounds_toArray, List.set_cons_zero, List.set_cons_succ]
              refine wpAnyH_take (i := 8) (v := ?vRB8) rfl (by kernel_rfl) (by kernel_rfl) (by kernel_rfl) (fun _ _ _ h => h) (Or.inl ⟨by rfl, ?hyRB8⟩) hS ?restRB8
              case hyRB8 =>
                intro w hSw
                first | (go_simp; done) | (go_simp; with_reducible rfl)
              try simp only [Act.put, List.setIfInBounds_toArray, List.set_cons_zero, List.set_cons_succ]
              refine wpAnyH_ready (rs := [9]) (by kernel_rfl) (by simp) ?_
              refine AllReadyH.cons rfl (fun K hK => ?_) AllReadyH.nil
              go_simp
              have hSp := hS
              have hS := hS.on (bel_alloc _ (.cells #[.int .i64 x, .string (dstW ++ decA i)] fltT))
              refine hK.out _ _ hS (fun _ => ?_)
              clear hK K
              refine wpAnyH_ready (rs := [10]) (by kernel_rfl) (by simp) ?_
              refine AllReadyH.cons rfl (fun K hK => ?_) AllReadyH.nil
              refine step_rapp rtF rfl _ _ rfl hO rfl (bel_alloc _ _) _ (x, dstW ++ decA i) _ rfl (cs := #[.int .i64 x, .string (dstW ++ decA i)]) rfl (heap_alloc_new _ _) HLn.out ?_
              intro v8 w8 hO8 hC8
              go_simp
              have hS := hSp.trans hC8.but (fun _ _ h => h)
              refine hK.out _ _ hS (fun _ => ?_)
              clear hK K
              refine wpAnyH_take (i := 11) (v := ?vRB11) rfl (by kernel_rfl) (by kernel_rfl) (by kernel_rfl) (fun _ _ _ h => h) (Or.inl ⟨by rfl, ?hyRB11⟩) hS ?restRB11
              case hyRB11 =>
                intro w hSw
                first | (go_simp; done) | (go_simp; with_reducible rfl)
              try simp only [Act.put, List.setIfInBounds_toArray, List.set_cons_zero, List.set_cons_succ]
              refine wpAnyH_done (by kernel_rfl) ?_ _
              simp only [List.getElem_toArray, List.getElem_cons_succ, List.getElem_cons_zero, List.set_cons_zero, List.set_cons_succ]
              have HX : Hid (FOwn w5.heap.size w8 v8 (airF p.l p.l.length ++ dstF p.l p.ds i ++ tag (dstW ++ decA i) (es.take (k + 1))) ∧ Chg w1 w8 v v8 ∧ SW w5 w8) := Lib.hid ⟨by rw [HT.out, ← List.append_assoc]; exact hO8, HJ.out.2.1.trans ⟨hS, fun g hg => by
                  rcases hC8.own g hg with h1 | h1
                  · exact .inl h1
                  · exact .inr (Nat.le_trans hSp.size h1)⟩, Below.trans HJ.out.2.2 (hS.below HJ.out.1.base (fun k hk hv => by have := (HJ.out.1.low hv).1; omega))⟩
              clear hO8 hC8 hS hSp hO
              go_wp2
              go_roundg (es.length - (k + 1))
              case measure => have := HKQ.out; omega
              case rel => exact ⟨_, k + 1, rfl, by go_num, by omega, HX⟩
            · have HX : Hid (FOwn w5.heap.size wr v2 (airF p.l p.l.length ++ dstF p.l p.ds (i + 1)) ∧ SW w5 wr) := Lib.hid ⟨by
                  rw [HS.out]
                  have := HJ.out.1
                  rwa [List.take_of_length_le (by omega), List.append_assoc] at this, HJ.out.2.2⟩
              clear HJ hkq
              go_wp2
              go_roundg (p.ds.length - (i + 1))
              case measure => have := HIK.out; omega
              case rel => exact ⟨_, i + 1, rfl, by go_num, by omega, HX⟩
        · have HR : Hid (FOwn w.heap.size wr v (chkP p) ∧ Below w.heap.size w wr) := Lib.hid ⟨⟨by
              rw [HC.out, ← show i = p.ds.length by omega]
              exact HH.out.1.own.mono hb0.size, Nat.le_trans hb0.size hSr.size⟩, hb0.trans (Below.mono hSr hb0.size)⟩
          clear hik HH
          go_wp2
          go_ret
          exact ⟨v, rfl, HR.out⟩
      

end Go.Proofs.YtkcdifanhdakhaaDoor
