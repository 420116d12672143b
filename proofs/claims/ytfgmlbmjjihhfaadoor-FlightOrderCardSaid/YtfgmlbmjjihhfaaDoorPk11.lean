/- Words and walks that the laws below ask: PlaQC, FliU. -/
import Derived.Deep.LoopGhost
import Derived.Test.YtfgmlbmjjihhfaaDoorPk4
import Derived.Test.YtfgmlbmjjihhfaaDoorPk5
import Derived.Test.YtfgmlbmjjihhfaaDoorPk9
import Derived.Test.YtfgmlbmjjihhfaaDoorPk10
/- Walk of the reference's Check of places. -/
namespace Go.Proofs.YtfgmlbmjjihhfaaDoor
open Go.RowKit Go.Shelf
set_option linter.unusedSimpArgs false
set_option linter.unusedVariables false

theorem rdec_small (k : Nat) (h : k < 100) (w : World) : Calls Tryd.prog 13 #[.int .i64 (k : Int)] w fun e w' => e = .returned (.string (decA k)) ∧ Below w.heap.size w w' :=
  (rdecimal_any (k : Int) w (by omega) (by omega)).mono (by rintro e w' ⟨rfl, n, rfl⟩; exact ⟨rfl, below_drewN (Below.refl _ _) n⟩)
def tag (s : ByteArray) (es : List Int) : List Flt := es.map fun e => (e, s)
theorem tag_succ (s : ByteArray) (es : List Int) (k : Nat) (h : k < es.length) : tag s (es.take (k + 1)) = tag s (es.take k) ++ [(es[k], s)] := by
  unfold tag
  rw [← List.take_append_getElem h, List.map_append]
  rfl
theorem okE_le (es : List Int) : (okE es).length ≤ es.length := List.length_filter_le _ _
theorem airE_len (l : List Air) (a : Air) : (airE l a).length = 4 := rfl
theorem dstE_len (l : List Air) (L : List Dst) (d : Dst) : (dstE l L d).length = 3 := rfl

set_option maxRecDepth 100000 in
set_option maxHeartbeats 16000000 in
theorem rcheck6_any (p : PV) (w : World) (hp : OkP p) (hL : PlL w p) :
    Calls Tryd.prog 6 #[encP p] w fun e w' => ∃ v', e = .returned v' ∧ FOwn w.heap.size w' v' (chkP p) ∧ Below w.heap.size w w' := by
  have hb0 := bel_alloc w (.cells #[.slice p.A p.l.length p.ca, .slice p.D p.ds.length p.cd] placesT)
  have q0 := (cells_new w #[.slice p.A p.l.length p.ca, .slice p.D p.ds.length p.cd] placesT 0).trans (show _ = some _ from rfl)
  have q1 := (cells_new w #[.slice p.A p.l.length p.ca, .slice p.D p.ds.length p.cd] placesT 1).trans (show _ = some _ from rfl)
  have hL5 := hL.more hb0
  go_enter Tryd.func6, Tryd.ntmps6
  go_wp2
  generalize hw5 : w.alloc (.cells #[.slice p.A p.l.length p.ca, .slice p.D p.ds.length p.cd] placesT) = w5 at *
  clear hw5
  have y0 := bel_get q0
  have y1 := bel_get q1
  have KA : Hid (∀ (i : Nat) (a : Air) W, SW w5 W → p.l[i]? = some a → Calls Tryd.prog 12 #[.agg #[.slice p.A p.l.length p.ca, .slice p.D p.ds.length p.cd], .int .i64 (i : Int)] W fun e w' => ∃ v', e = .returned v' ∧ EOwn W.heap.size w' v' (okE (airE (p.l.take i) a)) ∧ Below W.heap.size W w') := Lib.hid (fun i a W hW hi => rairport_any p i a W hp (hL5.more hW) hi)
  have KD : Hid (∀ (i : Nat) (d : Dst) W, SW w5 W → p.ds[i]? = some d → Calls Tryd.prog 14 #[.agg #[.slice p.A p.l.length p.ca, .slice p.D p.ds.length p.cd], .int .i64 (i : Int)] W fun e w' => ∃ v', e = .returned v' ∧ EOwn W.heap.size w' v' (okE (dstE p.l (p.ds.take i) d)) ∧ Below W.heap.size W w') := Lib.hid (fun i d W hW hi => rdistance_any p i d W hp (hL5.more hW) hi)
  have hla := hp.la
  have hld := hp.ld
  have HC : Hid (chkP p = airF p.l p.l.length ++ dstF p.l p.ds p.ds.length) := Lib.hid rfl
  have HN : Hid (FOwn w5.heap.size w5 (.slice none 0 0) (airF p.l 0)) := Lib.hid (ROwn.nil (Nat.le_refl _))
  clear hL hL5 hp
  go_loopg [3, 4] p.l.length (fun kx v3 vi wr => ∃ (v : Value) (i : Nat), v = v3 ∧ vi = .int .i64 i ∧ i + kx = p.l.length ∧ Hid (FOwn w5.heap.size wr v (airF p.l i) ∧ SW w5 wr))
  case atStart => exact ⟨_, 0, rfl, rfl, by omega, Lib.hid ⟨HN.out, Below.refl _ _⟩⟩
  case round =>
    obtain ⟨v, i, rfl, rfl, hik, HH⟩ := hrel
    have HIK := Lib.hid hik
    have hSr : SW w5 wr := HH.out.2
    have z0 := y0 _ hSr
    have z1 := y1 _ hSr
    by_cases hlt : i < p.l.length
    · clear hik
      obtain ⟨a, hia⟩ : ∃ a, p.l[i]? = some a := ⟨_, List.getElem?_eq_getElem hlt⟩
      have i2 : (i : Int) < (p.l.length : Int) := by omega
      have KAi := Lib.hid (KA.out i a wr hSr hia)
      have HS := Lib.hid (airF_succ p.l i a hia)
      have HFL : Hid ((airF p.l i).length ≤ 1000) := Lib.hid (by have := airF_le p.l i; omega)
      have HEL : Hid ((okE (airE (p.l.take i) a)).length ≤ 4) := Lib.hid (Nat.le_trans (okE_le _) (by rw [airE_len]; omega))
      have hpk : pick (airW ++ decA i) (airE (p.l.take i) a) = tag (airW ++ decA i) (okE (airE (p.l.take i) a)) := rfl
      rw [hpk] at HS
      clear hia hpk
      generalize okE (airE (p.l.take i) a) = es at *
      go_wp2_with (go_at_call 12; refine KAi.out.mono ?_; rintro e w1 ⟨u, rfl, hU, hb1⟩; refine Hid.out ?_)
      have hO1 := HH.out.1.more hb1
      have hS1 : SW w5 w1 := Below.trans hSr (Below.mono hb1 hSr.size)
      have hUL : RowL 1 encE w1 u es := ROwn.rowL hU rtE.len
      have HUB : Hid (∀ k, u.ownBlock = some k → v.ownBlock ≠ some k) := Lib.hid (fun k hk hv => by have h1 := (hU.low hk).1; have h2 := (HH.out.1.low hv).2; omega)
      obtain ⟨AU, cu, rfl, hcu⟩ := hUL
      have HU : Hid (∀ k (hk : k < es.length), ∃ b o, AU = some ⟨b, o, none⟩ ∧ v.ownBlock ≠ some b ∧ w1.cell? ⟨b, o + k, none⟩ = some (.int .i64 es[k])) := Lib.hid (fun k hk => by
        rcases hcu with h | ⟨b, o, h1, h2, h3⟩
        · rw [h] at hk; simp at hk
        · subst h1
          have h4 := h3 k _ 0 _ (List.getElem?_eq_getElem hk) rfl
          rw [Nat.mul_one, Nat.add_zero] at h4
          exact ⟨b, o, rfl, HUB.out b rfl, h4⟩)
      have HJ0 : Hid (FOwn w5.heap.size w1 v (airF p.l i ++ tag (airW ++ decA i) (es.take 0)) ∧ Chg w1 w1 v v ∧ SW w5 w1) := Lib.hid ⟨by simpa [tag] using hO1, Chg.refl _ _, hS1⟩
      have KDc := Lib.hid (rdec_small i (by omega))
      clear hcu HUB hU hb1 hO1 hS1 KAi HH z0 z1
      refine Lib.hid ?_
      go_wp2
      go_loopg [3, 6] es.length (fun kq v3 vk wi => ∃ (v2 : Value) (k : Nat), v2 = v3 ∧ vk = .int .i64 k ∧ k + kq = es.length ∧ Hid (FOwn w5.heap.size wi v2 (airF p.l i ++ tag (airW ++ decA i) (es.take k)) ∧ Chg w1 wi v v2 ∧ SW w5 wi))
      case atStart => exact ⟨_, 0, rfl, rfl, by omega, HJ0⟩
      case round =>
        obtain ⟨v2, k, rfl, rfl, hkq, HJ⟩ := hrel
        clear HJ0
        have HKQ := Lib.hid hkq
        have hel4 : es.length ≤ 4 := HEL.out
        by_cases hlt2 : k < es.length
        · clear hkq
          obtain ⟨b, o, rfl, hvb, hcell⟩ := HU.out k hlt2
          have i3 : (k : Int) < (es.length : Int) := by omega
          have hc2 := HJ.out.2.1.cell hcell hvb
          have hv2b : v2.ownBlock ≠ some b := fun h => by
            rcases HJ.out.2.1.own b h with h1 | h1
            · exact hvb h1
            · have := World.block_lt_of_cell? _ _ hcell; simp at this; omega
          have HT := Lib.hid (tag_succ (airW ++ decA i) es k hlt2)
          have HLn : Hid ((airF p.l i ++ tag (airW ++ decA i) (es.take k)).length ≤ 100000000) := Lib.hid (by
            have h1 := HFL.out
            have h2 := HEL.out
            have h3 : (tag (airW ++ decA i) (es.take k)).length = (es.take k).length := List.length_map _
            have h4 := List.length_take_le k es
            rw [List.length_append]
            omega)
          have hadd : ∀ W : World, (Op.stringOp .add ⟨#[97, 105, 114, 112, 111, 114, 116, 32]⟩ (decA i)).run Tryd.prog W = .ok (.string (airW ++ decA i)) W := fun W => run_string_add_sum W _ _ (by have := decA_size i (by omega); have e : (⟨#[97, 105, 114, 112, 111, 114, 116, 32]⟩ : ByteArray).size = 8 := rfl; omega)
          have hO := HJ.out.1.more ((Below.refl _ wr).drew)
          generalize es[k] = x at *
          clear hcell
          have f0 : ∀ W, SX wr v2 W → W.cell? ⟨b, o + k, none⟩ = some (.int .i64 x) := fun W h => SX.cell hc2 hv2b h
          go_wp2
          have hS : (SX wr v2) _ := But.of_below (Below.refl _ _).drew
          refine wp_region_held_drew (S := SX wr v2) (by kernel_rfl) hS (fun _ => ?_)
          refine wpAnyH_take (i := 0) (v := ?vRA0) rfl (by kernel_rfl) (by kernel_rfl) (by kernel_rfl) (fun _ _ _ h => h) (Or.inl ⟨by rfl, ?hyRA0⟩) hS ?restRA0
          case hyRA0 =>
            intro w hSw
            first | (go_simp; done) | (go_simp; with_reducible rfl)
          try simp only [Act.put, List.setIfInBounds_toArray, List.set_cons_zero, List.set_cons_succ]
          refine wpAnyH_take (i := 1) (v := ?vRA1) rfl (by kernel_rfl) (by kernel_rfl) (by kernel_rfl) (fun _ _ _ h => h) (Or.inl ⟨by rfl, ?hyRA1⟩) hS ?restRA1
          case hyRA1 =>
            intro w hSw
            first | (go_simp; done) | (go_simp; with_reducible rfl)
          try simp only [Act.put, List.setIfInBounds_toArray, List.set_cons_zero, List.set_cons_succ]
          refine wpAnyH_take (i := 2) (v := ?vRA2) rfl (by kernel_rfl) (by kernel_rfl) (by kernel_rfl) (fun _ _ _ h => h) (Or.inl ⟨by rfl, ?hyRA2⟩) hS ?restRA2
          case hyRA2 =>
            intro w hSw
            first | (go_simp; done) | (go_simp; with_reducible rfl)
          try simp only [Act.put, List.setIfInBounds_toArray, List.set_cons_zero, List.set_cons_succ]
          refine wpAnyH_take (i := 3) (v := ?vRA3) rfl (by kernel_rfl) (by kernel_rfl) (by kernel_rfl) (fun _ _ _ h => h) (Or.inl ⟨by rfl, ?hyRA3⟩) hS ?restRA3
          case hyRA3 =>
            intro w hSw
            have k0 := f0 w hSw
            first | (go_simp; done) | (go_simp; with_reducible rfl)
          try simp only [Act.put, List.setIfInBounds_toArray, List.set_cons_zero, List.set_cons_succ]
          refine wpAnyH_take (i := 4) (v := ?vRA4) rfl (by kernel_rfl) (by kernel_rfl) (by kernel_rfl) (fun _ _ _ h => h) (Or.inl ⟨by rfl, ?hyRA4⟩) hS ?restRA4
          case hyRA4 =>
            intro w hSw
            have k0 := f0 w hSw
            first | (go_simp; done) | (go_simp; with_reducible rfl)
          try simp only [Act.put, List.setIfInBounds_toArray, List.set_cons_zero, List.set_cons_succ]
          refine wpAnyH_take (i := 5) (v := ?vRA5) rfl (by kernel_rfl) (by kernel_rfl) (by kernel_rfl) (fun _ _ _ h => h) (Or.inl ⟨by rfl, ?hyRA5⟩) hS ?restRA5
          case hyRA5 =>
            intro w hSw
            first | (go_simp; done) | (go_simp; with_reducible rfl)
          try simp only [Act.put, List.setIfInBounds_toArray, List.set_cons_zero, List.set_cons_succ]
          refine wpAnyH_ready (rs := [6]) (by kernel_rfl) (by simp) ?_
          refine AllReadyH.cons rfl (fun K hK => ?_) AllReadyH.nil
          go_simp
          go_wp2_with ((go_at_call 13; refine (KDc.out _).mono ?_; rintro e w' ⟨rfl, hb'⟩; have hO := hO.more hb'; have hS := hS.on hb'))
          refine hK.out _ _ hS (fun _ => ?_)
          clear hK K
          refine wpAnyH_take (i := 7) (v := ?vRA7) rfl (by kernel_rfl) (by kernel_rfl) (by kernel_rfl) (fun _ _ _ h => h) (Or.inl ⟨by rfl, ?hyRA7⟩) hS ?restRA7
          case hyRA7 =>
            intro w hSw
            have kadd := hadd w
            first | (go_simp; done) | (go_simp; with_reducible rfl)
          try simp only [Act.put, List.setIfInBounds_toArray, List.set_cons_zero, List.set_cons_succ]
          refine wpAnyH_take (i := 8) (v := ?vRA8) rfl (by kernel_rfl) (by kernel_rfl) (by kernel_rfl) (fun _ _ _ h => h) (Or.inl ⟨by rfl, ?hyRA8⟩) hS ?restRA8
          case hyRA8 =>
            intro w hSw
            first | (go_simp; done) | (go_simp; with_reducible rfl)
          try simp only [Act.put, List.setIfInBounds_toArray, List.set_cons_zero, List.set_cons_succ]
          refine wpAnyH_ready (rs := [9]) (by kernel_rfl) (by simp) ?_
          refine AllReadyH.cons rfl (fun K hK => ?_) AllReadyH.nil
          go_simp
          have hSp := hS
          have hS := hS.on (bel_alloc _ (.cells #[.int .i64 x, .string (airW ++ decA i)] fltT))
          refine hK.out _ _ hS (fun _ => ?_)
          clear hK K
          refine wpAnyH_ready (rs := [10]) (by kernel_rfl) (by simp) ?_
          refine AllReadyH.cons rfl (fun K hK => ?_) AllReadyH.nil
          refine step_rapp rtF rfl _ _ rfl hO rfl (bel_alloc _ _) _ (x, airW ++ decA i) _ rfl (cs := #[.int .i64 x, .string (airW ++ decA i)]) rfl (heap_alloc_new _ _) HLn.out ?_
          intro v8 w8 hO8 hC8
          go_simp
          have hS := hSp.trans hC8.but (fun _ _ h => h)
          refine hK.out _ _ hS (fun _ => ?_)
          clear hK K
          refine wpAnyH_take (i := 11) (v := ?vRA11) rfl (by kernel_rfl) (by kernel_rfl) (by kernel_rfl) (fun _ _ _ h => h) (Or.inl ⟨by rfl, ?hyRA11⟩) hS ?restRA11
          case hyRA11 =>
            intro w hSw
            first | (go_simp; done) | (go_simp; with_reducible rfl)
          try simp only [Act.put, List.setIfInBounds_toArray, List.set_cons_zero, List.set_cons_succ]
          refine wpAnyH_done (by kernel_rfl) ?_ _
          simp only [List.getElem_toArray, List.getElem_cons_succ, List.getElem_cons_zero, List.set_cons_zero, List.set_cons_succ]
          have HX : Hid (FOwn w5.heap.size w8 v8 (airF p.l i ++ tag (airW ++ decA i) (es.take (k + 1))) ∧ Chg w1 w8 v v8 ∧ SW w5 w8) := Lib.hid ⟨by rw [HT.out, ← List.append_assoc]; exact hO8, HJ.out.2.1.trans ⟨hS, fun g hg => by
              rcases hC8.own g hg with h1 | h1
              · exact .inl h1
              · exact .inr (Nat.le_trans hSp.size h1)⟩, Below.trans HJ.out.2.2 (hS.below HJ.out.1.base (fun k hk hv => by have := (HJ.out.1.low hv).1; omega))⟩
          clear hO8 hC8 hS hSp hO
          go_wp2
          go_roundg (es.length - (k + 1))
          case measure => have := HKQ.out; omega
          case rel => exact ⟨_, k + 1, rfl, by go_num, by omega, HX⟩
        · have HX : Hid (FOwn w5.heap.size wr v2 (airF p.l (i + 1)) ∧ SW w5 wr) := Lib.hid ⟨by
              rw [HS.out]
              have := HJ.out.1
              rwa [List.take_of_length_le (by omega)] at this, HJ.out.2.2⟩
          clear HJ hkq
          go_wp2
          go_roundg (p.l.length - (i + 1))
          case measure => have := HIK.out; omega
          case rel => exact ⟨_, i + 1, rfl, by go_num, by omega, HX⟩
    · have HN2 : Hid (FOwn w5.heap.size wr v (airF p.l p.l.length ++ dstF p.l p.ds 0) ∧ SW w5 wr) := Lib.hid ⟨by
          rw [dstF_zero, List.append_nil, ← show i = p.l.length by omega]
          exact HH.out.1, hSr⟩
      clear hik HH
      go_wp2
      go_loopg [3, 7] p.ds.length (fun kx v3 vi wr => ∃ (v : Value) (i : Nat), v = v3 ∧ vi = .int .i64 i ∧ i + kx = p.ds.length ∧ Hid (FOwn w5.heap.size wr v (airF p.l p.l.length ++ dstF p.l p.ds i) ∧ SW w5 wr))
      case atStart => exact ⟨_, 0, rfl, rfl, by omega, HN2⟩
      case round =>
        obtain ⟨v, i, rfl, rfl, hik, HH⟩ := hrel
        have HIK := Lib.hid hik
        have hSr : SW w5 wr := HH.out.2
        have z0 := y0 _ hSr
        have z1 := y1 _ hSr
        by_cases hlt : i < p.ds.length
        · clear hik
          obtain ⟨a, hia⟩ : ∃ a, p.ds[i]? = some a := ⟨_, List.getElem?_eq_getElem hlt⟩
          have i2 : (i : Int) < (p.ds.length : Int) := by omega
          have KAi := Lib.hid (KD.out i a wr hSr hia)
          have HS := Lib.hid (dstF_succ p.l p.ds i a hia)
          have HFL : Hid ((airF p.l p.l.length ++ dstF p.l p.ds i).length ≤ 1000) := Lib.hid (by have := airF_le p.l p.l.length; have := dstF_le p.l p.ds i; rw [List.length_append]; omega)
          have HEL : Hid ((okE (dstE p.l (p.ds.take i) a)).length ≤ 4) := Lib.hid (Nat.le_trans (okE_le _) (by rw [dstE_len]; omega))
          have hpk : pick (dstW ++ decA i) (dstE p.l (p.ds.take i) a) = tag (dstW ++ decA i) (okE (dstE p.l (p.ds.take i) a)) := rfl
          rw [hpk] at HS
          clear hia hpk
          generalize okE (dstE p.l (p.ds.take i) a) = es at *
          go_wp2_with (go_at_call 14; refine KAi.out.mono ?_; rintro e w1 ⟨u, rfl, hU, hb1⟩; refine Hid.out ?_)
          have hO1 := HH.out.1.more hb1
          have hS1 : SW w5 w1 := Below.trans hSr (Below.mono hb1 hSr.size)
          have hUL : RowL 1 encE w1 u es := ROwn.rowL hU rtE.len
          have HUB : Hid (∀ k, u.ownBlock = some k → v.ownBlock ≠ some k) := Lib.hid (fun k hk hv => by have h1 := (hU.low hk).1; have h2 := (HH.out.1.low hv).2; omega)
          obtain ⟨AU, cu, rfl, hcu⟩ := hUL
          have HU : Hid (∀ k (hk : k < es.length), ∃ b o, AU = some ⟨b, o, none⟩ ∧ v.ownBlock ≠ some b ∧ w1.cell? ⟨b, o + k, none⟩ = some (.int .i64 es[k])) := Lib.hid (fun k hk => by
            rcases hcu with h | ⟨b, o, h1, h2, h3⟩
            · rw [h] at hk; simp at hk
            · subst h1
              have h4 := h3 k _ 0 _ (List.getElem?_eq_getElem hk) rfl
              rw [Nat.mul_one, Nat.add_zero] at h4
              exact ⟨b, o, rfl, HUB.out b rfl, h4⟩)
          have HJ0 : Hid (FOwn w5.heap.size w1 v (airF p.l p.l.length ++ dstF p.l p.ds i ++ tag (dstW ++ decA i) (es.take 0)) ∧ Chg w1 w1 v v ∧ SW w5 w1) := Lib.hid ⟨by simpa [tag] using hO1, Chg.refl _ _, hS1⟩
          have KDc := Lib.hid (rdec_small i (by omega))
          clear hcu HUB hU hb1 hO1 hS1 KAi HH z0 z1
          refine Lib.hid ?_
          go_wp2
          go_loopg [3, 9] es.length (fun kq v3 vk wi => ∃ (v2 : Value) (k : Nat), v2 = v3 ∧ vk = .int .i64 k ∧ k + kq = es.length ∧ Hid (FOwn w5.heap.size wi v2 (airF p.l p.l.length ++ dstF p.l p.ds i ++ tag (dstW ++ decA i) (es.take k)) ∧ Chg w1 wi v v2 ∧ SW w5 wi))
          case atStart => exact ⟨_, 0, rfl, rfl, by omega, HJ0⟩
          case round =>
            obtain ⟨v2, k, rfl, rfl, hkq, HJ⟩ := hrel
            clear HJ0
            have HKQ := Lib.hid hkq
            have hel4 : es.length ≤ 4 := HEL.out
            by_cases hlt2 : k < es.length
            · clear hkq
              obtain ⟨b, o, rfl, hvb, hcell⟩ := HU.out k hlt2
              have i3 : (k : Int) < (es.length : Int) := by omega
              have hc2 := HJ.out.2.1.cell hcell hvb
              have hv2b : v2.ownBlock ≠ some b := fun h => by
                rcases HJ.out.2.1.own b h with h1 | h1
                · exact hvb h1
                · have := World.block_lt_of_cell? _ _ hcell; simp at this; omega
              have HT := Lib.hid (tag_succ (dstW ++ decA i) es k hlt2)
              have HLn : Hid ((airF p.l p.l.length ++ dstF p.l p.ds i ++ tag (dstW ++ decA i) (es.take k)).length ≤ 100000000) := Lib.hid (by
                have h1 := HFL.out
                have h2 := HEL.out
                have h3 : (tag (dstW ++ decA i) (es.take k)).length = (es.take k).length := List.length_map _
                have h4 := List.length_take_le k es
                rw [List.length_append]
                omega)
              have hadd : ∀ W : World, (Op.stringOp .add ⟨#[100, 105, 115, 116, 97, 110, 99, 101, 32]⟩ (decA i)).run Tryd.prog W = .ok (.string (dstW ++ decA i)) W := fun W => run_string_add_sum W _ _ (by have := decA_size i (by omega); have e : (⟨#[100, 105, 115, 116, 97, 110, 99, 101, 32]⟩ : ByteArray).size = 9 := rfl; omega)
              have hO := HJ.out.1.more ((Below.refl _ wr).drew)
              generalize es[k] = x at *
              clear hcell
              have f0 : ∀ W, SX wr v2 W → W.cell? ⟨b, o + k, none⟩ = some (.int .i64 x) := fun W h => SX.cell hc2 hv2b h
              go_wp2
              have hS : (SX wr v2) _ := But.of_below (Below.refl _ _).drew
              refine wp_region_held_drew (S := SX wr v2) (by kernel_rfl) hS (fun _ => ?_)
              refine wpAnyH_take (i := 0) (v := ?vRB0) rfl (by kernel_rfl) (by kernel_rfl) (by kernel_rfl) (fun _ _ _ h => h) (Or.inl ⟨by rfl, ?hyRB0⟩) hS ?restRB0
              case hyRB0 =>
                intro w hSw
                first | (go_simp; done) | (go_simp; with_reducible rfl)
              try simp only [Act.put, List.setIfInBounds_toArray, List.set_cons_zero, List.set_cons_succ]
              refine wpAnyH_take (i := 1) (v := ?vRB1) rfl (by kernel_rfl) (by kernel_rfl) (by kernel_rfl) (fun _ _ _ h => h) (Or.inl ⟨by rfl, ?hyRB1⟩) hS ?restRB1
              case hyRB1 =>
                intro w hSw
                first | (go_simp; done) | (go_simp; with_reducible rfl)
              try simp only [Act.put, List.setIfInBounds_toArray, List.set_cons_zero, List.set_cons_succ]
              refine wpAnyH_take (i := 2) (v := ?vRB2) rfl (by kernel_rfl) (by kernel_rfl) (by kernel_rfl) (fun _ _ _ h => h) (Or.inl ⟨by rfl, ?hyRB2⟩) hS ?restRB2
              case hyRB2 =>
                intro w hSw
                first | (go_simp; done) | (go_simp; with_reducible rfl)
              try simp only [Act.put, List.setIfInBounds_toArray, List.set_cons_zero, List.set_cons_succ]
              refine wpAnyH_take (i := 3) (v := ?vRB3) rfl (by kernel_rfl) (by kernel_rfl) (by kernel_rfl) (fun _ _ _ h => h) (Or.inl ⟨by rfl, ?hyRB3⟩) hS ?restRB3
              case hyRB3 =>
                intro w hSw
                have k0 := f0 w hSw
                first | (go_simp; done) | (go_simp; with_reducible rfl)
              try simp only [Act.put, List.setIfInBounds_toArray, List.set_cons_zero, List.set_cons_succ]
              refine wpAnyH_take (i := 4) (v := ?vRB4) rfl (by kernel_rfl) (by kernel_rfl) (by kernel_rfl) (fun _ _ _ h => h) (Or.inl ⟨by rfl, ?hyRB4⟩) hS ?restRB4
              case hyRB4 =>
                intro w hSw
                have k0 := f0 w hSw
                first | (go_simp; done) | (go_simp; with_reducible rfl)
              try simp only [Act.put, List.setIfInBounds_toArray, List.set_cons_zero, List.set_cons_succ]
              refine wpAnyH_take (i := 5) (v := ?vRB5) rfl (by kernel_rfl) (by kernel_rfl) (by kernel_rfl) (fun _ _ _ h => h) (Or.inl ⟨by rfl, ?hyRB5⟩) hS ?restRB5
              case hyRB5 =>
                intro w hSw
                first | (go_simp; done) | (go_simp; with_reducible rfl)
              try simp only [Act.put, List.setIfInBounds_toArray, List.set_cons_zero, List.set_cons_succ]
              refine wpAnyH_ready (rs := [6]) (by kernel_rfl) (by simp) ?_
              refine AllReadyH.cons rfl (fun K hK => ?_) AllReadyH.nil
              go_simp
              go_wp2_with ((go_at_call 13; refine (KDc.out _).mono ?_; rintro e w' ⟨rfl, hb'⟩; have hO := hO.more hb'; have hS := hS.on hb'))
              refine hK.out _ _ hS (fun _ => ?_)
              clear hK K
              refine wpAnyH_take (i := 7) (v := ?vRB7) rfl (by kernel_rfl) (by kernel_rfl) (by kernel_rfl) (fun _ _ _ h => h) (Or.inl ⟨by rfl, ?hyRB7⟩) hS ?restRB7
              case hyRB7 =>
                intro w hSw
                have kadd := hadd w
                first | (go_simp; done) | (go_simp; with_reducible rfl)
              try simp only [Act.put, List.setIfInBounds_toArray, List.set_cons_zero, List.set_cons_succ]
              refine wpAnyH_take (i := 8) (v := ?vRB8) rfl (by kernel_rfl) (by kernel_rfl) (by kernel_rfl) (fun _ _ _ h => h) (Or.inl ⟨by rfl, ?hyRB8⟩) hS ?restRB8
              case hyRB8 =>
                intro w hSw
                first | (go_simp; done) | (go_simp; with_reducible rfl)
              try simp only [Act.put, List.setIfInBounds_toArray, List.set_cons_zero, List.set_cons_succ]
              refine wpAnyH_ready (rs := [9]) (by kernel_rfl) (by simp) ?_
              refine AllReadyH.cons rfl (fun K hK => ?_) AllReadyH.nil
              go_simp
              have hSp := hS
              have hS := hS.on (bel_alloc _ (.cells #[.int .i64 x, .string (dstW ++ decA i)] fltT))
              refine hK.out _ _ hS (fun _ => ?_)
              clear hK K
              refine wpAnyH_ready (rs := [10]) (by kernel_rfl) (by simp) ?_
              refine AllReadyH.cons rfl (fun K hK => ?_) AllReadyH.nil
              refine step_rapp rtF rfl _ _ rfl hO rfl (bel_alloc _ _) _ (x, dstW ++ decA i) _ rfl (cs := #[.int .i64 x, .string (dstW ++ decA i)]) rfl (heap_alloc_new _ _) HLn.out ?_
              intro v8 w8 hO8 hC8
              go_simp
              have hS := hSp.trans hC8.but (fun _ _ h => h)
              refine hK.out _ _ hS (fun _ => ?_)
              clear hK K
              refine wpAnyH_take (i := 11) (v := ?vRB11) rfl (by kernel_rfl) (by kernel_rfl) (by kernel_rfl) (fun _ _ _ h => h) (Or.inl ⟨by rfl, ?hyRB11⟩) hS ?restRB11
              case hyRB11 =>
                intro w hSw
                first | (go_simp; done) | (go_simp; with_reducible rfl)
              try simp only [Act.put, List.setIfInBounds_toArray, List.set_cons_zero, List.set_cons_succ]
              refine wpAnyH_done (by kernel_rfl) ?_ _
              simp only [List.getElem_toArray, List.getElem_cons_succ, List.getElem_cons_zero, List.set_cons_zero, List.set_cons_succ]
              have HX : Hid (FOwn w5.heap.size w8 v8 (airF p.l p.l.length ++ dstF p.l p.ds i ++ tag (dstW ++ decA i) (es.take (k + 1))) ∧ Chg w1 w8 v v8 ∧ SW w5 w8) := Lib.hid ⟨by rw [HT.out, ← List.append_assoc]; exact hO8, HJ.out.2.1.trans ⟨hS, fun g hg => by
                  rcases hC8.own g hg with h1 | h1
                  · exact .inl h1
                  · exact .inr (Nat.le_trans hSp.size h1)⟩, Below.trans HJ.out.2.2 (hS.below HJ.out.1.base (fun k hk hv => by have := (HJ.out.1.low hv).1; omega))⟩
              clear hO8 hC8 hS hSp hO
              go_wp2
              go_roundg (es.length - (k + 1))
              case measure => have := HKQ.out; omega
              case rel => exact ⟨_, k + 1, rfl, by go_num, by omega, HX⟩
            · have HX : Hid (FOwn w5.heap.size wr v2 (airF p.l p.l.length ++ dstF p.l p.ds (i + 1)) ∧ SW w5 wr) := Lib.hid ⟨by
                  rw [HS.out]
                  have := HJ.out.1
                  rwa [List.take_of_length_le (by omega), List.append_assoc] at this, HJ.out.2.2⟩
              clear HJ hkq
              go_wp2
              go_roundg (p.ds.length - (i + 1))
              case measure => have := HIK.out; omega
              case rel => exact ⟨_, i + 1, rfl, by go_num, by omega, HX⟩
        · have HR : Hid (FOwn w.heap.size wr v (chkP p) ∧ Below w.heap.size w wr) := Lib.hid ⟨⟨by
              rw [HC.out, ← show i = p.ds.length by omega]
              exact HH.out.1.own.mono hb0.size, Nat.le_trans hb0.size hSr.size⟩, hb0.trans (Below.mono hSr hb0.size)⟩
          clear hik HH
          go_wp2
          go_ret
          exact ⟨v, rfl, HR.out⟩
      

end Go.Proofs.YtfgmlbmjjihhfaaDoor

/- Walk of the law FlightOrder. -/
namespace Go.Proofs.YtfgmlbmjjihhfaaDoor
open Go.RowKit Go.Shelf
set_option linter.unusedSimpArgs false
set_option linter.unusedVariables false

theorem RowL.at8 {w : World} {A : Option Addr} {n c : Nat} {L : List Dt} (h : RowL 8 encDt w (.slice A n c) L) {k : Nat} {y : Dt} (hk : L[k]? = some y) : ∃ b o, A = some ⟨b, o, none⟩ ∧ b < w.heap.size ∧ ∀ j u, (encDt y)[j]? = some u → w.cell? ⟨b, o + k * 8 + j, none⟩ = some u := by
  obtain ⟨hlt, rfl⟩ := List.getElem?_eq_some_iff.1 hk
  obtain ⟨b, o, h1, h2, h3⟩ := h.at rfl hlt
  exact ⟨b, o, h1, h2, h3⟩
set_option maxRecDepth 100000 in
set_option maxHeartbeats 8000000 in
theorem flightOrder_walk (p : PV) (f : FV) (day : Int) (bd : -9223372036854775808 ≤ day ∧ day ≤ 9223372036854775807) (w : World) (hE : EnvP w) (hP : PlL w p) (hA : ∀ a ∈ p.l, OkA a) (hD : ∀ d ∈ p.ds, OkD d) (h1 : p.l.length < 9223372036854775808) (h2 : p.ds.length < 9223372036854775808) (hG : LegL w (.slice f.A f.lg.length f.c) f.lg) (of : OkFl f) :
    Calls Tryd.prog 3 #[encP p, encFl f, .int .i64 day] w fun e w' => e = .returned (.bool true) ∧ Below w.heap.size w w' := by
  have hb1 := bel_alloc w (.cells #[.slice p.A p.l.length p.ca, .slice p.D p.ds.length p.cd] placesT)
  have hb2 := bel_alloc (w.alloc (.cells #[.slice p.A p.l.length p.ca, .slice p.D p.ds.length p.cd] placesT)) (.cells #[.string f.car, .int .i64 f.num, .int .i64 f.pf, .int .i64 f.pt, .int .i64 f.pd, .slice f.A f.lg.length f.c] fliT)
  have hb0 := hb1.trans (hb2.mono hb1.size)
  have p0 := bel_cell hb2 ((cells_new w #[.slice p.A p.l.length p.ca, .slice p.D p.ds.length p.cd] placesT 0).trans (show _ = some (Value.slice p.A p.l.length p.ca) from rfl))
  have p1 := bel_cell hb2 ((cells_new w #[.slice p.A p.l.length p.ca, .slice p.D p.ds.length p.cd] placesT 1).trans (show _ = some (Value.slice p.D p.ds.length p.cd) from rfl))
  have q0 := (cells_new (w.alloc (.cells #[.slice p.A p.l.length p.ca, .slice p.D p.ds.length p.cd] placesT)) #[.string f.car, .int .i64 f.num, .int .i64 f.pf, .int .i64 f.pt, .int .i64 f.pd, .slice f.A f.lg.length f.c] fliT 0).trans (show _ = some (Value.string f.car) from rfl)
  have q1 := (cells_new (w.alloc (.cells #[.slice p.A p.l.length p.ca, .slice p.D p.ds.length p.cd] placesT)) #[.string f.car, .int .i64 f.num, .int .i64 f.pf, .int .i64 f.pt, .int .i64 f.pd, .slice f.A f.lg.length f.c] fliT 1).trans (show _ = some (Value.int .i64 f.num) from rfl)
  have q2 := (cells_new (w.alloc (.cells #[.slice p.A p.l.length p.ca, .slice p.D p.ds.length p.cd] placesT)) #[.string f.car, .int .i64 f.num, .int .i64 f.pf, .int .i64 f.pt, .int .i64 f.pd, .slice f.A f.lg.length f.c] fliT 2).trans (show _ = some (Value.int .i64 f.pf) from rfl)
  have q3 := (cells_new (w.alloc (.cells #[.slice p.A p.l.length p.ca, .slice p.D p.ds.length p.cd] placesT)) #[.string f.car, .int .i64 f.num, .int .i64 f.pf, .int .i64 f.pt, .int .i64 f.pd, .slice f.A f.lg.length f.c] fliT 3).trans (show _ = some (Value.int .i64 f.pt) from rfl)
  have q4 := (cells_new (w.alloc (.cells #[.slice p.A p.l.length p.ca, .slice p.D p.ds.length p.cd] placesT)) #[.string f.car, .int .i64 f.num, .int .i64 f.pf, .int .i64 f.pt, .int .i64 f.pd, .slice f.A f.lg.length f.c] fliT 4).trans (show _ = some (Value.int .i64 f.pd) from rfl)
  have q5 := (cells_new (w.alloc (.cells #[.slice p.A p.l.length p.ca, .slice p.D p.ds.length p.cd] placesT)) #[.string f.car, .int .i64 f.num, .int .i64 f.pf, .int .i64 f.pt, .int .i64 f.pd, .slice f.A f.lg.length f.c] fliT 5).trans (show _ = some (Value.slice f.A f.lg.length f.c) from rfl)
  rw [World.size_alloc] at q0 q1 q2 q3 q4 q5
  have HP := Lib.hid (hP.more hb0)
  have HG := Lib.hid (hG.more hb0)
  have HE := Lib.hid (hE.more hb0)
  have HOF := Lib.hid of
  have hlen := of.len
  clear hP hG hE of
  go_enter Tryd.func3, Tryd.ntmps3
  go_upto_region 1 with (fail)
  generalize hw5 : (w.alloc (.cells #[.slice p.A p.l.length p.ca, .slice p.D p.ds.length p.cd] placesT)).alloc (.cells #[.string f.car, .int .i64 f.num, .int .i64 f.pf, .int .i64 f.pt, .int .i64 f.pd, .slice f.A f.lg.length f.c] fliT) = w5 at *
  clear hw5 hb1 hb2
  have f0 := bel_get q0
  have f1 := bel_get q1
  have f2 := bel_get q2
  have f3 := bel_get q3
  have f4 := bel_get q4
  have f5 := bel_get q5
  have y0 := bel_get p0
  have y1 := bel_get p1
  clear p0 p1 q0 q1 q2 q3 q4 q5
  have KW : Hid (∀ W, SW w5 W → Calls Tryd.prog 8 #[] W fun e w' => e = .returned (.bool true) ∧ SW w5 w') := Lib.hid (SW.call (fun W h => awake7_any W (HE.out.more h)))
  have KB : Hid (∀ W, SW w5 W → Calls Tryd.prog 5 #[encP p, encFl f] W fun e w' => ∃ v : Value, e = .returned v ∧ Hid (v = .bool true ∨ (v = .bool false ∧ f.lg.length ≤ 12 ∧ p.l.length ≤ 20 ∧ p.ds.length ≤ 40)) ∧ SW w5 w') := Lib.hid (fun W h => (big_any p f W (HG.out.more h) hlen h1 h2).mono (by
    rintro e w' ⟨v, rfl, hv, hb⟩
    exact ⟨v, rfl, hv, Below.trans h (Below.mono hb h.size)⟩))
  have hS : SW w5 w5 := Below.refl _ _
  have k0 := f0 _ hS
  have k1 := f1 _ hS
  have k2 := f2 _ hS
  have k3 := f3 _ hS
  have k4 := f4 _ hS
  have k5 := f5 _ hS
  have z0 := y0 _ hS
  have z1 := y1 _ hS
  go_wp2_with (go_at_call 5; refine (KB.out _ hS).mono ?_; rintro e w1 ⟨v1, rfl, hv1, hS⟩; refine Hid.out ?_)
  clear k0 k1 k2 k3 k4 k5 z0 z1
  rcases hv1.out with rfl | ⟨rfl, b12, b20, b40⟩
  · refine Lib.hid ?_
    go_wp2_with (go_at_call 8; refine (KW.out _ hS).mono ?_; rintro e w9 ⟨rfl, hS⟩)
    go_ret
    exact ⟨rfl, hb0.trans (Below.mono hS hb0.size)⟩
  have ok : OkP p := ⟨hA, hD, by omega, by omega⟩
  have KR : Hid (∀ W, SW w5 W → Calls Tryd.prog 6 #[encP p] W fun e w' => ∃ A c, e = .returned (.slice A (chkP p).length c) ∧ SW w5 w') := Lib.hid (fun W h => (rcheck6_any p W ok (HP.out.more h)).mono (by
    rintro e w' ⟨v, rfl, hO, hb⟩
    obtain ⟨A, c, rfl, _⟩ := hO.rowL rtF.len
    exact ⟨A, c, rfl, Below.trans h (Below.mono hb h.size)⟩))
  have k0 := f0 _ hS
  have k1 := f1 _ hS
  have k2 := f2 _ hS
  have k3 := f3 _ hS
  have k4 := f4 _ hS
  have k5 := f5 _ hS
  have z0 := y0 _ hS
  have z1 := y1 _ hS
  refine Lib.hid ?_
  by_cases hc0 : chkP p = []
  case neg =>
    have hcl : (0 : Int) < ((chkP p).length : Int) := by
      have : (chkP p).length ≠ 0 := fun h => hc0 (List.eq_nil_of_length_eq_zero h)
      omega
    have hcn : 0 < (chkP p).length := by omega
    clear hc0
    generalize (chkP p).length = n0 at *
    go_wp2_with (first
      | (go_at_call 8; refine (KW.out _ hS).mono ?_; rintro e w9 ⟨rfl, hS⟩)
      | (go_at_call 6; refine (KR.out _ hS).mono ?_; rintro e w2 ⟨A1, c1, rfl, hS⟩))
    go_ret
    exact ⟨rfl, hb0.trans (Below.mono hS hb0.size)⟩
  case pos =>
  have hz := chk_okZ hc0
  have hs := chk_few hc0
  rw [hc0] at KR
  simp only [List.length_nil] at KR
  have KC : Hid (∀ W, SW w5 W → Calls Tryd.prog 7 #[encP p, encFl f] W fun e w' => ∃ A c, e = .returned (.slice A (chF p.l f).length c) ∧ SW w5 w') := Lib.hid (fun W h => (fcheck_any p f W ok.la (HP.out.more h).air hs hz (HG.out.more h) (by omega) HOF.out.cap HOF.out.car HOF.out.lg (fun hc h0 W' hW' => checkTimes_any p f W' ok.la ((HP.out.more h).more hW').air hs hz ((HG.out.more h).more hW') (by omega) (fun x hx => lgs_times (List.append_eq_nil_iff.1 (List.eq_nil_of_length_eq_zero h0)).2 hx))).mono (by
    rintro e w' ⟨v, rfl, hO, hb⟩
    obtain ⟨A, c, rfl, _⟩ := hO.rowL rtF.len
    exact ⟨A, c, rfl, Below.trans h (Below.mono hb h.size)⟩))
  by_cases hf0 : chF p.l f = []
  case neg =>
    have hcl : (0 : Int) < ((chF p.l f).length : Int) := by
      have : (chF p.l f).length ≠ 0 := fun h => hf0 (List.eq_nil_of_length_eq_zero h)
      omega
    have hcn : 0 < (chF p.l f).length := by omega
    clear hf0 hc0
    generalize (chF p.l f).length = n0 at *
    go_wp2_with (first
      | (go_at_call 8; refine (KW.out _ hS).mono ?_; rintro e w9 ⟨rfl, hS⟩)
      | (go_at_call 7; refine (KC.out _ hS).mono ?_; rintro e w3 ⟨A2, c2, rfl, hS⟩)
      | (go_at_call 6; refine (KR.out _ hS).mono ?_; rintro e w2 ⟨A1, c1, rfl, hS⟩; have k0 := f0 _ hS; have k1 := f1 _ hS; have k2 := f2 _ hS; have k3 := f3 _ hS; have k4 := f4 _ hS; have k5 := f5 _ hS; have z0 := y0 _ hS; have z1 := y1 _ hS))
    go_ret
    exact ⟨rfl, hb0.trans (Below.mono hS hb0.size)⟩
  case pos =>
  rw [hf0] at KC
  simp only [List.length_nil] at KC
  have hnil := chF_nil hf0
  have hcb := cnt_bd hnil.1
  have KL : Hid (∀ W, SW w5 W → Calls Tryd.prog 9 #[encP p, encFl f, .int .i64 day] W fun e w' => ∃ v, e = .returned (.tuple #[v, .int .i64 (legE f day)]) ∧ RowL 8 encDt w' v (legF p.l f day) ∧ SW w5 w') := Lib.hid (fun W h => (legs_any p f day W ok.la (HP.out.more h).air hs hz (HG.out.more h) (by omega) (fun x hx => lgs_times hnil.2.2.1 hx) bd.1 bd.2).mono (by
    rintro e w' ⟨v, rfl, hO, hb⟩
    exact ⟨v, rfl, hO.rowL rtD.len, Below.trans h (Below.mono hb h.size)⟩))
  have HFact : Hid (∀ (k : Nat) (x : Lg), Per.hasQ (f.pf, f.pt, f.pd) day = true → f.lg[k]? = some x → depL p.l x day < arrL p.l x day ∧ (∀ y, k ≠ 0 → f.lg[k - 1]? = some y → arrL p.l y day ≤ depL p.l x day ∧ (x.f.toList == y.t.toList) = true)) := Lib.hid (fun k x hd hk => ⟨(chF_ord hf0 hd hk).1, fun y h0 hy => ⟨(chF_ord hf0 hd hk).2 y h0 hy, lgs_meet hnil.2.2.1 hk h0 hy⟩⟩)
  have HLF : Hid (legF p.l f day = if Per.hasQ (f.pf, f.pt, f.pd) day then f.lg.map (datL p.l f day) else []) := Lib.hid rfl
  have HLE : Hid (legE f day = if Per.hasQ (f.pf, f.pt, f.pd) day then 0 else 12) := Lib.hid rfl
  have HDA : Hid (∀ x, (datL p.l f day x).dep = depL p.l x day ∧ (datL p.l f day x).arr = arrL p.l x day ∧ (datL p.l f day x).f = x.f ∧ (datL p.l f day x).t = x.t) := Lib.hid (fun x => ⟨rfl, rfl, rfl, rfl⟩)
  have hn0 : f.lg.length ≠ 0 := by omega
  clear hf0 hc0 hnil hz hs
  cases hq : Per.hasQ (f.pf, f.pt, f.pd) day with
  | false =>
    have e1 : legF p.l f day = [] := by rw [HLF.out, hq]; rfl
    have e2 : legE f day = 12 := by rw [HLE.out, hq]; rfl
    rw [e1, e2] at KL
    clear e1 e2 HLF HLE HFact HDA hq
    have i1 : ((0 : Int) == (f.lg.length : Int)) = false := by rw [beq_eq_false_iff_ne]; omega
    go_upto_region 4 with (first
      | (go_at_call 9; refine (KL.out _ hS).mono ?_; rintro e w4 ⟨v4, rfl, ⟨A4, c4, rfl, _⟩, hS⟩)
      | (go_at_call 7; refine (KC.out _ hS).mono ?_; rintro e w3 ⟨A2, c2, rfl, hS⟩; have k0 := f0 _ hS; have k1 := f1 _ hS; have k2 := f2 _ hS; have k3 := f3 _ hS; have k4 := f4 _ hS; have k5 := f5 _ hS; have z0 := y0 _ hS; have z1 := y1 _ hS)
      | (go_at_call 6; refine (KR.out _ hS).mono ?_; rintro e w2 ⟨A1, c1, rfl, hS⟩; have k0 := f0 _ hS; have k1 := f1 _ hS; have k2 := f2 _ hS; have k3 := f3 _ hS; have k4 := f4 _ hS; have k5 := f5 _ hS; have z0 := y0 _ hS; have z1 := y1 _ hS))
    have k5 := f5 _ hS
    go_wp2
    go_loopw [9] (fun vi wr => vi = .int .i64 0 ∧ SW w5 wr) (fun _ _ => 0)
    case atStart => exact ⟨rfl, hS⟩
    case round =>
      obtain ⟨rfl, hSr⟩ := hrel
      have k5 := f5 _ hSr
      go_wp2_with (go_at_call 8; refine (KW.out _ hSr).mono ?_; rintro e w9 ⟨rfl, hS⟩)
      go_ret
      exact ⟨rfl, hb0.trans (Below.mono hS hb0.size)⟩
  | true =>
    have e1 : legF p.l f day = f.lg.map (datL p.l f day) := by rw [HLF.out, hq]; rfl
    have e2 : legE f day = 0 := by rw [HLE.out, hq]; rfl
    rw [e1, e2] at KL
    have HF2 := Lib.hid (fun k x hk => HFact.out k x hq hk)
    clear e1 e2 HLF HLE HFact hq
    obtain ⟨L, hLd⟩ : ∃ L, L = f.lg.map (datL p.l f day) := ⟨_, rfl⟩
    rw [← hLd] at KL
    have HLn : Hid (L.length = f.lg.length) := Lib.hid (by rw [hLd, List.length_map])
    have HLat : Hid (∀ k y, L[k]? = some y → ∃ x, f.lg[k]? = some x ∧ y = datL p.l f day x) := Lib.hid (by
      rw [hLd]
      intro k y hk
      rw [List.getElem?_map] at hk
      cases hx : f.lg[k]? with
      | none => rw [hx] at hk; cases hk
      | some x => rw [hx] at hk; cases hk; exact ⟨x, hx, rfl⟩)
    have HFin : Hid (∀ k y, L[k]? = some y → decide (y.arr ≤ y.dep) = false ∧ (∀ z, k ≠ 0 → L[k - 1]? = some z → decide (y.dep < z.arr) = false ∧ (y.f.toList == z.t.toList) = true)) := Lib.hid (fun k y hy => by
      obtain ⟨x, hx, rfl⟩ := HLat.out k y hy
      obtain ⟨g1, g2⟩ := HF2.out k x hx
      obtain ⟨d1, d2, d3, d4⟩ := HDA.out x
      refine ⟨decide_eq_false (by rw [d1, d2]; omega), fun z h0 hzz => ?_⟩
      obtain ⟨x', hx', rfl⟩ := HLat.out _ _ hzz
      obtain ⟨g3, g4⟩ := g2 x' h0 hx'
      obtain ⟨d1', d2', d3', d4'⟩ := HDA.out x'
      exact ⟨decide_eq_false (by rw [d1, d2']; omega), by rw [d3, d4']; exact g4⟩)
    clear hLd HLat HF2 HDA
    go_upto_region 4 with (first
      | (go_at_call 9; refine (KL.out _ hS).mono ?_; rintro e w4 ⟨v4, rfl, hv4, hS⟩; obtain ⟨A4, c4, rfl, hvc⟩ := id hv4)
      | (go_at_call 7; refine (KC.out _ hS).mono ?_; rintro e w3 ⟨A2, c2, rfl, hS⟩; have k0 := f0 _ hS; have k1 := f1 _ hS; have k2 := f2 _ hS; have k3 := f3 _ hS; have k4 := f4 _ hS; have k5 := f5 _ hS; have z0 := y0 _ hS; have z1 := y1 _ hS)
      | (go_at_call 6; refine (KR.out _ hS).mono ?_; rintro e w2 ⟨A1, c1, rfl, hS⟩; have k0 := f0 _ hS; have k1 := f1 _ hS; have k2 := f2 _ hS; have k3 := f3 _ hS; have k4 := f4 _ hS; have k5 := f5 _ hS; have z0 := y0 _ hS; have z1 := y1 _ hS))
    clear hvc k0 k1 k2 k3 k4 k5 z0 z1
    have HV := Lib.hid hv4
    clear hv4
    have hL12 : L.length ≤ 100 := by rw [HLn.out]; omega
    go_wp2
    go_loopw [9] (fun vi wr => ∃ k : Nat, k ≤ L.length ∧ vi = .int .i64 k ∧ SW w4 wr) (fun vi _ => L.length - (intOf vi).toNat)
    case atStart => exact ⟨0, Nat.zero_le _, rfl, Below.refl _ _⟩
    case round =>
      obtain ⟨k, hk, rfl, hSr⟩ := hrel
      by_cases hlt : k < L.length
      · obtain ⟨y, hy⟩ : ∃ y, L[k]? = some y := ⟨_, List.getElem?_eq_getElem hlt⟩
        obtain ⟨b, o, e1, hbl, hc⟩ := RowL.at8 (HV.out.more hSr) hy
        cases e1
        obtain ⟨d1, d2⟩ := HFin.out k y hy
        have i2 : (k : Int) < (L.length : Int) := by omega
        have g3 := SW.cell (hc 3 _ rfl)
        have g5 := SW.cell (hc 5 _ rfl)
        have g6 := SW.cell (hc 6 _ rfl)
        clear hc hy
        by_cases h0 : k = 0
        · have d3 : decide (0 < k) = false := decide_eq_false (by omega)
          have i1 : ¬ (0 : Int) < (k : Int) := by omega
          clear d2 h0
          go_wp2
          have hNe : Nonempty (Wd (SW wr)) := ⟨⟨_, SW.drew _⟩⟩
          refine quietS (S := SW wr) (by kernel_rfl) (by kernel_rfl) (SW.drew _) ?_
          repeat (first | go_big_quiet_skip | (go_big_quiet_want; go_big_quiet_op; first | go_big_quiet_on | go_big_quiet_call ((fail))))
          refine wpQuiet_nil ?_
          rintro W ⟨⟨_, hW⟩, rfl⟩
          go_wp2
          go_roundw
          case rel => exact ⟨k + 1, by omega, by go_num, Below.trans hSr (Below.mono hW hSr.size)⟩
          case measure => simp [intOf]; omega
        · obtain ⟨z, hz⟩ : ∃ z, L[k - 1]? = some z := ⟨_, List.getElem?_eq_getElem (by omega)⟩
          obtain ⟨b', o', e1, hbl', hcz⟩ := RowL.at8 (HV.out.more hSr) hz
          cases e1
          obtain ⟨d4, d5⟩ := d2 z h0 hz
          have d3 : decide (0 < k) = true := decide_eq_true (by omega)
          have i1 : (0 : Int) < (k : Int) := by omega
          have i3 : ((k : Int) - 1) = ((k - 1 : Nat) : Int) := by omega
          have i4 : ((k - 1 : Nat) : Int) < (L.length : Int) := by omega
          have m4 := SW.cell (hcz 4 _ rfl)
          have m6 := SW.cell (hcz 6 _ rfl)
          clear hcz hz d2 h0
          generalize k - 1 = k1 at *
          go_wp2
          have hNe : Nonempty (Wd (SW wr)) := ⟨⟨_, SW.drew _⟩⟩
          refine quietS (S := SW wr) (by kernel_rfl) (by kernel_rfl) (SW.drew _) ?_
          repeat (first | go_big_quiet_skip | (go_big_quiet_want; go_big_quiet_op; first | go_big_quiet_on | go_big_quiet_call ((fail))))
          refine wpQuiet_nil ?_
          rintro W ⟨⟨_, hW⟩, rfl⟩
          go_wp2
          go_roundw
          case rel => exact ⟨k + 1, by omega, by go_num, Below.trans hSr (Below.mono hW hSr.size)⟩
          case measure => simp [intOf]; omega
      · have i2 : ¬ (k : Int) < (L.length : Int) := by omega
        have hSz : SW w5 wr := Below.trans hS (Below.mono hSr hS.size)
        have k5 := f5 _ hSz
        have i1 : ((L.length : Int) == (f.lg.length : Int)) = true := by rw [HLn.out]; simp
        go_wp2_with (go_at_call 8; refine (KW.out _ hSz).mono ?_; rintro e w9 ⟨rfl, hS⟩)
        go_ret
        exact ⟨rfl, hb0.trans (Below.mono hS hb0.size)⟩

end Go.Proofs.YtfgmlbmjjihhfaaDoor
