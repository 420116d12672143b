/- Words and walks that the laws below ask: CabG, CabH. -/
import Derived.Deep.LoopGhost
import Derived.BigQuiet
import Derived.Deep.CutRange
import Derived.Deep.CutBlock
import Derived.Test.YtjmahmeionakaaaGreatDoorPk7
/- Walk of the reference's cabins. -/
namespace Go.Proofs.YtjmahmeionakaaaGreatDoor
open Go.RowKit Go.Shelf
set_option linter.unusedSimpArgs false
set_option linter.unusedVariables false

theorem S4.heap {w : World} {N : Nat} {t : TypeId} {a0 a1 a2 a3 : Value} (h : w.heap[N]? = some (.cells #[a0, a1, a2, a3] t (0, 0))) (v0 v1 v2 v3 : Value) : ((((w.setCell ⟨N, 0, none⟩ v0).setCell ⟨N, 1, none⟩ v1).setCell ⟨N, 2, none⟩ v2).setCell ⟨N, 3, none⟩ v3).heap[N]? = some (.cells #[v0, v1, v2, v3] t (0, 0)) := by
  have e1 : (w.setCell ⟨N, 0, none⟩ v0).heap[N]? = some (.cells #[v0, a1, a2, a3] t (0, 0)) := heap_setCell_same w N 0 _ t v0 h
  have e2 : ((w.setCell ⟨N, 0, none⟩ v0).setCell ⟨N, 1, none⟩ v1).heap[N]? = some (.cells #[v0, v1, a2, a3] t (0, 0)) := heap_setCell_same _ N 1 _ t v1 e1
  have e3 : (((w.setCell ⟨N, 0, none⟩ v0).setCell ⟨N, 1, none⟩ v1).setCell ⟨N, 2, none⟩ v2).heap[N]? = some (.cells #[v0, v1, v2, a3] t (0, 0)) := heap_setCell_same _ N 2 _ t v2 e2
  exact heap_setCell_same _ N 3 _ t v3 e3
theorem S4.but (w : World) (N : Nat) (v0 v1 v2 v3 : Value) : But w ((((w.setCell ⟨N, 0, none⟩ v0).setCell ⟨N, 1, none⟩ v1).setCell ⟨N, 2, none⟩ v2).setCell ⟨N, 3, none⟩ v3) (fun k => k = N) :=
  (((But.setCell w N 0 v0).trans (But.setCell _ N 1 v1) (fun _ _ h => h)).trans (But.setCell _ N 2 v2) (fun _ _ h => h)).trans (But.setCell _ N 3 v3) (fun _ _ h => h)
set_option maxRecDepth 100000 in
set_option maxHeartbeats 16000000 in
theorem rcabins_any (eq : ByteArray) (A : Option Addr) (c : Nat) (l : List Cb) (p : ByteArray) (w : World) (hv : CbL w (.slice A l.length c) l) (hn : l.length ≤ 8) (hok : ∀ b ∈ l, OkCb b) (hp : 0 < p.size) (hp2 : p.size ≤ 100) :
    Calls Tryz.prog 76 #[.agg #[.string eq, .slice A l.length c], .string p] w fun e w' => ∃ v', e = .returned v' ∧ FOwn w.heap.size w' v' (cabF p l l.length) ∧ Below w.heap.size w w' := by
  have HOK := Lib.hid hok
  have hbA := bel_alloc w (.cells #[.string eq, .slice A l.length c] cfT)
  have q0 := (cells_new w #[.string eq, .slice A l.length c] cfT 0).trans (show _ = some (Value.string eq) from rfl)
  have q1 := (cells_new w #[.string eq, .slice A l.length c] cfT 1).trans (show _ = some (Value.slice A l.length c) from rfl)
  obtain ⟨Z, hZ⟩ : ∃ Z, Z = w.heap.size := ⟨_, rfl⟩
  rw [← hZ] at q0 q1
  have HV := Lib.hid hv
  clear hv hok
  obtain ⟨nl, hnl⟩ : ∃ nl, nl = l.length := ⟨_, rfl⟩
  have HNL := Lib.hid hnl
  go_enter Tryz.func76, Tryz.ntmps76
  go_upto_region 1 with fail
  rw [← hZ]
  have HZ := Lib.hid hZ
  have HB5 := Lib.hid hbA
  generalize w.alloc (.cells #[.string eq, .slice A l.length c] cfT) = w5 at *
  clear hZ hbA hnl
  have HV5 : Hid (∀ W, SW w5 W → CbL W (.slice A l.length c) l) := Lib.hid (fun W h => HV.out.more (HB5.out.trans (Below.mono h HB5.out.size)))
  have Q0 := Lib.hid (fun W (h : SW w5 W) => bel_get q0 _ h)
  have Q1 := Lib.hid (fun W (h : SW w5 W) => bel_get q1 _ h)
  clear q0 q1
  have HI : Hid (FOwn w5.heap.size w5 (.slice none 0 0) (cabF p l 0) ∧ SW w5 w5) := Lib.hid ⟨ROwn.nil (Nat.le_refl _), Below.refl _ _⟩
  go_wp2
  go_loopg [5, 6] l.length (fun kx v5 v6 wr => ∃ (v : Value) (i : Nat), v = v5 ∧ v6 = .int .i64 i ∧ i + kx = l.length ∧ Hid (FOwn w5.heap.size wr v (cabF p l i) ∧ SW w5 wr))
  case atStart => exact ⟨_, 0, rfl, rfl, by omega, HI⟩
  case round =>
    obtain ⟨v, i, rfl, rfl, hkx, HH⟩ := hrel
    clear HI
    have HKX := Lib.hid hkx
    have c1 := Q1.out _ HH.out.2
    by_cases hlt : i < l.length
    · obtain ⟨b, hb⟩ : ∃ b, l[i]? = some b := ⟨_, List.getElem?_eq_getElem hlt⟩
      have HB := Lib.hid hb
      obtain ⟨b1, o1, e1, hb1, hc1⟩ := row_get (HV5.out _ HH.out.2).1 hb
      cases e1
      obtain ⟨bA, hA⟩ : ∃ A, A = b.A := ⟨_, rfl⟩
      have HA := Lib.hid hA
      have d0 := hc1 0 _ rfl
      have d1 := hc1 1 _ rfl
      have d2 := hc1 2 _ rfl
      have d3 := hc1 3 _ rfl
      rw [Nat.add_zero] at d0
      rw [← hA] at d3
      have i1 : (i : Int) < (l.length : Int) := by omega
      have hox := HOK.out b (List.mem_of_getElem? hb)
      have HOX := Lib.hid hox
      have hS5 : SW w5 wr := HH.out.2
      have hvN : ∀ N, wr.heap.size ≤ N → v.ownBlock ≠ some N := fun N hN h => by have := (HH.out.1.low h).2; omega
      have KP := Lib.hid (fun W => rplace_any p cabR i W (by omega) (by decide) hp (by omega))
      rw [cab_path] at KP
      obtain ⟨tw, htw⟩ : ∃ tw : Nat → Bool, tw = fun j => anyS ((l.take j).map Cb.name) b.name := ⟨_, rfl⟩
      have HT : Hid (cabF p l (i + 1) = cabF p l i ++ pick (p ++ cabW ++ decA i) [whC (!codeB b.name 1 8) 5] ++ pick (p ++ cabW ++ decA i) [whC (tw i) 6] ++ pick (p ++ cabW ++ decA i) [whC (!sizB b) 2] ++ pick (p ++ cabW ++ decA i) [whC (badN b.l.length 26) 4] ++ clsF (p ++ cabW ++ decA i) (codesB (l.take i)) b b.l.length) := Lib.hid (by
        rw [htw, cabF_succ p l i b hb, show cabE l i b = [whC (!codeB b.name 1 8) 5, whC (anyS ((l.take i).map Cb.name) b.name) 6, whC (!sizB b) 2, whC (badN b.l.length 26) 4] from rfl]
        simp only [List.append_assoc, ← pick_app, List.cons_append, List.nil_append])
      have HTW : Hid (∀ j (h : j < i), ∃ y, l[j]? = some y ∧ tw (j + 1) = (tw j || (y.name.toList == b.name.toList))) := Lib.hid (fun j h => ⟨l[j]'(by omega), List.getElem?_eq_getElem _, by
        rw [htw]
        show anyS ((l.take (j + 1)).map Cb.name) b.name = _
        rw [map_snoc Cb.name l j _ (List.getElem?_eq_getElem (show j < l.length by omega)), anyS_snoc]⟩)
      have HTW0 : Hid (tw 0 = false) := Lib.hid (by rw [htw]; rfl)
      have KC := Lib.hid (fun W => rcode_any b.name 1 8 W hox.name)
      have KI : Hid (∀ W, Calls Tryz.prog 114 #[.agg #[.string b.name, .int .i64 b.seats, .int .i64 b.over, .slice bA b.l.length b.c]] W fun e w' => e = .returned (.bool (sizB b)) ∧ Below W.heap.size W w') := Lib.hid (fun W => by
        have h1 := inRange_any b W
        dsimp only [aggCb] at h1
        rw [← hA] at h1
        exact h1)
      have hsz : 0 < (p ++ cabW ++ decA i).size ∧ (p ++ cabW ++ decA i).size ≤ 200 := by have := decA_size i (by omega); have e : cabW.size = 7 := rfl; simp only [ByteArray.size_append]; omega
      have HFL : Hid ((cabF p l i).length ≤ 10000) := Lib.hid (by have := cabF_le p l (fun b hb => (HOK.out b hb).len) i; omega)
      have KK : Hid (∀ W, SW w5 W → Calls Tryz.prog 115 #[.agg #[.string eq, .slice (some ⟨b1, o1, none⟩) l.length c], .int .i64 (i : Int), .string (p ++ cabW ++ decA i)] W fun e w' => ∃ v', e = .returned v' ∧ FltL w' v' (clsF (p ++ cabW ++ decA i) (codesB (l.take i)) b b.l.length) ∧ Below W.heap.size W w') := Lib.hid (fun W h => (rclasses_any eq _ c l i b _ W (HV5.out W h) HB.out hn HOK.out hsz.1 hsz.2).mono (by rintro e w' ⟨v', rfl, h1, h2⟩; exact ⟨v', rfl, h1.rowL rtF.len, h2⟩))
      have HCL : Hid ((clsF (p ++ cabW ++ decA i) (codesB (l.take i)) b b.l.length).length ≤ 90) := Lib.hid (by have := clsF_le (p ++ cabW ++ decA i) (codesB (l.take i)) b b.l.length; have := hox.len; omega)
      have HBM : Hid (badN b.l.length 26 = (decide ((b.l.length : Int) < 1) || decide (26 < (b.l.length : Int)))) := Lib.hid rfl
      generalize hBL : cabF p l i = BL at *
      generalize hnm : p ++ cabW ++ decA i = nm at *
      generalize codeB b.name 1 8 = cb at *
      generalize sizB b = sb at *
      generalize badN b.l.length 26 = bm at *
      generalize clsF nm (codesB (l.take i)) b b.l.length = CF at *
      clear hb1 hc1 hb hBL hnm hkx hA hsz hox htw
      have C1 := fun W (h : SW wr W) => bel_get c1 _ h
      have D0 := fun W (h : SW wr W) => bel_get d0 _ h
      have D1 := fun W (h : SW wr W) => bel_get d1 _ h
      have D2 := fun W (h : SW wr W) => bel_get d2 _ h
      have D3 := fun W (h : SW wr W) => bel_get d3 _ h
      have HNX : Hid (i + 1 + (l.length - (i + 1)) = l.length) := Lib.hid (by have := HKX.out; omega)
      go_upto_region 5 with fail
      go_cut [7, 8, 9] from 11 to 86 (fun v7 v8 v9 wx => v7 = .string nm ∧ v9 = .bool false ∧ ∃ N : Nat, v8 = .pointer (some ⟨N, 0, none⟩) ∧ Hid (VarS encCb w5 N b wx v BL))
      case first =>
        clear KC HT KI KK HTW HTW0 HCL HBM HOK
        have hS : (SW wr) _ := SW.drew _
        refine wp_region_held_drew (S := SW wr) (by kernel_rfl) hS (fun _ => ?_)
        refine wpAnyH_take (i := 0) (v := ?vR50) rfl (by kernel_rfl) (by kernel_rfl) (by kernel_rfl) (fun _ _ _ h => h) (Or.inl ⟨by rfl, ?hyR50⟩) hS ?restR50
        case hyR50 =>
          intro w hSw
          first | (go_simp; done) | (go_simp; with_reducible rfl)
        try simp only [Act.put, List.setIfInBounds_toArray, List.set_cons_zero, List.set_cons_succ]
        refine wpAnyH_take (i := 1) (v := ?vR51) rfl (by kernel_rfl) (by kernel_rfl) (by kernel_rfl) (fun _ _ _ h => h) (Or.inl ⟨by rfl, ?hyR51⟩) hS ?restR51
        case hyR51 =>
          intro w hSw
          first | (go_simp; done) | (go_simp; with_reducible rfl)
        try simp only [Act.put, List.setIfInBounds_toArray, List.set_cons_zero, List.set_cons_succ]
        refine wpAnyH_take (i := 3) (v := ?vR53) rfl (by kernel_rfl) (by kernel_rfl) (by kernel_rfl) (fun _ _ _ h => h) (Or.inl ⟨by rfl, ?hyR53⟩) hS ?restR53
        case hyR53 =>
          intro w hSw
          first | (go_simp; done) | (go_simp; with_reducible rfl)
        try simp only [Act.put, List.setIfInBounds_toArray, List.set_cons_zero, List.set_cons_succ]
        refine wpAnyH_take (i := 4) (v := ?vR54) rfl (by kernel_rfl) (by kernel_rfl) (by kernel_rfl) (fun _ _ _ h => h) (Or.inl ⟨by rfl, ?hyR54⟩) hS ?restR54
        case hyR54 =>
          intro w hSw
          have k0 := C1 w hSw; have k1 := D0 w hSw; have k2 := D1 w hSw; have k3 := D2 w hSw; have k4 := D3 w hSw
          first | (go_simp; done) | (go_simp; with_reducible rfl)
        try simp only [Act.put, List.setIfInBounds_toArray, List.set_cons_zero, List.set_cons_succ]
        refine wpAnyH_take (i := 5) (v := ?vR55) rfl (by kernel_rfl) (by kernel_rfl) (by kernel_rfl) (fun _ _ _ h => h) (Or.inl ⟨by rfl, ?hyR55⟩) hS ?restR55
        case hyR55 =>
          intro w hSw
          first | (go_simp; done) | (go_simp; with_reducible rfl)
        try simp only [Act.put, List.setIfInBounds_toArray, List.set_cons_zero, List.set_cons_succ]
        refine wpAnyH_take (i := 6) (v := ?vR56) rfl (by kernel_rfl) (by kernel_rfl) (by kernel_rfl) (fun _ _ _ h => h) (Or.inl ⟨by rfl, ?hyR56⟩) hS ?restR56
        case hyR56 =>
          intro w hSw
          have k0 := C1 w hSw; have k1 := D0 w hSw; have k2 := D1 w hSw; have k3 := D2 w hSw; have k4 := D3 w hSw
          first | (go_simp; done) | (go_simp; with_reducible rfl)
        try simp only [Act.put, List.setIfInBounds_toArray, List.set_cons_zero, List.set_cons_succ]
        refine wpAnyH_take (i := 7) (v := ?vR57) rfl (by kernel_rfl) (by kernel_rfl) (by kernel_rfl) (fun _ _ _ h => h) (Or.inl ⟨by rfl, ?hyR57⟩) hS ?restR57
        case hyR57 =>
          intro w hSw
          have k0 := C1 w hSw; have k1 := D0 w hSw; have k2 := D1 w hSw; have k3 := D2 w hSw; have k4 := D3 w hSw
          first | (go_simp; done) | (go_simp; with_reducible rfl)
        try simp only [Act.put, List.setIfInBounds_toArray, List.set_cons_zero, List.set_cons_succ]
        refine wpAnyH_ready (rs := [2, 8]) (by kernel_rfl) (by simp) ?_
        refine AllReadyH.cons rfl (fun K hK => ?_) (AllReadyH.cons rfl (fun K hK => ?_) AllReadyH.nil)
        · go_simp
          go_wp2_with ((go_at_call 74; refine (KP.out _).mono ?_; rintro e w9 ⟨rfl, hb9⟩; have hS9 : SW wr w9 := Below.trans hS (Below.mono hb9 hS.size); have hS := hS9))
          refine hK.out _ _ hS (fun _ => ?_)
          clear hK K
          refine wpAnyH_ready (rs := [8]) (by kernel_rfl) (by simp) ?_
          refine AllReadyH.cons rfl (fun K hK => ?_) AllReadyH.nil
          go_simp
          have hSp := hS
          have hS := Below.trans hSp (Below.mono (bel_alloc _ (.cells #[.string noB, .int .i64 0, .int .i64 0, .slice none 0 0] cbT)) hSp.size)
          refine hK.out _ _ hS (fun _ => ?_)
          clear hK K
          refine wpAnyH_take (i := 9) (v := ?vR5a9) rfl (by kernel_rfl) (by kernel_rfl) (by kernel_rfl) (fun _ _ _ h => h) (Or.inl ⟨by rfl, ?hyR5a9⟩) hS ?restR5a9
          case hyR5a9 =>
            intro w hSw
            first | (go_simp; done) | (go_simp; with_reducible rfl)
          try simp only [Act.put, List.setIfInBounds_toArray, List.set_cons_zero, List.set_cons_succ]
          refine wpAnyH_ready (rs := [10]) (by kernel_rfl) (by simp) ?_
          refine AllReadyH.cons rfl (fun K hK => ?_) AllReadyH.nil
          go_simp
          have hNg : wr.heap.size ≤ w9.heap.size := hS9.size
          have hS : SW wr (w9.alloc (.cells #[.string b.name, .int .i64 b.seats, .int .i64 b.over, .slice bA b.l.length b.c] cbT)) := Below.trans hS9 (Below.mono (bel_alloc w9 _) hS9.size)
          have hRow := heap_alloc_new w9 (.cells #[.string b.name, .int .i64 b.seats, .int .i64 b.over, .slice bA b.l.length b.c] cbT)
          refine hK.out _ _ hS (fun _ => ?_)
          clear hK K
          refine wpAnyH_take (i := 11) (v := ?vR5a11) rfl (by kernel_rfl) (by kernel_rfl) (by kernel_rfl) (fun _ _ _ h => h) (Or.inl ⟨by rfl, ?hyR5a11⟩) hS ?restR5a11
          case hyR5a11 =>
            intro w hSw
            first | (go_simp; done) | (go_simp; with_reducible rfl)
          try simp only [Act.put, List.setIfInBounds_toArray, List.set_cons_zero, List.set_cons_succ]
          refine wpAnyH_done (by kernel_rfl) ?_ _
          try simp only [List.getElem_toArray, List.getElem_cons_succ, List.getElem_cons_zero, List.set_cons_zero, List.set_cons_succ]
          try simp only [List.setIfInBounds_toArray, List.set_cons_zero, List.set_cons_succ]
          go_wp2_with fail
          go_meet
          exact ⟨rfl, rfl, _, rfl, Lib.hid ⟨HH.out.1.more hS, Below.trans hS5 (Below.mono hS hS5.size), row_cell (enc := encCb) (x := b) hRow (by unfold encCb; rw [← HA.out]), hvN _ hNg, lt_of_cell2 hRow⟩⟩
        · go_simp
          have hSp := hS
          have hN0 := heap_alloc_new wr.drew (.cells #[.string noB, .int .i64 0, .int .i64 0, .slice none 0 0] cbT)
          have hS := Below.trans hSp (Below.mono (bel_alloc _ (.cells #[.string noB, .int .i64 0, .int .i64 0, .slice none 0 0] cbT)) hSp.size)
          refine hK.out _ _ hS (fun _ => ?_)
          clear hK K
          refine wpAnyH_ready (rs := [2]) (by kernel_rfl) (by simp) ?_
          refine AllReadyH.cons rfl (fun K hK => ?_) AllReadyH.nil
          go_simp
          go_wp2_with ((go_at_call 74; refine (KP.out _).mono ?_; rintro e w9 ⟨rfl, hb9⟩; have hS9 : SW wr w9 := Below.trans hS (Below.mono hb9 hS.size); have hS := hS9))
          refine hK.out _ _ hS (fun _ => ?_)
          clear hK K
          refine wpAnyH_take (i := 9) (v := ?vR5b9) rfl (by kernel_rfl) (by kernel_rfl) (by kernel_rfl) (fun _ _ _ h => h) (Or.inl ⟨by rfl, ?hyR5b9⟩) hS ?restR5b9
          case hyR5b9 =>
            intro w hSw
            first | (go_simp; done) | (go_simp; with_reducible rfl)
          try simp only [Act.put, List.setIfInBounds_toArray, List.set_cons_zero, List.set_cons_succ]
          refine wpAnyH_ready (rs := [10]) (by kernel_rfl) (by simp) ?_
          refine AllReadyH.cons rfl (fun K hK => ?_) AllReadyH.nil
          have hN : w9.heap[wr.heap.size]? = some (.cells #[.string noB, .int .i64 0, .int .i64 0, .slice none 0 0] cbT (0, 0)) := (hb9.block _ (lt_of_cell2 hN0)).trans hN0
          have n0 := (cell_of_row _ _ 0 _ _ (0, 0) hN).trans (show _ = some _ from rfl)
          have n1 := (cell_of_row _ _ 1 _ _ (0, 0) hN).trans (show _ = some _ from rfl)
          have n2 := (cell_of_row _ _ 2 _ _ (0, 0) hN).trans (show _ = some _ from rfl)
          have n3 := (cell_of_row _ _ 3 _ _ (0, 0) hN).trans (show _ = some _ from rfl)
          have z0 := frozen_of_row _ _ 0 _ _ hN
          have z1 := frozen_of_row _ _ 1 _ _ hN
          have z2 := frozen_of_row _ _ 2 _ _ hN
          have z3 := frozen_of_row _ _ 3 _ _ hN
          go_simp
          have hNg : wr.heap.size ≤ wr.heap.size := Nat.le_refl _
          have hS : SW wr ((((w9.setCell ⟨wr.heap.size, 0, none⟩ (.string b.name)).setCell ⟨wr.heap.size, 1, none⟩ (.int .i64 b.seats)).setCell ⟨wr.heap.size, 2, none⟩ (.int .i64 b.over)).setCell ⟨wr.heap.size, 3, none⟩ (.slice bA b.l.length b.c)) := Below.trans hS9 ((S4.but w9 wr.heap.size (.string b.name) (.int .i64 b.seats) (.int .i64 b.over) (.slice bA b.l.length b.c)).below hS9.size (fun q hq he => by have : q = wr.heap.size := he; omega))
          have hRow := S4.heap hN (.string b.name) (.int .i64 b.seats) (.int .i64 b.over) (.slice bA b.l.length b.c)
          refine hK.out _ _ hS (fun _ => ?_)
          clear hK K
          refine wpAnyH_take (i := 11) (v := ?vR5b11) rfl (by kernel_rfl) (by kernel_rfl) (by kernel_rfl) (fun _ _ _ h => h) (Or.inl ⟨by rfl, ?hyR5b11⟩) hS ?restR5b11
          case hyR5b11 =>
            intro w hSw
            first | (go_simp; done) | (go_simp; with_reducible rfl)
          try simp only [Act.put, List.setIfInBounds_toArray, List.set_cons_zero, List.set_cons_succ]
          refine wpAnyH_done (by kernel_rfl) ?_ _
          try simp only [List.getElem_toArray, List.getElem_cons_succ, List.getElem_cons_zero, List.set_cons_zero, List.set_cons_succ]
          try simp only [List.setIfInBounds_toArray, List.set_cons_zero, List.set_cons_succ]
          go_wp2_with fail
          go_meet
          exact ⟨rfl, rfl, _, rfl, Lib.hid ⟨HH.out.1.more hS, Below.trans hS5 (Below.mono hS hS5.size), row_cell (enc := encCb) (x := b) hRow (by unfold encCb; rw [← HA.out]), hvN _ hNg, lt_of_cell2 hRow⟩⟩

      case rest =>
        obtain ⟨rfl, rfl, N, rfl, HVS⟩ := hcut
        clear C1 D0 D1 D2 D3 c1 d0 d1 d2 d3 KP hvN
        obtain ⟨wa, hwa⟩ : ∃ wa, wa = wc := ⟨_, rfl⟩
        subst hwa
        have NM : Hid (∀ W, SW wa W → W.cell? ⟨N, 0, none⟩ = some (.string b.name)) := Lib.hid (fun W h => bel_cell h (HVS.out.el 0 _ rfl))
        have HSA : Hid (SW w5 wa) := Lib.hid HVS.out.sw
        go_upto_region 7 with fail
        go_loopg [9, 10] i (fun kx v9 v10 wq => ∃ (j : Nat), j + kx = i ∧ v10 = .int .i64 j ∧ v9 = .bool (tw j) ∧ SW wa wq)
        case atStart => exact ⟨0, by omega, rfl, by rw [HTW0.out], Below.refl _ _⟩
        case round =>
          obtain ⟨j, hjx, rfl, rfl, hS⟩ := hrel
          by_cases hlt2 : j < i
          · obtain ⟨y, hjc, hty⟩ := HTW.out j hlt2
            have hSq5 : SW w5 _ := Below.trans HSA.out (Below.mono hS HSA.out.size)
            have k0 := NM.out _ hS
            have c1 := Q1.out _ hSq5
            obtain ⟨b2, o2, e2, hbl2, hc2⟩ := row_get (HV5.out _ hSq5).1 hjc
            cases e2
            have d0 := hc2 0 _ rfl
            rw [Nat.add_zero] at d0
            have i4 : (j : Int) < (i : Int) := by omega
            have i5 : (j : Int) < (l.length : Int) := by omega
            have HTY := Lib.hid hty
            have HJX := Lib.hid hjx
            generalize tw j = tj at *
            clear hjc hty hc2 hjx hbl2 HTW HTW0 HT HFL HVS HV5 hSq5
            cases tj with
            | true =>
              go_wp2
              go_quiet (fail)
              go_wp2
              go_roundg (i - (j + 1))
              case measure => have := HJX.out; omega
              case rel => exact ⟨j + 1, by have := HJX.out; omega, by go_num, by rw [HTY.out]; rfl, below_drewN hS _⟩
            | false =>
            cases e1 : (y.name.toList == b.name.toList) with
            | false =>
              go_wp2
              go_quiet (fail)
              go_wp2
              go_roundg (i - (j + 1))
              case measure => have := HJX.out; omega
              case rel => exact ⟨j + 1, by have := HJX.out; omega, by go_num, by rw [HTY.out, e1]; rfl, below_drewN hS _⟩
            | true =>
              go_wp2
              go_quiet (fail)
              go_wp2
              go_roundg (i - (j + 1))
              case measure => have := HJX.out; omega
              case rel => exact ⟨j + 1, by have := HJX.out; omega, by go_num, by rw [HTY.out, e1]; rfl, below_drewN hS _⟩
          · have hij : i = j := by omega
            subst hij
            have HVS : Hid (VarS encCb w5 N b _ _ BL) := Lib.hid (HVS.out.more hS)
            clear hS hjx hlt2 HTW HTW0 NM HSA
            have n0 := HVS.out.el 0 _ rfl
            generalize tw i = twi at *
            have i4 : ¬ (i : Int) < (i : Int) := by omega
            go_upto_if 46 with (go_at_call 75; refine (KC.out _).mono ?_; rintro e w' ⟨rfl, rfl⟩)
            go_cut [5] from 11 to 86 (fun u wx => Hid (VarS encCb w5 N b wx u (BL ++ pick nm [whC (!cb) 5])))
            case first =>
              have HLn : Hid ((BL).length ≤ 100000000) := Lib.hid (by have := HFL.out; omega)
              clear HT KK HV5 HCL HBM HH n0
              cases cb with
              | true =>
                go_wp2
                go_meet
                exact Lib.hid (by rw [pick_wh nm _ 5 (by omega)]; simpa using HVS.out)
              | false =>
                go_wp2_with (at_builtin; refine wpList_rapp rtF rfl _ _ rfl HVS.out.own rfl (bel_alloc _ _) _ (5, nm) _ rfl (cs := #[.int .i64 5, .string nm]) rfl (heap_alloc_new _ _) HLn.out ?_; intro v1 w1 hO1 hC1)
                go_meet
                exact Lib.hid (by rw [pick_wh nm _ 5 (by omega)]; exact HVS.out.app hO1 hC1)
            case rest =>
              have HVS := hcut
              clear hcut n0 KC
              obtain ⟨wb, hwq⟩ : ∃ wq, wq = wc := ⟨_, rfl⟩
              subst hwq
              go_upto_if 52 with fail
              go_cut [5] from 11 to 86 (fun u wx => Hid (VarS encCb w5 N b wx u (BL ++ pick nm [whC (!cb) 5] ++ pick nm [whC twi 6])))
              case first =>
                have HLn : Hid ((BL ++ pick nm [whC (!cb) 5]).length ≤ 100000000) := Lib.hid (by have := HFL.out; have h0 := pick_le nm [whC (!cb) 5]; simp only [List.length_append, List.length_cons, List.length_nil] at h0 ⊢; omega)
                clear HT KK HV5 HCL HBM HH
                cases twi with
                | false =>
                  go_wp2
                  go_meet
                  exact Lib.hid (by rw [pick_wh nm _ 6 (by omega)]; simpa using HVS.out)
                | true =>
                  go_wp2_with (at_builtin; refine wpList_rapp rtF rfl _ _ rfl HVS.out.own rfl (bel_alloc _ _) _ (6, nm) _ rfl (cs := #[.int .i64 6, .string nm]) rfl (heap_alloc_new _ _) HLn.out ?_; intro v1 w1 hO1 hC1)
                  go_meet
                  exact Lib.hid (by rw [pick_wh nm _ 6 (by omega)]; exact HVS.out.app hO1 hC1)
              case rest =>
                have HVS := hcut
                clear hcut
                obtain ⟨wb2, hwq⟩ : ∃ wq, wq = wc := ⟨_, rfl⟩
                subst hwq
                have n0 := HVS.out.el 0 _ rfl
                have n1 := HVS.out.el 1 _ rfl
                have n2 := HVS.out.el 2 _ rfl
                have n3 := HVS.out.el 3 _ rfl
                rw [← HA.out] at n3
                go_upto_if 60 with (go_at_call 114; refine (KI.out _).mono ?_; rintro e wd ⟨rfl, hbd⟩)
                have HVS : Hid (VarS encCb w5 N b wd _ _) := Lib.hid (HVS.out.more hbd)
                clear hbd KI n0 n1 n2 n3
                go_cut [5] from 11 to 86 (fun u wx => Hid (VarS encCb w5 N b wx u (BL ++ pick nm [whC (!cb) 5] ++ pick nm [whC twi 6] ++ pick nm [whC (!sb) 2])))
                case first =>
                  have HLn : Hid ((BL ++ pick nm [whC (!cb) 5] ++ pick nm [whC twi 6]).length ≤ 100000000) := Lib.hid (by have := HFL.out; have h0 := pick_le nm [whC (!cb) 5]; have h1 := pick_le nm [whC twi 6]; simp only [List.length_append, List.length_cons, List.length_nil] at h0 h1 ⊢; omega)
                  clear HT KK HV5 HCL HBM HH
                  cases sb with
                  | true =>
                    go_wp2
                    go_meet
                    exact Lib.hid (by rw [pick_wh nm _ 2 (by omega)]; simpa using HVS.out)
                  | false =>
                    go_wp2_with (at_builtin; refine wpList_rapp rtF rfl _ _ rfl HVS.out.own rfl (bel_alloc _ _) _ (2, nm) _ rfl (cs := #[.int .i64 2, .string nm]) rfl (heap_alloc_new _ _) HLn.out ?_; intro v1 w1 hO1 hC1)
                    go_meet
                    exact Lib.hid (by rw [pick_wh nm _ 2 (by omega)]; exact HVS.out.app hO1 hC1)
                case rest =>
                  have HVS := hcut
                  clear hcut
                  obtain ⟨we, hwq⟩ : ∃ wq, wq = wc := ⟨_, rfl⟩
                  subst hwq
                  have n3 := HVS.out.el 3 _ rfl
                  go_upto_region 16 with fail
                  go_cut [75] from 11 to 86 (fun v75 wx => v75 = .bool bm ∧ wx = we)
                  case first =>
                    clear HVS HT KK HV5 HCL HH
                    cases h0 : decide ((b.l.length : Int) < 1) with
                    | true =>
                      have h0' : (b.l.length : Int) < 1 := of_decide_eq_true h0
                      have HB9 : Hid (true = bm) := Lib.hid (by rw [HBM.out, h0]; rfl)
                      go_wp2
                      go_meet
                      exact ⟨by rw [HB9.out], rfl⟩
                    | false =>
                      have h0' : ¬ (b.l.length : Int) < 1 := of_decide_eq_false h0
                      cases h9 : decide (26 < (b.l.length : Int)) with
                      | true =>
                        have h9' : 26 < (b.l.length : Int) := of_decide_eq_true h9
                        have HB9 : Hid (true = bm) := Lib.hid (by rw [HBM.out, h9, Bool.or_true])
                        go_wp2
                        go_meet
                        exact ⟨by rw [HB9.out], rfl⟩
                      | false =>
                        have h9' : ¬ 26 < (b.l.length : Int) := of_decide_eq_false h9
                        have HB9 : Hid (false = bm) := Lib.hid (by rw [HBM.out, h0, h9]; rfl)
                        go_wp2
                        go_meet
                        exact ⟨by rw [HB9.out], rfl⟩
                  case rest =>
                    obtain ⟨rfl, hwc⟩ := hcut
                    have hwc := hwc.symm
                    subst hwc
                    clear n3 HBM
                    go_upto_if 75 with fail
                    go_cut [5] from 11 to 86 (fun u wx => Hid (VarS encCb w5 N b wx u (BL ++ pick nm [whC (!cb) 5] ++ pick nm [whC twi 6] ++ pick nm [whC (!sb) 2] ++ pick nm [whC bm 4])))
                    case first =>
                      have HLn : Hid ((BL ++ pick nm [whC (!cb) 5] ++ pick nm [whC twi 6] ++ pick nm [whC (!sb) 2]).length ≤ 100000000) := Lib.hid (by have := HFL.out; have h0 := pick_le nm [whC (!cb) 5]; have h1 := pick_le nm [whC twi 6]; have h2 := pick_le nm [whC (!sb) 2]; simp only [List.length_append, List.length_cons, List.length_nil] at h0 h1 h2 ⊢; omega)
                      clear HT KK HV5 HCL HH
                      cases bm with
                      | false =>
                        go_wp2
                        go_meet
                        exact Lib.hid (by rw [pick_wh nm _ 4 (by omega)]; simpa using HVS.out)
                      | true =>
                        go_wp2_with (at_builtin; refine wpList_rapp rtF rfl _ _ rfl HVS.out.own rfl (bel_alloc _ _) _ (4, nm) _ rfl (cs := #[.int .i64 4, .string nm]) rfl (heap_alloc_new _ _) HLn.out ?_; intro v1 w1 hO1 hC1)
                        go_meet
                        exact Lib.hid (by rw [pick_wh nm _ 4 (by omega)]; exact HVS.out.app hO1 hC1)
                    case rest =>
                      have HVS := hcut
                      clear hcut
                      obtain ⟨wf, hwq⟩ : ∃ wq, wq = wc := ⟨_, rfl⟩
                      subst hwq
                      have q0 := Q0.out _ HVS.out.sw
                      have q1 := Q1.out _ HVS.out.sw
                      have HLm : Hid ((BL ++ pick nm [whC (!cb) 5] ++ pick nm [whC twi 6] ++ pick nm [whC (!sb) 2] ++ pick nm [whC bm 4]).length + CF.length ≤ 100000000) := Lib.hid (by have := HFL.out; have := HCL.out; have h0 := pick_le nm [whC (!cb) 5]; have h1 := pick_le nm [whC twi 6]; have h2 := pick_le nm [whC (!sb) 2]; have h3 := pick_le nm [whC bm 4]; simp only [List.length_append, List.length_cons, List.length_nil] at h0 h1 h2 h3 ⊢; omega)
                      go_wp2_with (first | (go_at_call 115; refine (KK.out _ HVS.out.sw).mono ?_; rintro e w10 ⟨v10, rfl, hF10, hB10⟩) | (at_builtin; refine wpList_rappl rtF rfl _ _ rfl (HVS.out.own.more hB10) rfl _ _ rfl hF10 HLm.out ?_; intro v11 w11 hO11 hC11; refine Hid.out ?_))
                      have HY : Hid (FOwn w5.heap.size w11 v11 (cabF p l (i + 1)) ∧ SW w5 w11) := Lib.hid (by rw [HT.out]; exact ⟨hO11, ((HVS.out.more hB10).app hO11 hC11).sw⟩)
                      clear HVS hO11 hC11 hB10 hF10 q0 q1
                      refine Lib.hid ?_
                      go_wp2
                      go_roundg (l.length - (i + 1))
                      case measure => have := HKX.out; omega
                      case rel => exact ⟨_, i + 1, rfl, by go_num, HNX.out, HY⟩
    · have HE : Hid (i = l.length) := Lib.hid (by omega)
      have HR : Hid (FOwn w.heap.size wr v (cabF p l l.length) ∧ Below w.heap.size w wr) := Lib.hid (by
        have h := HH.out
        rw [HE.out] at h
        exact ⟨⟨h.1.own.mono HB5.out.size, Nat.le_trans HB5.out.size h.2.size⟩, HB5.out.trans (Below.mono h.2 HB5.out.size)⟩)
      have i2 : ¬ (i : Int) < (l.length : Int) := by omega
      clear HH
      go_wp2
      go_ret
      exact ⟨_, rfl, HR.out⟩
end Go.Proofs.YtjmahmeionakaaaGreatDoor

/- Walk of the reference's Check of configurations. -/
namespace Go.Proofs.YtjmahmeionakaaaGreatDoor
open Go.RowKit Go.Shelf
set_option linter.unusedSimpArgs false
set_option linter.unusedVariables false

set_option maxRecDepth 100000 in
set_option maxHeartbeats 16000000 in
theorem rcheck_any (A : Option Addr) (c : Nat) (l : List Cf) (w : World) (hv : CfL w (.slice A l.length c) l) (hn : l.length ≤ 8) (hok : ∀ f ∈ l, OkCf f) :
    Calls Tryz.prog 33 #[.slice A l.length c] w fun e w' => ∃ v', e = .returned v' ∧ FOwn w.heap.size w' v' (conF l l.length) ∧ Below w.heap.size w w' := by
  have HOK := Lib.hid hok
  have HV := Lib.hid hv
  clear hv hok
  have HV5 : Hid (∀ W, SW w W → CfL W (.slice A l.length c) l) := Lib.hid (fun W h => HV.out.more h)
  have HI : Hid (FOwn w.heap.size w (.slice none 0 0) (conF l 0) ∧ SW w w) := Lib.hid ⟨ROwn.nil (Nat.le_refl _), Below.refl _ _⟩
  go_enter Tryz.func33, Tryz.ntmps33
  go_wp2
  go_loopg [3, 4] l.length (fun kx v3 v4 wr => ∃ (v : Value) (i : Nat), v = v3 ∧ v4 = .int .i64 i ∧ i + kx = l.length ∧ Hid (FOwn w.heap.size wr v (conF l i) ∧ SW w wr))
  case atStart => exact ⟨_, 0, rfl, rfl, by omega, HI⟩
  case round =>
    obtain ⟨v, i, rfl, rfl, hkx, HH⟩ := hrel
    clear HI
    have HKX := Lib.hid hkx
    by_cases hlt : i < l.length
    · obtain ⟨f, hf⟩ : ∃ f, l[i]? = some f := ⟨_, List.getElem?_eq_getElem hlt⟩
      have HF := Lib.hid hf
      obtain ⟨b1, o1, e1, hb1, hc1⟩ := row_get (HV5.out _ HH.out.2).1 hf
      cases e1
      obtain ⟨fA, hA⟩ : ∃ A, A = f.A := ⟨_, rfl⟩
      have HA := Lib.hid hA
      have i1 : (i : Int) < (l.length : Int) := by omega
      have hox := HOK.out f (List.mem_of_getElem? hf)
      have HOX := Lib.hid hox
      have KP := Lib.hid (fun W => rplace0_any conR i W (by omega) (by decide))
      rw [con_path] at KP
      obtain ⟨tw, htw⟩ : ∃ tw : Nat → Bool, tw = fun j => anyS ((l.take j).map Cf.equip) f.equip := ⟨_, rfl⟩
      have HT : Hid (conF l (i + 1) = conF l i ++ pick (conW ++ decA i) [whC (!codeB f.equip 3 3) 5] ++ pick (conW ++ decA i) [whC (tw i) 6] ++ pick (conW ++ decA i) [whC (badN f.l.length 4) 4] ++ cabF (conW ++ decA i) f.l f.l.length) := Lib.hid (by
        rw [htw, conF_succ l i f hf, show conE l i f = [whC (!codeB f.equip 3 3) 5, whC (anyS ((l.take i).map Cf.equip) f.equip) 6, whC (badN f.l.length 4) 4] from rfl]
        simp only [List.append_assoc, ← pick_app, List.cons_append, List.nil_append])
      have HTW : Hid (∀ j (h : j < i), ∃ y, l[j]? = some y ∧ tw (j + 1) = (tw j || (y.equip.toList == f.equip.toList))) := Lib.hid (fun j h => ⟨l[j]'(by omega), List.getElem?_eq_getElem _, by
        rw [htw]
        show anyS ((l.take (j + 1)).map Cf.equip) f.equip = _
        rw [map_snoc Cf.equip l j _ (List.getElem?_eq_getElem (show j < l.length by omega)), anyS_snoc]⟩)
      have HTW0 : Hid (tw 0 = false) := Lib.hid (by rw [htw]; rfl)
      have KC := Lib.hid (fun W => rcode_any f.equip 3 3 W hox.equip)
      have hsz : 0 < (conW ++ decA i).size ∧ (conW ++ decA i).size ≤ 100 := by have := decA_size i (by omega); have e : conW.size = 7 := rfl; simp only [ByteArray.size_append]; omega
      have HFL : Hid ((conF l i).length ≤ 10000) := Lib.hid (by have := conF_le l HOK.out i; omega)
      have KK : Hid (∀ W, SW w W → Calls Tryz.prog 76 #[.agg #[.string f.equip, .slice fA f.l.length f.c], .string (conW ++ decA i)] W fun e w' => ∃ v', e = .returned v' ∧ FltL w' v' (cabF (conW ++ decA i) f.l f.l.length) ∧ Below W.heap.size W w') := Lib.hid (fun W h => by
        have h1 := rcabins_any f.equip f.A f.c f.l (conW ++ decA i) W ((HV5.out W h).2 f (List.mem_of_getElem? HF.out)) hox.len hox.cab hsz.1 hsz.2
        rw [← HA.out] at h1
        exact h1.mono (by rintro e w' ⟨v', rfl, h1, h2⟩; exact ⟨v', rfl, h1.rowL rtF.len, h2⟩))
      have HCL : Hid ((cabF (conW ++ decA i) f.l f.l.length).length ≤ 1000) := Lib.hid (by have := cabF_le (conW ++ decA i) f.l (fun b hb => (hox.cab b hb).len) f.l.length; have := hox.len; omega)
      have HBM : Hid (badN f.l.length 4 = (decide ((f.l.length : Int) < 1) || decide (4 < (f.l.length : Int)))) := Lib.hid rfl
      have E0 : Hid (∀ W, SW w W → W.cell? ⟨b1, o1 + i * 2, none⟩ = some (.string f.equip) ∧ W.cell? ⟨b1, o1 + i * 2 + 1, none⟩ = some (.slice fA f.l.length f.c)) := Lib.hid (fun W h => by
        obtain ⟨b2, o2, e2, hb2, hc2⟩ := row_get (HV5.out W h).1 HF.out
        cases e2
        have h0 := hc2 0 _ rfl
        have h1 := hc2 1 _ rfl
        rw [← hA] at h1
        rw [Nat.add_zero] at h0
        exact ⟨h0, h1⟩)
      generalize hBL : conF l i = BL at *
      generalize hnm : conW ++ decA i = nm at *
      generalize codeB f.equip 3 3 = cb at *
      generalize badN f.l.length 4 = bm at *
      generalize cabF nm f.l f.l.length = CF at *
      clear hb1 hc1 hf hBL hnm hkx hA hsz hox htw
      have HNX : Hid (i + 1 + (l.length - (i + 1)) = l.length) := Lib.hid (by have := HKX.out; omega)
      have HVS : Hid (FOwn w.heap.size wr v BL ∧ SW w wr) := HH
      go_upto_region 7 with (go_at_call 74; refine (KP.out _).mono ?_; rintro e wa ⟨rfl, hba⟩)
      have HVS : Hid (FOwn w.heap.size wa v BL ∧ SW w wa) := Lib.hid ⟨HVS.out.1.more hba, Below.trans HVS.out.2 (Below.mono hba HVS.out.2.size)⟩
      clear hba KP
      have HSA : Hid (SW w wa) := Lib.hid HVS.out.2
      go_loopg [6, 7] i (fun kx v6 v7 wq => ∃ (j : Nat), j + kx = i ∧ v7 = .int .i64 j ∧ v6 = .bool (tw j) ∧ SW wa wq)
      case atStart => exact ⟨0, by omega, rfl, by rw [HTW0.out], Below.refl _ _⟩
      case round =>
        obtain ⟨j, hjx, rfl, rfl, hS⟩ := hrel
        by_cases hlt2 : j < i
        · obtain ⟨y, hjc, hty⟩ := HTW.out j hlt2
          have hSq5 : SW w _ := Below.trans HSA.out (Below.mono hS HSA.out.size)
          have k0 := (E0.out _ hSq5).1
          obtain ⟨b2, o2, e2, hbl2, hc2⟩ := row_get (HV5.out _ hSq5).1 hjc
          cases e2
          have d0 := hc2 0 _ rfl
          rw [Nat.add_zero] at d0
          have i4 : (j : Int) < (i : Int) := by omega
          have i5 : (j : Int) < (l.length : Int) := by omega
          have HTY := Lib.hid hty
          have HJX := Lib.hid hjx
          generalize tw j = tj at *
          clear hjc hty hc2 hjx hbl2 HTW HTW0 HT HFL HVS HV5 hSq5 KK
          cases tj with
          | true =>
            go_wp2
            go_quiet (fail)
            go_wp2
            go_roundg (i - (j + 1))
            case measure => have := HJX.out; omega
            case rel => exact ⟨j + 1, by have := HJX.out; omega, by go_num, by rw [HTY.out]; rfl, below_drewN hS _⟩
          | false =>
          cases e1 : (y.equip.toList == f.equip.toList) with
          | false =>
            go_wp2
            go_quiet (fail)
            go_wp2
            go_roundg (i - (j + 1))
            case measure => have := HJX.out; omega
            case rel => exact ⟨j + 1, by have := HJX.out; omega, by go_num, by rw [HTY.out, e1]; rfl, below_drewN hS _⟩
          | true =>
            go_wp2
            go_quiet (fail)
            go_wp2
            go_roundg (i - (j + 1))
            case measure => have := HJX.out; omega
            case rel => exact ⟨j + 1, by have := HJX.out; omega, by go_num, by rw [HTY.out, e1]; rfl, below_drewN hS _⟩
        · have hij : i = j := by omega
          subst hij
          have HVS : Hid (FOwn w.heap.size _ v BL ∧ SW w _) := Lib.hid ⟨HVS.out.1.more hS, Below.trans HVS.out.2 (Below.mono hS HVS.out.2.size)⟩
          clear hS hjx hlt2 HTW HTW0 HSA
          obtain ⟨n0, n1⟩ := E0.out _ HVS.out.2
          generalize tw i = twi at *
          have i4 : ¬ (i : Int) < (i : Int) := by omega
          go_upto_if 41 with (go_at_call 75; refine (KC.out _).mono ?_; rintro e w' ⟨rfl, rfl⟩)
          go_cut [3] from 8 to 81 (fun u wx => Hid (FOwn w.heap.size wx u (BL ++ pick nm [whC (!cb) 5]) ∧ SW w wx))
          case first =>
            have HLn : Hid ((BL).length ≤ 100000000) := Lib.hid (by have := HFL.out; omega)
            clear HT KK HV5 HCL HBM HH n0 n1
            cases cb with
            | true =>
              go_wp2
              go_meet
              exact Lib.hid (by rw [pick_wh nm _ 5 (by omega)]; simpa using HVS.out)
            | false =>
              go_wp2_with (at_builtin; refine wpList_rapp rtF rfl _ _ rfl HVS.out.1 rfl (bel_alloc _ _) _ (5, nm) _ rfl (cs := #[.int .i64 5, .string nm]) rfl (heap_alloc_new _ _) HLn.out ?_; intro v1 w1 hO1 hC1)
              go_meet
              exact Lib.hid (by rw [pick_wh nm _ 5 (by omega)]; exact ⟨hO1, Below.trans HVS.out.2 (hC1.below (B := w.heap.size) HVS.out.1)⟩)
          case rest =>
            have HVS := hcut
            clear hcut n0 n1 KC
            obtain ⟨wb, hwq⟩ : ∃ wq, wq = wc := ⟨_, rfl⟩
            subst hwq
            go_upto_if 47 with fail
            go_cut [3] from 8 to 81 (fun u wx => Hid (FOwn w.heap.size wx u (BL ++ pick nm [whC (!cb) 5] ++ pick nm [whC twi 6]) ∧ SW w wx))
            case first =>
              have HLn : Hid ((BL ++ pick nm [whC (!cb) 5]).length ≤ 100000000) := Lib.hid (by have := HFL.out; have h0 := pick_le nm [whC (!cb) 5]; simp only [List.length_append, List.length_cons, List.length_nil] at h0 ⊢; omega)
              clear HT KK HV5 HCL HBM HH
              cases twi with
              | false =>
                go_wp2
                go_meet
                exact Lib.hid (by rw [pick_wh nm _ 6 (by omega)]; simpa using HVS.out)
              | true =>
                go_wp2_with (at_builtin; refine wpList_rapp rtF rfl _ _ rfl HVS.out.1 rfl (bel_alloc _ _) _ (6, nm) _ rfl (cs := #[.int .i64 6, .string nm]) rfl (heap_alloc_new _ _) HLn.out ?_; intro v1 w1 hO1 hC1)
                go_meet
                exact Lib.hid (by rw [pick_wh nm _ 6 (by omega)]; exact ⟨hO1, Below.trans HVS.out.2 (hC1.below (B := w.heap.size) HVS.out.1)⟩)
            case rest =>
              have HVS := hcut
              clear hcut
              obtain ⟨we, hwq⟩ : ∃ wq, wq = wc := ⟨_, rfl⟩
              subst hwq
              obtain ⟨n0, n1⟩ := E0.out _ HVS.out.2
              go_upto_region 14 with fail
              go_cut [68] from 8 to 81 (fun v68 wx => v68 = .bool bm ∧ wx = we)
              case first =>
                clear HVS HT KK HV5 HCL HH
                cases h0 : decide ((f.l.length : Int) < 1) with
                | true =>
                  have h0' : (f.l.length : Int) < 1 := of_decide_eq_true h0
                  have HB9 : Hid (true = bm) := Lib.hid (by rw [HBM.out, h0]; rfl)
                  go_wp2
                  go_meet
                  exact ⟨by rw [HB9.out], rfl⟩
                | false =>
                  have h0' : ¬ (f.l.length : Int) < 1 := of_decide_eq_false h0
                  cases h9 : decide (4 < (f.l.length : Int)) with
                  | true =>
                    have h9' : 4 < (f.l.length : Int) := of_decide_eq_true h9
                    have HB9 : Hid (true = bm) := Lib.hid (by rw [HBM.out, h9, Bool.or_true])
                    go_wp2
                    go_meet
                    exact ⟨by rw [HB9.out], rfl⟩
                  | false =>
                    have h9' : ¬ 4 < (f.l.length : Int) := of_decide_eq_false h9
                    have HB9 : Hid (false = bm) := Lib.hid (by rw [HBM.out, h0, h9]; rfl)
                    go_wp2
                    go_meet
                    exact ⟨by rw [HB9.out], rfl⟩
              case rest =>
                obtain ⟨rfl, hwc⟩ := hcut
                have hwc := hwc.symm
                subst hwc
                clear n0 n1 HBM
                go_upto_if 68 with fail
                go_cut [3] from 8 to 81 (fun u wx => Hid (FOwn w.heap.size wx u (BL ++ pick nm [whC (!cb) 5] ++ pick nm [whC twi 6] ++ pick nm [whC bm 4]) ∧ SW w wx))
                case first =>
                  have HLn : Hid ((BL ++ pick nm [whC (!cb) 5] ++ pick nm [whC twi 6]).length ≤ 100000000) := Lib.hid (by have := HFL.out; have h0 := pick_le nm [whC (!cb) 5]; have h1 := pick_le nm [whC twi 6]; simp only [List.length_append, List.length_cons, List.length_nil] at h0 h1 ⊢; omega)
                  clear HT KK HV5 HCL HH
                  cases bm with
                  | false =>
                    go_wp2
                    go_meet
                    exact Lib.hid (by rw [pick_wh nm _ 4 (by omega)]; simpa using HVS.out)
                  | true =>
                    go_wp2_with (at_builtin; refine wpList_rapp rtF rfl _ _ rfl HVS.out.1 rfl (bel_alloc _ _) _ (4, nm) _ rfl (cs := #[.int .i64 4, .string nm]) rfl (heap_alloc_new _ _) HLn.out ?_; intro v1 w1 hO1 hC1)
                    go_meet
                    exact Lib.hid (by rw [pick_wh nm _ 4 (by omega)]; exact ⟨hO1, Below.trans HVS.out.2 (hC1.below (B := w.heap.size) HVS.out.1)⟩)
                case rest =>
                  have HVS := hcut
                  clear hcut
                  obtain ⟨wf, hwq⟩ : ∃ wq, wq = wc := ⟨_, rfl⟩
                  subst hwq
                  obtain ⟨n0, n1⟩ := E0.out _ HVS.out.2
                  have HLm : Hid ((BL ++ pick nm [whC (!cb) 5] ++ pick nm [whC twi 6] ++ pick nm [whC bm 4]).length + CF.length ≤ 100000000) := Lib.hid (by have := HFL.out; have := HCL.out; have h0 := pick_le nm [whC (!cb) 5]; have h1 := pick_le nm [whC twi 6]; have h2 := pick_le nm [whC bm 4]; simp only [List.length_append, List.length_cons, List.length_nil] at h0 h1 h2 ⊢; omega)
                  go_wp2_with (first | (go_at_call 76; refine (KK.out _ HVS.out.2).mono ?_; rintro e w10 ⟨v10, rfl, hF10, hB10⟩) | (at_builtin; refine wpList_rappl rtF rfl _ _ rfl (HVS.out.1.more hB10) rfl _ _ rfl hF10 HLm.out ?_; intro v11 w11 hO11 hC11; refine Hid.out ?_))
                  have HY : Hid (FOwn w.heap.size w11 v11 (conF l (i + 1)) ∧ SW w w11) := Lib.hid (by rw [HT.out]; exact ⟨hO11, Below.trans (Below.trans HVS.out.2 (Below.mono hB10 HVS.out.2.size)) (hC11.below (B := w.heap.size) (HVS.out.1.more hB10))⟩)
                  clear HVS hO11 hC11 hB10 hF10 n0 n1
                  refine Lib.hid ?_
                  go_wp2
                  go_roundg (l.length - (i + 1))
                  case measure => have := HKX.out; omega
                  case rel => exact ⟨_, i + 1, rfl, by go_num, HNX.out, HY⟩
    · have HE : Hid (i = l.length) := Lib.hid (by omega)
      have HR : Hid (FOwn w.heap.size wr v (conF l l.length) ∧ Below w.heap.size w wr) := Lib.hid (by
        have h := HH.out
        rw [HE.out] at h
        exact h)
      have i2 : ¬ (i : Int) < (l.length : Int) := by omega
      clear HH
      go_wp2
      go_ret
      exact ⟨_, rfl, HR.out⟩
end Go.Proofs.YtjmahmeionakaaaGreatDoor
