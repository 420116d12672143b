/- Words and walks that the laws below ask: CabF. -/
import Derived.Deep.LoopGhost
import Derived.BigQuiet
import Derived.Deep.CutRange
import Derived.Deep.CutBlock
import Derived.Deep.RegionWith
import Derived.Test.YtjmahmeionakaaaGreatDoorPk6
/- Walk of the reference's classes. -/
namespace Go.Proofs.YtjmahmeionakaaaGreatDoor
open Go.RowKit Go.Shelf
set_option linter.unusedSimpArgs false
set_option linter.unusedVariables false

/-- what a round of the reference's checks knows: the violations so far, the element's copy in block N -/
structure VarS {α : Type} (enc : α → List Value) (w5 : World) (N : Nat) (x : α) (W : World) (u : Value) (L : List Flt) : Prop where
  own : FOwn w5.heap.size W u L
  sw : SW w5 W
  el : ∀ j y, (enc x)[j]? = some y → W.cell? ⟨N, j, none⟩ = some y
  ne : u.ownBlock ≠ some N
  inB : N < W.heap.size
theorem VarS.more {α : Type} {enc : α → List Value} {w5 W W' : World} {N : Nat} {x : α} {u : Value} {L : List Flt} (h : VarS enc w5 N x W u L) (hb : Below W.heap.size W W') : VarS enc w5 N x W' u L :=
  ⟨h.own.more hb, Below.trans h.sw (hb.mono h.sw.size), fun j y hy => bel_cell hb (h.el j y hy), h.ne, Nat.lt_of_lt_of_le h.inB hb.size⟩
theorem VarS.app {α : Type} {enc : α → List Value} {w5 W W' : World} {N : Nat} {x : α} {u u' : Value} {L L' : List Flt} (h : VarS enc w5 N x W u L) (hO : FOwn w5.heap.size W' u' L') (hC : Chg W W' u u') : VarS enc w5 N x W' u' L' :=
  ⟨hO, Below.trans h.sw (hC.below h.own), fun j y hy => hC.cell (h.el j y hy) h.ne, fun e => by
    rcases hC.own N e with h1 | h1
    · exact h.ne h1
    · have := h.inB; omega, Nat.lt_of_lt_of_le h.inB hC.but.size⟩
theorem But.setCell (w : World) (r j : Nat) (v : Value) : But w (w.setCell ⟨r, j, none⟩ v) (fun k => k = r) := by
  refine ⟨?_, ?_, ?_, ?_, fun k _ hk => heap_setCell_other w _ k v hk⟩ <;> simp [World.setCell] <;> (try split) <;> simp
theorem lt_of_cell2 {w : World} {n : Nat} {o : Obj} (h : w.heap[n]? = some o) : n < w.heap.size := (Array.getElem?_eq_some_iff.1 h).1
theorem S2.heap {w : World} {N : Nat} {t : TypeId} {a0 a1 : Value} (h : w.heap[N]? = some (.cells #[a0, a1] t (0, 0))) (v0 v1 : Value) : ((w.setCell ⟨N, 0, none⟩ v0).setCell ⟨N, 1, none⟩ v1).heap[N]? = some (.cells #[v0, v1] t (0, 0)) := by
  have e1 : (w.setCell ⟨N, 0, none⟩ v0).heap[N]? = some (.cells #[v0, a1] t (0, 0)) := heap_setCell_same w N 0 _ t v0 h
  exact heap_setCell_same _ N 1 _ t v1 e1
theorem S2.but (w : World) (N : Nat) (v0 v1 : Value) : But w ((w.setCell ⟨N, 0, none⟩ v0).setCell ⟨N, 1, none⟩ v1) (fun k => k = N) :=
  (But.setCell w N 0 v0).trans (But.setCell _ N 1 v1) (fun _ _ h => h)
theorem row_cell {α : Type} {enc : α → List Value} {W : World} {N : Nat} {x : α} {cs : Array Value} {t : TypeId} (h : W.heap[N]? = some (.cells cs t (0, 0))) (hc : cs = (enc x).toArray) : ∀ j y, (enc x)[j]? = some y → W.cell? ⟨N, j, none⟩ = some y := fun j y hy => (cell_of_row W N j _ _ (0, 0) h).trans (by rw [hc]; simpa using hy)
set_option maxRecDepth 100000 in
set_option maxHeartbeats 16000000 in
theorem rclasses_any (eq : ByteArray) (A : Option Addr) (c : Nat) (l : List Cb) (i : Nat) (b : Cb) (p : ByteArray) (w : World) (hv : CbL w (.slice A l.length c) l) (hb : l[i]? = some b) (hn : l.length ≤ 8) (hok : ∀ b ∈ l, OkCb b) (hp : 0 < p.size) (hp2 : p.size ≤ 200) :
    Calls Tryz.prog 115 #[.agg #[.string eq, .slice A l.length c], .int .i64 (i : Int), .string p] w fun e w' => ∃ v', e = .returned v' ∧ FOwn w.heap.size w' v' (clsF p (codesB (l.take i)) b b.l.length) ∧ Below w.heap.size w w' := by
  have hil : i < l.length := (List.getElem?_eq_some_iff.1 hb).1
  obtain ⟨b1, o1, e1, hb1, hc1⟩ := row_get hv.1 hb
  cases e1
  have x0 := hc1 0 _ rfl
  have x1 := hc1 1 _ rfl
  have x2 := hc1 2 _ rfl
  have x3 := hc1 3 _ rfl
  rw [Nat.add_zero] at x0
  have HOK := Lib.hid hok
  have hokb := hok b (List.mem_of_getElem? hb)
  have hlen := hokb.len
  have hbA := bel_alloc w (.cells #[.string eq, .slice (some ⟨b1, o1, none⟩) l.length c] cfT)
  have hbB := bel_alloc (w.alloc (.cells #[.string eq, .slice (some ⟨b1, o1, none⟩) l.length c] cfT)) (.cells #[.string b.name, .int .i64 b.seats, .int .i64 b.over, .slice b.A b.l.length b.c] cbT)
  have q0 := bel_cell hbB ((cells_new w #[.string eq, .slice (some ⟨b1, o1, none⟩) l.length c] cfT 0).trans (show _ = some (Value.string eq) from rfl))
  have q1 := bel_cell hbB ((cells_new w #[.string eq, .slice (some ⟨b1, o1, none⟩) l.length c] cfT 1).trans (show _ = some (Value.slice (some ⟨b1, o1, none⟩) l.length c) from rfl))
  have r0 := (cells_new (w.alloc (.cells #[.string eq, .slice (some ⟨b1, o1, none⟩) l.length c] cfT)) #[.string b.name, .int .i64 b.seats, .int .i64 b.over, .slice b.A b.l.length b.c] cbT 0).trans (show _ = some (Value.string b.name) from rfl)
  have r1 := (cells_new (w.alloc (.cells #[.string eq, .slice (some ⟨b1, o1, none⟩) l.length c] cfT)) #[.string b.name, .int .i64 b.seats, .int .i64 b.over, .slice b.A b.l.length b.c] cbT 1).trans (show _ = some (Value.int .i64 b.seats) from rfl)
  have r2 := (cells_new (w.alloc (.cells #[.string eq, .slice (some ⟨b1, o1, none⟩) l.length c] cfT)) #[.string b.name, .int .i64 b.seats, .int .i64 b.over, .slice b.A b.l.length b.c] cbT 2).trans (show _ = some (Value.int .i64 b.over) from rfl)
  have r3 := (cells_new (w.alloc (.cells #[.string eq, .slice (some ⟨b1, o1, none⟩) l.length c] cfT)) #[.string b.name, .int .i64 b.seats, .int .i64 b.over, .slice b.A b.l.length b.c] cbT 3).trans (show _ = some (Value.slice b.A b.l.length b.c) from rfl)
  rw [World.size_alloc] at r0 r1 r2 r3
  have hbAB := hbA.trans (hbB.mono hbA.size)
  obtain ⟨Z, hZ⟩ : ∃ Z, Z = w.heap.size := ⟨_, rfl⟩
  rw [← hZ] at q0 q1 r0 r1 r2 r3
  have HV := Lib.hid hv
  have HB := Lib.hid hb
  have hi2 : (i : Int) < (l.length : Int) := by omega
  have x0 := bel_cell hbA x0
  have x1 := bel_cell hbA x1
  have x2 := bel_cell hbA x2
  have x3 := bel_cell hbA x3
  clear hv hok hb hc1 hb1 hbB
  obtain ⟨S, hSS⟩ : ∃ S, S = codesB (l.take i) := ⟨_, rfl⟩
  rw [← hSS]
  have HSS := Lib.hid hSS
  clear hSS
  obtain ⟨nb, hnb⟩ : ∃ nb, nb = b.l.length := ⟨_, rfl⟩
  have HNB := Lib.hid hnb
  rw [← hnb] at hlen ⊢
  clear hnb
  go_enter Tryz.func115, Tryz.ntmps115
  go_upto_region 3 with fail
  rw [← hZ]
  clear x0 x1 x2 x3 hbA
  have HZ := Lib.hid hZ
  have HB5 := Lib.hid hbAB
  generalize (w.alloc (.cells #[.string eq, .slice (some ⟨b1, o1, none⟩) l.length c] cfT)).alloc (.cells #[.string b.name, .int .i64 b.seats, .int .i64 b.over, .slice b.A b.l.length b.c] cbT) = w5 at *
  clear hZ hbAB
  have HV5 : Hid (∀ W, SW w5 W → CbL W (.slice (some ⟨b1, o1, none⟩) l.length c) l) := Lib.hid (fun W h => HV.out.more (HB5.out.trans (Below.mono h HB5.out.size)))
  have Q0 := Lib.hid (fun W (h : SW w5 W) => bel_get q0 _ h)
  have Q1 := Lib.hid (fun W (h : SW w5 W) => bel_get q1 _ h)
  have R0 := Lib.hid (fun W (h : SW w5 W) => bel_get r0 _ h)
  have R1 := Lib.hid (fun W (h : SW w5 W) => bel_get r1 _ h)
  have R2 := Lib.hid (fun W (h : SW w5 W) => bel_get r2 _ h)
  have R3 := Lib.hid (fun W (h : SW w5 W) => bel_get r3 _ h)
  clear q0 q1 r0 r1 r2 r3
  have HI : Hid (FOwn w5.heap.size w5 (.slice none 0 0) (clsF p S b 0) ∧ SW w5 w5) := Lib.hid ⟨ROwn.nil (Nat.le_refl _), Below.refl _ _⟩
  go_wp2
  go_loopg [7, 9] nb (fun kx v7 v9 wr => ∃ (v : Value) (k : Nat), v = v7 ∧ v9 = .int .i64 k ∧ k + kx = nb ∧ Hid (FOwn w5.heap.size wr v (clsF p S b k) ∧ SW w5 wr))
  case atStart => exact ⟨_, 0, rfl, rfl, by omega, HI⟩
  case round =>
    obtain ⟨v, k, rfl, rfl, hkx, HH⟩ := hrel
    clear HI
    have HKX := Lib.hid hkx
    have c3 := R3.out _ HH.out.2
    rw [← HNB.out] at c3
    by_cases hlt : k < nb
    · obtain ⟨x, hx⟩ : ∃ x, b.l[k]? = some x := ⟨_, List.getElem?_eq_getElem (by have := HNB.out; omega)⟩
      have HX := Lib.hid hx
      obtain ⟨b2, o2, e2, hb2, hc2⟩ := row_get ((HV5.out _ HH.out.2).2 b (List.mem_of_getElem? HB.out)) hx
      rw [e2] at c3
      have d0 := hc2 0 _ rfl
      have d1 := hc2 1 _ rfl
      rw [Nat.add_zero] at d0
      have i1 : (k : Int) < (nb : Int) := by omega
      have hox := hokb.cls x (List.mem_of_getElem? hx)
      have HOX := Lib.hid hox
      have hS5 : SW w5 wr := HH.out.2
      have hvN : ∀ N, wr.heap.size ≤ N → v.ownBlock ≠ some N := fun N hN h => by have := (HH.out.1.low h).2; omega
      have KP := Lib.hid (fun W => rplace_any p clsR k W (by omega) (by decide) hp (by omega))
      rw [cls_path] at KP
      have HT : Hid (clsF p S b (k + 1) = clsF p S b k ++ pick (p ++ clsW ++ decA k) [whC (!capsB x.code 1) 16] ++ pick (p ++ clsW ++ decA k) [whC (anyS (S ++ codesC (b.l.take k)) x.code) 6] ++ pick (p ++ clsW ++ decA k) [whC (badP b k x) 2]) := Lib.hid (by
        rw [clsF_succ p S b k x hx, show clsE S b k x = [whC (!capsB x.code 1) 16, whC (anyS (S ++ codesC (b.l.take k)) x.code) 6, whC (badP b k x) 2] from rfl]
        simp only [List.append_assoc, ← pick_app, List.cons_append, List.nil_append])
      have KO : Hid (∀ W, SW w5 W → Calls Tryz.prog 136 #[.agg #[.string eq, .slice (some ⟨b1, o1, none⟩) l.length c], .int .i64 (i : Int), .int .i64 (k : Int)] W fun e w' => e = .returned (.bool (anyS (S ++ codesC (b.l.take k)) x.code)) ∧ Below W.heap.size W w') := Lib.hid (fun W h => by rw [HSS.out]; exact roccurs_any eq _ c l i k b x W (HV5.out W h) HB.out HX.out hn (fun b hb => (HOK.out b hb).len))
      have KC := Lib.hid (fun W => rclass_any x.code W hox.code)
      have HFL : Hid ((clsF p S b k).length ≤ 1000) := Lib.hid (by have := clsF_le p S b k; omega)
      generalize hBL : clsF p S b k = BL at *
      generalize hnm : p ++ clsW ++ decA k = nm at *
      generalize capsB x.code 1 = cb at *
      generalize anyS (S ++ codesC (b.l.take k)) x.code = tw at *
      generalize hbm : badP b k x = bm at *
      have HBP := Lib.hid hbm
      have HR2 : Hid (∀ W, SW w5 W → 0 < k → ∃ y, b.l[k - 1]? = some y ∧ W.cell? ⟨b2, o2 + (k - 1) * 2 + 1, none⟩ = some (.int .i64 y.prot)) := Lib.hid (fun W h hk0 => by
        obtain ⟨y, hy⟩ : ∃ y, b.l[k - 1]? = some y := ⟨_, List.getElem?_eq_getElem (by have := HNB.out; omega)⟩
        obtain ⟨b3, o3, e3, hb3, hc3⟩ := row_get ((HV5.out _ h).2 b (List.mem_of_getElem? HB.out)) hy
        rw [e2] at e3
        cases e3
        exact ⟨y, hy, hc3 1 _ rfl⟩)
      have HE2 := Lib.hid e2
      clear hb2 hc2 e2 hbm hox hx hBL hnm hkx
      have C3 := fun W (h : SW wr W) => bel_get c3 _ h
      have D0 := fun W (h : SW wr W) => bel_get d0 _ h
      have D1 := fun W (h : SW wr W) => bel_get d1 _ h
      go_upto_region 6 with fail
      go_cut [10, 11] from 17 to 84 (fun v10 v11 wx => v10 = .string nm ∧ ∃ N : Nat, v11 = .pointer (some ⟨N, 0, none⟩) ∧ Hid (VarS encCl w5 N x wx v BL))
      case first =>
        clear KO KC HR2 HT
        have hS : (SW wr) _ := SW.drew _
        refine wp_region_held_drew (S := SW wr) (by kernel_rfl) hS (fun _ => ?_)
        refine wpAnyH_take (i := 0) (v := ?vR60) rfl (by kernel_rfl) (by kernel_rfl) (by kernel_rfl) (fun _ _ _ h => h) (Or.inl ⟨by rfl, ?hyR60⟩) hS ?restR60
        case hyR60 =>
          intro w hSw
          first | (go_simp; done) | (go_simp; with_reducible rfl)
        try simp only [Act.put, List.setIfInBounds_toArray, List.set_cons_zero, List.set_cons_succ]
        refine wpAnyH_take (i := 1) (v := ?vR61) rfl (by kernel_rfl) (by kernel_rfl) (by kernel_rfl) (fun _ _ _ h => h) (Or.inl ⟨by rfl, ?hyR61⟩) hS ?restR61
        case hyR61 =>
          intro w hSw
          first | (go_simp; done) | (go_simp; with_reducible rfl)
        try simp only [Act.put, List.setIfInBounds_toArray, List.set_cons_zero, List.set_cons_succ]
        refine wpAnyH_take (i := 3) (v := ?vR63) rfl (by kernel_rfl) (by kernel_rfl) (by kernel_rfl) (fun _ _ _ h => h) (Or.inl ⟨by rfl, ?hyR63⟩) hS ?restR63
        case hyR63 =>
          intro w hSw
          first | (go_simp; done) | (go_simp; with_reducible rfl)
        try simp only [Act.put, List.setIfInBounds_toArray, List.set_cons_zero, List.set_cons_succ]
        refine wpAnyH_take (i := 4) (v := ?vR64) rfl (by kernel_rfl) (by kernel_rfl) (by kernel_rfl) (fun _ _ _ h => h) (Or.inl ⟨by rfl, ?hyR64⟩) hS ?restR64
        case hyR64 =>
          intro w hSw
          have k0 := C3 w hSw; have k1 := D0 w hSw; have k2 := D1 w hSw
          first | (go_simp; done) | (go_simp; with_reducible rfl)
        try simp only [Act.put, List.setIfInBounds_toArray, List.set_cons_zero, List.set_cons_succ]
        refine wpAnyH_take (i := 5) (v := ?vR65) rfl (by kernel_rfl) (by kernel_rfl) (by kernel_rfl) (fun _ _ _ h => h) (Or.inl ⟨by rfl, ?hyR65⟩) hS ?restR65
        case hyR65 =>
          intro w hSw
          first | (go_simp; done) | (go_simp; with_reducible rfl)
        try simp only [Act.put, List.setIfInBounds_toArray, List.set_cons_zero, List.set_cons_succ]
        refine wpAnyH_take (i := 6) (v := ?vR66) rfl (by kernel_rfl) (by kernel_rfl) (by kernel_rfl) (fun _ _ _ h => h) (Or.inl ⟨by rfl, ?hyR66⟩) hS ?restR66
        case hyR66 =>
          intro w hSw
          have k0 := C3 w hSw; have k1 := D0 w hSw; have k2 := D1 w hSw
          first | (go_simp; done) | (go_simp; with_reducible rfl)
        try simp only [Act.put, List.setIfInBounds_toArray, List.set_cons_zero, List.set_cons_succ]
        refine wpAnyH_take (i := 7) (v := ?vR67) rfl (by kernel_rfl) (by kernel_rfl) (by kernel_rfl) (fun _ _ _ h => h) (Or.inl ⟨by rfl, ?hyR67⟩) hS ?restR67
        case hyR67 =>
          intro w hSw
          have k0 := C3 w hSw; have k1 := D0 w hSw; have k2 := D1 w hSw
          first | (go_simp; done) | (go_simp; with_reducible rfl)
        try simp only [Act.put, List.setIfInBounds_toArray, List.set_cons_zero, List.set_cons_succ]
        refine wpAnyH_ready (rs := [2, 8]) (by kernel_rfl) (by simp) ?_
        refine AllReadyH.cons rfl (fun K hK => ?_) (AllReadyH.cons rfl (fun K hK => ?_) AllReadyH.nil)
        · go_simp
          go_wp2_with ((go_at_call 74; refine (KP.out _).mono ?_; rintro e w9 ⟨rfl, hb9⟩; have hS9 : SW wr w9 := Below.trans hS (Below.mono hb9 hS.size); have hS := hS9))
          refine hK.out _ _ hS (fun _ => ?_)
          clear hK K
          refine wpAnyH_ready (rs := [8]) (by kernel_rfl) (by simp) ?_
          refine AllReadyH.cons rfl (fun K hK => ?_) AllReadyH.nil
          go_simp
          have hSp := hS
          have hS := Below.trans hSp (Below.mono (bel_alloc _ (.cells #[.string noB, .int .i64 0] clT)) hSp.size)
          refine hK.out _ _ hS (fun _ => ?_)
          clear hK K
          refine wpAnyH_take (i := 9) (v := ?vR6a9) rfl (by kernel_rfl) (by kernel_rfl) (by kernel_rfl) (fun _ _ _ h => h) (Or.inl ⟨by rfl, ?hyR6a9⟩) hS ?restR6a9
          case hyR6a9 =>
            intro w hSw
            first | (go_simp; done) | (go_simp; with_reducible rfl)
          try simp only [Act.put, List.setIfInBounds_toArray, List.set_cons_zero, List.set_cons_succ]
          refine wpAnyH_ready (rs := [10]) (by kernel_rfl) (by simp) ?_
          refine AllReadyH.cons rfl (fun K hK => ?_) AllReadyH.nil
          go_simp
          have hNg : wr.heap.size ≤ w9.heap.size := hS9.size
          have hS : SW wr (w9.alloc (.cells #[.string x.code, .int .i64 x.prot] clT)) := Below.trans hS9 (Below.mono (bel_alloc w9 _) hS9.size)
          have hRow := heap_alloc_new w9 (.cells #[.string x.code, .int .i64 x.prot] clT)
          refine hK.out _ _ hS (fun _ => ?_)
          clear hK K
          refine wpAnyH_done (by kernel_rfl) ?_ _
          try simp only [List.getElem_toArray, List.getElem_cons_succ, List.getElem_cons_zero, List.set_cons_zero, List.set_cons_succ]
          try simp only [List.setIfInBounds_toArray, List.set_cons_zero, List.set_cons_succ]
          go_wp2_with fail
          go_meet
          exact ⟨rfl, _, rfl, Lib.hid ⟨HH.out.1.more hS, Below.trans hS5 (Below.mono hS hS5.size), row_cell (enc := encCl) (x := x) hRow rfl, hvN _ hNg, lt_of_cell2 hRow⟩⟩
        · go_simp
          have hSp := hS
          have hN0 := heap_alloc_new wr.drew (.cells #[.string noB, .int .i64 0] clT)
          have hS := Below.trans hSp (Below.mono (bel_alloc _ (.cells #[.string noB, .int .i64 0] clT)) hSp.size)
          refine hK.out _ _ hS (fun _ => ?_)
          clear hK K
          refine wpAnyH_ready (rs := [2]) (by kernel_rfl) (by simp) ?_
          refine AllReadyH.cons rfl (fun K hK => ?_) AllReadyH.nil
          go_simp
          go_wp2_with ((go_at_call 74; refine (KP.out _).mono ?_; rintro e w9 ⟨rfl, hb9⟩; have hS9 : SW wr w9 := Below.trans hS (Below.mono hb9 hS.size); have hS := hS9))
          refine hK.out _ _ hS (fun _ => ?_)
          clear hK K
          refine wpAnyH_take (i := 9) (v := ?vR6b9) rfl (by kernel_rfl) (by kernel_rfl) (by kernel_rfl) (fun _ _ _ h => h) (Or.inl ⟨by rfl, ?hyR6b9⟩) hS ?restR6b9
          case hyR6b9 =>
            intro w hSw
            first | (go_simp; done) | (go_simp; with_reducible rfl)
          try simp only [Act.put, List.setIfInBounds_toArray, List.set_cons_zero, List.set_cons_succ]
          refine wpAnyH_ready (rs := [10]) (by kernel_rfl) (by simp) ?_
          refine AllReadyH.cons rfl (fun K hK => ?_) AllReadyH.nil
          have hN : w9.heap[wr.heap.size]? = some (.cells #[.string noB, .int .i64 0] clT (0, 0)) := (hb9.block _ (lt_of_cell2 hN0)).trans hN0
          have n0 := (cell_of_row _ _ 0 _ _ (0, 0) hN).trans (show _ = some _ from rfl)
          have n1 := (cell_of_row _ _ 1 _ _ (0, 0) hN).trans (show _ = some _ from rfl)
          have z0 := frozen_of_row _ _ 0 _ _ hN
          have z1 := frozen_of_row _ _ 1 _ _ hN
          go_simp
          have hNg : wr.heap.size ≤ wr.heap.size := Nat.le_refl _
          have hS : SW wr ((w9.setCell ⟨wr.heap.size, 0, none⟩ (.string x.code)).setCell ⟨wr.heap.size, 1, none⟩ (.int .i64 x.prot)) := Below.trans hS9 ((S2.but w9 wr.heap.size (.string x.code) (.int .i64 x.prot)).below hS9.size (fun q hq he => by have : q = wr.heap.size := he; omega))
          have hRow := S2.heap hN (.string x.code) (.int .i64 x.prot)
          refine hK.out _ _ hS (fun _ => ?_)
          clear hK K
          refine wpAnyH_done (by kernel_rfl) ?_ _
          try simp only [List.getElem_toArray, List.getElem_cons_succ, List.getElem_cons_zero, List.set_cons_zero, List.set_cons_succ]
          try simp only [List.setIfInBounds_toArray, List.set_cons_zero, List.set_cons_succ]
          go_wp2_with fail
          go_meet
          exact ⟨rfl, _, rfl, Lib.hid ⟨HH.out.1.more hS, Below.trans hS5 (Below.mono hS hS5.size), row_cell (enc := encCl) (x := x) hRow rfl, hvN _ hNg, lt_of_cell2 hRow⟩⟩
      case rest =>
        obtain ⟨rfl, N, rfl, HVS⟩ := hcut
        clear C3 D0 D1 c3 d0 d1 KP hvN
        have n0 := HVS.out.el 0 _ rfl
        obtain ⟨wa, hwa⟩ : ∃ wa, wa = wc := ⟨_, rfl⟩
        subst hwa
        go_upto_if 35 with (go_at_call 135; refine (KC.out _).mono ?_; rintro e w' ⟨rfl, rfl⟩)
        go_cut [7] from 17 to 84 (fun u wx => Hid (VarS encCl w5 N x wx u (BL ++ pick nm [whC (!cb) 16])))
        case first =>
          have HLn : Hid ((BL).length ≤ 100000000) := Lib.hid (by have := HFL.out; have := HFL.out; omega)
          clear HT KO HR2 HBP n0 HNB HV5 HX HH
          cases cb with
          | true =>
            go_wp2
            go_meet
            exact Lib.hid (by rw [pick_wh nm _ 16 (by omega)]; simpa using HVS.out)
          | false =>
            go_wp2_with (at_builtin; refine wpList_rapp rtF rfl _ _ rfl HVS.out.own rfl (bel_alloc _ _) _ (16, nm) _ rfl (cs := #[.int .i64 16, .string nm]) rfl (heap_alloc_new _ _) HLn.out ?_; intro v1 w1 hO1 hC1)
            go_meet
            exact Lib.hid (by rw [pick_wh nm _ 16 (by omega)]; exact HVS.out.app hO1 hC1)
        case rest =>
          have HVS := hcut
          clear hcut n0 KC
          obtain ⟨wb, hwb⟩ : ∃ wb, wb = wc := ⟨_, rfl⟩
          subst hwb
          have q0 := Q0.out _ HVS.out.sw
          have q1 := Q1.out _ HVS.out.sw
          go_upto_if 44 with (go_at_call 136; refine (KO.out _ HVS.out.sw).mono ?_; rintro e wd ⟨rfl, hbd⟩)
          have HVS : Hid (VarS encCl w5 N x wd _ _) := Lib.hid (HVS.out.more hbd)
          clear q0 q1 hbd KO
          go_cut [7] from 17 to 84 (fun u wx => Hid (VarS encCl w5 N x wx u (BL ++ pick nm [whC (!cb) 16] ++ pick nm [whC tw 6])))
          case first =>
            have HLn : Hid ((BL ++ pick nm [whC (!cb) 16]).length ≤ 100000000) := Lib.hid (by have := HFL.out; have := HFL.out; have h0 := pick_le nm [whC (!cb) 16]; simp only [List.length_append, List.length_cons, List.length_nil] at h0 ⊢; omega)
            clear HT HR2 HBP HNB HV5 HX HH
            cases tw with
            | false =>
              go_wp2
              go_meet
              exact Lib.hid (by rw [pick_wh nm _ 6 (by omega)]; simpa using HVS.out)
            | true =>
              go_wp2_with (at_builtin; refine wpList_rapp rtF rfl _ _ rfl HVS.out.own rfl (bel_alloc _ _) _ (6, nm) _ rfl (cs := #[.int .i64 6, .string nm]) rfl (heap_alloc_new _ _) HLn.out ?_; intro v1 w1 hO1 hC1)
              go_meet
              exact Lib.hid (by rw [pick_wh nm _ 6 (by omega)]; exact HVS.out.app hO1 hC1)
          case rest =>
            have HVS := hcut
            clear hcut
            obtain ⟨we, hwe⟩ : ∃ we, we = wc := ⟨_, rfl⟩
            subst hwe
            have n1 := HVS.out.el 1 _ rfl
            have s0 := R0.out _ HVS.out.sw
            have s1 := R1.out _ HVS.out.sw
            have s2 := R2.out _ HVS.out.sw
            have s3 := R3.out _ HVS.out.sw
            rw [HE2.out, ← HNB.out] at s3
            have HNX : Hid (k + 1 + (nb - (k + 1)) = nb) := Lib.hid (by have := HKX.out; omega)
            go_upto_region 11 with fail
            go_cut [79] from 17 to 84 (fun v79 wx => v79 = .bool bm ∧ SW we wx)
            case first =>
              have KI : Hid (∀ W, SW we W → Calls Tryz.prog 114 #[.agg #[.string b.name, .int .i64 b.seats, .int .i64 b.over, .slice (some ⟨b2, o2, none⟩) nb b.c]] W fun e w' => e = .returned (.bool (sizB b)) ∧ SW we w') := Lib.hid (fun W h => by
                have h1 := inRange_any b W
                dsimp only [aggCb] at h1
                rw [HE2.out, ← HNB.out] at h1
                exact h1.mono (by rintro e w' ⟨rfl, hb⟩; exact ⟨rfl, Below.trans h (Below.mono hb h.size)⟩))
              have KA : Hid (∀ W, SW we W → sizB b = true → Calls Tryz.prog 102 #[.agg #[.string b.name, .int .i64 b.seats, .int .i64 b.over, .slice (some ⟨b2, o2, none⟩) nb b.c]] W fun e w' => e = .returned (.int .i64 (b.seats + b.over)) ∧ SW we w') := Lib.hid (fun W h hz => by
                have h1 := rauth_any b W hz
                dsimp only [aggCb] at h1
                rw [HE2.out, ← HNB.out] at h1
                exact h1.mono (by rintro e w' ⟨rfl, hb⟩; exact ⟨rfl, Below.trans h (Below.mono hb h.size)⟩))
              have HBR : Hid (∀ y : Cl, (0 < k → b.l[k - 1]? = some y) → bm = (decide (x.prot < 0) || (decide (0 < k) && decide (x.prot < y.prot)) || (sizB b && decide (b.seats + b.over < x.prot)))) := Lib.hid (fun y hy => by rw [← HBP.out]; exact badP_ref b k x y hy HOX.out.hi)
              have HYY := Lib.hid (HR2.out we HVS.out.sw)
              have hS0 : SW we we.drew := SW.drew _
              have g1 : ∀ z : Wd (SW we), z.w.cell? ⟨N, 1, none⟩ = some (Value.int .i64 x.prot) := fun z => bel_get n1 _ z.ok
              have g0 : ∀ z : Wd (SW we), z.w.cell? ⟨Z + 1, 0, none⟩ = some (Value.string b.name) := fun z => bel_get s0 _ z.ok
              have g2 : ∀ z : Wd (SW we), z.w.cell? ⟨Z + 1, 1, none⟩ = some (Value.int .i64 b.seats) := fun z => bel_get s1 _ z.ok
              have g3 : ∀ z : Wd (SW we), z.w.cell? ⟨Z + 1, 2, none⟩ = some (Value.int .i64 b.over) := fun z => bel_get s2 _ z.ok
              have g4 : ∀ z : Wd (SW we), z.w.cell? ⟨Z + 1, 3, none⟩ = some (Value.slice (some ⟨b2, o2, none⟩) nb b.c) := fun z => bel_get s3 _ z.ok
              clear n1 s0 s1 s2 s3 HT HVS HR2 HBP HOX HNX HH HV5 HOK
              obtain ⟨sb, hsb⟩ : ∃ sb, sb = sizB b := ⟨_, rfl⟩
              have HSB := Lib.hid hsb
              clear hsb
              cases h0 : decide (x.prot < 0) with
              | true =>
                have h0' : x.prot < 0 := of_decide_eq_true h0
                have HR : Hid (true = bm) := Lib.hid (by
                  by_cases hk0 : 0 < k
                  · obtain ⟨y, hy, _⟩ := HYY.out hk0
                    rw [HBR.out y (fun _ => hy)]; simp [h0']
                  · rw [HBR.out x (fun h => absurd h hk0)]; simp [h0'])
                have hz : True := trivial
                have hNe : Nonempty (Wd (SW we)) := ⟨⟨_, hS0⟩⟩
                refine quietS (S := SW we) (by kernel_rfl) (by kernel_rfl) (hS0) ?_
                repeat (first | go_big_quiet_skip | (go_big_quiet_want; go_big_quiet_op; first | go_big_quiet_on | go_big_quiet_call (((first | (go_at_call 114; exact quiet_S (KI.out _ (Wd.ok _))) | (go_at_call 102; exact quiet_S (KA.out _ (Wd.ok _) hz)))))))
                refine wpQuiet_nil ?_
                rintro W ⟨⟨_, hW⟩, rfl⟩
                go_wp2
                go_meet
                exact ⟨by rw [HR.out], hW⟩
              | false =>
                have h0' : ¬ x.prot < 0 := of_decide_eq_false h0
                cases k with
                | zero =>
                  cases hz : sizB b with
                  | false =>
                    rw [hz] at KI
                    have HR : Hid (false = bm) := Lib.hid (by rw [HBR.out x (fun h => absurd h (by omega))]; simp [h0', hz])
                    have hNe : Nonempty (Wd (SW we)) := ⟨⟨_, hS0⟩⟩
                    refine quietS (S := SW we) (by kernel_rfl) (by kernel_rfl) (hS0) ?_
                    repeat (first | go_big_quiet_skip | (go_big_quiet_want; go_big_quiet_op; first | go_big_quiet_on | go_big_quiet_call (((first | (go_at_call 114; exact quiet_S (KI.out _ (Wd.ok _))) | (go_at_call 102; exact quiet_S (KA.out _ (Wd.ok _) hz)))))))
                    refine wpQuiet_nil ?_
                    rintro W ⟨⟨_, hW⟩, rfl⟩
                    go_wp2
                    go_meet
                    exact ⟨by rw [HR.out], hW⟩
                  | true =>
                    rw [hz] at KI
                    cases h9 : decide (b.seats + b.over < x.prot) with
                    | true =>
                      have h9' : b.seats + b.over < x.prot := of_decide_eq_true h9
                      have HR : Hid (true = bm) := Lib.hid (by rw [HBR.out x (fun h => absurd h (by omega))]; simp [h0', hz, h9'])
                      have hNe : Nonempty (Wd (SW we)) := ⟨⟨_, hS0⟩⟩
                      refine quietS (S := SW we) (by kernel_rfl) (by kernel_rfl) (hS0) ?_
                      repeat (first | go_big_quiet_skip | (go_big_quiet_want; go_big_quiet_op; first | go_big_quiet_on | go_big_quiet_call (((first | (go_at_call 114; exact quiet_S (KI.out _ (Wd.ok _))) | (go_at_call 102; exact quiet_S (KA.out _ (Wd.ok _) hz)))))))
                      refine wpQuiet_nil ?_
                      rintro W ⟨⟨_, hW⟩, rfl⟩
                      go_wp2
                      go_meet
                      exact ⟨by rw [HR.out], hW⟩
                    | false =>
                      have h9' : ¬ b.seats + b.over < x.prot := of_decide_eq_false h9
                      have HR : Hid (false = bm) := Lib.hid (by rw [HBR.out x (fun h => absurd h (by omega))]; simp [h0', hz, h9'])
                      have hNe : Nonempty (Wd (SW we)) := ⟨⟨_, hS0⟩⟩
                      refine quietS (S := SW we) (by kernel_rfl) (by kernel_rfl) (hS0) ?_
                      repeat (first | go_big_quiet_skip | (go_big_quiet_want; go_big_quiet_op; first | go_big_quiet_on | go_big_quiet_call (((first | (go_at_call 114; exact quiet_S (KI.out _ (Wd.ok _))) | (go_at_call 102; exact quiet_S (KA.out _ (Wd.ok _) hz)))))))
                      refine wpQuiet_nil ?_
                      rintro W ⟨⟨_, hW⟩, rfl⟩
                      go_wp2
                      go_meet
                      exact ⟨by rw [HR.out], hW⟩
                | succ q =>
                  obtain ⟨y, hy, hyc⟩ := HYY.out (by omega)
                  rw [Nat.add_sub_cancel] at hy hyc
                  have HYq := Lib.hid hy
                  have g5 : ∀ z : Wd (SW we), z.w.cell? ⟨b2, o2 + q * 2 + 1, none⟩ = some (Value.int .i64 y.prot) := fun z => bel_get hyc _ z.ok
                  have k1 : 0 < (q : Int) + 1 := by omega
                  have k2 : (0 : Int) < ((q + 1 : Nat) : Int) := by omega
                  have i3 : (q : Int) < (nb : Int) := by omega
                  have w1 : IntKind.i64.wrap (q : Int) = (q : Int) := IntWalk.i64_in _ (by omega)
                  clear hy hyc HYY
                  cases h5 : decide (x.prot < y.prot) with
                  | true =>
                    have h5' : x.prot < y.prot := of_decide_eq_true h5
                    have HR : Hid (true = bm) := Lib.hid (by rw [HBR.out y (fun _ => by rw [Nat.add_sub_cancel]; exact HYq.out)]; simp [h5'])
                    have hz : True := trivial
                    have hNe : Nonempty (Wd (SW we)) := ⟨⟨_, hS0⟩⟩
                    refine quietS (S := SW we) (by kernel_rfl) (by kernel_rfl) (hS0) ?_
                    repeat (first | go_big_quiet_skip | (go_big_quiet_want; go_big_quiet_op; first | go_big_quiet_on | go_big_quiet_call (((first | (go_at_call 114; exact quiet_S (KI.out _ (Wd.ok _))) | (go_at_call 102; exact quiet_S (KA.out _ (Wd.ok _) hz)))))))
                    refine wpQuiet_nil ?_
                    rintro W ⟨⟨_, hW⟩, rfl⟩
                    go_wp2
                    go_meet
                    exact ⟨by rw [HR.out], hW⟩
                  | false =>
                    have h5' : ¬ x.prot < y.prot := of_decide_eq_false h5
                    cases hz : sizB b with
                    | false =>
                      rw [hz] at KI
                      have HR : Hid (false = bm) := Lib.hid (by rw [HBR.out y (fun _ => by rw [Nat.add_sub_cancel]; exact HYq.out)]; simp [h0', h5', hz])
                      have hNe : Nonempty (Wd (SW we)) := ⟨⟨_, hS0⟩⟩
                      refine quietS (S := SW we) (by kernel_rfl) (by kernel_rfl) (hS0) ?_
                      repeat (first | go_big_quiet_skip | (go_big_quiet_want; go_big_quiet_op; first | go_big_quiet_on | go_big_quiet_call (((first | (go_at_call 114; exact quiet_S (KI.out _ (Wd.ok _))) | (go_at_call 102; exact quiet_S (KA.out _ (Wd.ok _) hz)))))))
                      refine wpQuiet_nil ?_
                      rintro W ⟨⟨_, hW⟩, rfl⟩
                      go_wp2
                      go_meet
                      exact ⟨by rw [HR.out], hW⟩
                    | true =>
                      rw [hz] at KI
                      cases h9 : decide (b.seats + b.over < x.prot) with
                      | true =>
                        have h9' : b.seats + b.over < x.prot := of_decide_eq_true h9
                        have HR : Hid (true = bm) := Lib.hid (by rw [HBR.out y (fun _ => by rw [Nat.add_sub_cancel]; exact HYq.out)]; simp [h0', h5', hz, h9'])
                        have hNe : Nonempty (Wd (SW we)) := ⟨⟨_, hS0⟩⟩
                        refine quietS (S := SW we) (by kernel_rfl) (by kernel_rfl) (hS0) ?_
                        repeat (first | go_big_quiet_skip | (go_big_quiet_want; go_big_quiet_op; first | go_big_quiet_on | go_big_quiet_call (((first | (go_at_call 114; exact quiet_S (KI.out _ (Wd.ok _))) | (go_at_call 102; exact quiet_S (KA.out _ (Wd.ok _) hz)))))))
                        refine wpQuiet_nil ?_
                        rintro W ⟨⟨_, hW⟩, rfl⟩
                        go_wp2
                        go_meet
                        exact ⟨by rw [HR.out], hW⟩
                      | false =>
                        have h9' : ¬ b.seats + b.over < x.prot := of_decide_eq_false h9
                        have HR : Hid (false = bm) := Lib.hid (by rw [HBR.out y (fun _ => by rw [Nat.add_sub_cancel]; exact HYq.out)]; simp [h0', h5', hz, h9'])
                        have hNe : Nonempty (Wd (SW we)) := ⟨⟨_, hS0⟩⟩
                        refine quietS (S := SW we) (by kernel_rfl) (by kernel_rfl) (hS0) ?_
                        repeat (first | go_big_quiet_skip | (go_big_quiet_want; go_big_quiet_op; first | go_big_quiet_on | go_big_quiet_call (((first | (go_at_call 114; exact quiet_S (KI.out _ (Wd.ok _))) | (go_at_call 102; exact quiet_S (KA.out _ (Wd.ok _) hz)))))))
                        refine wpQuiet_nil ?_
                        rintro W ⟨⟨_, hW⟩, rfl⟩
                        go_wp2
                        go_meet
                        exact ⟨by rw [HR.out], hW⟩
            case rest =>
              obtain ⟨rfl, hbe⟩ := hcut
              have HVS : Hid (VarS encCl w5 N x wc _ _) := Lib.hid (HVS.out.more hbe)
              clear hbe n1 s0 s1 s2 s3
              obtain ⟨wf, hwf⟩ : ∃ wf, wf = wc := ⟨_, rfl⟩
              subst hwf
              have HLn : Hid ((BL ++ pick nm [whC (!cb) 16] ++ pick nm [whC tw 6]).length ≤ 100000000) := Lib.hid (by have := HFL.out; have h0 := pick_le nm [whC (!cb) 16]; have h1 := pick_le nm [whC tw 6]; simp only [List.length_append, List.length_cons, List.length_nil] at h0 h1 ⊢; omega)
              clear HR2 HBP HNB HV5 HX HH
              go_upto_if 79 with fail
              cases bm with
              | false =>
                have HY : Hid (FOwn w5.heap.size wf _ (clsF p S b (k + 1)) ∧ SW w5 wf) := Lib.hid (by rw [HT.out, pick_wh nm false 2 (by omega)]; exact ⟨by simpa using HVS.out.own, HVS.out.sw⟩)
                clear HVS
                go_wp2
                go_roundg (nb - (k + 1))
                case measure => have := HKX.out; omega
                case rel => exact ⟨_, k + 1, rfl, by go_num, HNX.out, HY⟩
              | true =>
                go_wp2_with (at_builtin; refine wpList_rapp rtF rfl _ _ rfl HVS.out.own rfl (bel_alloc _ _) _ (2, nm) _ rfl (cs := #[.int .i64 2, .string nm]) rfl (heap_alloc_new _ _) HLn.out ?_; intro v1 w1 hO1 hC1)
                have HY : Hid (FOwn w5.heap.size w1 v1 (clsF p S b (k + 1)) ∧ SW w5 w1) := Lib.hid (by rw [HT.out, pick_wh nm true 2 (by omega)]; exact ⟨hO1, (HVS.out.app hO1 hC1).sw⟩)
                clear HVS hO1 hC1
                go_roundg (nb - (k + 1))
                case measure => have := HKX.out; omega
                case rel => exact ⟨_, k + 1, rfl, by go_num, HNX.out, HY⟩
    · have HE : Hid (k = nb) := Lib.hid (by omega)
      have HR : Hid (FOwn w.heap.size wr v (clsF p S b nb) ∧ Below w.heap.size w wr) := Lib.hid (by
        have h := HH.out
        rw [HE.out] at h
        exact ⟨⟨h.1.own.mono HB5.out.size, Nat.le_trans HB5.out.size h.2.size⟩, HB5.out.trans (Below.mono h.2 HB5.out.size)⟩)
      have i2 : ¬ (k : Int) < (nb : Int) := by omega
      clear HH
      go_wp2
      go_ret
      exact ⟨_, rfl, HR.out⟩
end Go.Proofs.YtjmahmeionakaaaGreatDoor
