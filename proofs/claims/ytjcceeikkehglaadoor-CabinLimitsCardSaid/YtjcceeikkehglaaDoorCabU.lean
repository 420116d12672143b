/- The law CabinLimits. -/
import Derived.Test.YtjcceeikkehglaaDoorCabT
import Derived.Deep.LoopGhost
import Derived.BigQuiet
import Derived.Deep.CutRange
import Derived.Deep.CutBlock
namespace Go.Proofs.YtjcceeikkehglaaDoor
open Go.RowKit Go.Shelf
set_option linter.unusedSimpArgs false
set_option linter.unusedVariables false


theorem lim_right {f : Cf} (h : RightF f) {b : Cb} (hb : b ∈ f.l) (hl : b.l.length ≤ 30) : LimP b ∧ (∀ k, k < b.l.length → 0 ≤ limA b k) ∧ ∀ k, k + 1 < b.l.length → limA b (k + 1) ≤ limA b k := by
  have hs := h.siz b hb
  obtain ⟨s1, s2, s3, s4⟩ := sizB_in hs
  have hm : mostP b = b.seats + b.over := by unfold mostP; rw [if_pos hs]
  have hk : ∀ (k : Nat) (x : Cl), b.l[k]? = some x → leastP b.l k ≤ x.prot ∧ x.prot ≤ b.seats + b.over := fun k x hx => by
    have := h.bad b hb k x hx
    unfold badP at this
    rw [Bool.or_eq_false_iff, decide_eq_false_iff_not, decide_eq_false_iff_not, hm] at this
    exact ⟨by omega, by omega⟩
  have hpos : ∀ (k : Nat) (x : Cl), b.l[k]? = some x → 0 ≤ x.prot := fun k x hx => by
    have := (hk k x hx).1
    have h0 : 0 ≤ leastP b.l k := by
      cases k with
      | zero => exact Int.le_refl _
      | succ k =>
        simp only [leastP]
        split
        · split <;> omega
        · omega
    omega
  refine ⟨⟨hs, hl, fun x hx => ?_⟩, fun k hk' => ?_, fun k hk' => ?_⟩
  · obtain ⟨k, hk', rfl⟩ := List.getElem_of_mem hx
    have h1 := hpos k _ (List.getElem?_eq_getElem hk')
    have h2 := (hk k _ (List.getElem?_eq_getElem hk')).2
    exact ⟨h1, by omega⟩
  · cases k with
    | zero => simp only [limA]; omega
    | succ k =>
      obtain ⟨x, hx⟩ : ∃ x, b.l[k]? = some x := ⟨_, List.getElem?_eq_getElem (by omega)⟩
      have := (hk k x hx).2
      simp only [limA, hx]
      omega
  · obtain ⟨x, hx⟩ : ∃ x, b.l[k]? = some x := ⟨_, List.getElem?_eq_getElem (by omega)⟩
    have h1 := hpos k x hx
    cases k with
    | zero => simp only [limA, hx]; omega
    | succ k =>
      obtain ⟨y, hy⟩ : ∃ y, b.l[k]? = some y := ⟨_, List.getElem?_eq_getElem (by omega)⟩
      have h2 := (hk (k + 1) x hx).1
      simp only [leastP, hy] at h2
      simp only [limA, hx, hy]
      split at h2 <;> omega
theorem int_at {w : World} {A : Option Addr} {n c : Nat} {l : List Int} (h : IntR w (.slice A n c) l) {k : Nat} {x : Int} (hk : l[k]? = some x) : ∃ b o, A = some ⟨b, o, none⟩ ∧ w.cell? ⟨b, o + k, none⟩ = some (.int .i64 x) := by
  obtain ⟨b, o, e, _, hc⟩ := row_get h hk
  have := hc 0 _ rfl
  rw [Nat.mul_one, Nat.add_zero] at this
  exact ⟨b, o, e, this⟩
set_option maxRecDepth 100000 in
set_option maxHeartbeats 8000000 in
theorem cabinLimits_walk (A : Option Addr) (c : Nat) (l : List Cf) (w : World) (hv : CfL w (.slice A l.length c) l) (hz : ∀ f ∈ l, SzCf f) :
    Calls Tryd.prog 5 #[.slice A l.length c] w fun e w' => e = .returned (.bool true) ∧ Below w.heap.size w w' := by
  have KS := Lib.hid (small_any A c l w hv)
  have KA := Lib.hid awake_any
  by_cases hs : SmallP l
  rotate_left
  · rw [small_no hs] at KS
    clear hs hz hv
    go_enter Tryd.func5, Tryd.ntmps5
    go_wp2_with (first
      | (go_at_call 8; refine (KA.out _).mono ?_; rintro e wd ⟨rfl, hbd⟩)
      | (go_at_call 7; refine KS.out.mono ?_; rintro e w' ⟨rfl, hw⟩; have hw := hw.symm; subst hw))
    go_ret
    exact ⟨rfl, hbd⟩
  rw [small_yes hs] at KS
  have hn := hs.1
  have hok := ok_all hz hs
  have HSM := Lib.hid hs.2
  obtain ⟨nf, hnf⟩ : ∃ nf, nf = (conF l l.length).length := ⟨_, rfl⟩
  have KC : Hid (Calls Tryd.prog 11 #[.slice A l.length c] w fun e w' => ∃ (A' : Option Addr) (c' : Nat), e = .returned (.slice A' nf c') ∧ Below w.heap.size w w') := Lib.hid ((rcheck_any A c l w hv hn hok).mono (by
    rintro e w' ⟨v', rfl, hO, hb⟩
    obtain ⟨A', c', rfl, _⟩ := own_form hO (fun x => rfl)
    exact ⟨A', c', by rw [hnf], hb⟩))
  have HV := Lib.hid hv
  by_cases hnz : 0 < nf
  · have g0 : (0 : Int) < (nf : Int) := by omega
    clear hs hz hv hok hnf hnz HV
    go_enter Tryd.func5, Tryd.ntmps5
    go_wp2_with (first
      | (go_at_call 8; refine (KA.out _).mono ?_; rintro e wd ⟨rfl, hbd⟩)
      | (go_at_call 11; refine KC.out.mono ?_; rintro e wc ⟨A6, c6, rfl, hbc⟩)
      | (go_at_call 7; refine KS.out.mono ?_; rintro e w' ⟨rfl, hw⟩; have hw := hw.symm; subst hw))
    go_ret
    exact ⟨rfl, hbc.trans (hbd.mono hbc.size)⟩
  have g0 : ¬ (0 : Int) < (nf : Int) := by omega
  have HRG := Lib.hid (right_of (l := l) (List.eq_nil_of_length_eq_zero (by omega)))
  have gd : decide (0 < nf) = false := decide_eq_false hnz
  clear hs hz hv hok hnf
  go_enter Tryd.func5, Tryd.ntmps5
  go_upto_region 3 with (first
    | (go_at_call 11; refine KC.out.mono ?_; rintro e w1 ⟨A6, c6, rfl, hb1⟩)
    | (go_at_call 7; refine KS.out.mono ?_; rintro e w' ⟨rfl, hw⟩; have hw := hw.symm; subst hw))
  clear g0 KC KS gd hnz
  go_wp2
  go_loopg [3] l.length (fun kx v3 wr => ∃ i : Nat, v3 = .int .i64 i ∧ i + kx = l.length ∧ Below w.heap.size w wr)
  case atStart => exact ⟨0, rfl, by omega, hb1⟩
  case round =>
    obtain ⟨i, rfl, hix, hS⟩ := hrel
    clear hb1
    have HIX := Lib.hid hix
    have HS := Lib.hid hS
    by_cases hlt : i < l.length
    rotate_left
    · have i1 : ¬ (i : Int) < (l.length : Int) := by omega
      go_wp2_with (go_at_call 8; refine (KA.out _).mono ?_; rintro e wd ⟨rfl, hbd⟩)
      go_ret
      exact ⟨rfl, HS.out.trans (hbd.mono HS.out.size)⟩
    have i1 : (i : Int) < (l.length : Int) := by omega
    obtain ⟨f, hf⟩ : ∃ f, l[i]? = some f := ⟨_, List.getElem?_eq_getElem hlt⟩
    have HF := Lib.hid hf
    obtain ⟨n, hn2⟩ : ∃ n, n = f.l.length := ⟨_, rfl⟩
    have HN := Lib.hid hn2
    have hn8 := (HSM.out f (List.mem_of_getElem? hf)).1
    rw [← hn2] at hn8
    have HROW : Hid (∀ W, Below w.heap.size w W → ∃ b o, A = some ⟨b, o, none⟩ ∧ W.cell? ⟨b, o + i * 2 + 1, none⟩ = some (.slice f.A n f.c)) := Lib.hid (fun W h => by
      obtain ⟨b, o, e, _, hc⟩ := row_get (HV.out.more h).1 hf
      exact ⟨b, o, e, by rw [hn2]; exact hc 1 _ rfl⟩)
    clear hf hn2 hix
    go_upto_region 7 with fail
    go_loopg [4] n (fun kx v4 wq => ∃ k : Nat, v4 = .int .i64 k ∧ k + kx = n ∧ Below w.heap.size w wq)
    case atStart => exact ⟨0, rfl, by omega, HS.out⟩
    case round =>
      obtain ⟨k, rfl, hkx, hS2⟩ := hrel
      have HKX := Lib.hid hkx
      obtain ⟨b1, o1, e1, c1⟩ := HROW.out _ hS2
      cases e1
      have HS2 := Lib.hid hS2
      by_cases hlk : k < n
      rotate_left
      · have i2 : ¬ (k : Int) < (n : Int) := by omega
        go_wp2
        go_roundg (l.length - (i + 1))
        case measure => have := HIX.out; omega
        case rel => exact ⟨i + 1, by go_num, by have := HIX.out; omega, HS2.out⟩
      have i2 : (k : Int) < (n : Int) := by omega
      obtain ⟨b, hb⟩ : ∃ b, f.l[k]? = some b := ⟨_, List.getElem?_eq_getElem (by have := HN.out; omega)⟩
      have hAt : CfAt wr f := CfAt.more (HV.out.2 f (List.mem_of_getElem? HF.out)) hS2
      obtain ⟨b2, o2, e2, hg2, hc2⟩ := row_get hAt.1 hb
      rw [e2] at c1
      have d0 := hc2 0 _ rfl
      have d1 := hc2 1 _ rfl
      have d2 := hc2 2 _ rfl
      have d3 := hc2 3 _ rfl
      rw [Nat.add_zero] at d0
      obtain ⟨hLP, hL0, hL1⟩ := lim_right (HRG.out f (List.mem_of_getElem? HF.out)) (List.mem_of_getElem? hb) ((HSM.out f (List.mem_of_getElem? HF.out)).2 b (List.mem_of_getElem? hb))
      have HLP := Lib.hid hLP
      have HL0 := Lib.hid hL0
      have HL1 := Lib.hid hL1
      have hCb := hAt.2 b (List.mem_of_getElem? hb)
      have hbN := bel_alloc wr (.cells #[.string b.name, .int .i64 b.seats, .int .i64 b.over, .slice b.A b.l.length b.c] cbT)
      have z0 := (cells_new wr #[.string b.name, .int .i64 b.seats, .int .i64 b.over, .slice b.A b.l.length b.c] cbT 0).trans (show _ = some (Value.string b.name) from rfl)
      have z1 := (cells_new wr #[.string b.name, .int .i64 b.seats, .int .i64 b.over, .slice b.A b.l.length b.c] cbT 1).trans (show _ = some (Value.int .i64 b.seats) from rfl)
      have z2 := (cells_new wr #[.string b.name, .int .i64 b.seats, .int .i64 b.over, .slice b.A b.l.length b.c] cbT 2).trans (show _ = some (Value.int .i64 b.over) from rfl)
      have z3 := (cells_new wr #[.string b.name, .int .i64 b.seats, .int .i64 b.over, .slice b.A b.l.length b.c] cbT 3).trans (show _ = some (Value.slice b.A b.l.length b.c) from rfl)
      obtain ⟨NB, hNB⟩ : ∃ NB, NB = wr.heap.size := ⟨_, rfl⟩
      rw [← hNB] at z0 z1 z2 z3
      have HCB : Hid (CbAt (wr.alloc (.cells #[.string b.name, .int .i64 b.seats, .int .i64 b.over, .slice b.A b.l.length b.c] cbT)) b) := Lib.hid (hCb.more hbN)
      have HBW : Hid (Below w.heap.size w (wr.alloc (.cells #[.string b.name, .int .i64 b.seats, .int .i64 b.over, .slice b.A b.l.length b.c] cbT))) := Lib.hid (hS2.trans (hbN.mono hS2.size))
      clear hc2 hg2 e2 hkx hb hAt hLP hL0 hL1 hCb hbN hS2
      go_upto_region 10 with fail
      rw [← hNB]
      clear d0 d1 d2 d3 c1 hNB
      generalize wr.alloc (.cells #[.string b.name, .int .i64 b.seats, .int .i64 b.over, .slice b.A b.l.length b.c] cbT) = w5 at *
      have Z0 := Lib.hid (fun W (h : SW w5 W) => bel_get z0 _ h)
      have Z1 := Lib.hid (fun W (h : SW w5 W) => bel_get z1 _ h)
      have Z2 := Lib.hid (fun W (h : SW w5 W) => bel_get z2 _ h)
      have Z3 := Lib.hid (fun W (h : SW w5 W) => bel_get z3 _ h)
      obtain ⟨m, hm⟩ : ∃ m, m = b.l.length := ⟨_, rfl⟩
      have HM := Lib.hid hm
      have KL : Hid (∀ W, SW w5 W → Calls Tryd.prog 17 #[.agg #[.string b.name, .int .i64 b.seats, .int .i64 b.over, .slice b.A b.l.length b.c]] W fun e w' => ∃ (A' : Option Addr) (c' : Nat), e = .returned (.slice A' m c') ∧ (IntR w' (.slice A' m c') (tab (limA b) m)) ∧ SW w5 w') := Lib.hid (fun W h => (limits_any b W (CbAt.more HCB.out h) HLP.out).mono (by
        rintro e w' ⟨v', rfl, hI, hb⟩
        obtain ⟨A', c', rfl, hI2⟩ := id hI
        rw [tab_len, ← hm] at hI ⊢
        exact ⟨A', c', rfl, hI, Below.trans h (Below.mono hb h.size)⟩))
      have KRB : Hid (∀ W, SW w5 W → Calls Tryd.prog 18 #[.agg #[.string b.name, .int .i64 b.seats, .int .i64 b.over, .slice b.A b.l.length b.c]] W fun e w' => ∃ (A' : Option Addr) (c' : Nat), e = .returned (.slice A' m c') ∧ (IntR w' (.slice A' m c') (tab (limA b) m)) ∧ Below W.heap.size W w' ∧ SW w5 w') := Lib.hid (fun W h => (rlimits_any b W (CbAt.more HCB.out h) HLP.out).mono (by
        rintro e w' ⟨v', rfl, hI, hb⟩
        obtain ⟨A', c', rfl, hI2⟩ := id hI
        rw [tab_len, ← hm] at hI ⊢
        exact ⟨A', c', rfl, hI, hb, Below.trans h (Below.mono hb h.size)⟩))
      clear z0 z1 z2 z3 hm
      go_cut [6, 7] from 25 to 96 (fun v6 v7 wx => ∃ (A1 : Option Addr) (c1 : Nat) (A2 : Option Addr) (c2 : Nat), v6 = .slice A1 m c1 ∧ v7 = .slice A2 m c2 ∧ Hid (IntR wx (.slice A1 m c1) (tab (limA b) m) ∧ IntR wx (.slice A2 m c2) (tab (limA b) m) ∧ SW w5 wx))
      case first =>
        clear HSM HV HRG HROW HL0 HL1 HLP HCB
        have hS5 : SW w5 w5 := Below.refl _ _
        have f0 : ∀ W, SW w5 W → W.cell? ⟨NB, 0, none⟩ = some (.string b.name) := Z0.out
        have f1 : ∀ W, SW w5 W → W.cell? ⟨NB, 1, none⟩ = some (.int .i64 b.seats) := Z1.out
        have f2 : ∀ W, SW w5 W → W.cell? ⟨NB, 2, none⟩ = some (.int .i64 b.over) := Z2.out
        have f3 : ∀ W, SW w5 W → W.cell? ⟨NB, 3, none⟩ = some (.slice b.A b.l.length b.c) := Z3.out
        have hS : (SW w5) _ := SW.drew _
        refine wp_region_held_drew (S := SW w5) (by kernel_rfl) hS (fun _ => ?_)
        refine wpAnyH_take (i := 0) (v := ?vL0) rfl (by kernel_rfl) (by kernel_rfl) (by kernel_rfl) (fun _ _ _ h => h) (Or.inl ⟨by rfl, ?hyL0⟩) hS ?restL0
        case hyL0 =>
          intro w hSw
          have k0 := f0 w hSw; have k1 := f1 w hSw; have k2 := f2 w hSw; have k3 := f3 w hSw
          first | (go_simp; done) | (go_simp; with_reducible rfl)
        try simp only [Act.put, List.setIfInBounds_toArray, List.set_cons_zero, List.set_cons_succ]
        refine wpAnyH_take (i := 2) (v := ?vL2) rfl (by kernel_rfl) (by kernel_rfl) (by kernel_rfl) (fun _ _ _ h => h) (Or.inl ⟨by rfl, ?hyL2⟩) hS ?restL2
        case hyL2 =>
          intro w hSw
          have k0 := f0 w hSw; have k1 := f1 w hSw; have k2 := f2 w hSw; have k3 := f3 w hSw
          first | (go_simp; done) | (go_simp; with_reducible rfl)
        try simp only [Act.put, List.setIfInBounds_toArray, List.set_cons_zero, List.set_cons_succ]
        refine wpAnyH_ready (rs := [1]) (by kernel_rfl) (by simp) ?_
        refine AllReadyH.cons rfl (fun K hK => ?_) AllReadyH.nil
        go_simp
        go_wp2_with ((go_at_call 17; refine (KL.out _ hS).mono ?_; rintro e wx1 ⟨A1, c1, rfl, hI1, hS1⟩; have hS := hS1))
        refine hK.out _ _ hS (fun _ => ?_)
        clear hK K
        refine wpAnyH_ready (rs := [3]) (by kernel_rfl) (by simp) ?_
        refine AllReadyH.cons rfl (fun K hK => ?_) AllReadyH.nil
        go_simp
        go_wp2_with ((go_at_call 18; refine (KRB.out _ hS).mono ?_; rintro e wx2 ⟨A2, c2, rfl, hI2, hbb, hS2⟩; have hI1 := RowL.more hI1 hbb; have hS := hS2))
        refine hK.out _ _ hS (fun _ => ?_)
        clear hK K
        refine wpAnyH_take (i := 4) (v := ?vL4) rfl (by kernel_rfl) (by kernel_rfl) (by kernel_rfl) (fun _ _ _ h => h) (Or.inl ⟨by rfl, ?hyL4⟩) hS ?restL4
        case hyL4 =>
          intro w hSw
          first | (go_simp; done) | (go_simp; with_reducible rfl)
        try simp only [Act.put, List.setIfInBounds_toArray, List.set_cons_zero, List.set_cons_succ]
        refine wpAnyH_take (i := 5) (v := ?vL5) rfl (by kernel_rfl) (by kernel_rfl) (by kernel_rfl) (fun _ _ _ h => h) (Or.inl ⟨by rfl, ?hyL5⟩) hS ?restL5
        case hyL5 =>
          intro w hSw
          first | (go_simp; done) | (go_simp; with_reducible rfl)
        try simp only [Act.put, List.setIfInBounds_toArray, List.set_cons_zero, List.set_cons_succ]
        refine wpAnyH_done (by kernel_rfl) ?_ _
        try simp only [List.getElem_toArray, List.getElem_cons_succ, List.getElem_cons_zero, List.set_cons_zero, List.set_cons_succ]
        try simp only [List.setIfInBounds_toArray, List.set_cons_zero, List.set_cons_succ]
        go_wp2_with fail
        go_meet
        exact ⟨A1, c1, A2, c2, rfl, rfl, Lib.hid ⟨hI1, hI2, hS⟩⟩
      case rest =>
        obtain ⟨A1, c1, A2, c2, rfl, rfl, HI⟩ := hcut
        obtain ⟨w6, hw6⟩ : ∃ w6, w6 = wc := ⟨_, rfl⟩
        subst hw6
        have y0 := Z0.out _ HI.out.2.2
        have y1 := Z1.out _ HI.out.2.2
        have y2 := Z2.out _ HI.out.2.2
        have y3 := Z3.out _ HI.out.2.2
        have hS6 : SW w6 w6.drew := SW.drew _
        have r0 : ∀ z : Wd (SW w6), z.w.cell? ⟨NB, 0, none⟩ = some (Value.string b.name) := fun z => bel_get y0 _ z.ok
        have r1 : ∀ z : Wd (SW w6), z.w.cell? ⟨NB, 1, none⟩ = some (Value.int .i64 b.seats) := fun z => bel_get y1 _ z.ok
        have r2 : ∀ z : Wd (SW w6), z.w.cell? ⟨NB, 2, none⟩ = some (Value.int .i64 b.over) := fun z => bel_get y2 _ z.ok
        have r3 : ∀ z : Wd (SW w6), z.w.cell? ⟨NB, 3, none⟩ = some (Value.slice b.A b.l.length b.c) := fun z => bel_get y3 _ z.ok
        have KQ : Hid (∀ W, SW w6 W → Calls Tryd.prog 19 #[.agg #[.string b.name, .int .i64 b.seats, .int .i64 b.over, .slice b.A b.l.length b.c]] W fun e w' => e = .returned (.int .i64 (b.seats + b.over)) ∧ SW w6 w') := Lib.hid (fun W h => (auth_any b W HLP.out.siz).mono (by rintro e w' ⟨rfl, hb⟩; exact ⟨rfl, Below.trans h (Below.mono hb h.size)⟩))
        have KQ2 : Hid (∀ W, SW w6 W → Calls Tryd.prog 20 #[.agg #[.string b.name, .int .i64 b.seats, .int .i64 b.over, .slice b.A b.l.length b.c]] W fun e w' => e = .returned (.int .i64 (b.seats + b.over)) ∧ SW w6 w') := Lib.hid (fun W h => (rauth_any b W HLP.out.siz).mono (by rintro e w' ⟨rfl, hb⟩; exact ⟨rfl, Below.trans h (Below.mono hb h.size)⟩))
        have e1 : (b.seats + b.over == b.seats + b.over) = true := by simp
        have e2 : ((m : Int) == (m : Int)) = true := by simp
        clear y0 y1 y2 y3 Z0 Z1 Z2 Z3 KL KRB
        go_upto_region 11 with fail
        have hNe : Nonempty (Wd (SW w6)) := ⟨⟨_, hS6⟩⟩
        refine quietS (S := SW w6) (by kernel_rfl) (by kernel_rfl) (hS6) ?_
        repeat (first | go_big_quiet_skip | (go_big_quiet_want; go_big_quiet_op; first | go_big_quiet_on | go_big_quiet_call (((first | (go_at_call 19; exact quiet_S (KQ.out _ (Wd.ok _))) | (go_at_call 20; exact quiet_S (KQ2.out _ (Wd.ok _))))))))
        refine wpQuiet_nil ?_
        rintro W ⟨⟨_, hW⟩, rfl⟩
        have HI : Hid (IntR W (.slice A1 m c1) (tab (limA b) m) ∧ IntR W (.slice A2 m c2) (tab (limA b) m) ∧ SW w5 W) := Lib.hid ⟨HI.out.1.more hW, HI.out.2.1.more hW, Below.trans HI.out.2.2 (Below.mono hW HI.out.2.2.size)⟩
        clear r0 r1 r2 r3 hW hS6 KQ KQ2 e1 e2
        go_upto_region 14 with fail
        have hm30 : m ≤ 30 := by have := HLP.out.len; have := HM.out; omega
        obtain ⟨w7, hw7⟩ : ∃ w7, w7 = W := ⟨_, rfl⟩
        subst hw7
        go_loopg [8] m (fun kx v8 wz => ∃ j : Nat, v8 = .int .i64 j ∧ j + kx = m ∧ SW w7 wz)
        case atStart => exact ⟨0, rfl, by omega, Below.refl _ _⟩
        case round =>
          obtain ⟨j, rfl, hjx, hS3⟩ := hrel
          have HJX := Lib.hid hjx
          have HS3 := Lib.hid hS3
          by_cases hlj : j < m
          rotate_left
          · have i3 : ¬ (j : Int) < (m : Int) := by omega
            have HY : Hid (Below w.heap.size w wr) := Lib.hid (by
              have h1 := HBW.out.trans (Below.mono HI.out.2.2 HBW.out.size)
              exact h1.trans (Below.mono HS3.out h1.size))
            go_wp2
            go_roundg (n - (k + 1))
            case measure => have := HKX.out; omega
            case rel => exact ⟨k + 1, by go_num, by have := HKX.out; omega, HY.out⟩
          have i3 : (j : Int) < (m : Int) := by omega
          obtain ⟨b3, o3, ea, v3⟩ := int_at (HI.out.1.more hS3) (tab_get (limA b) m j hlj)
          obtain ⟨b4, o4, eb, v4⟩ := int_at (HI.out.2.1.more hS3) (tab_get (limA b) m j hlj)
          cases ea
          cases eb
          have h0 := HL0.out j (by have := HM.out; omega)
          have h0' : ¬ limA b j < 0 := by omega
          have h0d : decide (limA b j < 0) = false := decide_eq_false h0'
          have e3 : (limA b j == limA b j) = true := by simp
          cases j with
          | zero =>
            rw [Nat.add_zero] at v3 v4
            clear hjx h0
            generalize limA b 0 = y0 at *
            go_wp2
            go_quiet (fail)
            go_wp2
            go_roundg (m - (0 + 1))
            case measure => have := HJX.out; omega
            case rel => exact ⟨0 + 1, by go_num, by have := HJX.out; omega, below_drewN HS3.out _⟩
          | succ q =>
            obtain ⟨b5, o5, ec, v5⟩ := int_at (HI.out.1.more hS3) (tab_get (limA b) m q (by omega))
            cases ec
            have k1 : 0 < (q : Int) + 1 := by omega
            have k2 : (0 : Int) < ((q + 1 : Nat) : Int) := by omega
            have i4 : (q : Int) < (m : Int) := by omega
            have w1 : IntKind.i64.wrap (q : Int) = (q : Int) := IntWalk.i64_in _ (by omega)
            have h1 := HL1.out q (by have := HM.out; omega)
            have h1' : ¬ limA b q < limA b (q + 1) := by omega
            have h1d : decide (limA b q < limA b (q + 1)) = false := decide_eq_false h1'
            clear hjx h0 h1
            generalize limA b (q + 1) = y1 at *
            generalize limA b q = y0 at *
            go_wp2
            go_quiet (fail)
            go_wp2
            go_roundg (m - (q + 1 + 1))
            case measure => have := HJX.out; omega
            case rel => exact ⟨q + 1 + 1, by go_num, by have := HJX.out; omega, below_drewN HS3.out _⟩
end Go.Proofs.YtjcceeikkehglaaDoor
