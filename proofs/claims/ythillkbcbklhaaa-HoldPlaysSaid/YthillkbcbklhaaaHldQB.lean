/- The specification's Held; the law's comparison of two lists of holds. -/
import Derived.Deep.QuietTactic
import Derived.BigQuiet
import Derived.Test.YthillkbcbklhaaaHldM
import Derived.Test.YthillkbcbklhaaaHldQA
namespace Go.Proofs.Ythillkbcbklhaaa
open Go.RowKit Go.Shelf Go.Maps Go.MapKept
set_option linter.unusedSimpArgs false
set_option linter.unusedVariables false

theorem sw_cellQ {w5 : World} {a : Addr} {x : Value} (hc : w5.cell? a = some x) : ∀ W, SW w5 W → W.cell? a = some x := fun W h => bel_cell h hc
theorem prt_cls {i : Lid} {s : ByteArray} {z : Hd} (k : Nat) (h : (z.cls.toList == s.toList) = false) : prtH i s z k = 0 := by
  unfold prtH eqS
  rw [h]
  simp
theorem RefAt.legs {w : World} {B : Nat} {A : Option Addr} {c : Nat} {hs : List Hd} (h : RefAt w B A c hs) {z : Hd} (hz : z ∈ hs) : LidL w (.slice z.A z.l.length z.c) z.l := (h.ok z hz).2.1.rowL z.c
set_option maxRecDepth 100000 in
set_option maxHeartbeats 8000000 in
theorem rheld_any (B : Nat) (A : Option Addr) (c : Nat) (hs : List Hd) (i : Lid) (s : ByteArray) (w : World) (hl : hs.length ≤ 1000) (h : RefAt w B A c hs) :
    Calls Try.prog 22 #[.pointer (some ⟨B, 0, none⟩), aggD i, .string s] w fun e w' => e = .returned (.int .i64 (heldP i s hs)) ∧ Below w.heap.size w w' := by
  have hb := bel_alloc w (.cells #[.string i.car, .int .i64 i.num, .int .i64 i.day, .string i.frm] lidT)
  obtain ⟨q0, q1, q2, q3⟩ := lid_new w i
  have HS := Lib.hid (h.more hb)
  have HB := Lib.hid hb
  have HLN := Lib.hid hl
  have HT : Hid (∀ z ∈ hs, twiP z.l = false ∧ (1 ≤ z.cnt ∧ z.cnt ≤ 99) ∧ z.l.length ≤ 1000) := Lib.hid (fun z hz => ⟨rgt_twi (h.ok z hz).2.2, rgt_cnt (h.ok z hz).2.2, (h.ok z hz).1.len⟩)
  have HIN : Hid (∀ k, 0 ≤ heldP i s (hs.take k) ∧ heldP i s (hs.take k) ≤ 99000) := Lib.hid (fun k => by
    have h1 := heldP_in i s (hs.take k) (fun h hh => (HT.out h (List.mem_of_mem_take hh)).2.1)
    rw [List.length_take] at h1
    omega)
  have HE : Hid (heldP i s (hs.take hs.length) = heldP i s hs) := Lib.hid (by rw [List.take_length])
  have HE0 : Hid (heldP i s (hs.take 0) = 0) := Lib.hid rfl
  generalize heldP i s hs = T at *
  clear h hb hl
  go_enter Try.func22, Try.ntmps22
  go_upto_region 1 with fail
  generalize w.alloc (.cells #[.string i.car, .int .i64 i.num, .int .i64 i.day, .string i.frm] lidT) = w5 at *
  go_wp2
  go_loopw [7, 8] (fun vn vi wr => ∃ k : Nat, k ≤ hs.length ∧ vn = .int .i64 (heldP i s (hs.take k)) ∧ vi = .int .i64 k ∧ Below w5.heap.size w5 wr) (fun _ vi _ => hs.length - (intOf vi).toNat)
  case atStart => exact ⟨0, Nat.zero_le _, by rw [HE0.out], rfl, Below.refl _ _⟩
  case round =>
    obtain ⟨k, hk, rfl, rfl, hW⟩ := hrel
    obtain ⟨w6, rfl⟩ : ∃ w6, w6 = wr := ⟨_, rfl⟩
    have hS6 := HS.out.more hW
    have b0 := hS6.box
    by_cases hlt : k < hs.length
    · obtain ⟨z, hz⟩ : ∃ z, hs[k]? = some z := ⟨_, List.getElem?_eq_getElem hlt⟩
      obtain ⟨b, o, rfl, _, hc⟩ := row_get (hS6.rows.rowL c) hz
      have z1 := hc 1 _ rfl
      have z2 := hc 2 _ rfl
      have z3 := hc 3 _ rfl
      have i1 : (0 : Int) ≤ (k : Int) := by omega
      have i3 : (k : Int) < (hs.length : Int) := by omega
      have wr1 : IntKind.i64.wrap ((k : Int) + 1) = (k : Int) + 1 := IntWalk.i64_in _ (by have := HLN.out; omega)
      have hzm := List.mem_of_getElem? hz
      have HTZ := Lib.hid (HT.out z hzm)
      have HZL := Lib.hid (hS6.legs hzm)
      have HSU := Lib.hid (heldP_succ (i := i) (s := s) hz)
      have HIK := Lib.hid (HIN.out k)
      have HIK1 := Lib.hid (HIN.out (k + 1))
      have HLZ := Lib.hid HTZ.out.2.2
      have HWK := Lib.hid hW
      have HY : Hid (∀ W, Below w6.heap.size w6 W → ∀ j u, (match j with | 0 => some (Value.string i.car) | 1 => some (.int .i64 i.num) | 2 => some (.int .i64 i.day) | 3 => some (.string i.frm) | _ => none) = some u → W.cell? ⟨w.heap.size, j, none⟩ = some u) := Lib.hid (fun W h j u hu => by
        match j, hu with
        | 0, hu => cases hu; exact bel_cell h (bel_cell HWK.out q0)
        | 1, hu => cases hu; exact bel_cell h (bel_cell HWK.out q1)
        | 2, hu => cases hu; exact bel_cell h (bel_cell HWK.out q2)
        | 3, hu => cases hu; exact bel_cell h (bel_cell HWK.out q3))
      have HQ0 := Lib.hid q0
      have HQ1 := Lib.hid q1
      have HQ2 := Lib.hid q2
      have HQ3 := Lib.hid q3
      clear hz hc hzm hW hS6 q0 q1 q2 q3
      obtain ⟨S0, hS0⟩ : ∃ S0, S0 = heldP i s (hs.take k) := ⟨_, rfl⟩
      obtain ⟨S1, hS1⟩ : ∃ S1, S1 = heldP i s (hs.take (k + 1)) := ⟨_, rfl⟩
      rw [← hS0] at HSU HIK ⊢
      rw [← hS1] at HSU HIK1
      have HS0' := Lib.hid hS0
      have HS1' := Lib.hid hS1
      clear hS0 hS1
      go_wp2
      go_loopw [7, 9] (fun vn vj wq => ∃ j : Nat, j ≤ z.l.length ∧ vn = .int .i64 (S0 + prtH i s z j) ∧ vj = .int .i64 j ∧ Below w6.heap.size w6 wq) (fun _ vj _ => z.l.length - (intOf vj).toNat)
      case atStart => exact ⟨0, Nat.zero_le _, by rw [prt_zero, Int.add_zero], rfl, Below.refl _ _⟩
      case round =>
        obtain ⟨j, hj, rfl, rfl, hW2⟩ := hrel
        have c0 := bel_cell hW2 b0
        have u1 := bel_cell hW2 z1
        have u2 := bel_cell hW2 z2
        have u3 := bel_cell hW2 z3
        clear b0 z1 z2 z3
        cases h1 : (z.cls.toList == s.toList) with
        | false =>
          have hE : S0 + prtH i s z j = heldP i s (hs.take (k + 1)) := by rw [← HS1'.out, HSU.out, prt_cls j h1, prt_cls _ h1]
          have HW2 := Lib.hid hW2
          clear hW2
          by_cases hltj : j < z.l.length
          · have n2 : (j : Int) < (z.l.length : Int) := by omega
            rw [hE]
            clear hE
            go_wp2
            go_roundw
            case rel => exact ⟨k + 1, by omega, rfl, by go_num, HWK.out.trans (HW2.out.mono HWK.out.size)⟩
            case measure => simp [intOf]; omega
          · have n2 : decide ((j : Int) < (z.l.length : Int)) = false := decide_eq_false (by omega)
            rw [hE]
            clear hE
            go_wp2
            go_roundw
            case rel => exact ⟨k + 1, by omega, rfl, by go_num, HWK.out.trans (HW2.out.mono HWK.out.size)⟩
            case measure => simp [intOf]; omega
        | true =>
          by_cases hltj : j < z.l.length
          · obtain ⟨x, hx⟩ : ∃ x, z.l[j]? = some x := ⟨_, List.getElem?_eq_getElem hltj⟩
            obtain ⟨b2, o2, hA2, _, hc2⟩ := row_get (RowL.more HZL.out hW2) hx
            rw [hA2] at u1
            have e0 := hc2 0 _ rfl
            have e1 := hc2 1 _ rfl
            have e2 := hc2 2 _ rfl
            have e3 := hc2 3 _ rfl
            rw [Nat.add_zero] at e0
            have n1 : (0 : Int) ≤ (j : Int) := by omega
            have n2 : (j : Int) < (z.l.length : Int) := by omega
            have wj1 : IntKind.i64.wrap ((j : Int) + 1) = (j : Int) + 1 := IntWalk.i64_in _ (by have := HLZ.out; omega)
            have v0 := HY.out _ hW2 0 _ rfl
            have v1 := HY.out _ hW2 1 _ rfl
            have v2 := HY.out _ hW2 2 _ rfl
            have v3 := HY.out _ hW2 3 _ rfl
            have heq := fun W => run_eqD x i W
            have HNO : Hid ((eqS z.cls s && eqD x i) = false → prtH i s z (j + 1) = prtH i s z j) := Lib.hid (prt_no hx)
            have HYE := Lib.hid (fun h1 h2 => prt_yes (i := i) (s := s) HTZ.out.1 hx h1 h2)
            have HP0 : Hid (0 ≤ prtH i s z j ∧ prtH i s z j ≤ 99) := Lib.hid (by
              have := HTZ.out.2.1
              unfold prtH
              split <;> omega)
            have HW2 := Lib.hid hW2
            clear hx hc2 hW2
            cases h2 : eqD x i with
            | false =>
              have HR : Hid (prtH i s z (j + 1) = prtH i s z j) := Lib.hid (HNO.out (by rw [h2]; simp))
              rw [h2] at heq
              go_upto_region 8 with fail
              go_quiet (fail)
              go_wp2
              go_roundw
              case rel => exact ⟨j + 1, by omega, by rw [HR.out], by go_num, below_drewN HW2.out _⟩
              case measure => simp [intOf]; omega
            | true =>
              have hR := HYE.out (by unfold eqS; exact h1) h2
              have wn : IntKind.i64.wrap (S0 + prtH i s z j + z.cnt) = S0 + prtH i s z (j + 1) := by rw [hR, IntWalk.i64_in _ (by have := HIK.out; have := HP0.out; have := HTZ.out.2.1; omega)]; omega
              rw [h2] at heq
              clear hR
              go_upto_region 8 with fail
              go_quiet (fail)
              go_wp2
              go_roundw
              case rel => exact ⟨j + 1, by omega, by first | rfl | rw [wn], by go_num, below_drewN HW2.out _⟩
              case measure => simp [intOf]; omega
          · obtain rfl : j = z.l.length := by omega
            have n2 : decide ((z.l.length : Int) < (z.l.length : Int)) = false := decide_eq_false (by omega)
            have hE : S0 + prtH i s z z.l.length = heldP i s (hs.take (k + 1)) := by rw [← HSU.out]; exact HS1'.out
            have HW2 := Lib.hid hW2
            clear hW2
            rw [hE]
            clear hE
            go_wp2
            go_roundw
            case rel => exact ⟨k + 1, by omega, rfl, by go_num, HWK.out.trans (HW2.out.mono HWK.out.size)⟩
            case measure => simp [intOf]; omega
    · obtain rfl : k = hs.length := by omega
      have i3 : ¬ (hs.length : Int) < (hs.length : Int) := by omega
      rw [HE.out]
      go_wp2
      go_ret
      exact ⟨rfl, HB.out.trans (hW.mono HB.out.size)⟩
theorem eqH_con {a b : Hd} (h : conH a = conH b) : eqH a b = true := by
  obtain ⟨h1, h2, h3, h4, h5⟩ := con_facts h
  unfold eqH
  rw [h1, h2, h3, h4, h5, (eqS_iff _ _).2 rfl]
  simp
theorem rowRH : RT Try.prog 47 31 5 encH where
  ht := Try.underlying47
  info := ⟨.agg #[.int .i64 0, .slice none 0 0, .string noB, .int .i64 0, .int .i64 0], 64, by kernel_rfl, rfl, by omega⟩
  len x := rfl
  one x u hu := by simp [encH] at hu; rcases hu with rfl | rfl | rfl | rfl | rfl <;> rfl
  pos := by omega
set_option maxRecDepth 100000 in
set_option maxHeartbeats 8000000 in
theorem lsame_any (A A' : Option Addr) (c c' : Nat) (xs ys : List Hd) (w : World) (hl : xs.length ≤ 1000) (hX : HdL w (.slice A xs.length c) xs) (hY : HdL w (.slice A' ys.length c') ys) (hxl : ∀ x ∈ xs, x.l.length ≤ 1000 ∧ LidL w (.slice x.A x.l.length x.c) x.l) (hyl : ∀ x ∈ ys, x.l.length ≤ 1000 ∧ LidL w (.slice x.A x.l.length x.c) x.l) (he : xs.map conH = ys.map conH) :
    Calls Try.prog 18 #[.slice A xs.length c, .slice A' ys.length c'] w fun e w' => e = .returned (.bool true) ∧ Below w.heap.size w w' := by
  have hlen : xs.length = ys.length := by have := congrArg List.length he; simpa using this
  have HX := Lib.hid hX
  have HY := Lib.hid hY
  have HXL := Lib.hid hxl
  have HYL := Lib.hid hyl
  have HE : Hid (∀ (k : Nat) (x y : Hd), xs[k]? = some x → ys[k]? = some y → eqH x y = true) := Lib.hid (fun k x y h1 h2 => by
    have h3 : (xs.map conH)[k]? = (ys.map conH)[k]? := by rw [he]
    rw [List.getElem?_map, List.getElem?_map, h1, h2] at h3
    exact eqH_con (Option.some.inj h3))
  have HLM := Lib.hid hlen
  have HLN := Lib.hid hl
  have q0 : ((xs.length : Int) != (ys.length : Int)) = false := by simp [hlen]
  have q1 : (ys.length : Int) = (xs.length : Int) := by omega
  clear hlen hX hY hxl hyl he hl
  go_enter Try.func18, Try.ntmps18
  go_wp2
  go_loopw [5] (fun vi wr => ∃ k : Nat, k ≤ xs.length ∧ vi = .int .i64 k ∧ Below w.heap.size w wr) (fun vi _ => xs.length - (intOf vi).toNat)
  case atStart => exact ⟨0, Nat.zero_le _, rfl, Below.refl _ _⟩
  case round =>
    obtain ⟨k, hk, rfl, hSr⟩ := hrel
    obtain ⟨w5, rfl⟩ : ∃ w5, w5 = wr := ⟨_, rfl⟩
    by_cases hlt : k < xs.length
    · have hlt2 : k < ys.length := by have := HLM.out; omega
      obtain ⟨x, hx⟩ : ∃ x, xs[k]? = some x := ⟨_, List.getElem?_eq_getElem hlt⟩
      obtain ⟨y, hy⟩ : ∃ y, ys[k]? = some y := ⟨_, List.getElem?_eq_getElem hlt2⟩
      obtain ⟨b, o, rfl, _, hc⟩ := row_get (RowL.more HX.out hSr) hx
      obtain ⟨b2, o2, rfl, _, hc2⟩ := row_get (RowL.more HY.out hSr) hy
      have i1 : (0 : Int) ≤ (k : Int) := by omega
      have i2 : (k : Int) < (xs.length : Int) := by omega
      have i3 : (k : Int) < (ys.length : Int) := by omega
      have hk8 : k < 1000 := by have := HLN.out; omega
      have w1 : IntKind.i64.wrap ((k : Int) + 1) = (k : Int) + 1 := IntWalk.i64_in _ (by omega)
      have hxm := HXL.out x (List.mem_of_getElem? hx)
      have hym := HYL.out y (List.mem_of_getElem? hy)
      have KS : Hid (∀ W, SW w5 W → Calls Try.prog 15 #[aggH x, aggH y] W fun e w' => e = .returned (.bool true) ∧ SW w5 w') := Lib.hid (fun W hW => by
        have h1 := hSr.trans (hW.mono hSr.size)
        have h2 := same_any x y W hxm.1 hym.1 (hxm.2.more h1) (hym.2.more h1)
        rw [HE.out k x y hx hy] at h2
        refine h2.mono ?_
        rintro e w' ⟨rfl, h3⟩
        exact ⟨rfl, hW.trans (h3.mono hW.size)⟩)
      have HB := Lib.hid hSr
      have h0 := hc 0 _ rfl
      have h0' := hc2 0 _ rfl
      rw [Nat.add_zero] at h0 h0'
      have x0 := sw_cellQ h0
      have x1 := sw_cellQ (hc 1 _ rfl)
      have x2 := sw_cellQ (hc 2 _ rfl)
      have x3 := sw_cellQ (hc 3 _ rfl)
      have x4 := sw_cellQ (hc 4 _ rfl)
      have y0 := sw_cellQ h0'
      have y1 := sw_cellQ (hc2 1 _ rfl)
      have y2 := sw_cellQ (hc2 2 _ rfl)
      have y3 := sw_cellQ (hc2 3 _ rfl)
      have y4 := sw_cellQ (hc2 4 _ rfl)
      clear hx hc hy hc2 hlt hlt2 q0 q1 hxm hym h0 h0'
      go_upto_region 6 with fail
      have hS : (SW w5) _ := SW.drew _
      refine wp_region_held_drew (S := SW w5) (by kernel_rfl) hS (fun _ => ?_)
      refine wpAnyH_take (i := 0) (v := ?vL0) rfl (by kernel_rfl) (by kernel_rfl) (by kernel_rfl) (fun _ _ _ h => h) (Or.inl ⟨by rfl, ?hyL0⟩) hS ?restL0
      case hyL0 =>
        intro w hSw
        first | (go_simp; done) | (go_simp; with_reducible rfl)
      try simp only [Act.put, List.setIfInBounds_toArray, List.set_cons_zero, List.set_cons_succ]
      refine wpAnyH_take (i := 1) (v := ?vL1) rfl (by kernel_rfl) (by kernel_rfl) (by kernel_rfl) (fun _ _ _ h => h) (Or.inl ⟨by rfl, ?hyL1⟩) hS ?restL1
      case hyL1 =>
        intro w hSw
        first | (go_simp; done) | (go_simp; with_reducible rfl)
      try simp only [Act.put, List.setIfInBounds_toArray, List.set_cons_zero, List.set_cons_succ]
      refine wpAnyH_take (i := 2) (v := ?vL2) rfl (by kernel_rfl) (by kernel_rfl) (by kernel_rfl) (fun _ _ _ h => h) (Or.inl ⟨by rfl, ?hyL2⟩) hS ?restL2
      case hyL2 =>
        intro w hSw
        have k0 := x0 w hSw; have k1 := x1 w hSw; have k2 := x2 w hSw; have k3 := x3 w hSw; have k4 := x4 w hSw; have k5 := y0 w hSw; have k6 := y1 w hSw; have k7 := y2 w hSw; have k8 := y3 w hSw; have k9 := y4 w hSw
        first | (go_simp; done) | (go_simp; with_reducible rfl)
      try simp only [Act.put, List.setIfInBounds_toArray, List.set_cons_zero, List.set_cons_succ]
      refine wpAnyH_take (i := 3) (v := ?vL3) rfl (by kernel_rfl) (by kernel_rfl) (by kernel_rfl) (fun _ _ _ h => h) (Or.inl ⟨by rfl, ?hyL3⟩) hS ?restL3
      case hyL3 =>
        intro w hSw
        have k0 := x0 w hSw; have k1 := x1 w hSw; have k2 := x2 w hSw; have k3 := x3 w hSw; have k4 := x4 w hSw; have k5 := y0 w hSw; have k6 := y1 w hSw; have k7 := y2 w hSw; have k8 := y3 w hSw; have k9 := y4 w hSw
        first | (go_simp; done) | (go_simp; with_reducible rfl)
      try simp only [Act.put, List.setIfInBounds_toArray, List.set_cons_zero, List.set_cons_succ]
      refine wpAnyH_take (i := 4) (v := ?vL4) rfl (by kernel_rfl) (by kernel_rfl) (by kernel_rfl) (fun _ _ _ h => h) (Or.inl ⟨by rfl, ?hyL4⟩) hS ?restL4
      case hyL4 =>
        intro w hSw
        first | (go_simp; done) | (go_simp; with_reducible rfl)
      try simp only [Act.put, List.setIfInBounds_toArray, List.set_cons_zero, List.set_cons_succ]
      refine wpAnyH_take (i := 5) (v := ?vL5) rfl (by kernel_rfl) (by kernel_rfl) (by kernel_rfl) (fun _ _ _ h => h) (Or.inl ⟨by rfl, ?hyL5⟩) hS ?restL5
      case hyL5 =>
        intro w hSw
        first | (go_simp; done) | (go_simp; with_reducible rfl)
      try simp only [Act.put, List.setIfInBounds_toArray, List.set_cons_zero, List.set_cons_succ]
      refine wpAnyH_take (i := 6) (v := ?vL6) rfl (by kernel_rfl) (by kernel_rfl) (by kernel_rfl) (fun _ _ _ h => h) (Or.inl ⟨by rfl, ?hyL6⟩) hS ?restL6
      case hyL6 =>
        intro w hSw
        have k0 := x0 w hSw; have k1 := x1 w hSw; have k2 := x2 w hSw; have k3 := x3 w hSw; have k4 := x4 w hSw; have k5 := y0 w hSw; have k6 := y1 w hSw; have k7 := y2 w hSw; have k8 := y3 w hSw; have k9 := y4 w hSw
        first | (go_simp; done) | (go_simp; with_reducible rfl)
      try simp only [Act.put, List.setIfInBounds_toArray, List.set_cons_zero, List.set_cons_succ]
      refine wpAnyH_take (i := 7) (v := ?vL7) rfl (by kernel_rfl) (by kernel_rfl) (by kernel_rfl) (fun _ _ _ h => h) (Or.inl ⟨by rfl, ?hyL7⟩) hS ?restL7
      case hyL7 =>
        intro w hSw
        have k0 := x0 w hSw; have k1 := x1 w hSw; have k2 := x2 w hSw; have k3 := x3 w hSw; have k4 := x4 w hSw; have k5 := y0 w hSw; have k6 := y1 w hSw; have k7 := y2 w hSw; have k8 := y3 w hSw; have k9 := y4 w hSw
        first | (go_simp; done) | (go_simp; with_reducible rfl)
      try simp only [Act.put, List.setIfInBounds_toArray, List.set_cons_zero, List.set_cons_succ]
      refine wpAnyH_ready (rs := [8]) (by kernel_rfl) (by simp) ?_
      refine AllReadyH.cons rfl (fun K hK => ?_) AllReadyH.nil
      go_simp
      go_wp2_with ((go_at_call 15; refine (KS.out _ hS).mono ?_; rintro e w7 ⟨rfl, hS⟩))
      refine hK.out _ _ hS (fun _ => ?_)
      clear hK K
      refine wpAnyH_take (i := 9) (v := ?vL9) rfl (by kernel_rfl) (by kernel_rfl) (by kernel_rfl) (fun _ _ _ h => h) (Or.inl ⟨by rfl, ?hyL9⟩) hS ?restL9
      case hyL9 =>
        intro w hSw
        first | (go_simp; done) | (go_simp; with_reducible rfl)
      try simp only [Act.put, List.setIfInBounds_toArray, List.set_cons_zero, List.set_cons_succ]
      refine wpAnyH_done (by kernel_rfl) ?_ _
      go_wp2
      go_roundw
      case rel => exact ⟨k + 1, by omega, by go_num, HB.out.trans (hS.mono HB.out.size)⟩
      case measure => simp [intOf]; omega
    · have i2 : ¬ (k : Int) < (xs.length : Int) := by omega
      go_wp2
      go_ret
      exact ⟨rfl, hSr⟩
end Go.Proofs.Ythillkbcbklhaaa
