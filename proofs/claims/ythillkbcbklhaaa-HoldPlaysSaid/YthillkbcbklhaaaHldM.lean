/- The law HoldSums. -/
import Derived.Test.YthillkbcbklhaaaHldK
import Derived.Test.YthillkbcbklhaaaFrameHl
namespace Go.Proofs.Ythillkbcbklhaaa
open Go.RowKit Go.Shelf Go.Maps Go.MapKept
set_option linter.unusedSimpArgs false
set_option linter.unusedVariables false

theorem rowIn_of {α : Type} {sz : Nat} {enc : α → List Value} {w : World} {A : Option Addr} {n c : Nat} {l : List α} (h : RowL sz enc w (.slice A n c) l) : RowIn (fun k => k < w.heap.size) sz enc w A l := by
  obtain ⟨A', c', e, h2⟩ := h
  simp only [Value.slice.injEq] at e
  obtain ⟨rfl, _, _⟩ := e
  rcases h2 with h2 | ⟨b, o, e, h3, h4⟩
  · exact .inl h2
  · exact .inr ⟨b, o, e, h3, h3, h4⟩
theorem RdH.ok {W : World} {x : Hd} (h : RdH W x) (hl : x.l.length ≤ 8) : OkH x := ⟨h.id.1, h.id.2, by omega, h.legs, h.cls⟩
theorem eqD_comm (a b : Lid) : eqD a b = eqD b a := by
  cases h : eqD a b with
  | true => rw [(eqD_iff _ _).1 h]; exact ((eqD_iff _ _).2 rfl).symm
  | false =>
    cases h2 : eqD b a with
    | false => rfl
    | true => rw [(eqD_iff _ _).1 h2, (eqD_iff _ _).2 rfl] at h; cases h
/-- what the first k legs of a hold bring -/
def prtH (i : Lid) (s : ByteArray) (z : Hd) (k : Nat) : Int := if (eqS z.cls s && (z.l.take k).any (eqD i)) = true then z.cnt else 0
theorem prt_zero (i : Lid) (s : ByteArray) (z : Hd) : prtH i s z 0 = 0 := by unfold prtH; simp
theorem prt_end (i : Lid) (s : ByteArray) (z : Hd) : prtH i s z z.l.length = if hldB i s z = true then z.cnt else 0 := by unfold prtH hldB; rw [List.take_length]
theorem prt_no {i : Lid} {s : ByteArray} {z : Hd} {k : Nat} {x : Lid} (hx : z.l[k]? = some x) (h : (eqS z.cls s && eqD x i) = false) : prtH i s z (k + 1) = prtH i s z k := by
  unfold prtH
  rw [List.take_add_one, hx, List.any_append]
  rw [eqD_comm] at h
  cases h1 : eqS z.cls s with
  | false => simp
  | true =>
    rw [h1] at h
    simp at h
    simp [h]
theorem prt_yes {i : Lid} {s : ByteArray} {z : Hd} (ht : twiP z.l = false) {k : Nat} {x : Lid} (hx : z.l[k]? = some x) (h1 : eqS z.cls s = true) (h2 : eqD x i = true) : prtH i s z (k + 1) = prtH i s z k + z.cnt := by
  have e : x = i := (eqD_iff _ _).1 h2
  subst e
  have hno : (z.l.take k).any (eqD x) = false := by
    rw [List.any_eq_false]
    intro y hy hxy
    have := (eqD_iff _ _).1 hxy
    subst this
    rw [twi_first hx hy] at ht
    cases ht
  unfold prtH
  rw [List.take_add_one, hx, List.any_append, hno, h1]
  simp [h2]
theorem con_facts {h z : Hd} (e : conH z = conH h) : z.id = h.id ∧ z.l = h.l ∧ z.cls = h.cls ∧ z.cnt = h.cnt ∧ z.til = h.til := by
  unfold conH at e
  simp only [Prod.mk.injEq] at e
  exact e
theorem con_held {i : Lid} {s : ByteArray} : ∀ {hs zs : List Hd}, zs.map conH = hs.map conH → heldP i s zs = heldP i s hs
  | [], [], _ => rfl
  | [], z :: r, h => by simp at h
  | h :: r, [], e => by simp at e
  | h :: r, z :: q, e => by
    simp only [List.map_cons, List.cons.injEq] at e
    obtain ⟨_, e1, e2, e3, _⟩ := con_facts e.1
    have hb : hldB i s z = hldB i s h := by unfold hldB; rw [e1, e2]
    simp only [heldP, con_held e.2, hb, e3]
theorem con_mem {hs zs : List Hd} (h : zs.map conH = hs.map conH) {z : Hd} (hz : z ∈ zs) : ∃ x ∈ hs, conH z = conH x := by
  have h1 : conH z ∈ hs.map conH := by rw [← h]; exact List.mem_map.2 ⟨z, hz, rfl⟩
  obtain ⟨x, h2, h3⟩ := List.mem_map.1 h1
  exact ⟨x, h2, h3.symm⟩
theorem heldP_succ {i : Lid} {s : ByteArray} {zs : List Hd} {k : Nat} {z : Hd} (h : zs[k]? = some z) : heldP i s (zs.take (k + 1)) = heldP i s (zs.take k) + prtH i s z z.l.length := by
  rw [List.take_add_one, h, heldP_app, prt_end]
  simp [heldP]
theorem rgt_twi {h : Hd} (hr : rgtH h = true) : twiP h.l = false := by
  unfold rgtH at hr
  simp only [Bool.and_eq_true, decide_eq_true_eq, Bool.not_eq_true'] at hr
  exact hr.1.1.1.2
set_option maxRecDepth 100000 in
set_option maxHeartbeats 16000000 in
theorem holdSums_walk (A : Option Addr) (c : Nat) (l : List Hd) (i : Lid) (s : ByteArray) (w : World) (hL : RowL 5 encH w (.slice A l.length c) l) (hrd : ∀ x ∈ l, RdH w x) :
    Calls Try.prog 4 #[.slice A l.length c, aggD i, .string s] w fun e w' => e = .returned (.bool true) ∧ Below w.heap.size w w' := by
  have KA := Lib.hid awake16_any
  have KN := Lib.hid new_any
  have hb0 := bel_alloc w (.cells #[.string i.car, .int .i64 i.num, .int .i64 i.day, .string i.frm] lidT)
  obtain ⟨q0, q1, q2, q3⟩ := lid_new w i
  have HB0 := Lib.hid hb0
  have HL := Lib.hid hL
  have HRD := Lib.hid hrd
  have HSZ0 : Hid (w.heap.size < (w.alloc (.cells #[.string i.car, .int .i64 i.num, .int .i64 i.day, .string i.frm] lidT)).heap.size) := Lib.hid (by simp)
  clear hb0 hL hrd
  by_cases hl : 20 < l.length
  · have j1 : (20 : Int) < (l.length : Int) := by omega
    go_enter Try.func4, Try.ntmps4
    go_upto_region 1 with fail
    generalize w.alloc (.cells #[.string i.car, .int .i64 i.num, .int .i64 i.day, .string i.frm] lidT) = w1 at *
    go_wp2_with (go_at_call 8; (with_reducible refine (KA.out _).mono ?_); rintro e w9 ⟨rfl, hb9⟩)
    go_ret
    exact ⟨rfl, HB0.out.trans (hb9.mono HB0.out.size)⟩
  · have j1 : ¬ (20 : Int) < (l.length : Int) := by omega
    go_enter Try.func4, Try.ntmps4
    go_upto_region 1 with fail
    generalize w.alloc (.cells #[.string i.car, .int .i64 i.num, .int .i64 i.day, .string i.frm] lidT) = w1 at *
    go_upto_region 4 with (go_at_call 9; (with_reducible refine (KN.out _).mono ?_); rintro e w2 ⟨B, mb, rfl, hS, hB1, hm1, hm2, hb2⟩)
    have hne : w.heap.size ≠ mb := by have := HSZ0.out; omega
    have HC : Hid (∀ W, But w2 W (fun k => k = mb) → W.cell? ⟨w.heap.size, 0, none⟩ = some (.string i.car) ∧ W.cell? ⟨w.heap.size, 1, none⟩ = some (.int .i64 i.num) ∧ W.cell? ⟨w.heap.size, 2, none⟩ = some (.int .i64 i.day) ∧ W.cell? ⟨w.heap.size, 3, none⟩ = some (.string i.frm)) := Lib.hid (fun W h => ⟨but_cell h (bel_cell hb2 q0) (fun e => hne e), but_cell h (bel_cell hb2 q1) (fun e => hne e), but_cell h (bel_cell hb2 q2) (fun e => hne e), but_cell h (bel_cell hb2 q3) (fun e => hne e)⟩)
    have HB2 : Hid (Below w.heap.size w w2 ∧ w.heap.size ≤ mb) := Lib.hid ⟨HB0.out.trans (hb2.mono HB0.out.size), by have := HSZ0.out; omega⟩
    have HS0 := Lib.hid hS
    clear hb2 hm1 hm2 hne hB1 hS q0 q1 q2 q3
    go_wp2
    go_loopw [8] (fun vi wr => ∃ k : Nat, k ≤ l.length ∧ vi = .int .i64 k ∧ Hid (∃ hs, HldAt wr B mb k hs ∧ But w2 wr (fun k => k = mb))) (fun vi _ => l.length - (intOf vi).toNat)
    case atStart => exact ⟨0, Nat.zero_le _, rfl, Lib.hid ⟨[], HS0.out, But.refl _ _⟩⟩
    case round =>
      obtain ⟨k, hk, rfl, HI⟩ := hrel
      obtain ⟨hs, hS, hbt⟩ := HI.out
      have hbw : Below w.heap.size w wr := HB2.out.1.trans (hbt.below HB2.out.1.size (fun t ht e => by have := HB2.out.2; omega))
      by_cases hlt : k < l.length
      · obtain ⟨x, hx⟩ : ∃ x, l[k]? = some x := ⟨_, List.getElem?_eq_getElem hlt⟩
        obtain ⟨b, o, rfl, _, hc⟩ := row_get (RowL.more HL.out hbw) hx
        have x0 := hc 0 _ rfl
        have x1 := hc 1 _ rfl
        have x2 := hc 2 _ rfl
        have x3 := hc 3 _ rfl
        have x4 := hc 4 _ rfl
        rw [Nat.add_zero] at x0
        have i1 : (0 : Int) ≤ (k : Int) := by omega
        have i2 : (k : Int) < (l.length : Int) := by omega
        have wr1 : IntKind.i64.wrap ((k : Int) + 1) = (k : Int) + 1 := IntWalk.i64_in _ (by omega)
        have hr := HRD.out x (List.mem_of_getElem? hx)
        by_cases h8 : 8 < x.l.length
        · have j8 : (8 : Int) < (x.l.length : Int) := by omega
          have HBW := Lib.hid hbw
          clear hc hx hS hbt hbw HI hr
          go_wp2_with (go_at_call 8; (with_reducible refine (KA.out _).mono ?_); rintro e w9 ⟨rfl, hb9⟩)
          go_ret
          exact ⟨rfl, HBW.out.trans (hb9.mono HBW.out.size)⟩
        · have j8 : ¬ (8 : Int) < (x.l.length : Int) := by omega
          have KP := Lib.hid (put_any x wr hS (by omega) (hr.ok (by omega)) (((rowIn_of hr.row).more hbw).imp (fun t ht e => by have := HB2.out.2; omega)))
          have HBT := Lib.hid hbt
          clear hc hx hS hbt hbw HI hr
          go_wp2_with (go_at_call 11; (with_reducible refine KP.out.mono ?_); rintro e w9 ⟨rfl, ⟨A', c', hS9⟩, hb9⟩)
          have HE : Hid (∃ hs, HldAt w9 B mb (k + 1) hs ∧ But w2 w9 (fun k => k = mb)) := Lib.hid ⟨_, hS9, HBT.out.trans hb9 (fun _ _ h => h)⟩
          clear hS9 hb9
          go_roundw
          case rel => exact ⟨k + 1, by omega, by go_num, HE⟩
          case measure => simp [intOf]; omega
      · obtain rfl : k = l.length := by omega
        have i2 : ¬ (l.length : Int) < (l.length : Int) := by omega
        have KL := Lib.hid (all_any wr hS (by omega))
        have HS := Lib.hid hS
        have HBT := Lib.hid hbt
        have HBW := Lib.hid hbw
        clear hS hbt hbw HI
        unfold AllR at KL
        go_upto_region 12 with (go_at_call 23; (with_reducible refine KL.out.mono ?_); rintro e w4 ⟨A4, c4, zs, rfl, hzr, hzc, hzl, ⟨hz20, _⟩, hb4⟩)
        have hS4 := HS.out.more hb4
        have HZR := Lib.hid hzr
        have HZL := Lib.hid hzl
        have HZT : Hid (∀ z ∈ zs, twiP z.l = false ∧ (1 ≤ z.cnt ∧ z.cnt ≤ 99) ∧ z.l.length ≤ 1000) := Lib.hid (fun z hz => by
          obtain ⟨x, hx, e⟩ := con_mem hzc hz
          obtain ⟨_, e1, _, e3, _⟩ := con_facts e
          have h1 := HS.out.ok x hx
          rw [e1, e3]
          exact ⟨rgt_twi h1.2.2, rgt_cnt h1.2.2, h1.1.len⟩)
        have HHE : Hid (heldP i s zs = heldP i s hs) := Lib.hid (con_held hzc)
        have HS5 : Hid (∀ W, Below w4.heap.size w4 W → HldAt W B mb l.length hs) := Lib.hid (fun W h => hS4.more h)
        have HHE' : Hid (heldP i s (zs.take zs.length) = heldP i s hs) := Lib.hid (by rw [List.take_length]; exact HHE.out)
        obtain ⟨q0, q1, q2, q3⟩ := HC.out _ (HBT.out.trans (But.of_below (X := fun k => k = mb) hb4) (fun _ _ h => h))
        have HB4 := Lib.hid (HBW.out.trans (hb4.mono HBW.out.size))
        have HIN : Hid (∀ k, 0 ≤ heldP i s (zs.take k) ∧ heldP i s (zs.take k) ≤ 99000) := Lib.hid (fun k => by
          have h1 := heldP_in i s (zs.take k) (fun h hh => (HZT.out h (List.mem_of_mem_take hh)).2.1)
          rw [List.length_take] at h1
          omega)
        clear hzr hzl hzc hS4 hb4 KL
        go_wp2
        go_loopw [9, 11] (fun v9 vi wq => ∃ k : Nat, k ≤ zs.length ∧ v9 = .int .i64 (heldP i s (zs.take k)) ∧ vi = .int .i64 k ∧ Below w4.heap.size w4 wq) (fun _ vi _ => zs.length - (intOf vi).toNat)
        case atStart => exact ⟨0, Nat.zero_le _, rfl, rfl, Below.refl _ _⟩
        case round =>
          obtain ⟨k, hk, rfl, rfl, hW⟩ := hrel
          obtain ⟨w5, rfl⟩ : ∃ w5, w5 = wr := ⟨_, rfl⟩
          by_cases hlt : k < zs.length
          · obtain ⟨z, hz⟩ : ∃ z, zs[k]? = some z := ⟨_, List.getElem?_eq_getElem hlt⟩
            obtain ⟨b, o, rfl, _, hc⟩ := row_get (RowL.more HZR.out hW) hz
            have z0 := hc 0 _ rfl
            have z1 := hc 1 _ rfl
            have z2 := hc 2 _ rfl
            have z3 := hc 3 _ rfl
            rw [Nat.add_zero] at z0
            have i1 : (0 : Int) ≤ (k : Int) := by omega
            have i3 : (k : Int) < (zs.length : Int) := by omega
            have wr1 : IntKind.i64.wrap ((k : Int) + 1) = (k : Int) + 1 := IntWalk.i64_in _ (by omega)
            have hzm := List.mem_of_getElem? hz
            have HT := Lib.hid (HZT.out z hzm)
            have HZL2 := Lib.hid (RowL.more (HZL.out z hzm) hW)
            have HSU := Lib.hid (heldP_succ (i := i) (s := s) hz)
            have HIK := Lib.hid (HIN.out k)
            have HIK1 := Lib.hid (HIN.out (k + 1))
            have hl8 := HT.out.2.2
            have y0 := bel_cell hW q0
            have y1 := bel_cell hW q1
            have y2 := bel_cell hW q2
            have y3 := bel_cell hW q3
            have HWK := Lib.hid hW
            clear hz hc hzm hW
            obtain ⟨S0, hS0⟩ : ∃ S0, S0 = heldP i s (zs.take k) := ⟨_, rfl⟩
            obtain ⟨S1, hS1⟩ : ∃ S1, S1 = heldP i s (zs.take (k + 1)) := ⟨_, rfl⟩
            rw [← hS0] at HSU HIK ⊢
            rw [← hS1] at HSU HIK1
            have HS0' := Lib.hid hS0
            have HS1' := Lib.hid hS1
            clear hS0 hS1
            go_wp2
            go_loopw [9, 12] (fun v9 vj wq => ∃ j : Nat, j ≤ z.l.length ∧ v9 = .int .i64 (S0 + prtH i s z j) ∧ vj = .int .i64 j ∧ Below w5.heap.size w5 wq) (fun _ vj _ => z.l.length - (intOf vj).toNat)
            case atStart => exact ⟨0, Nat.zero_le _, by rw [prt_zero, Int.add_zero], rfl, Below.refl _ _⟩
            case round =>
              obtain ⟨j, hj, rfl, rfl, hW2⟩ := hrel
              have u0 := bel_cell hW2 z0
              have u1 := bel_cell hW2 z1
              have u2 := bel_cell hW2 z2
              have u3 := bel_cell hW2 z3
              by_cases hltj : j < z.l.length
              · obtain ⟨x, hx⟩ : ∃ x, z.l[j]? = some x := ⟨_, List.getElem?_eq_getElem hltj⟩
                obtain ⟨b2, o2, hA2, _, hc2⟩ := row_get (RowL.more HZL2.out hW2) hx
                rw [hA2] at u1
                have e0 := hc2 0 _ rfl
                have e1 := hc2 1 _ rfl
                have e2 := hc2 2 _ rfl
                have e3 := hc2 3 _ rfl
                rw [Nat.add_zero] at e0
                have n1 : (0 : Int) ≤ (j : Int) := by omega
                have n2 : (j : Int) < (z.l.length : Int) := by omega
                have wj1 : IntKind.i64.wrap ((j : Int) + 1) = (j : Int) + 1 := IntWalk.i64_in _ (by omega)
                have v0 := bel_cell hW2 y0
                have v1 := bel_cell hW2 y1
                have v2 := bel_cell hW2 y2
                have v3 := bel_cell hW2 y3
                have heq := fun W => run_eqD x i W
                have hno : (eqS z.cls s && eqD x i) = false → prtH i s z (j + 1) = prtH i s z j := prt_no hx
                have hye := fun h1 h2 => prt_yes (i := i) (s := s) HT.out.1 hx h1 h2
                have hp0 : 0 ≤ prtH i s z j ∧ prtH i s z j ≤ 99 := by
                  have := HT.out.2.1
                  unfold prtH
                  split <;> omega
                have HNO := Lib.hid hno
                have HYE := Lib.hid hye
                have HP0 := Lib.hid hp0
                clear hx hc2 hno hye hp0
                cases h1 : (z.cls.toList == s.toList) with
                | false =>
                  have HR : Hid (prtH i s z (j + 1) = prtH i s z j) := Lib.hid (HNO.out (by unfold eqS; rw [h1]; rfl))
                  go_upto_region 18 with fail
                  go_region
                  go_wp2
                  go_roundw
                  case rel => exact ⟨j + 1, by omega, by rw [HR.out], by go_num, hW2.drew⟩
                  case measure => simp [intOf]; omega
                | true =>
                  cases h2 : eqD x i with
                  | false =>
                    have HR : Hid (prtH i s z (j + 1) = prtH i s z j) := Lib.hid (HNO.out (by rw [h2]; simp))
                    rw [h2] at heq
                    go_upto_region 18 with fail
                    go_region
                    go_wp2
                    go_roundw
                    case rel => exact ⟨j + 1, by omega, by rw [HR.out], by go_num, hW2.drew⟩
                    case measure => simp [intOf]; omega
                  | true =>
                    have hR := HYE.out (by unfold eqS; exact h1) h2
                    have wn : IntKind.i64.wrap (S0 + prtH i s z j + z.cnt) = S0 + prtH i s z (j + 1) := by rw [hR, IntWalk.i64_in _ (by have := HIK.out; have := HP0.out; have := HT.out.2.1; omega)]; omega
                    rw [h2] at heq
                    clear hR
                    go_upto_region 18 with fail
                    go_region
                    go_wp2
                    go_roundw
                    case rel => exact ⟨j + 1, by omega, by first | rfl | rw [wn], by go_num, hW2.drew⟩
                    case measure => simp [intOf]; omega
              · obtain rfl : j = z.l.length := by omega
                have n2 : ¬ (z.l.length : Int) < (z.l.length : Int) := by omega
                have hE : S0 + prtH i s z z.l.length = heldP i s (zs.take (k + 1)) := by rw [← HSU.out]; exact HS1'.out
                clear z0 z1 z2 z3 y0 y1 y2 y3
                rw [hE]
                go_wp2
                go_roundw
                case rel => exact ⟨k + 1, by omega, rfl, by go_num, HWK.out.trans (hW2.mono HWK.out.size)⟩
                case measure => simp [intOf]; omega
          · obtain rfl : k = zs.length := by omega
            have i3 : ¬ (zs.length : Int) < (zs.length : Int) := by omega
            have y0 := bel_cell hW q0
            have y1 := bel_cell hW q1
            have y2 := bel_cell hW q2
            have y3 := bel_cell hW q3
            have KH2 := Lib.hid (held_any i s w5 (HS5.out w5 hW) (by omega))
            rw [HHE'.out]
            generalize heldP i s hs = T at *
            have HWK := Lib.hid hW
            clear hW
            go_wp2_with (first
              | (go_at_call 21; (with_reducible refine KH2.out.mono ?_); rintro e w8 ⟨rfl, hb8⟩)
              | (go_at_call 8; (with_reducible refine (KA.out _).mono ?_); rintro e w9 ⟨rfl, hb9⟩))
            go_ret
            have h5 := HB4.out.trans (HWK.out.mono HB4.out.size)
            have h8 := h5.trans (hb8.mono h5.size)
            exact ⟨rfl, h8.trans (hb9.mono h8.size)⟩
end Go.Proofs.Ythillkbcbklhaaa
