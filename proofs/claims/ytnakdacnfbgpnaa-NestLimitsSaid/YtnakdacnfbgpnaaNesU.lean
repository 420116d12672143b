/- The law NestLimits. -/
import Derived.Test.YtnakdacnfbgpnaaNesJ
import Derived.Test.YtnakdacnfbgpnaaNesQ
import Derived.Deep.LoopGhost
import Derived.BigQuiet
import Derived.Deep.CutRange
import Derived.Deep.CutBlock
namespace Go.Proofs.Ytnakdacnfbgpnaa
open Go.RowKit Go.Shelf
set_option linter.unusedSimpArgs false
set_option linter.unusedVariables false

set_option maxRecDepth 100000 in
set_option maxHeartbeats 8000000 in
theorem nestLimits_walk (b : Cb) (A : Option Addr) (c : Nat) (s : List Int) (r : Int) (w : World) (hd : RdC b) (hb : CbAt w b) (hL : IntR w (.slice A s.length c) s) (hh : b.l.length < 9223372036854775808) (hh2 : s.length < 9223372036854775808) :
    Calls Try.prog 5 #[aggCb b, .slice A s.length c, .int .i64 r] w fun e w' => e = .returned (.bool true) ∧ Below w.heap.size w w' := by
  have KA := Lib.hid awake_any
  have hbA := bel_alloc w (.cells #[.string b.name, .int .i64 b.seats, .int .i64 b.over, .slice b.A b.l.length b.c] cbT)
  have q0 := cb_cells w b 0 _ rfl
  have q1 := cb_cells w b 1 _ rfl
  have q2 := cb_cells w b 2 _ rfl
  have q3 := cb_cells w b 3 _ rfl
  have hA0 := hbA
  obtain ⟨B, hB0⟩ : ∃ B, B = w.heap.size := ⟨_, rfl⟩
  rw [← hB0] at q0 q1 q2 q3 
  have HA := Lib.hid hA0
  have HB := Lib.hid hb
  have HL := Lib.hid hL
  clear hb hL hbA  hA0
  obtain ⟨w5, hW5⟩ : ∃ w5, (w.alloc (.cells #[.string b.name, .int .i64 b.seats, .int .i64 b.over, .slice b.A b.l.length b.c] cbT)) = w5 := ⟨_, rfl⟩
  rw [hW5] at HA q0 q1 q2 q3 
  have Q0 := Lib.hid (fun W (h : SW w5 W) => bel_get q0 _ h)
  have Q1 := Lib.hid (fun W (h : SW w5 W) => bel_get q1 _ h)
  have Q2 := Lib.hid (fun W (h : SW w5 W) => bel_get q2 _ h)
  have Q3 := Lib.hid (fun W (h : SW w5 W) => bel_get q3 _ h)
  have HT : Hid (∀ W, SW w5 W → SW w W) := Lib.hid (fun W h => Below.trans HA.out (Below.mono h HA.out.size))
  clear q0 q1 q2 q3 
  by_cases hrt : rtP b s
  rotate_left
  · have KR := Lib.hid (right_no b A c s w5 hd (HB.out.more HA.out) (HL.out.more HA.out) hh hh2 hrt)
    clear hrt
    go_enter Try.func5, Try.ntmps5
    go_upto_region 1 with fail
    try rw [hW5]
    rw [← hB0]
    clear hW5 hB0
    have c0 := Q0.out _ (Below.refl _ _)
    have c1 := Q1.out _ (Below.refl _ _)
    have c2 := Q2.out _ (Below.refl _ _)
    have c3 := Q3.out _ (Below.refl _ _)
    go_wp2_with (first
      | (go_at_call 9; refine (KA.out _).mono ?_; rintro e wd ⟨rfl, hbd⟩)
      | (go_at_call 8; refine KR.out.mono ?_; rintro e w6 ⟨rfl, hS⟩))
    go_ret
    exact ⟨rfl, HT.out _ (hS.trans (hbd.mono hS.size))⟩
  have hs : s.length ≤ 1000 := by have := hrt.2.1; omega
  have hg := hrt.rgC
  have HP := Lib.hid hg.lim
  have KR := Lib.hid (right_yes b A c s w5 hd (HB.out.more HA.out) hrt)
  have KG : Hid (∀ W, SW w5 W → Calls Try.prog 14 #[.agg #[.string b.name, .int .i64 b.seats, .int .i64 b.over, .slice b.A b.l.length b.c], .slice A s.length c] W fun e w' => e = .returned (.bool (fitB b s)) ∧ Below W.heap.size W w') := Lib.hid (fun W h => rfits_any b A c s W (HB.out.more (HT.out W h)) HP.out hs (HL.out.more (HT.out W h)))
  clear hrt
  cases hf : fitB b s with
  | false =>
    rw [hf] at KG
    clear hf
    go_enter Try.func5, Try.ntmps5
    go_upto_region 1 with fail
    try rw [hW5]
    rw [← hB0]
    clear hW5 hB0
    have c0 := Q0.out _ (Below.refl _ _)
    have c1 := Q1.out _ (Below.refl _ _)
    have c2 := Q2.out _ (Below.refl _ _)
    have c3 := Q3.out _ (Below.refl _ _)
    go_wp2_with (first
      | (go_at_call 9; refine (KA.out _).mono ?_; rintro e wd ⟨rfl, hbd⟩)
      | (go_at_call 8; refine KR.out.mono ?_; rintro e w6 ⟨rfl, hS6⟩; clear c0 c1 c2 c3; have c0 := Q0.out _ hS6; have c1 := Q1.out _ hS6; have c2 := Q2.out _ hS6; have c3 := Q3.out _ hS6)
      | (go_at_call 14; refine (KG.out _ hS6).mono ?_; rintro e w7 ⟨rfl, hb7⟩; have hS := Below.trans hS6 (Below.mono hb7 hS6.size)))
    go_ret
    exact ⟨rfl, HT.out _ (hS.trans (hbd.mono hS.size))⟩
  | true =>
  have HF := Lib.hid hf
  have hr := ((fitB_iff b s).1 hf).1
  rw [hf] at KG
  clear hf
  by_cases h0 : r < 0
  · clear hr
    go_enter Try.func5, Try.ntmps5
    go_upto_region 1 with fail
    try rw [hW5]
    rw [← hB0]
    clear hW5 hB0
    have c0 := Q0.out _ (Below.refl _ _)
    have c1 := Q1.out _ (Below.refl _ _)
    have c2 := Q2.out _ (Below.refl _ _)
    have c3 := Q3.out _ (Below.refl _ _)
    go_wp2_with (first
      | (go_at_call 9; refine (KA.out _).mono ?_; rintro e wd ⟨rfl, hbd⟩)
      | (go_at_call 8; refine KR.out.mono ?_; rintro e w6 ⟨rfl, hS6⟩; clear c0 c1 c2 c3; have c0 := Q0.out _ hS6; have c1 := Q1.out _ hS6; have c2 := Q2.out _ hS6; have c3 := Q3.out _ hS6)
      | (go_at_call 14; refine (KG.out _ hS6).mono ?_; rintro e w7 ⟨rfl, hb7⟩; have hS := Below.trans hS6 (Below.mono hb7 hS6.size)))
    go_ret
    exact ⟨rfl, HT.out _ (hS.trans (hbd.mono hS.size))⟩
  by_cases h1 : (s.length : Int) ≤ r
  · clear hr
    go_enter Try.func5, Try.ntmps5
    go_upto_region 1 with fail
    try rw [hW5]
    rw [← hB0]
    clear hW5 hB0
    have c0 := Q0.out _ (Below.refl _ _)
    have c1 := Q1.out _ (Below.refl _ _)
    have c2 := Q2.out _ (Below.refl _ _)
    have c3 := Q3.out _ (Below.refl _ _)
    go_wp2_with (first
      | (go_at_call 9; refine (KA.out _).mono ?_; rintro e wd ⟨rfl, hbd⟩)
      | (go_at_call 8; refine KR.out.mono ?_; rintro e w6 ⟨rfl, hS6⟩; clear c0 c1 c2 c3; have c0 := Q0.out _ hS6; have c1 := Q1.out _ hS6; have c2 := Q2.out _ hS6; have c3 := Q3.out _ hS6)
      | (go_at_call 14; refine (KG.out _ hS6).mono ?_; rintro e w7 ⟨rfl, hb7⟩; have hS := Below.trans hS6 (Below.mono hb7 hS6.size)))
    go_ret
    exact ⟨rfl, HT.out _ (hS.trans (hbd.mono hS.size))⟩
  obtain ⟨k, hk, hkr⟩ : ∃ k : Nat, k < s.length ∧ r = (k : Int) := ⟨r.toNat, by omega, by omega⟩
  subst hkr
  obtain ⟨x, hx⟩ : ∃ x, s[k]? = some x := ⟨_, List.getElem?_eq_getElem hk⟩
  obtain ⟨m, hm⟩ : ∃ m, m = opF b s k := ⟨_, rfl⟩
  have hmb := opF_in HP.out hr k
  rw [← hm] at hmb
  have HOL : Hid (opL b s = tab (opF b s) s.length) := Lib.hid (by unfold opL; rw [hr]; rfl)
  have KO : Hid (∀ W, SW w5 W → Calls Try.prog 11 #[.agg #[.string b.name, .int .i64 b.seats, .int .i64 b.over, .slice b.A b.l.length b.c], .slice A s.length c] W fun e w' => ∃ bb o c', e = .returned (.slice (some ⟨bb, o, none⟩) s.length c') ∧ w'.cell? ⟨bb, o + k, none⟩ = some (.int .i64 m) ∧ Below W.heap.size W w') := Lib.hid (fun W h => (open_any b A c s W (HB.out.more (HT.out W h)) HP.out hs (HL.out.more (HT.out W h))).mono (by
    rintro e w' ⟨v', rfl, hv, hb'⟩
    rw [HOL.out] at hv
    obtain ⟨A', c', rfl, hc⟩ := int_slice hv
    obtain ⟨bb, o, rfl, hz⟩ := hc k hk
    exact ⟨bb, o, c', rfl, by rw [hm]; exact hz, hb'⟩))
  have KS1 : Hid (∀ W, SW w5 W → Calls Try.prog 17 #[.agg #[.string b.name, .int .i64 b.seats, .int .i64 b.over, .slice b.A b.l.length b.c], .slice A s.length c, .int .i64 (k : Int), .int .i64 (m + 1)] W fun e w' => ∃ v, e = .returned (.tuple #[v, .int .i64 17]) ∧ Below W.heap.size W w') := Lib.hid (fun W h => (sell_any b A c s k (m + 1) W (HB.out.more (HT.out W h)) HP.out hs (HL.out.more (HT.out W h))).mono (by
    rintro e w' ⟨v', rfl, hv, hb'⟩
    exact ⟨v', by rw [hm, selE_full HP.out hr hk], hb'⟩))
  have KS2 : Hid (1 ≤ m → ∀ W, SW w5 W → Calls Try.prog 17 #[.agg #[.string b.name, .int .i64 b.seats, .int .i64 b.over, .slice b.A b.l.length b.c], .slice A s.length c, .int .i64 (k : Int), .int .i64 m] W fun e w' => ∃ A' c', e = .returned (.tuple #[.slice A' s.length c', .int .i64 0]) ∧ IntR w' (.slice A' s.length c') (wiL s k m) ∧ Below W.heap.size W w') := Lib.hid (fun h1 W h => (sell_any b A c s k m W (HB.out.more (HT.out W h)) HP.out hs (HL.out.more (HT.out W h))).mono (by
    rintro e w' ⟨v', rfl, hv, hb'⟩
    rw [selE_ok hr hk h1 (by rw [hm]; exact Int.le_refl _)]
    rw [selL_ok hr hk h1 (by rw [hm]; exact Int.le_refl _)] at hv
    obtain ⟨A', c', e1, _⟩ := id hv
    rw [wiL_len] at e1
    subst e1
    exact ⟨A', c', rfl, hv, hb'⟩))
  have KF2 : Hid (1 ≤ m → ∀ A' c' W, SW w5 W → IntR W (.slice A' s.length c') (wiL s k m) → Calls Try.prog 13 #[.agg #[.string b.name, .int .i64 b.seats, .int .i64 b.over, .slice b.A b.l.length b.c], .slice A' s.length c'] W fun e w' => e = .returned (.bool true) ∧ Below W.heap.size W w') := Lib.hid (fun h1 A' c' W h hv => by
    have hk2 := fits_any b A' c' (wiL s k m) W (HB.out.more (HT.out W h)) HP.out (by rw [wiL_len]; exact hs) (by rw [wiL_len]; exact hv)
    rw [wiL_len, fit_sell HP.out HF.out hx h1 (by rw [hm]; exact Int.le_refl _)] at hk2
    exact hk2)
  have KO2 : Hid (1 ≤ m → ∀ A' c' W, SW w5 W → IntR W (.slice A' s.length c') (wiL s k m) → Calls Try.prog 11 #[.agg #[.string b.name, .int .i64 b.seats, .int .i64 b.over, .slice b.A b.l.length b.c], .slice A' s.length c'] W fun e w' => ∃ bb o c2, e = .returned (.slice (some ⟨bb, o, none⟩) s.length c2) ∧ w'.cell? ⟨bb, o + k, none⟩ = some (.int .i64 0) ∧ Below W.heap.size W w') := Lib.hid (fun h1 A' c' W h hv => by
    have hk2 := open_any b A' c' (wiL s k m) W (HB.out.more (HT.out W h)) HP.out (by rw [wiL_len]; exact hs) (by rw [wiL_len]; exact hv)
    have hr2 := rgt_sell HP.out hr hx h1 (by rw [hm]; exact Int.le_refl _)
    rw [show opL b (wiL s k m) = tab (opF b (wiL s k m)) s.length by unfold opL; rw [if_pos hr2, wiL_len]] at hk2
    rw [wiL_len] at hk2
    refine hk2.mono ?_
    rintro e w' ⟨v', rfl, hv', hb'⟩
    obtain ⟨A2, c2, rfl, hc⟩ := int_slice hv'
    obtain ⟨bb, o, rfl, hz⟩ := hc k hk
    refine ⟨bb, o, c2, rfl, ?_, hb'⟩
    rw [hz, hm, open_sold HP.out hr hx (by rw [← hm]; exact h1)])
  have hxb := sold_le hr hx
  have KC : Hid (∀ W, SW w5 W → Calls Try.prog 19 #[.agg #[.string b.name, .int .i64 b.seats, .int .i64 b.over, .slice b.A b.l.length b.c], .slice A s.length c, .int .i64 (k : Int), .int .i64 1] W fun e w' => ∃ v, e = .returned (.tuple #[v, .int .i64 (if x < 1 then 2 else 0)]) ∧ IntR w' v (canL b s k 1) ∧ Below W.heap.size W w') := Lib.hid (fun W h => (cancel_any b A c s k 1 W hs (HL.out.more (HT.out W h))).mono (by
    rintro e w' ⟨v', rfl, hv, hb'⟩
    exact ⟨v', by rw [canE_one hr hx (Int.le_refl _)], hv, hb'⟩))
  have KF3 : Hid (1 ≤ x → ∀ v W, SW w5 W → IntR W v (canL b s k 1) → Calls Try.prog 13 #[.agg #[.string b.name, .int .i64 b.seats, .int .i64 b.over, .slice b.A b.l.length b.c], v] W fun e w' => e = .returned (.bool true) ∧ Below W.heap.size W w') := Lib.hid (fun h1 v W h hv => by
    have hz : canE b s (k : Int) 1 = 0 := by rw [canE_one hr hx (Int.le_refl _), if_neg (by omega)]
    obtain ⟨hf2, hl2⟩ := fit_can HF.out hz
    obtain ⟨A', c', e1, _⟩ := id hv
    subst e1
    have hk2 := fits_any b A' c' (canL b s k 1) W (HB.out.more (HT.out W h)) HP.out (by rw [hl2]; exact hs) hv
    rw [hf2] at hk2
    exact hk2)
  have HX := Lib.hid hx
  obtain ⟨ba, oa, eA, zx⟩ := int_at HL.out hx
  subst eA
  have ZX := Lib.hid (fun W (h : SW w W) => bel_get zx _ h)
  clear zx
  have i1 : (k : Int) < (s.length : Int) := by omega
  have i2 : (0 : Int) ≤ (k : Int) := by omega
  obtain ⟨n, hn⟩ : ∃ n, n = s.length := ⟨_, rfl⟩
  rw [← hn] at KR KG KO KS1 KS2 KF2 KO2 KC HL i1
  have w1 : wrap64 (m + 1) = m + 1 := by unfold wrap64; omega
  clear hx hm hr h0 h1 hg HOL hk
  rw [← hn]
  clear hn
  go_enter Try.func5, Try.ntmps5
  go_upto_region 1 with fail
  try rw [hW5]
  rw [← hB0]
  clear hW5 hB0
  have c0 := Q0.out _ (Below.refl _ _)
  have c1 := Q1.out _ (Below.refl _ _)
  have c2 := Q2.out _ (Below.refl _ _)
  have c3 := Q3.out _ (Below.refl _ _)
  go_upto_region 4 with (first
    | (go_at_call 8; refine KR.out.mono ?_; rintro e w6 ⟨rfl, hS6⟩; clear c0 c1 c2 c3; have c0 := Q0.out _ hS6; have c1 := Q1.out _ hS6; have c2 := Q2.out _ hS6; have c3 := Q3.out _ hS6)
    | (go_at_call 14; refine (KG.out _ hS6).mono ?_; rintro e w7 ⟨rfl, hb7⟩; have hS7 := Below.trans hS6 (Below.mono hb7 hS6.size); clear c0 c1 c2 c3; have c0 := Q0.out _ hS7; have c1 := Q1.out _ hS7; have c2 := Q2.out _ hS7; have c3 := Q3.out _ hS7)
    | (go_at_call 11; refine (KO.out _ hS7).mono ?_; rintro e w8 ⟨bo, oo, co, rfl, hz, hb8⟩; have hS8 := Below.trans hS7 (Below.mono hb8 hS7.size)))
  clear KR KG KO c0 c1 c2 c3 hb7 hb8 hS6 hS7
  have c0 := Q0.out _ hS8
  have c1 := Q1.out _ hS8
  have c2 := Q2.out _ hS8
  have c3 := Q3.out _ hS8
  go_upto_region 10 with (go_at_call 17; refine (KS1.out _ hS8).mono ?_; rintro e w9 ⟨vs, rfl, hb9⟩)
  have hS9 := Below.trans hS8 (Below.mono hb9 hS8.size)
  clear KS1 c0 c1 c2 c3 hb9 hS8 hz
  have c0 := Q0.out _ hS9
  have c1 := Q1.out _ hS9
  have c2 := Q2.out _ hS9
  have c3 := Q3.out _ hS9
  by_cases hm0 : 1 ≤ m
  · have g0 : (0 : Int) < m := by omega
    have KS := Lib.hid (KS2.out hm0)
    have KF := Lib.hid (KF2.out hm0)
    have KO := Lib.hid (KO2.out hm0)
    clear KS2 KF2 KO2 hm0
    go_upto_region 12 with (go_at_call 17; refine (KS.out _ hS9).mono ?_; rintro e w10 ⟨A2, c5, rfl, hv10, hb10⟩)
    have hS10 := Below.trans hS9 (Below.mono hb10 hS9.size)
    clear KS c0 c1 c2 c3 hb10 hS9
    have c0 := Q0.out _ hS10
    have c1 := Q1.out _ hS10
    have c2 := Q2.out _ hS10
    have c3 := Q3.out _ hS10
    go_upto_region 14 with (first
      | (go_at_call 11; refine (KO.out _ _ _ hS12 hv12).mono ?_; rintro e w13 ⟨bo2, oo2, co2, rfl, hz2, hb13⟩; have hS13 := Below.trans hS12 (Below.mono hb13 hS12.size))
      | (go_at_call 11; refine (KO.out _ _ _ hS11 hv11).mono ?_; rintro e w12 ⟨bo1, oo1, co1, rfl, hz1, hb12⟩; have hS12 := Below.trans hS11 (Below.mono hb12 hS11.size); have hv12 := RowL.more hv11 hb12; clear c0 c1 c2 c3; have c0 := Q0.out _ hS12; have c1 := Q1.out _ hS12; have c2 := Q2.out _ hS12; have c3 := Q3.out _ hS12)
      | (go_at_call 13; refine (KF.out _ _ _ hS10 hv10).mono ?_; rintro e w11 ⟨rfl, hb11⟩; have hS11 := Below.trans hS10 (Below.mono hb11 hS10.size); have hv11 := RowL.more hv10 hb11; clear c0 c1 c2 c3; have c0 := Q0.out _ hS11; have c1 := Q1.out _ hS11; have c2 := Q2.out _ hS11; have c3 := Q3.out _ hS11))
    clear KF KO c0 c1 c2 c3 hS10 hS11 hS12 hv10 hv11 hv12 hb11 hb12 hb13 hz1 hz2
    by_cases hx0 : x < 1
    · have hx1 : x < 1 := hx0
      rw [if_pos hx0] at KC
      have c0 := Q0.out _ hS13
      have c1 := Q1.out _ hS13
      have c2 := Q2.out _ hS13
      have c3 := Q3.out _ hS13
      go_upto_region 15 with (go_at_call 19; refine (KC.out _ hS13).mono ?_; rintro e w14 ⟨vc, rfl, hvc, hb14⟩)
      have hS14 := Below.trans hS13 (Below.mono hb14 hS13.size)
      clear KC KF3 c0 c1 c2 c3
      have c0 := Q0.out _ hS14
      have c1 := Q1.out _ hS14
      have c2 := Q2.out _ hS14
      have c3 := Q3.out _ hS14
      have zx := ZX.out _ (HT.out _ hS14)
      have e9 : ¬ (0 : Int) < x := by omega
      clear hx0 hx1
      go_wp2_with (go_at_call 9; refine (KA.out _).mono ?_; rintro e wd ⟨rfl, hbd⟩)
      go_ret
      exact ⟨rfl, HT.out _ (hS14.trans (hbd.mono hS14.size))⟩
    · have hx1 : 1 ≤ x := by omega
      rw [if_neg hx0] at KC
      have KF3x := Lib.hid (KF3.out hx1)
      have c0 := Q0.out _ hS13
      have c1 := Q1.out _ hS13
      have c2 := Q2.out _ hS13
      have c3 := Q3.out _ hS13
      go_upto_region 15 with (go_at_call 19; refine (KC.out _ hS13).mono ?_; rintro e w14 ⟨vc, rfl, hvc, hb14⟩)
      have hS14 := Below.trans hS13 (Below.mono hb14 hS13.size)
      clear KC KF3 c0 c1 c2 c3
      have c0 := Q0.out _ hS14
      have c1 := Q1.out _ hS14
      have c2 := Q2.out _ hS14
      have c3 := Q3.out _ hS14
      have zx := ZX.out _ (HT.out _ hS14)
      have e9 : (0 : Int) < x := by omega
      clear hx0 hx1
      go_wp2_with (go_at_call 13; refine (KF3x.out _ _ hS14 hvc).mono ?_; rintro e w15 ⟨rfl, hb15⟩; refine Hid.out ?_)
      refine Lib.hid ?_
      have hS15 := Below.trans hS14 (Below.mono hb15 hS14.size)
      clear KF3x hb15 hvc c0 c1 c2 c3 zx
      go_wp2_with (go_at_call 9; refine (KA.out _).mono ?_; rintro e wd ⟨rfl, hbd⟩)
      go_ret
      exact ⟨rfl, HT.out _ (hS15.trans (hbd.mono hS15.size))⟩
  · have g0 : ¬ (0 : Int) < m := by omega
    clear KS2 KF2 KO2 hm0
    go_upto_region 14 with fail
    clear c0 c1 c2 c3
    by_cases hx0 : x < 1
    · have hx1 : x < 1 := hx0
      rw [if_pos hx0] at KC
      have c0 := Q0.out _ hS9
      have c1 := Q1.out _ hS9
      have c2 := Q2.out _ hS9
      have c3 := Q3.out _ hS9
      go_upto_region 15 with (go_at_call 19; refine (KC.out _ hS9).mono ?_; rintro e w14 ⟨vc, rfl, hvc, hb14⟩)
      have hS14 := Below.trans hS9 (Below.mono hb14 hS9.size)
      clear KC KF3 c0 c1 c2 c3
      have c0 := Q0.out _ hS14
      have c1 := Q1.out _ hS14
      have c2 := Q2.out _ hS14
      have c3 := Q3.out _ hS14
      have zx := ZX.out _ (HT.out _ hS14)
      have e9 : ¬ (0 : Int) < x := by omega
      clear hx0 hx1
      go_wp2_with (go_at_call 9; refine (KA.out _).mono ?_; rintro e wd ⟨rfl, hbd⟩)
      go_ret
      exact ⟨rfl, HT.out _ (hS14.trans (hbd.mono hS14.size))⟩
    · have hx1 : 1 ≤ x := by omega
      rw [if_neg hx0] at KC
      have KF3x := Lib.hid (KF3.out hx1)
      have c0 := Q0.out _ hS9
      have c1 := Q1.out _ hS9
      have c2 := Q2.out _ hS9
      have c3 := Q3.out _ hS9
      go_upto_region 15 with (go_at_call 19; refine (KC.out _ hS9).mono ?_; rintro e w14 ⟨vc, rfl, hvc, hb14⟩)
      have hS14 := Below.trans hS9 (Below.mono hb14 hS9.size)
      clear KC KF3 c0 c1 c2 c3
      have c0 := Q0.out _ hS14
      have c1 := Q1.out _ hS14
      have c2 := Q2.out _ hS14
      have c3 := Q3.out _ hS14
      have zx := ZX.out _ (HT.out _ hS14)
      have e9 : (0 : Int) < x := by omega
      clear hx0 hx1
      go_wp2_with (go_at_call 13; refine (KF3x.out _ _ hS14 hvc).mono ?_; rintro e w15 ⟨rfl, hb15⟩; refine Hid.out ?_)
      refine Lib.hid ?_
      have hS15 := Below.trans hS14 (Below.mono hb15 hS14.size)
      clear KF3x hb15 hvc c0 c1 c2 c3 zx
      go_wp2_with (go_at_call 9; refine (KA.out _).mono ?_; rintro e wd ⟨rfl, hbd⟩)
      go_ret
      exact ⟨rfl, HT.out _ (hS15.trans (hbd.mono hS15.size))⟩
end Go.Proofs.Ytnakdacnfbgpnaa
