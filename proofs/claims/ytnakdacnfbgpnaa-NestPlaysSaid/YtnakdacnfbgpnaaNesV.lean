/- The law NestBack. -/
import Derived.Test.YtnakdacnfbgpnaaNesJ
import Derived.Test.YtnakdacnfbgpnaaNesQ
import Derived.Deep.LoopGhost
import Derived.BigQuiet
import Derived.Deep.CutRange
import Derived.Deep.CutBlock
namespace Go.Proofs.Ytnakdacnfbgpnaa
open Go.RowKit Go.Shelf
set_option linter.unusedSimpArgs false
set_option linter.unusedVariables false

theorem can_back {b : Cb} {s : List Int} {r n : Int} (hP : LimP b) (h : selE b s r n = 0) : canE b (selL b s r n) r n = 0 ∧ canL b (selL b s r n) r n = s ∧ (selL b s r n).length = s.length := by
  obtain ⟨h1, h2, h3, h4, h5⟩ := sel_zero h
  obtain ⟨x, hx⟩ : ∃ x, s[r.toNat]? = some x := ⟨_, List.getElem?_eq_getElem h3⟩
  have hb := sold_le h1 hx
  have hs : selL b s r n = wiL s r.toNat n := by unfold selL; rw [if_pos h]
  have hr := rgt_sell hP h1 hx h2 h5
  have hx2 : (wiL s r.toNat n)[r.toNat]? = some (x + n) := by rw [wiL_at hx, List.getElem?_set_self (by simpa using h3)]
  have hc : canE b (wiL s r.toNat n) r n = 0 := by
    rw [h4]
    rw [Int.toNat_natCast]
    rw [canE_one hr hx2 h2, if_neg (by omega)]
  rw [hs]
  refine ⟨hc, ?_, wiL_len _ _ _⟩
  unfold canL
  rw [if_pos hc, wi_back hx]
theorem opL_down {b : Cb} {s : List Int} {i : Nat} {x y : Int} (hx : (opL b s)[i + 1]? = some x) (hy : (opL b s)[i]? = some y) : x ≤ y := by
  unfold opL at hx hy
  by_cases hr : rgtB b s = true
  · rw [if_pos hr] at hx hy
    have h1 := (List.getElem?_eq_some_iff.1 hx).1
    rw [tab_len] at h1
    rw [tab_get _ _ _ h1] at hx
    rw [tab_get _ _ _ (by omega)] at hy
    cases hx
    cases hy
    exact opF_down b s i
  · rw [if_neg hr] at hx
    simp at hx
theorem opL_len {b : Cb} {s : List Int} (h : s.length ≤ 1000) : (opL b s).length ≤ 1000 := by
  unfold opL
  split
  · rw [tab_len]; exact h
  · simp
set_option maxRecDepth 100000 in
set_option maxHeartbeats 8000000 in
theorem nestBack_walk (b : Cb) (A : Option Addr) (c : Nat) (s : List Int) (r n : Int) (w : World) (hd : RdC b) (hb : CbAt w b) (hL : IntR w (.slice A s.length c) s) (hh : b.l.length < 9223372036854775808) (hh2 : s.length < 9223372036854775808) :
    Calls Try.prog 6 #[aggCb b, .slice A s.length c, .agg #[.int .i64 r, .int .i64 n]] w fun e w' => e = .returned (.bool true) ∧ Below w.heap.size w w' := by
  have KA := Lib.hid awake_any
  have hbA := bel_alloc w (.cells #[.string b.name, .int .i64 b.seats, .int .i64 b.over, .slice b.A b.l.length b.c] cbT)
  have hbB := bel_alloc (w.alloc (.cells #[.string b.name, .int .i64 b.seats, .int .i64 b.over, .slice b.A b.l.length b.c] cbT)) (.cells #[.int .i64 r, .int .i64 n] 31)
  have q0 := bel_cell hbB (cb_cells w b 0 _ rfl)
  have q1 := bel_cell hbB (cb_cells w b 1 _ rfl)
  have q2 := bel_cell hbB (cb_cells w b 2 _ rfl)
  have q3 := bel_cell hbB (cb_cells w b 3 _ rfl)
  have p0 := (cells_new (w.alloc (.cells #[.string b.name, .int .i64 b.seats, .int .i64 b.over, .slice b.A b.l.length b.c] cbT)) #[.int .i64 r, .int .i64 n] 31 0).trans (show _ = some (Value.int .i64 r) from rfl)
  have p1 := (cells_new (w.alloc (.cells #[.string b.name, .int .i64 b.seats, .int .i64 b.over, .slice b.A b.l.length b.c] cbT)) #[.int .i64 r, .int .i64 n] 31 1).trans (show _ = some (Value.int .i64 n) from rfl)
  rw [World.size_alloc] at p0 p1
  have hA0 := hbA.trans (hbB.mono hbA.size)
  obtain ⟨B, hB0⟩ : ∃ B, B = w.heap.size := ⟨_, rfl⟩
  rw [← hB0] at q0 q1 q2 q3 p0 p1
  have HA := Lib.hid hA0
  have HB := Lib.hid hb
  have HL := Lib.hid hL
  clear hb hL hbA hbB hA0
  obtain ⟨w5, hW5⟩ : ∃ w5, ((w.alloc (.cells #[.string b.name, .int .i64 b.seats, .int .i64 b.over, .slice b.A b.l.length b.c] cbT)).alloc (.cells #[.int .i64 r, .int .i64 n] 31)) = w5 := ⟨_, rfl⟩
  rw [hW5] at HA q0 q1 q2 q3 p0 p1
  have Q0 := Lib.hid (fun W (h : SW w5 W) => bel_get q0 _ h)
  have Q1 := Lib.hid (fun W (h : SW w5 W) => bel_get q1 _ h)
  have Q2 := Lib.hid (fun W (h : SW w5 W) => bel_get q2 _ h)
  have Q3 := Lib.hid (fun W (h : SW w5 W) => bel_get q3 _ h)
  have P0 := Lib.hid (fun W (h : SW w5 W) => bel_get p0 _ h)
  have P1 := Lib.hid (fun W (h : SW w5 W) => bel_get p1 _ h)
  have HT : Hid (∀ W, SW w5 W → SW w W) := Lib.hid (fun W h => Below.trans HA.out (Below.mono h HA.out.size))
  clear q0 q1 q2 q3 p0 p1
  by_cases hrt : rtP b s
  rotate_left
  · have KR := Lib.hid (right_no b A c s w5 hd (HB.out.more HA.out) (HL.out.more HA.out) hh hh2 hrt)
    clear hrt
    go_enter Try.func6, Try.ntmps6
    go_upto_region 1 with fail
    try rw [hW5]
    rw [← hB0]
    clear hW5 hB0
    have c0 := Q0.out _ (Below.refl _ _)
    have c1 := Q1.out _ (Below.refl _ _)
    have c2 := Q2.out _ (Below.refl _ _)
    have c3 := Q3.out _ (Below.refl _ _)
    have d0 := P0.out _ (Below.refl _ _)
    have d1 := P1.out _ (Below.refl _ _)
    go_wp2_with (first
      | (go_at_call 9; refine (KA.out _).mono ?_; rintro e wd ⟨rfl, hbd⟩)
      | (go_at_call 8; refine KR.out.mono ?_; rintro e w6 ⟨rfl, hS⟩))
    go_ret
    exact ⟨rfl, HT.out _ (hS.trans (hbd.mono hS.size))⟩
  have hs : s.length ≤ 1000 := by have := hrt.2.1; omega
  have HP := Lib.hid hrt.rgC.lim
  have KR := Lib.hid (right_yes b A c s w5 hd (HB.out.more HA.out) hrt)
  have KG : Hid (∀ W, SW w5 W → Calls Try.prog 14 #[.agg #[.string b.name, .int .i64 b.seats, .int .i64 b.over, .slice b.A b.l.length b.c], .slice A s.length c] W fun e w' => e = .returned (.bool (fitB b s)) ∧ Below W.heap.size W w') := Lib.hid (fun W h => rfits_any b A c s W (HB.out.more (HT.out W h)) HP.out hs (HL.out.more (HT.out W h)))
  obtain ⟨nl, hnl⟩ : ∃ nl, nl = (opL b s).length := ⟨_, rfl⟩
  have HNL := Lib.hid hnl
  have hnb := opL_len (b := b) hs
  rw [← hnl] at hnb
  have KO : Hid (∀ W, SW w5 W → Calls Try.prog 11 #[.agg #[.string b.name, .int .i64 b.seats, .int .i64 b.over, .slice b.A b.l.length b.c], .slice A s.length c] W fun e w' => ∃ A' c', e = .returned (.slice A' nl c') ∧ IntR w' (.slice A' nl c') (opL b s) ∧ Below W.heap.size W w') := Lib.hid (fun W h => (open_any b A c s W (HB.out.more (HT.out W h)) HP.out hs (HL.out.more (HT.out W h))).mono (by
    rintro e w' ⟨v', rfl, hv, hb'⟩
    obtain ⟨A', c', e1, _⟩ := id hv
    rw [← hnl] at e1
    subst e1
    exact ⟨A', c', rfl, hv, hb'⟩))
  have KS : Hid (∀ W, SW w5 W → Calls Try.prog 17 #[.agg #[.string b.name, .int .i64 b.seats, .int .i64 b.over, .slice b.A b.l.length b.c], .slice A s.length c, .int .i64 r, .int .i64 n] W fun e w' => ∃ v, e = .returned (.tuple #[v, .int .i64 (selE b s r n)]) ∧ IntR w' v (selL b s r n) ∧ Below W.heap.size W w') := Lib.hid (fun W h => sell_any b A c s r n W (HB.out.more (HT.out W h)) HP.out hs (HL.out.more (HT.out W h)))
  have KC : Hid (selE b s r n = 0 → ∀ v W, SW w5 W → IntR W v (selL b s r n) → Calls Try.prog 19 #[.agg #[.string b.name, .int .i64 b.seats, .int .i64 b.over, .slice b.A b.l.length b.c], v, .int .i64 r, .int .i64 n] W fun e w' => ∃ v', e = .returned (.tuple #[v', .int .i64 0]) ∧ IntR w' v' s ∧ Below W.heap.size W w') := Lib.hid (fun he v W h hv => by
    obtain ⟨h1, h2, h3⟩ := can_back HP.out he
    obtain ⟨A', c', e1, _⟩ := id hv
    subst e1
    have k := cancel_any b A' c' (selL b s r n) r n W (by rw [h3]; exact hs) hv
    rw [h1, h2] at k
    exact k)
  have KE : Hid (∀ v W, SW w5 W → IntR W v s → Calls Try.prog 10 #[v, .slice A s.length c] W fun e w' => e = .returned (.bool true) ∧ Below W.heap.size W w') := Lib.hid (fun v W h hv => sameI_any v _ s W hv (HL.out.more (HT.out W h)) (by omega))
  clear hrt hnl
  generalize fitB b s = fb at *
  obtain ⟨m, hm⟩ : ∃ m, m = s.length := ⟨_, rfl⟩
  rw [← hm] at KR KG KO KS KE
  go_enter Try.func6, Try.ntmps6
  go_upto_region 1 with fail
  try rw [hW5]
  rw [← hB0]
  rw [← hm]
  clear hW5 hB0 hm
  have c0 := Q0.out _ (Below.refl _ _)
  have c1 := Q1.out _ (Below.refl _ _)
  have c2 := Q2.out _ (Below.refl _ _)
  have c3 := Q3.out _ (Below.refl _ _)
  have d0 := P0.out _ (Below.refl _ _)
  have d1 := P1.out _ (Below.refl _ _)
  go_upto_region 3 with (go_at_call 8; refine KR.out.mono ?_; rintro e w6 ⟨rfl, hS6⟩)
  clear KR c0 c1 c2 c3 d0 d1
  have c0 := Q0.out _ hS6
  have c1 := Q1.out _ hS6
  have c2 := Q2.out _ hS6
  have c3 := Q3.out _ hS6
  have d0 := P0.out _ hS6
  have d1 := P1.out _ hS6
  go_upto_region 4 with (go_at_call 17; refine (KS.out _ hS6).mono ?_; rintro e w7 ⟨vs, rfl, hvs, hb7⟩)
  have hS7 := Below.trans hS6 (Below.mono hb7 hS6.size)
  clear KS c0 c1 c2 c3 d0 d1 hb7 hS6
  have c0 := Q0.out _ hS7
  have c1 := Q1.out _ hS7
  have c2 := Q2.out _ hS7
  have c3 := Q3.out _ hS7
  have d0 := P0.out _ hS7
  have d1 := P1.out _ hS7
  by_cases he : selE b s r n = 0
  rotate_left
  · have e1 : (selE b s r n == 0) = false := by simpa using he
    have e2 : ¬ selE b s r n = 0 := he
    clear he
    go_upto_region 8 with fail
    clear e1 e2
    clear KC KE
    have hS0 := hS7
    clear c0 c1 c2 c3 d0 d1
    have c0 := Q0.out _ hS0
    have c1 := Q1.out _ hS0
    have c2 := Q2.out _ hS0
    have c3 := Q3.out _ hS0
    go_upto_region 9 with (go_at_call 11; refine (KO.out _ hS0).mono ?_; rintro e w8 ⟨Ao, co, rfl, hvo, hb8⟩)
    have HS8 := Lib.hid (Below.trans hS0 (Below.mono hb8 hS0.size))
    have HVO := Lib.hid hvo
    clear c0 c1 c2 c3 hb8 hvo hS0 KO
    go_wp2
    go_loopw [12] (fun vi wr => ∃ q : Nat, q ≤ nl ∧ vi = .int .i64 ((q + 1 : Nat) : Int) ∧ SW w8 wr) (fun vi _ => nl + 1 - (intOf vi).toNat)
    case atStart => exact ⟨0, Nat.zero_le _, rfl, Below.refl _ _⟩
    case round =>
      obtain ⟨q, hq, rfl, hS⟩ := hrel
      have hT := Below.trans HS8.out (Below.mono hS HS8.out.size)
      have c0 := Q0.out _ hT
      have c1 := Q1.out _ hT
      have c2 := Q2.out _ hT
      have c3 := Q3.out _ hT
      by_cases hlt : q + 1 < nl
      rotate_left
      · have i1 : ¬ ((q + 1 : Nat) : Int) < (nl : Int) := by omega
        have i2 : ¬ (q : Int) + 1 < (nl : Int) := by omega
        go_wp2_with (go_at_call 9; refine (KA.out _).mono ?_; rintro e wd ⟨rfl, hbd⟩)
        go_ret
        exact ⟨rfl, HT.out _ (hT.trans (hbd.mono hT.size))⟩
      have i1 : ((q + 1 : Nat) : Int) < (nl : Int) := by omega
      have i2 : (q : Int) + 1 < (nl : Int) := by omega
      have i3 : (0 : Int) ≤ (q : Int) + 1 := by omega
      have i4 : (q : Int) < (nl : Int) := by omega
      obtain ⟨x, hx⟩ : ∃ x, (opL b s)[q + 1]? = some x := ⟨_, List.getElem?_eq_getElem (by have := HNL.out; omega)⟩
      obtain ⟨y, hy⟩ : ∃ y, (opL b s)[q]? = some y := ⟨_, List.getElem?_eq_getElem (by have := HNL.out; omega)⟩
      have hxy := opL_down hx hy
      obtain ⟨bo, oo, e1, z1⟩ := int_at (HVO.out.more hS) hx
      obtain ⟨bo2, oo2, e2, z2⟩ := int_at (HVO.out.more hS) hy
      rw [e1] at e2
      cases e2
      subst e1
      cases fb with
      | false =>
        clear hx hy z1 z2
        go_wp2_with (first
          | (go_at_call 9; refine (KA.out _).mono ?_; rintro e wd ⟨rfl, hbd⟩)
          | (go_at_call 14; refine (KG.out _ hT).mono ?_; rintro e wg ⟨rfl, hbg⟩; have hTg := Below.trans hT (Below.mono hbg hT.size)))
        go_ret
        exact ⟨rfl, HT.out _ (hTg.trans (hbd.mono hTg.size))⟩
      | true =>
        clear hx hy
        go_upto_region 12 with (go_at_call 14; refine (KG.out _ hT).mono ?_; rintro e wg ⟨rfl, hbg⟩)
        have f1 : ∀ z : Wd (SW wg), z.w.cell? ⟨bo, oo + (q + 1), none⟩ = some (Value.int .i64 x) := fun z => bel_get (bel_cell hbg z1) _ z.ok
        have f2 : ∀ z : Wd (SW wg), z.w.cell? ⟨bo, oo + q, none⟩ = some (Value.int .i64 y) := fun z => bel_get (bel_cell hbg z2) _ z.ok
        have g1 : ¬ y < x := by omega
        have g2 : decide (y < x) = false := decide_eq_false g1
        have w1 : IntKind.i64.wrap ((q : Int) + 1 - 1) = (q : Int) := by rw [IntKind.wrap_i64]; omega
        have w2 : IntKind.i64.wrap (((q + 1 : Nat) : Int) - 1) = (q : Int) := by rw [IntKind.wrap_i64]; omega
        have HSg : Hid (SW w8 wg) := Lib.hid (Below.trans hS (Below.mono hbg hS.size))
        clear z1 z2 c0 c1 c2 c3 hbg hT hxy
        have hNe : Nonempty (Wd (SW wg)) := ⟨⟨_, SW.drew _⟩⟩
        refine quietS (S := SW wg) (by kernel_rfl) (by kernel_rfl) (SW.drew _) ?_
        repeat (first | go_big_quiet_skip | (go_big_quiet_want; go_big_quiet_op; first | go_big_quiet_on | go_big_quiet_call ((fail))))
        refine wpQuiet_nil ?_
        rintro W ⟨⟨_, hW⟩, rfl⟩
        go_wp2
        go_roundw
        case rel => exact ⟨q + 1, by omega, by go_num, Below.trans HSg.out (Below.mono hW HSg.out.size)⟩
        case measure => simp [intOf]; omega
  · have KC := Lib.hid (KC.out he)
    rw [he]
    clear he
    go_upto_region 6 with (go_at_call 19; refine (KC.out _ _ hS7 hvs).mono ?_; rintro e w9 ⟨vc, rfl, hvc, hb9⟩)
    have hS9 := Below.trans hS7 (Below.mono hb9 hS7.size)
    clear hb9 hS7 hvs
    go_upto_region 8 with (go_at_call 10; refine (KE.out _ _ hS9 hvc).mono ?_; rintro e w10 ⟨rfl, hb10⟩)
    have hS10 := Below.trans hS9 (Below.mono hb10 hS9.size)
    clear hb10 hS9 hvc
    clear KC KE
    have hS0 := hS10
    clear c0 c1 c2 c3 d0 d1
    have c0 := Q0.out _ hS0
    have c1 := Q1.out _ hS0
    have c2 := Q2.out _ hS0
    have c3 := Q3.out _ hS0
    go_upto_region 9 with (go_at_call 11; refine (KO.out _ hS0).mono ?_; rintro e w8 ⟨Ao, co, rfl, hvo, hb8⟩)
    have HS8 := Lib.hid (Below.trans hS0 (Below.mono hb8 hS0.size))
    have HVO := Lib.hid hvo
    clear c0 c1 c2 c3 hb8 hvo hS0 KO
    go_wp2
    go_loopw [12] (fun vi wr => ∃ q : Nat, q ≤ nl ∧ vi = .int .i64 ((q + 1 : Nat) : Int) ∧ SW w8 wr) (fun vi _ => nl + 1 - (intOf vi).toNat)
    case atStart => exact ⟨0, Nat.zero_le _, rfl, Below.refl _ _⟩
    case round =>
      obtain ⟨q, hq, rfl, hS⟩ := hrel
      have hT := Below.trans HS8.out (Below.mono hS HS8.out.size)
      have c0 := Q0.out _ hT
      have c1 := Q1.out _ hT
      have c2 := Q2.out _ hT
      have c3 := Q3.out _ hT
      by_cases hlt : q + 1 < nl
      rotate_left
      · have i1 : ¬ ((q + 1 : Nat) : Int) < (nl : Int) := by omega
        have i2 : ¬ (q : Int) + 1 < (nl : Int) := by omega
        go_wp2_with (go_at_call 9; refine (KA.out _).mono ?_; rintro e wd ⟨rfl, hbd⟩)
        go_ret
        exact ⟨rfl, HT.out _ (hT.trans (hbd.mono hT.size))⟩
      have i1 : ((q + 1 : Nat) : Int) < (nl : Int) := by omega
      have i2 : (q : Int) + 1 < (nl : Int) := by omega
      have i3 : (0 : Int) ≤ (q : Int) + 1 := by omega
      have i4 : (q : Int) < (nl : Int) := by omega
      obtain ⟨x, hx⟩ : ∃ x, (opL b s)[q + 1]? = some x := ⟨_, List.getElem?_eq_getElem (by have := HNL.out; omega)⟩
      obtain ⟨y, hy⟩ : ∃ y, (opL b s)[q]? = some y := ⟨_, List.getElem?_eq_getElem (by have := HNL.out; omega)⟩
      have hxy := opL_down hx hy
      obtain ⟨bo, oo, e1, z1⟩ := int_at (HVO.out.more hS) hx
      obtain ⟨bo2, oo2, e2, z2⟩ := int_at (HVO.out.more hS) hy
      rw [e1] at e2
      cases e2
      subst e1
      cases fb with
      | false =>
        clear hx hy z1 z2
        go_wp2_with (first
          | (go_at_call 9; refine (KA.out _).mono ?_; rintro e wd ⟨rfl, hbd⟩)
          | (go_at_call 14; refine (KG.out _ hT).mono ?_; rintro e wg ⟨rfl, hbg⟩; have hTg := Below.trans hT (Below.mono hbg hT.size)))
        go_ret
        exact ⟨rfl, HT.out _ (hTg.trans (hbd.mono hTg.size))⟩
      | true =>
        clear hx hy
        go_upto_region 12 with (go_at_call 14; refine (KG.out _ hT).mono ?_; rintro e wg ⟨rfl, hbg⟩)
        have f1 : ∀ z : Wd (SW wg), z.w.cell? ⟨bo, oo + (q + 1), none⟩ = some (Value.int .i64 x) := fun z => bel_get (bel_cell hbg z1) _ z.ok
        have f2 : ∀ z : Wd (SW wg), z.w.cell? ⟨bo, oo + q, none⟩ = some (Value.int .i64 y) := fun z => bel_get (bel_cell hbg z2) _ z.ok
        have g1 : ¬ y < x := by omega
        have g2 : decide (y < x) = false := decide_eq_false g1
        have w1 : IntKind.i64.wrap ((q : Int) + 1 - 1) = (q : Int) := by rw [IntKind.wrap_i64]; omega
        have w2 : IntKind.i64.wrap (((q + 1 : Nat) : Int) - 1) = (q : Int) := by rw [IntKind.wrap_i64]; omega
        have HSg : Hid (SW w8 wg) := Lib.hid (Below.trans hS (Below.mono hbg hS.size))
        clear z1 z2 c0 c1 c2 c3 hbg hT hxy
        have hNe : Nonempty (Wd (SW wg)) := ⟨⟨_, SW.drew _⟩⟩
        refine quietS (S := SW wg) (by kernel_rfl) (by kernel_rfl) (SW.drew _) ?_
        repeat (first | go_big_quiet_skip | (go_big_quiet_want; go_big_quiet_op; first | go_big_quiet_on | go_big_quiet_call ((fail))))
        refine wpQuiet_nil ?_
        rintro W ⟨⟨_, hW⟩, rfl⟩
        go_wp2
        go_roundw
        case rel => exact ⟨q + 1, by omega, by go_num, Below.trans HSg.out (Below.mono hW HSg.out.size)⟩
        case measure => simp [intOf]; omega
end Go.Proofs.Ytnakdacnfbgpnaa
