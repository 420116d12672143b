/- The reference's over, Open, Excess and Fits. -/
import Derived.Test.YtnakdacnfbgpnaaNesD
namespace Go.Proofs.Ytnakdacnfbgpnaa
open Go.RowKit Go.Shelf
set_option linter.unusedSimpArgs false
set_option linter.unusedVariables false

theorem tab_get (f : Nat → Int) (n k : Nat) (h : k < n) : (tab f n)[k]? = some (f k) := by simp [tab, h]
theorem int_slice {W : World} {v : Value} {f : Nat → Int} {n : Nat} (h : IntR W v (tab f n)) : ∃ A c, v = .slice A n c ∧ ∀ k, k < n → ∃ bb o, A = some ⟨bb, o, none⟩ ∧ W.cell? ⟨bb, o + k, none⟩ = some (.int .i64 (f k)) := by
  obtain ⟨A, c, e, _⟩ := id h
  rw [tab_len] at e
  subst e
  exact ⟨A, c, rfl, fun k hk => int_at h (tab_get f n k hk)⟩
set_option maxRecDepth 100000 in
set_option maxHeartbeats 4000000 in
theorem rover_any (b : Cb) (A : Option Addr) (c : Nat) (s : List Int) (i : Nat) (w : World) (hb : CbAt w b) (hP : LimP b) (hr : rgtB b s = true) (hi : i < s.length) (hL : IntR w (.slice A s.length c) s) :
    Calls Try.prog 26 #[aggCb b, .slice A s.length c, .int .i64 (i : Int)] w fun e w' => e = .returned (.int .i64 (-leF b s i)) ∧ Below w.heap.size w w' := by
  obtain ⟨hlen, hall⟩ := rgtB_yes hr
  have hs30 := hP.len
  have hbA := bel_alloc w (.cells #[.string b.name, .int .i64 b.seats, .int .i64 b.over, .slice b.A b.l.length b.c] cbT)
  have q0 := cb_cells w b 0 _ rfl
  have q1 := cb_cells w b 1 _ rfl
  have q2 := cb_cells w b 2 _ rfl
  have q3 := cb_cells w b 3 _ rfl
  obtain ⟨n, hn⟩ : ∃ n, n = s.length := ⟨_, rfl⟩
  have HN := Lib.hid hn
  have KL : Hid (∀ W, SW w W → Calls Try.prog 38 #[aggCb b] W fun e w' => ∃ bb o c', e = .returned (.slice (some ⟨bb, o, none⟩) n c') ∧ w'.cell? ⟨bb, o + i, none⟩ = some (.int .i64 (limA b i)) ∧ Below W.heap.size W w') := Lib.hid (fun W h => (rlimits_any b W (hb.more h) hP).mono (by
    rintro e w' ⟨v', rfl, hv, hb'⟩
    rw [← hlen, ← hn] at hv
    obtain ⟨A', c', rfl, hc⟩ := int_slice hv
    obtain ⟨bb, o, rfl, hz⟩ := hc i (by omega)
    exact ⟨bb, o, c', rfl, hz, hb'⟩))
  have HS : Hid (∀ k, 0 ≤ nsF s k ∧ nsF s k ≤ 300000) := Lib.hid (fun k => by have := nsF_in s hall k; omega)
  have HLi := limA_in hP i
  have HQ : Hid (leF b s i = limA b i - nsF s i) := Lib.hid rfl
  have HA := Lib.hid hbA
  have HL := Lib.hid hL
  have hn30 : n ≤ 30 := by omega
  rw [← hn] at HL hi ⊢
  clear hlen hall hP hr hL hb hs30 hn
  have i1 : (i : Int) < (n : Int) := by omega
  generalize limA b i = la at *
  go_enter Try.func26, Try.ntmps26
  go_upto_region 3 with (go_at_call 38; refine (KL.out _ HA.out).mono ?_; rintro e w6 ⟨bb, o, c1, rfl, hz, hb6⟩)
  have HB6 := Lib.hid (hbA.trans (hb6.mono hbA.size))
  have w1 : wrap64 (-la) = -la := by unfold wrap64; omega
  have HL6 := Lib.hid (HL.out.more HB6.out)
  clear hb6 q0 q1 q2 q3 hbA hz
  go_wp2
  go_loop [7, 8] (fun s7 s8 => ∃ k : Nat, i ≤ k ∧ k ≤ n ∧ s8 = .int .i64 k ∧ s7 = .int .i64 (-la + (nsF s i - nsF s k))) (fun _ s8 => n - (intOf s8).toNat)
  case atStart => exact ⟨i, Nat.le_refl _, by omega, rfl, by rw [Int.sub_self, Int.add_zero]⟩
  case round =>
    obtain ⟨k, hk0, hk, rfl, rfl⟩ := hrel
    by_cases hlt : k < n
    · obtain ⟨x, hx⟩ : ∃ x, s[k]? = some x := ⟨_, List.getElem?_eq_getElem (by have := HN.out; omega)⟩
      obtain ⟨b2, o2, e1, z0⟩ := int_at HL6.out hx
      subst e1
      have i2 : (k : Int) < (n : Int) := by omega
      have hst := nsF_step s k x hx
      have h1 := HS.out i
      have h2 := HS.out k
      have h3 := HS.out (k + 1)
      have HE : Hid (-la + (nsF s i - nsF s k) + x = -la + (nsF s i - nsF s (k + 1))) := Lib.hid (by omega)
      have hw : wrap64 (-la + (nsF s i - nsF s k) + x) = -la + (nsF s i - nsF s k) + x := by unfold wrap64; omega
      clear hx hst h1 h2 h3
      generalize nsF s i - nsF s k = d at *
      go_wp2
      go_round
      case rel => exact ⟨k + 1, by omega, by omega, by go_num, by first | rw [hw, HE.out] | rw [HE.out]⟩
      case measure => simp [intOf]; omega
    · have HE : Hid (-la + (nsF s i - nsF s k) = -leF b s i) := Lib.hid (by rw [HQ.out, nsF_end s k (by have := HN.out; omega)]; omega)
      go_wp2
      go_ret
      exact ⟨by rw [HE.out]; rfl, HB6.out⟩
set_option maxRecDepth 100000 in
set_option maxHeartbeats 4000000 in
theorem rexcess_any (b : Cb) (A : Option Addr) (c : Nat) (s : List Int) (w : World) (hb : CbAt w b) (hP : LimP b) (hl : s.length ≤ 1000) (hL : IntR w (.slice A s.length c) s) :
    Calls Try.prog 16 #[aggCb b, .slice A s.length c] w fun e w' => e = .returned (.int .i64 (exP b s)) ∧ Below w.heap.size w w' := by
  have hbA := bel_alloc w (.cells #[.string b.name, .int .i64 b.seats, .int .i64 b.over, .slice b.A b.l.length b.c] cbT)
  have q0 := cb_cells w b 0 _ rfl
  have q1 := cb_cells w b 1 _ rfl
  have q2 := cb_cells w b 2 _ rfl
  have q3 := cb_cells w b 3 _ rfl
  have KR : Hid (∀ W, SW w W → Calls Try.prog 25 #[aggCb b, .slice A s.length c] W fun e w' => e = .returned (.bool (rgtB b s)) ∧ Below W.heap.size W w') := Lib.hid (fun W h => rright_any b A c s W hl (hL.more h))
  have KO : Hid (rgtB b s = true → ∀ i, i < s.length → ∀ W, SW w W → Calls Try.prog 26 #[aggCb b, .slice A s.length c, .int .i64 (i : Int)] W fun e w' => e = .returned (.int .i64 (-leF b s i)) ∧ Below W.heap.size W w') := Lib.hid (fun hr i hi W h => rover_any b A c s i W (hb.more h) hP hr hi (hL.more h))
  have HP := Lib.hid hP
  have HA := Lib.hid hbA
  clear hb hP hL
  cases hr : rgtB b s with
  | false =>
    rw [hr] at KR
    have HO : Hid (exP b s = 0) := Lib.hid (by unfold exP; rw [hr]; rfl)
    rw [HO.out]
    clear hr
    go_enter Try.func16, Try.ntmps16
    go_upto_region 3 with fail
    generalize w.alloc (.cells #[.string b.name, .int .i64 b.seats, .int .i64 b.over, .slice b.A b.l.length b.c] cbT) = w5 at *
    go_wp2
    go_loopw [5, 6] (fun s5 s6 wr => s5 = .int .i64 0 ∧ s6 = .int .i64 0 ∧ wr = w5) (fun _ _ _ => 0)
    case atStart => exact ⟨rfl, rfl, rfl⟩
    case round =>
      obtain ⟨rfl, rfl, rfl⟩ := hrel
      go_wp2_with (go_at_call 25; refine (KR.out _ HA.out).mono ?_; rintro e w6 ⟨rfl, hb6⟩)
      go_ret
      exact ⟨rfl, HA.out.trans (hb6.mono HA.out.size)⟩
  | true =>
    have KO := Lib.hid (KO.out hr)
    rw [hr] at KR
    have HO : Hid (exP b s = exF (leF b s) s.length) := Lib.hid (by unfold exP; rw [hr]; rfl)
    have HF : Hid (∀ i, -400000 ≤ leF b s i ∧ leF b s i ≤ 400000) := Lib.hid (leF_in HP.out hr)
    rw [HO.out]
    obtain ⟨n, hn⟩ : ∃ n, n = s.length := ⟨_, rfl⟩
    rw [← hn] at KO KR hl ⊢
    clear hr hn HO HP
    go_enter Try.func16, Try.ntmps16
    go_upto_region 3 with fail
    generalize w.alloc (.cells #[.string b.name, .int .i64 b.seats, .int .i64 b.over, .slice b.A b.l.length b.c] cbT) = w5 at *
    clear hbA
    have Q0 := Lib.hid (fun W (h : SW w5 W) => bel_get q0 _ h)
    have Q1 := Lib.hid (fun W (h : SW w5 W) => bel_get q1 _ h)
    have Q2 := Lib.hid (fun W (h : SW w5 W) => bel_get q2 _ h)
    have Q3 := Lib.hid (fun W (h : SW w5 W) => bel_get q3 _ h)
    clear q0 q1 q2 q3
    go_wp2
    go_loopw [5, 6] (fun s5 s6 wr => ∃ k : Nat, k ≤ n ∧ s6 = .int .i64 k ∧ s5 = .int .i64 (exF (leF b s) k) ∧ Hid (SW w5 wr)) (fun _ s6 _ => n - (intOf s6).toNat)
    case atStart => exact ⟨0, Nat.zero_le _, rfl, rfl, Lib.hid (Below.refl _ _)⟩
    case round =>
      obtain ⟨k, hk, rfl, rfl, HS⟩ := hrel
      have z0 := Q0.out _ HS.out
      have z1 := Q1.out _ HS.out
      have z2 := Q2.out _ HS.out
      have z3 := Q3.out _ HS.out
      have hS0 : SW w wr := HA.out.trans (Below.mono HS.out HA.out.size)
      by_cases hlt : k < n
      · have i2 : (k : Int) < (n : Int) := by omega
        have HM : Hid (exF (leF b s) (k + 1) = if exF (leF b s) k < -leF b s k then -leF b s k else exF (leF b s) k) := Lib.hid (by simp only [exF]; split <;> omega)
        have KO := Lib.hid (KO.out k hlt)
        generalize -leF b s k = fk at *
        generalize exF (leF b s) k = mk at *
        go_wp2_with (first
          | (go_at_call 25; with_reducible refine (KR.out _ hS0).mono ?_; rintro e w6 ⟨rfl, hb6⟩; have z0 := bel_cell hb6 z0; have z1 := bel_cell hb6 z1; have z2 := bel_cell hb6 z2; have z3 := bel_cell hb6 z3; have hS6 := Below.trans hS0 (Below.mono hb6 hS0.size); have hT6 := Below.trans HS.out (Below.mono hb6 HS.out.size))
          | (go_at_call 26; with_reducible refine (KO.out _ hS6).mono ?_; rintro e w7 ⟨rfl, hb7⟩))
        go_roundw
        case rel => exact ⟨k + 1, by omega, by go_num, by rw [HM.out], Lib.hid (hT6.trans (hb7.mono hT6.size))⟩
        case measure => simp [intOf]; omega
      · have HE : Hid (k = n) := Lib.hid (by omega)
        go_wp2_with (go_at_call 25; refine (KR.out _ hS0).mono ?_; rintro e w6 ⟨rfl, hb6⟩)
        go_ret
        exact ⟨by rw [HE.out]; rfl, hS0.trans (hb6.mono hS0.size)⟩
set_option maxRecDepth 100000 in
set_option maxHeartbeats 4000000 in
theorem rfits_any (b : Cb) (A : Option Addr) (c : Nat) (s : List Int) (w : World) (hb : CbAt w b) (hP : LimP b) (hl : s.length ≤ 1000) (hL : IntR w (.slice A s.length c) s) :
    Calls Try.prog 14 #[aggCb b, .slice A s.length c] w fun e w' => e = .returned (.bool (fitB b s)) ∧ Below w.heap.size w w' := by
  have hbA := bel_alloc w (.cells #[.string b.name, .int .i64 b.seats, .int .i64 b.over, .slice b.A b.l.length b.c] cbT)
  have q0 := cb_cells w b 0 _ rfl
  have q1 := cb_cells w b 1 _ rfl
  have q2 := cb_cells w b 2 _ rfl
  have q3 := cb_cells w b 3 _ rfl
  have KR : Hid (∀ W, SW w W → Calls Try.prog 25 #[aggCb b, .slice A s.length c] W fun e w' => e = .returned (.bool (rgtB b s)) ∧ Below W.heap.size W w') := Lib.hid (fun W h => rright_any b A c s W hl (hL.more h))
  have KX : Hid (∀ W, SW w W → Calls Try.prog 16 #[aggCb b, .slice A s.length c] W fun e w' => e = .returned (.int .i64 (exP b s)) ∧ Below W.heap.size W w') := Lib.hid (fun W h => rexcess_any b A c s W (hb.more h) hP hl (hL.more h))
  have HA := Lib.hid hbA
  clear hb hP hL
  cases hr : rgtB b s with
  | false =>
    rw [hr] at KR
    have HO : Hid (fitB b s = false) := Lib.hid (by unfold fitB; rw [hr]; rfl)
    rw [HO.out]
    clear hr KX
    go_enter Try.func14, Try.ntmps14
    go_wp2_with (go_at_call 25; refine (KR.out _ HA.out).mono ?_; rintro e w6 ⟨rfl, hb6⟩)
    go_ret
    exact ⟨rfl, HA.out.trans (hb6.mono HA.out.size)⟩
  | true =>
    rw [hr] at KR
    have HO : Hid (fitB b s = (exP b s == 0)) := Lib.hid (by unfold fitB; rw [hr, Bool.true_and]; rfl)
    rw [HO.out]
    clear hr
    generalize exP b s = x at *
    go_enter Try.func14, Try.ntmps14
    go_wp2_with (first
      | (go_at_call 25; with_reducible refine (KR.out _ HA.out).mono ?_; rintro e w6 ⟨rfl, hb6⟩; have hA6 := Below.trans HA.out (Below.mono hb6 HA.out.size); have q0 := bel_cell hb6 q0; have q1 := bel_cell hb6 q1; have q2 := bel_cell hb6 q2; have q3 := bel_cell hb6 q3)
      | (go_at_call 16; with_reducible refine (KX.out _ hA6).mono ?_; rintro e w7 ⟨rfl, hb7⟩))
    go_ret
    exact ⟨rfl, hA6.trans (hb7.mono hA6.size)⟩
end Go.Proofs.Ytnakdacnfbgpnaa
