/- Sell and Cancel, the program's and the reference's; Same. -/
import Derived.Test.YtnakdacnfbgpnaaNesG
namespace Go.Proofs.Ytnakdacnfbgpnaa
open Go.RowKit Go.Shelf
set_option linter.unusedSimpArgs false
set_option linter.unusedVariables false

set_option maxRecDepth 100000 in
set_option maxHeartbeats 4000000 in
theorem sell_any (b : Cb) (A : Option Addr) (c : Nat) (s : List Int) (r n : Int) (w : World) (hb : CbAt w b) (hP : LimP b) (hl : s.length ≤ 1000) (hL : IntR w (.slice A s.length c) s) :
    Calls Try.prog 17 #[aggCb b, .slice A s.length c, .int .i64 r, .int .i64 n] w fun e w' => ∃ v, e = .returned (.tuple #[v, .int .i64 (selE b s r n)]) ∧ IntR w' v (selL b s r n) ∧ Below w.heap.size w w' := by
  have hbA := bel_alloc w (.cells #[.string b.name, .int .i64 b.seats, .int .i64 b.over, .slice b.A b.l.length b.c] cbT)
  have q0 := cb_cells w b 0 _ rfl
  have q1 := cb_cells w b 1 _ rfl
  have q2 := cb_cells w b 2 _ rfl
  have q3 := cb_cells w b 3 _ rfl
  have KC : Hid (∀ W, SW w W → Calls Try.prog 27 #[aggCb b, .slice A s.length c, .int .i64 r, .int .i64 n] W fun e w' => e = .returned (.int .i64 (erP b s r n)) ∧ Below W.heap.size W w') := Lib.hid (fun W h => check_any b A c s r n W hl (hL.more h))
  have HA := Lib.hid hbA
  by_cases h0 : erP b s r n = 0
  · obtain ⟨hr, h1, h2, h3, h4⟩ := erP_zero h0
    rw [h0] at KC
    obtain ⟨hlen, hall⟩ := rgtB_yes hr
    obtain ⟨k, hk⟩ : ∃ k, k = r.toNat := ⟨_, rfl⟩
    rw [← hk] at h3 h4
    obtain ⟨x, hx⟩ : ∃ x, s[k]? = some x := ⟨_, List.getElem?_eq_getElem h3⟩
    have hxin := hall x (List.mem_of_getElem? hx)
    have hop : opF b s k ≤ 400000 := by
      have h5 := lsM_le (leF b s) (k + 1) k (by omega)
      have h6 := leF_in hP hr k
      unfold opF
      omega
    have HOL : Hid (opL b s = tab (opF b s) s.length) := Lib.hid (by unfold opL; rw [hr]; rfl)
    have KO : Hid (∀ W, SW w W → Calls Try.prog 11 #[aggCb b, .slice A s.length c] W fun e w' => ∃ bb o c', e = .returned (.slice (some ⟨bb, o, none⟩) s.length c') ∧ w'.cell? ⟨bb, o + k, none⟩ = some (.int .i64 (opF b s k)) ∧ Below W.heap.size W w') := Lib.hid (fun W h => (open_any b A c s W (hb.more h) hP hl (hL.more h)).mono (by
      rintro e w' ⟨v', rfl, hv, hb'⟩
      rw [HOL.out] at hv
      obtain ⟨A', c', rfl, hc⟩ := int_slice hv
      obtain ⟨bb, o, rfl, hz⟩ := hc k h3
      exact ⟨bb, o, c', rfl, hz, hb'⟩))
    have KA : Hid (n ≤ opF b s k → ∀ W, SW w W → Calls Try.prog 28 #[.slice A s.length c, .int .i64 (k : Int), .int .i64 n] W fun e w' => ∃ v, e = .returned v ∧ IntR w' v (wiL s k n) ∧ Below W.heap.size W w') := Lib.hid (fun hn W h => add_any A c s k n x W hl (hL.more h) hx (by unfold wrap64; omega))
    have HSE : Hid (selE b s r n = if opF b s k < n then 17 else 0) := Lib.hid (by unfold selE; rw [if_pos h0, ← hk])
    have i1 : (k : Int) < (s.length : Int) := by omega
    subst h4
    clear hb hP hL h0 hr hlen hall hx hxin h2
    by_cases hc : opF b s k < n
    · have HE : Hid (selE b s (k : Int) n = 17) := Lib.hid (by rw [HSE.out, if_pos hc])
      have HLL : Hid (selL b s (k : Int) n = []) := Lib.hid (by unfold selL; rw [HE.out]; rfl)
      rw [HE.out, HLL.out]
      clear hk
      generalize opF b s k = ok at *
      go_enter Try.func17, Try.ntmps17
      go_wp2_with (first
        | (go_at_call 27; with_reducible refine (KC.out _ HA.out).mono ?_; rintro e w6 ⟨rfl, hb6⟩; have hA6 := Below.trans HA.out (Below.mono hb6 HA.out.size); have q0 := bel_cell hb6 q0; have q1 := bel_cell hb6 q1; have q2 := bel_cell hb6 q2; have q3 := bel_cell hb6 q3)
        | (go_at_call 11; with_reducible refine (KO.out _ hA6).mono ?_; rintro e w7 ⟨bb, o, c1, rfl, hz, hb7⟩))
      refine bodyPost_ret (results_tmp2 rfl _ _ _) rfl ?_
      exact ⟨_, rfl, ⟨none, 0, rfl, .inl rfl⟩, hA6.trans (hb7.mono hA6.size)⟩
    · have HE : Hid (selE b s (k : Int) n = 0) := Lib.hid (by rw [HSE.out, if_neg hc])
      have HLL : Hid (selL b s (k : Int) n = wiL s k n) := Lib.hid (by unfold selL; rw [HE.out, if_pos rfl, ← hk])
      rw [HE.out, HLL.out]
      have KA2 := Lib.hid (KA.out (by omega))
      clear KA
      clear hk
      generalize opF b s k = ok at *
      go_enter Try.func17, Try.ntmps17
      go_wp2_with (first
        | (go_at_call 27; with_reducible refine (KC.out _ HA.out).mono ?_; rintro e w6 ⟨rfl, hb6⟩; have hA6 := Below.trans HA.out (Below.mono hb6 HA.out.size); have q0 := bel_cell hb6 q0; have q1 := bel_cell hb6 q1; have q2 := bel_cell hb6 q2; have q3 := bel_cell hb6 q3)
        | (go_at_call 11; with_reducible refine (KO.out _ hA6).mono ?_; rintro e w7 ⟨bb, o, c1, rfl, hz, hb7⟩; have hA7 := Below.trans hA6 (Below.mono hb7 hA6.size))
        | (go_at_call 28; with_reducible refine (KA2.out _ hA7).mono ?_; rintro e w8 ⟨v8, rfl, hv8, hb8⟩))
      refine bodyPost_ret (results_tmp2 rfl _ _ _) rfl ?_
      exact ⟨_, rfl, hv8, hA7.trans (hb8.mono hA7.size)⟩
  · have HE : Hid (selE b s r n = erP b s r n) := Lib.hid (by unfold selE; rw [if_neg h0])
    have HLL : Hid (selL b s r n = []) := Lib.hid (by unfold selL; rw [HE.out, if_neg h0])
    have e1 : (erP b s r n != 0) = true := by simp [h0]
    rw [HE.out, HLL.out]
    clear hb hP hL h0
    generalize erP b s r n = er at *
    go_enter Try.func17, Try.ntmps17
    go_wp2_with (go_at_call 27; refine (KC.out _ HA.out).mono ?_; rintro e w6 ⟨rfl, hb6⟩)
    refine bodyPost_ret (results_tmp2 rfl _ _ _) rfl ?_
    exact ⟨_, rfl, ⟨none, 0, rfl, .inl rfl⟩, HA.out.trans (hb6.mono HA.out.size)⟩
set_option maxRecDepth 100000 in
set_option maxHeartbeats 4000000 in
theorem rsell_any (b : Cb) (A : Option Addr) (c : Nat) (s : List Int) (r n : Int) (w : World) (hb : CbAt w b) (hP : LimP b) (hl : s.length ≤ 1000) (hL : IntR w (.slice A s.length c) s) :
    Calls Try.prog 18 #[aggCb b, .slice A s.length c, .int .i64 r, .int .i64 n] w fun e w' => ∃ v, e = .returned (.tuple #[v, .int .i64 (selE b s r n)]) ∧ IntR w' v (selL b s r n) ∧ Below w.heap.size w w' := by
  have hbA := bel_alloc w (.cells #[.string b.name, .int .i64 b.seats, .int .i64 b.over, .slice b.A b.l.length b.c] cbT)
  have q0 := cb_cells w b 0 _ rfl
  have q1 := cb_cells w b 1 _ rfl
  have q2 := cb_cells w b 2 _ rfl
  have q3 := cb_cells w b 3 _ rfl
  have KC : Hid (∀ W, SW w W → Calls Try.prog 29 #[aggCb b, .slice A s.length c, .int .i64 r, .int .i64 n] W fun e w' => e = .returned (.int .i64 (erP b s r n)) ∧ Below W.heap.size W w') := Lib.hid (fun W h => bad_any b A c s r n W hl (hL.more h))
  have HA := Lib.hid hbA
  by_cases h0 : erP b s r n = 0
  · obtain ⟨hr, h1, h2, h3, h4⟩ := erP_zero h0
    rw [h0] at KC
    obtain ⟨hlen, hall⟩ := rgtB_yes hr
    obtain ⟨k, hk⟩ : ∃ k, k = r.toNat := ⟨_, rfl⟩
    rw [← hk] at h3 h4
    obtain ⟨x, hx⟩ : ∃ x, s[k]? = some x := ⟨_, List.getElem?_eq_getElem h3⟩
    have hxin := hall x (List.mem_of_getElem? hx)
    have hop : opF b s k ≤ 400000 := by
      have h5 := lsM_le (leF b s) (k + 1) k (by omega)
      have h6 := leF_in hP hr k
      unfold opF
      omega
    have HOL : Hid (opL b s = tab (opF b s) s.length) := Lib.hid (by unfold opL; rw [hr]; rfl)
    have KO : Hid (∀ W, SW w W → Calls Try.prog 12 #[aggCb b, .slice A s.length c] W fun e w' => ∃ bb o c', e = .returned (.slice (some ⟨bb, o, none⟩) s.length c') ∧ w'.cell? ⟨bb, o + k, none⟩ = some (.int .i64 (opF b s k)) ∧ Below W.heap.size W w') := Lib.hid (fun W h => (ropen_any b A c s W (hb.more h) hP hl (hL.more h)).mono (by
      rintro e w' ⟨v', rfl, hv, hb'⟩
      rw [HOL.out] at hv
      obtain ⟨A', c', rfl, hc⟩ := int_slice hv
      obtain ⟨bb, o, rfl, hz⟩ := hc k h3
      exact ⟨bb, o, c', rfl, hz, hb'⟩))
    have KA : Hid (n ≤ opF b s k → ∀ W, SW w W → Calls Try.prog 30 #[.slice A s.length c, .int .i64 (k : Int), .int .i64 n] W fun e w' => ∃ v, e = .returned v ∧ IntR w' v (wiL s k n) ∧ Below W.heap.size W w') := Lib.hid (fun hn W h => with_any A c s k n x W hl (hL.more h) hx (by unfold wrap64; omega))
    have HSE : Hid (selE b s r n = if opF b s k < n then 17 else 0) := Lib.hid (by unfold selE; rw [if_pos h0, ← hk])
    have i1 : (k : Int) < (s.length : Int) := by omega
    subst h4
    clear hb hP hL h0 hr hlen hall hx hxin h2
    by_cases hc : opF b s k < n
    · have HE : Hid (selE b s (k : Int) n = 17) := Lib.hid (by rw [HSE.out, if_pos hc])
      have HLL : Hid (selL b s (k : Int) n = []) := Lib.hid (by unfold selL; rw [HE.out]; rfl)
      rw [HE.out, HLL.out]
      clear hk
      generalize opF b s k = ok at *
      go_enter Try.func18, Try.ntmps18
      go_wp2_with (first
        | (go_at_call 29; with_reducible refine (KC.out _ HA.out).mono ?_; rintro e w6 ⟨rfl, hb6⟩; have hA6 := Below.trans HA.out (Below.mono hb6 HA.out.size); have q0 := bel_cell hb6 q0; have q1 := bel_cell hb6 q1; have q2 := bel_cell hb6 q2; have q3 := bel_cell hb6 q3)
        | (go_at_call 12; with_reducible refine (KO.out _ hA6).mono ?_; rintro e w7 ⟨bb, o, c1, rfl, hz, hb7⟩))
      refine bodyPost_ret (results_tmp2 rfl _ _ _) rfl ?_
      exact ⟨_, rfl, ⟨none, 0, rfl, .inl rfl⟩, hA6.trans (hb7.mono hA6.size)⟩
    · have HE : Hid (selE b s (k : Int) n = 0) := Lib.hid (by rw [HSE.out, if_neg hc])
      have HLL : Hid (selL b s (k : Int) n = wiL s k n) := Lib.hid (by unfold selL; rw [HE.out, if_pos rfl, ← hk])
      rw [HE.out, HLL.out]
      have KA2 := Lib.hid (KA.out (by omega))
      clear KA
      clear hk
      generalize opF b s k = ok at *
      go_enter Try.func18, Try.ntmps18
      go_wp2_with (first
        | (go_at_call 29; with_reducible refine (KC.out _ HA.out).mono ?_; rintro e w6 ⟨rfl, hb6⟩; have hA6 := Below.trans HA.out (Below.mono hb6 HA.out.size); have q0 := bel_cell hb6 q0; have q1 := bel_cell hb6 q1; have q2 := bel_cell hb6 q2; have q3 := bel_cell hb6 q3)
        | (go_at_call 12; with_reducible refine (KO.out _ hA6).mono ?_; rintro e w7 ⟨bb, o, c1, rfl, hz, hb7⟩; have hA7 := Below.trans hA6 (Below.mono hb7 hA6.size))
        | (go_at_call 30; with_reducible refine (KA2.out _ hA7).mono ?_; rintro e w8 ⟨v8, rfl, hv8, hb8⟩))
      refine bodyPost_ret (results_tmp2 rfl _ _ _) rfl ?_
      exact ⟨_, rfl, hv8, hA7.trans (hb8.mono hA7.size)⟩
  · have HE : Hid (selE b s r n = erP b s r n) := Lib.hid (by unfold selE; rw [if_neg h0])
    have HLL : Hid (selL b s r n = []) := Lib.hid (by unfold selL; rw [HE.out, if_neg h0])
    have e1 : (erP b s r n != 0) = true := by simp [h0]
    rw [HE.out, HLL.out]
    clear hb hP hL h0
    generalize erP b s r n = er at *
    go_enter Try.func18, Try.ntmps18
    go_wp2_with (go_at_call 29; refine (KC.out _ HA.out).mono ?_; rintro e w6 ⟨rfl, hb6⟩)
    refine bodyPost_ret (results_tmp2 rfl _ _ _) rfl ?_
    exact ⟨_, rfl, ⟨none, 0, rfl, .inl rfl⟩, HA.out.trans (hb6.mono HA.out.size)⟩
set_option maxRecDepth 100000 in
set_option maxHeartbeats 4000000 in
theorem cancel_any (b : Cb) (A : Option Addr) (c : Nat) (s : List Int) (r n : Int) (w : World) (hl : s.length ≤ 1000) (hL : IntR w (.slice A s.length c) s) :
    Calls Try.prog 19 #[aggCb b, .slice A s.length c, .int .i64 r, .int .i64 n] w fun e w' => ∃ v, e = .returned (.tuple #[v, .int .i64 (canE b s r n)]) ∧ IntR w' v (canL b s r n) ∧ Below w.heap.size w w' := by
  have hbA := bel_alloc w (.cells #[.string b.name, .int .i64 b.seats, .int .i64 b.over, .slice b.A b.l.length b.c] cbT)
  have q0 := cb_cells w b 0 _ rfl
  have q1 := cb_cells w b 1 _ rfl
  have q2 := cb_cells w b 2 _ rfl
  have q3 := cb_cells w b 3 _ rfl
  have KC : Hid (∀ W, SW w W → Calls Try.prog 27 #[aggCb b, .slice A s.length c, .int .i64 r, .int .i64 n] W fun e w' => e = .returned (.int .i64 (erP b s r n)) ∧ Below W.heap.size W w') := Lib.hid (fun W h => check_any b A c s r n W hl (hL.more h))
  have HA := Lib.hid hbA
  by_cases h0 : erP b s r n = 0
  · obtain ⟨hr, h1, h2, h3, h4⟩ := erP_zero h0
    rw [h0] at KC
    obtain ⟨hlen, hall⟩ := rgtB_yes hr
    obtain ⟨k, hk⟩ : ∃ k, k = r.toNat := ⟨_, rfl⟩
    rw [← hk] at h3 h4
    obtain ⟨x, hx⟩ : ∃ x, s[k]? = some x := ⟨_, List.getElem?_eq_getElem h3⟩
    have hxin := hall x (List.mem_of_getElem? hx)
    have KA : Hid (n ≤ x → ∀ W, SW w W → Calls Try.prog 28 #[.slice A s.length c, .int .i64 (k : Int), .int .i64 (-n)] W fun e w' => ∃ v, e = .returned v ∧ IntR w' v (wiL s k (-n)) ∧ Below W.heap.size W w') := Lib.hid (fun hn W h => add_any A c s k (-n) x W hl (hL.more h) hx (by unfold wrap64; omega))
    have HSE : Hid (canE b s r n = if x < n then 2 else 0) := Lib.hid (by unfold canE; rw [if_pos h0, ← hk, hx]; rfl)
    have HLH := Lib.hid hL
    have HXX := Lib.hid hx
    have i1 : (k : Int) < (s.length : Int) := by omega
    subst h4
    clear hL h0 hr hlen hall hx h2
    by_cases hc : x < n
    · have HE : Hid (canE b s (k : Int) n = 2) := Lib.hid (by rw [HSE.out, if_pos hc])
      have HLL : Hid (canL b s (k : Int) n = []) := Lib.hid (by unfold canL; rw [HE.out]; rfl)
      rw [HE.out, HLL.out]
      clear hk
      go_enter Try.func19, Try.ntmps19
      go_upto_region 4 with (go_at_call 27; with_reducible refine (KC.out _ HA.out).mono ?_; rintro e w6 ⟨rfl, hb6⟩; have hA6 := Below.trans HA.out (Below.mono hb6 HA.out.size))
      obtain ⟨bb, o, e1, z0⟩ := int_at (HLH.out.more hA6) HXX.out
      subst e1
      go_wp2
      refine bodyPost_ret (results_tmp2 rfl _ _ _) rfl ?_
      exact ⟨_, rfl, ⟨none, 0, rfl, .inl rfl⟩, hA6⟩
    · have HE : Hid (canE b s (k : Int) n = 0) := Lib.hid (by rw [HSE.out, if_neg hc])
      have HLL : Hid (canL b s (k : Int) n = wiL s k (-n)) := Lib.hid (by unfold canL; rw [HE.out, if_pos rfl, ← hk])
      rw [HE.out, HLL.out]
      have KA2 := Lib.hid (KA.out (by omega))
      clear KA
      have w1 : wrap64 (-n) = -n := by unfold wrap64; omega
      clear hk
      go_enter Try.func19, Try.ntmps19
      go_upto_region 4 with (go_at_call 27; with_reducible refine (KC.out _ HA.out).mono ?_; rintro e w6 ⟨rfl, hb6⟩; have hA6 := Below.trans HA.out (Below.mono hb6 HA.out.size))
      obtain ⟨bb, o, e1, z0⟩ := int_at (HLH.out.more hA6) HXX.out
      subst e1
      go_wp2_with (go_at_call 28; with_reducible refine (KA2.out _ hA6).mono ?_; rintro e w8 ⟨v8, rfl, hv8, hb8⟩)
      refine bodyPost_ret (results_tmp2 rfl _ _ _) rfl ?_
      exact ⟨_, rfl, hv8, hA6.trans (hb8.mono hA6.size)⟩
  · have HE : Hid (canE b s r n = erP b s r n) := Lib.hid (by unfold canE; rw [if_neg h0])
    have HLL : Hid (canL b s r n = []) := Lib.hid (by unfold canL; rw [HE.out, if_neg h0])
    have e1 : (erP b s r n != 0) = true := by simp [h0]
    rw [HE.out, HLL.out]
    clear hL h0
    generalize erP b s r n = er at *
    go_enter Try.func19, Try.ntmps19
    go_wp2_with (go_at_call 27; refine (KC.out _ HA.out).mono ?_; rintro e w6 ⟨rfl, hb6⟩)
    refine bodyPost_ret (results_tmp2 rfl _ _ _) rfl ?_
    exact ⟨_, rfl, ⟨none, 0, rfl, .inl rfl⟩, HA.out.trans (hb6.mono HA.out.size)⟩
set_option maxRecDepth 100000 in
set_option maxHeartbeats 4000000 in
theorem rcancel_any (b : Cb) (A : Option Addr) (c : Nat) (s : List Int) (r n : Int) (w : World) (hl : s.length ≤ 1000) (hL : IntR w (.slice A s.length c) s) :
    Calls Try.prog 20 #[aggCb b, .slice A s.length c, .int .i64 r, .int .i64 n] w fun e w' => ∃ v, e = .returned (.tuple #[v, .int .i64 (canE b s r n)]) ∧ IntR w' v (canL b s r n) ∧ Below w.heap.size w w' := by
  have hbA := bel_alloc w (.cells #[.string b.name, .int .i64 b.seats, .int .i64 b.over, .slice b.A b.l.length b.c] cbT)
  have q0 := cb_cells w b 0 _ rfl
  have q1 := cb_cells w b 1 _ rfl
  have q2 := cb_cells w b 2 _ rfl
  have q3 := cb_cells w b 3 _ rfl
  have KC : Hid (∀ W, SW w W → Calls Try.prog 29 #[aggCb b, .slice A s.length c, .int .i64 r, .int .i64 n] W fun e w' => e = .returned (.int .i64 (erP b s r n)) ∧ Below W.heap.size W w') := Lib.hid (fun W h => bad_any b A c s r n W hl (hL.more h))
  have HA := Lib.hid hbA
  by_cases h0 : erP b s r n = 0
  · obtain ⟨hr, h1, h2, h3, h4⟩ := erP_zero h0
    rw [h0] at KC
    obtain ⟨hlen, hall⟩ := rgtB_yes hr
    obtain ⟨k, hk⟩ : ∃ k, k = r.toNat := ⟨_, rfl⟩
    rw [← hk] at h3 h4
    obtain ⟨x, hx⟩ : ∃ x, s[k]? = some x := ⟨_, List.getElem?_eq_getElem h3⟩
    have hxin := hall x (List.mem_of_getElem? hx)
    have KA : Hid (n ≤ x → ∀ W, SW w W → Calls Try.prog 30 #[.slice A s.length c, .int .i64 (k : Int), .int .i64 (-n)] W fun e w' => ∃ v, e = .returned v ∧ IntR w' v (wiL s k (-n)) ∧ Below W.heap.size W w') := Lib.hid (fun hn W h => with_any A c s k (-n) x W hl (hL.more h) hx (by unfold wrap64; omega))
    have HSE : Hid (canE b s r n = if x < n then 2 else 0) := Lib.hid (by unfold canE; rw [if_pos h0, ← hk, hx]; rfl)
    have HLH := Lib.hid hL
    have HXX := Lib.hid hx
    have i1 : (k : Int) < (s.length : Int) := by omega
    subst h4
    clear hL h0 hr hlen hall hx h2
    by_cases hc : x < n
    · have HE : Hid (canE b s (k : Int) n = 2) := Lib.hid (by rw [HSE.out, if_pos hc])
      have HLL : Hid (canL b s (k : Int) n = []) := Lib.hid (by unfold canL; rw [HE.out]; rfl)
      rw [HE.out, HLL.out]
      clear hk
      go_enter Try.func20, Try.ntmps20
      go_upto_region 4 with (go_at_call 29; with_reducible refine (KC.out _ HA.out).mono ?_; rintro e w6 ⟨rfl, hb6⟩; have hA6 := Below.trans HA.out (Below.mono hb6 HA.out.size))
      obtain ⟨bb, o, e1, z0⟩ := int_at (HLH.out.more hA6) HXX.out
      subst e1
      go_wp2
      refine bodyPost_ret (results_tmp2 rfl _ _ _) rfl ?_
      exact ⟨_, rfl, ⟨none, 0, rfl, .inl rfl⟩, hA6⟩
    · have HE : Hid (canE b s (k : Int) n = 0) := Lib.hid (by rw [HSE.out, if_neg hc])
      have HLL : Hid (canL b s (k : Int) n = wiL s k (-n)) := Lib.hid (by unfold canL; rw [HE.out, if_pos rfl, ← hk])
      rw [HE.out, HLL.out]
      have KA2 := Lib.hid (KA.out (by omega))
      clear KA
      have w1 : wrap64 (-n) = -n := by unfold wrap64; omega
      clear hk
      go_enter Try.func20, Try.ntmps20
      go_upto_region 4 with (go_at_call 29; with_reducible refine (KC.out _ HA.out).mono ?_; rintro e w6 ⟨rfl, hb6⟩; have hA6 := Below.trans HA.out (Below.mono hb6 HA.out.size))
      obtain ⟨bb, o, e1, z0⟩ := int_at (HLH.out.more hA6) HXX.out
      subst e1
      go_wp2_with (go_at_call 30; with_reducible refine (KA2.out _ hA6).mono ?_; rintro e w8 ⟨v8, rfl, hv8, hb8⟩)
      refine bodyPost_ret (results_tmp2 rfl _ _ _) rfl ?_
      exact ⟨_, rfl, hv8, hA6.trans (hb8.mono hA6.size)⟩
  · have HE : Hid (canE b s r n = erP b s r n) := Lib.hid (by unfold canE; rw [if_neg h0])
    have HLL : Hid (canL b s r n = []) := Lib.hid (by unfold canL; rw [HE.out, if_neg h0])
    have e1 : (erP b s r n != 0) = true := by simp [h0]
    rw [HE.out, HLL.out]
    clear hL h0
    generalize erP b s r n = er at *
    go_enter Try.func20, Try.ntmps20
    go_wp2_with (go_at_call 29; refine (KC.out _ HA.out).mono ?_; rintro e w6 ⟨rfl, hb6⟩)
    refine bodyPost_ret (results_tmp2 rfl _ _ _) rfl ?_
    exact ⟨_, rfl, ⟨none, 0, rfl, .inl rfl⟩, HA.out.trans (hb6.mono HA.out.size)⟩
set_option maxRecDepth 100000 in
set_option maxHeartbeats 4000000 in
/-- equal lists are found equal -/
theorem sameI_any (u v : Value) (l : List Int) (w : World) (hu : IntR w u l) (hv : IntR w v l) (hl : l.length ≤ 1000000) :
    Calls Try.prog 10 #[u, v] w fun e w' => e = .returned (.bool true) ∧ Below w.heap.size w w' := by
  obtain ⟨A, c, rfl, _⟩ := id hu
  obtain ⟨A', c', rfl, _⟩ := id hv
  have HU := Lib.hid hu
  have HV := Lib.hid hv
  clear hu hv
  go_enter Try.func10, Try.ntmps10
  go_wp2
  go_loopw [5] (fun vi wr => ∃ k : Nat, k ≤ l.length ∧ vi = .int .i64 k ∧ SW w wr) (fun vi _ => l.length - (intOf vi).toNat)
  case atStart => exact ⟨0, Nat.zero_le _, rfl, Below.refl _ _⟩
  case round =>
    obtain ⟨k, hk, rfl, hS⟩ := hrel
    by_cases hlt : k < l.length
    · obtain ⟨x, hx⟩ : ∃ x, l[k]? = some x := ⟨_, List.getElem?_eq_getElem hlt⟩
      obtain ⟨b, o, e1, c0⟩ := int_at HU.out hx
      obtain ⟨b', o', e2, c1⟩ := int_at HV.out hx
      cases e1
      cases e2
      have i2 : (k : Int) < (l.length : Int) := by omega
      have f0 := SW.cell (bel_cell hS c0)
      have f1 := SW.cell (bel_cell hS c1)
      clear hx c0 c1
      go_wp2
      have hNe : Nonempty (Wd (SW wr)) := ⟨⟨_, SW.drew _⟩⟩
      refine quietS (S := SW wr) (by kernel_rfl) (by kernel_rfl) (SW.drew _) ?_
      repeat (first | go_big_quiet_skip | (go_big_quiet_want; go_big_quiet_op; first | go_big_quiet_on | go_big_quiet_call ((fail))))
      refine wpQuiet_nil ?_
      rintro W ⟨⟨_, hW⟩, rfl⟩
      go_wp2
      go_roundw
      case rel => exact ⟨k + 1, by omega, by go_num, Below.trans hS (Below.mono hW hS.size)⟩
      case measure => simp [intOf]; omega
    · go_wp2
      go_ret
      exact ⟨rfl, hS⟩
end Go.Proofs.Ytnakdacnfbgpnaa
