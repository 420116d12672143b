/- Open, Excess and Fits. -/
import Derived.Test.YtnakdacnfbgpnaaNesC
import Derived.Deep.LoopGhost
import Derived.BigQuiet
import Derived.Deep.CutRange
import Derived.Deep.CutBlock
namespace Go.Proofs.Ytnakdacnfbgpnaa
open Go.RowKit Go.Shelf
set_option linter.unusedSimpArgs false
set_option linter.unusedVariables false

theorem left_any (b : Cb) (A : Option Addr) (c : Nat) (s : List Int) (w : World) (hb : CbAt w b) (hP : LimP b) (hr : rgtB b s = true) (hL : IntR w (.slice A s.length c) s) :
    Calls Try.prog 24 #[aggCb b, .slice A s.length c] w fun e W' => ∃ g c', e = .returned (.slice (some ⟨g, 0, none⟩) s.length c') ∧ w.heap.size ≤ g ∧ Row W' g (tab (leF b s) s.length) ∧ Below w.heap.size w W' := callsIn_wide.1 (left_in b A c s w hb hP hr hL)
/-- the cells of a cabin in a box -/
theorem cb_cells (w : World) (b : Cb) : ∀ j u, (encCb b)[j]? = some u → (w.alloc (.cells #[.string b.name, .int .i64 b.seats, .int .i64 b.over, .slice b.A b.l.length b.c] cbT)).cell? ⟨w.heap.size, j, none⟩ = some u := fun j u h => by
  rw [cells_new, List.getElem?_toArray]
  exact h
def seL (b : Cb) (s : List Int) (k : Nat) : Nat → Int := fun j => if j < k then opF b s j else leF b s j
theorem seL_zero (b : Cb) (s : List Int) (n : Nat) : tab (seL b s 0) n = tab (leF b s) n := rfl
theorem seL_full (b : Cb) (s : List Int) (n : Nat) : tab (seL b s n) n = tab (opF b s) n := by
  apply List.ext_getElem
  · simp [tab]
  · intro i h1 h2
    have h1' : i < n := by simpa [tab] using h1
    simp [tab, seL, h1']
theorem seL_put (b : Cb) (s : List Int) (n k : Nat) (h : k < n) : (tab (seL b s k) n).set k (opF b s k) = tab (seL b s (k + 1)) n := by
  rw [tab_upd]
  apply List.ext_getElem
  · simp [tab]
  · intro i h1 h2
    simp only [tab, List.getElem_map, List.getElem_range, upd, seL]
    by_cases e : i = k
    · subst e; rw [if_pos rfl, if_pos (by omega)]
    · rw [if_neg e]
      by_cases h3 : i < k
      · rw [if_pos h3, if_pos (by omega)]
      · rw [if_neg h3, if_neg (by omega)]
set_option maxRecDepth 100000 in
set_option maxHeartbeats 4000000 in
theorem open_any (b : Cb) (A : Option Addr) (c : Nat) (s : List Int) (w : World) (hb : CbAt w b) (hP : LimP b) (hl : s.length ≤ 1000) (hL : IntR w (.slice A s.length c) s) :
    Calls Try.prog 11 #[aggCb b, .slice A s.length c] w fun e w' => ∃ v', e = .returned v' ∧ IntR w' v' (opL b s) ∧ Below w.heap.size w w' := by
  have hbA := bel_alloc w (.cells #[.string b.name, .int .i64 b.seats, .int .i64 b.over, .slice b.A b.l.length b.c] cbT)
  have q0 := cb_cells w b 0 _ rfl
  have q1 := cb_cells w b 1 _ rfl
  have q2 := cb_cells w b 2 _ rfl
  have q3 := cb_cells w b 3 _ rfl
  have KR : Hid (∀ W, SW w W → Calls Try.prog 23 #[aggCb b, .slice A s.length c] W fun e w' => e = .returned (.bool (rgtB b s)) ∧ Below W.heap.size W w') := Lib.hid (fun W h => isRight_any b A c s W hl (hL.more h))
  have KL : Hid (rgtB b s = true → ∀ W, SW w W → Calls Try.prog 24 #[aggCb b, .slice A s.length c] W fun e W' => ∃ g c', e = .returned (.slice (some ⟨g, 0, none⟩) s.length c') ∧ W.heap.size ≤ g ∧ Row W' g (tab (leF b s) s.length) ∧ Below W.heap.size W W') := Lib.hid (fun hr W h => left_any b A c s W (hb.more h) hP hr (hL.more h))
  have HP := Lib.hid hP
  have HA := Lib.hid hbA
  clear hb hP hL
  cases hr : rgtB b s with
  | false =>
    rw [hr] at KR
    have HO : Hid (opL b s = []) := Lib.hid (by unfold opL; rw [hr]; rfl)
    rw [HO.out]
    clear hr
    go_enter Try.func11, Try.ntmps11
    go_wp2_with (go_at_call 23; refine (KR.out _ HA.out).mono ?_; rintro e w6 ⟨rfl, hb6⟩)
    go_ret
    exact ⟨_, rfl, ⟨none, 0, rfl, .inl rfl⟩, HA.out.trans (hb6.mono HA.out.size)⟩
  | true =>
    have KL := Lib.hid (KL.out hr)
    rw [hr] at KR
    have HO : Hid (opL b s = tab (opF b s) s.length) := Lib.hid (by unfold opL; rw [hr]; rfl)
    have HF : Hid (∀ i, -400000 ≤ leF b s i ∧ leF b s i ≤ 400000) := Lib.hid (leF_in HP.out hr)
    rw [HO.out]
    obtain ⟨n, hn⟩ : ∃ n, n = s.length := ⟨_, rfl⟩
    rw [← hn] at KL KR hl ⊢
    clear hr hn HO HP
    go_enter Try.func11, Try.ntmps11
    go_upto_region 4 with (first
      | (go_at_call 23; refine (KR.out _ HA.out).mono ?_; rintro e w6 ⟨rfl, hb6⟩; have hA6 := Below.trans HA.out (Below.mono hb6 HA.out.size); have q0 := bel_cell hb6 q0; have q1 := bel_cell hb6 q1; have q2 := bel_cell hb6 q2; have q3 := bel_cell hb6 q3)
      | (go_at_call 24; refine (KL.out _ hA6).mono ?_; rintro e w7 ⟨g, c1, rfl, hg, hrow, hb7⟩))
    have HB7 := Lib.hid (hA6.trans (hb7.mono hA6.size))
    have HG : Hid (w.heap.size ≤ g) := Lib.hid (Nat.le_trans hA6.size hg)
    have HR := Lib.hid hrow
    clear hA6 hb6 hb7 hg hrow q0 q1 q2 q3
    go_wp2
    go_loopw [6, 18] (fun s6 vi wr => ∃ k : Nat, k ≤ n ∧ vi = .int .i64 k ∧ s6 = .int .i64 (lsM (leF b s) k) ∧ Hid (Row wr g (tab (seL b s k) n) ∧ Below w.heap.size w wr)) (fun _ vi _ => n - (intOf vi).toNat)
    case atStart => exact ⟨0, Nat.zero_le _, rfl, rfl, Lib.hid ⟨by rw [seL_zero]; exact HR.out, HB7.out⟩⟩
    case round =>
      obtain ⟨k, hk, rfl, rfl, HK⟩ := hrel
      by_cases hlt : k < n
      · have i2 : (k : Int) < (n : Int) := by omega
        have d0 : wr.cell? ⟨g, k, none⟩ = some (.int .i64 (leF b s k)) := by
          rw [HK.out.1.cell k (by rw [tab_len]; exact hlt)]
          simp [tab, seL]
        have d1 := HK.out.1.froz k (by rw [tab_len]; exact hlt)
        have HM : Hid (lsM (leF b s) (k + 1) = if leF b s k < lsM (leF b s) k then leF b s k else lsM (leF b s) k) := Lib.hid (by simp only [lsM]; split <;> omega)
        have HO : Hid (opF b s k = if (if leF b s k < lsM (leF b s) k then leF b s k else lsM (leF b s) k) < 0 then 0 else if leF b s k < lsM (leF b s) k then leF b s k else lsM (leF b s) k) := Lib.hid (by unfold opF; rw [HM.out]; generalize (if leF b s k < lsM (leF b s) k then leF b s k else lsM (leF b s) k) = z; split <;> omega)
        have HN : Hid (Row (wr.setCell ⟨g, k, none⟩ (.int .i64 (opF b s k))) g (tab (seL b s (k + 1)) n) ∧ Below w.heap.size w (wr.setCell ⟨g, k, none⟩ (.int .i64 (opF b s k)))) := Lib.hid (by
          have h := HK.out.1.set k (by rw [tab_len]; exact hlt) (opF b s k)
          rw [seL_put b s n k hlt] at h
          exact ⟨h, HK.out.2.setCell (p := ⟨g, k, none⟩) HG.out _⟩)
        rw [HO.out] at HN
        generalize leF b s k = fk at *
        generalize lsM (leF b s) k = mk at *
        go_wp2
        go_roundw
        case rel => exact ⟨k + 1, by omega, by go_num, by rw [HM.out], HN⟩
        case measure => simp [intOf]; omega
      · have HE : Hid (k = n) := Lib.hid (by omega)
        have HQ : Hid (IntR wr (.slice (some ⟨g, 0, none⟩) n c1) (tab (opF b s) n) ∧ Below w.heap.size w wr) := Lib.hid (by
          have h := HK.out.1
          rw [HE.out, seL_full] at h
          have h2 := h.intR (c := c1)
          rw [tab_len] at h2
          exact ⟨h2, HK.out.2⟩)
        go_wp2
        go_ret
        exact ⟨_, rfl, HQ.out⟩
set_option maxRecDepth 100000 in
set_option maxHeartbeats 4000000 in
theorem excess_any (b : Cb) (A : Option Addr) (c : Nat) (s : List Int) (w : World) (hb : CbAt w b) (hP : LimP b) (hl : s.length ≤ 1000) (hL : IntR w (.slice A s.length c) s) :
    Calls Try.prog 15 #[aggCb b, .slice A s.length c] w fun e w' => e = .returned (.int .i64 (exP b s)) ∧ Below w.heap.size w w' := by
  have hbA := bel_alloc w (.cells #[.string b.name, .int .i64 b.seats, .int .i64 b.over, .slice b.A b.l.length b.c] cbT)
  have q0 := cb_cells w b 0 _ rfl
  have q1 := cb_cells w b 1 _ rfl
  have q2 := cb_cells w b 2 _ rfl
  have q3 := cb_cells w b 3 _ rfl
  have KR : Hid (∀ W, SW w W → Calls Try.prog 23 #[aggCb b, .slice A s.length c] W fun e w' => e = .returned (.bool (rgtB b s)) ∧ Below W.heap.size W w') := Lib.hid (fun W h => isRight_any b A c s W hl (hL.more h))
  have KL : Hid (rgtB b s = true → ∀ W, SW w W → Calls Try.prog 24 #[aggCb b, .slice A s.length c] W fun e W' => ∃ g c', e = .returned (.slice (some ⟨g, 0, none⟩) s.length c') ∧ W.heap.size ≤ g ∧ Row W' g (tab (leF b s) s.length) ∧ Below W.heap.size W W') := Lib.hid (fun hr W h => left_any b A c s W (hb.more h) hP hr (hL.more h))
  have HP := Lib.hid hP
  have HA := Lib.hid hbA
  clear hb hP hL
  cases hr : rgtB b s with
  | false =>
    rw [hr] at KR
    have HO : Hid (exP b s = 0) := Lib.hid (by unfold exP; rw [hr]; rfl)
    rw [HO.out]
    clear hr
    go_enter Try.func15, Try.ntmps15
    go_wp2_with (go_at_call 23; refine (KR.out _ HA.out).mono ?_; rintro e w6 ⟨rfl, hb6⟩)
    go_ret
    exact ⟨rfl, HA.out.trans (hb6.mono HA.out.size)⟩
  | true =>
    have KL := Lib.hid (KL.out hr)
    rw [hr] at KR
    have HO : Hid (exP b s = exF (leF b s) s.length) := Lib.hid (by unfold exP; rw [hr]; rfl)
    have HF : Hid (∀ i, -400000 ≤ leF b s i ∧ leF b s i ≤ 400000) := Lib.hid (leF_in HP.out hr)
    rw [HO.out]
    obtain ⟨n, hn⟩ : ∃ n, n = s.length := ⟨_, rfl⟩
    rw [← hn] at KL KR hl ⊢
    clear hr hn HO HP
    go_enter Try.func15, Try.ntmps15
    go_upto_region 4 with (go_at_call 23; refine (KR.out _ HA.out).mono ?_; rintro e w6 ⟨rfl, hb6⟩; have hA6 := Below.trans HA.out (Below.mono hb6 HA.out.size); have q0 := bel_cell hb6 q0; have q1 := bel_cell hb6 q1; have q2 := bel_cell hb6 q2; have q3 := bel_cell hb6 q3)
    go_wp2_with (go_at_call 24; refine (KL.out _ hA6).mono ?_; rintro e w7 ⟨g, c1, rfl, hg, hrow, hb7⟩)
    have HB7 := Lib.hid (hA6.trans (hb7.mono hA6.size))
    have HR := Lib.hid hrow
    clear hA6 hb6 hb7 hg hrow q0 q1 q2 q3
    go_loop [5, 16] (fun s5 vi => ∃ k : Nat, k ≤ n ∧ vi = .int .i64 k ∧ s5 = .int .i64 (exF (leF b s) k)) (fun _ vi => n - (intOf vi).toNat)
    case atStart => exact ⟨0, Nat.zero_le _, rfl, rfl⟩
    case round =>
      obtain ⟨k, hk, rfl, rfl⟩ := hrel
      by_cases hlt : k < n
      · have i2 : (k : Int) < (n : Int) := by omega
        have d0 : w7.cell? ⟨g, k, none⟩ = some (.int .i64 (leF b s k)) := by
          rw [HR.out.cell k (by rw [tab_len]; exact hlt)]
          simp [tab]
        obtain ⟨f1, f2⟩ := HF.out k
        have HM : Hid (exF (leF b s) (k + 1) = if exF (leF b s) k < -leF b s k then -leF b s k else exF (leF b s) k) := Lib.hid (by simp only [exF]; split <;> omega)
        generalize leF b s k = fk at *
        generalize exF (leF b s) k = mk at *
        have hw : wrap64 (-fk) = -fk := by unfold wrap64; omega
        go_wp2
        go_round
        case rel => exact ⟨k + 1, by omega, by go_num, by rw [HM.out]⟩
        case measure => simp [intOf]; omega
      · have HE : Hid (k = n) := Lib.hid (by omega)
        go_wp2
        go_ret
        exact ⟨by rw [HE.out]; rfl, HB7.out⟩
set_option maxRecDepth 100000 in
set_option maxHeartbeats 4000000 in
theorem fits_any (b : Cb) (A : Option Addr) (c : Nat) (s : List Int) (w : World) (hb : CbAt w b) (hP : LimP b) (hl : s.length ≤ 1000) (hL : IntR w (.slice A s.length c) s) :
    Calls Try.prog 13 #[aggCb b, .slice A s.length c] w fun e w' => e = .returned (.bool (fitB b s)) ∧ Below w.heap.size w w' := by
  have hbA := bel_alloc w (.cells #[.string b.name, .int .i64 b.seats, .int .i64 b.over, .slice b.A b.l.length b.c] cbT)
  have q0 := cb_cells w b 0 _ rfl
  have q1 := cb_cells w b 1 _ rfl
  have q2 := cb_cells w b 2 _ rfl
  have q3 := cb_cells w b 3 _ rfl
  have KR : Hid (∀ W, SW w W → Calls Try.prog 23 #[aggCb b, .slice A s.length c] W fun e w' => e = .returned (.bool (rgtB b s)) ∧ Below W.heap.size W w') := Lib.hid (fun W h => isRight_any b A c s W hl (hL.more h))
  have KX : Hid (∀ W, SW w W → Calls Try.prog 15 #[aggCb b, .slice A s.length c] W fun e w' => e = .returned (.int .i64 (exP b s)) ∧ Below W.heap.size W w') := Lib.hid (fun W h => excess_any b A c s W (hb.more h) hP hl (hL.more h))
  have HA := Lib.hid hbA
  clear hb hP hL
  cases hr : rgtB b s with
  | false =>
    rw [hr] at KR
    have HO : Hid (fitB b s = false) := Lib.hid (by unfold fitB; rw [hr]; rfl)
    rw [HO.out]
    clear hr KX
    go_enter Try.func13, Try.ntmps13
    go_wp2_with (go_at_call 23; refine (KR.out _ HA.out).mono ?_; rintro e w6 ⟨rfl, hb6⟩)
    go_ret
    exact ⟨rfl, HA.out.trans (hb6.mono HA.out.size)⟩
  | true =>
    rw [hr] at KR
    have HO : Hid (fitB b s = (exP b s == 0)) := Lib.hid (by unfold fitB; rw [hr, Bool.true_and]; rfl)
    rw [HO.out]
    clear hr
    generalize exP b s = x at *
    go_enter Try.func13, Try.ntmps13
    go_wp2_with (first
      | (go_at_call 23; with_reducible refine (KR.out _ HA.out).mono ?_; rintro e w6 ⟨rfl, hb6⟩; have hA6 := Below.trans HA.out (Below.mono hb6 HA.out.size); have q0 := bel_cell hb6 q0; have q1 := bel_cell hb6 q1; have q2 := bel_cell hb6 q2; have q3 := bel_cell hb6 q3)
      | (go_at_call 15; with_reducible refine (KX.out _ hA6).mono ?_; rintro e w7 ⟨rfl, hb7⟩))
    go_ret
    exact ⟨rfl, hA6.trans (hb7.mono hA6.size)⟩
end Go.Proofs.Ytnakdacnfbgpnaa
