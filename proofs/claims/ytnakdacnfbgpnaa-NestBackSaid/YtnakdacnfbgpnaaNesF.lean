/- The reference's Open. -/
import Derived.Test.YtnakdacnfbgpnaaNesE
namespace Go.Proofs.Ytnakdacnfbgpnaa
open Go.RowKit Go.Shelf
set_option linter.unusedSimpArgs false
set_option linter.unusedVariables false

set_option maxRecDepth 100000 in
set_option maxHeartbeats 4000000 in
theorem ropen_any (b : Cb) (A : Option Addr) (c : Nat) (s : List Int) (w : World) (hb : CbAt w b) (hP : LimP b) (hl : s.length ≤ 1000) (hL : IntR w (.slice A s.length c) s) :
    Calls Try.prog 12 #[aggCb b, .slice A s.length c] w fun e w' => ∃ v', e = .returned v' ∧ IntR w' v' (opL b s) ∧ Below w.heap.size w w' := by
  have hbA := bel_alloc w (.cells #[.string b.name, .int .i64 b.seats, .int .i64 b.over, .slice b.A b.l.length b.c] cbT)
  have q0 := cb_cells w b 0 _ rfl
  have q1 := cb_cells w b 1 _ rfl
  have q2 := cb_cells w b 2 _ rfl
  have q3 := cb_cells w b 3 _ rfl
  have KR : Hid (∀ W, SW w W → Calls Try.prog 25 #[aggCb b, .slice A s.length c] W fun e w' => e = .returned (.bool (rgtB b s)) ∧ Below W.heap.size W w') := Lib.hid (fun W h => rright_any b A c s W hl (hL.more h))
  have KO : Hid (rgtB b s = true → ∀ i, i < s.length → ∀ W, SW w W → Calls Try.prog 26 #[aggCb b, .slice A s.length c, .int .i64 (i : Int)] W fun e w' => e = .returned (.int .i64 (-leF b s i)) ∧ Below W.heap.size W w') := Lib.hid (fun hr i hi W h => rover_any b A c s i W (hb.more h) hP hr hi (hL.more h))
  have HP := Lib.hid hP
  have HA := Lib.hid hbA
  clear hb hP hL
  cases hr : rgtB b s with
  | false =>
    rw [hr] at KR
    have HO : Hid (opL b s = []) := Lib.hid (by unfold opL; rw [hr]; rfl)
    rw [HO.out]
    clear hr
    go_enter Try.func12, Try.ntmps12
    go_upto_region 3 with fail
    generalize w.alloc (.cells #[.string b.name, .int .i64 b.seats, .int .i64 b.over, .slice b.A b.l.length b.c] cbT) = w5 at *
    go_wp2
    go_loopw [5, 6] (fun s5 s6 wr => s5 = .slice none 0 0 ∧ s6 = .int .i64 0 ∧ wr = w5) (fun _ _ _ => 0)
    case atStart => exact ⟨rfl, rfl, rfl⟩
    case round =>
      obtain ⟨rfl, rfl, rfl⟩ := hrel
      go_wp2_with (go_at_call 25; refine (KR.out _ HA.out).mono ?_; rintro e w6 ⟨rfl, hb6⟩)
      go_ret
      exact ⟨_, rfl, ⟨none, 0, rfl, .inl rfl⟩, HA.out.trans (hb6.mono HA.out.size)⟩
  | true =>
    have KO := Lib.hid (KO.out hr)
    rw [hr] at KR
    have HO : Hid (opL b s = tab (opF b s) s.length) := Lib.hid (by unfold opL; rw [hr]; rfl)
    have HF : Hid (∀ i, -400000 ≤ leF b s i ∧ leF b s i ≤ 400000) := Lib.hid (leF_in HP.out hr)
    rw [HO.out]
    obtain ⟨n, hn⟩ : ∃ n, n = s.length := ⟨_, rfl⟩
    rw [← hn] at KO KR hl ⊢
    clear hr hn HO HP
    go_enter Try.func12, Try.ntmps12
    go_upto_region 3 with fail
    generalize w.alloc (.cells #[.string b.name, .int .i64 b.seats, .int .i64 b.over, .slice b.A b.l.length b.c] cbT) = w5 at *
    clear hbA
    have Q0 := Lib.hid (fun W (h : SW w5 W) => bel_get q0 _ h)
    have Q1 := Lib.hid (fun W (h : SW w5 W) => bel_get q1 _ h)
    have Q2 := Lib.hid (fun W (h : SW w5 W) => bel_get q2 _ h)
    have Q3 := Lib.hid (fun W (h : SW w5 W) => bel_get q3 _ h)
    clear q0 q1 q2 q3
    have HI : Hid (ROwn 3 1 encI w5.heap.size w5 (.slice none 0 0) (tab (opF b s) 0) ∧ SW w5 w5) := Lib.hid ⟨ROwn.nil (Nat.le_refl _), Below.refl _ _⟩
    go_wp2
    go_loopg [5, 6] n (fun kx v5 v6 wr => ∃ (v : Value) (k : Nat), v = v5 ∧ v6 = .int .i64 k ∧ k + kx = n ∧ Hid (ROwn 3 1 encI w5.heap.size wr v (tab (opF b s) k) ∧ SW w5 wr))
    case atStart => exact ⟨_, 0, rfl, rfl, by omega, HI⟩
    case round =>
      obtain ⟨v, k, rfl, rfl, hkx, HH⟩ := hrel
      clear HI
      have HKX := Lib.hid hkx
      have z0 := Q0.out _ HH.out.2
      have z1 := Q1.out _ HH.out.2
      have z2 := Q2.out _ HH.out.2
      have z3 := Q3.out _ HH.out.2
      have hS0 : SW w wr := HA.out.trans (Below.mono HH.out.2 HA.out.size)
      by_cases hlt : k < n
      · have i2 : (k : Int) < (n : Int) := by omega
        have HLm : Hid ((tab (opF b s) k).length ≤ 100000000) := Lib.hid (by rw [tab_len]; omega)
        have HNX : Hid (k + 1 + (n - (k + 1)) = n) := Lib.hid (by omega)
        have KO1 := Lib.hid (KO.out k hlt)
        have HFk := HF.out k
        have w2 : wrap64 (- -leF b s k) = leF b s k := by unfold wrap64; omega
        clear hkx
        go_upto_region 7 with (first
          | (go_at_call 25; with_reducible refine (KR.out _ hS0).mono ?_; rintro e w6 ⟨rfl, hb6⟩; have z0 := bel_cell hb6 z0; have z1 := bel_cell hb6 z1; have z2 := bel_cell hb6 z2; have z3 := bel_cell hb6 z3; have hS6 := Below.trans hS0 (Below.mono hb6 hS0.size); have hT6 := Below.trans HH.out.2 (Below.mono hb6 HH.out.2.size))
          | (go_at_call 26; with_reducible refine (KO1.out _ hS6).mono ?_; rintro e w7 ⟨rfl, hb7⟩))
        have HH7 : Hid (ROwn 3 1 encI w5.heap.size w7 v (tab (opF b s) k) ∧ SW w5 w7) := Lib.hid ⟨(HH.out.1.more hb6).more hb7, hT6.trans (hb7.mono hT6.size)⟩
        clear z0 z1 z2 z3 hS0 hS6 hT6 hb6 hb7 HH
        have HS7 : Hid (SW w w7) := Lib.hid (HA.out.trans (Below.mono HH7.out.2 HA.out.size))
        clear w2 HFk KO1
        obtain ⟨n0, hn0⟩ : ∃ n0 : Nat, n0 = k := ⟨_, rfl⟩
        go_wp2
        go_loopw [7, 8] (fun s7 s8 wx => ∃ j : Nat, j ≤ k ∧ s8 = .int .i64 j ∧ s7 = .int .i64 (lsR (leF b s) k j) ∧ Hid (SW w7 wx)) (fun _ s8 _ => k - (intOf s8).toNat)
        case atStart => exact ⟨0, Nat.zero_le _, rfl, rfl, Lib.hid (Below.refl _ _)⟩
        case round =>
          obtain ⟨j, hj, rfl, rfl, HX⟩ := hrel
          by_cases hjk : j < k
          · have i3 : (j : Int) < (k : Int) := by omega
            have hTx : SW w5 wr := Below.trans HH7.out.2 (Below.mono HX.out HH7.out.2.size)
            have z0 := Q0.out _ hTx
            have z1 := Q1.out _ hTx
            have z2 := Q2.out _ hTx
            have z3 := Q3.out _ hTx
            have hSx : SW w wr := HS7.out.trans (Below.mono HX.out HS7.out.size)
            have KOj := Lib.hid (KO.out j (by omega))
            have HFj := HF.out j
            have w2 : wrap64 (- -leF b s j) = leF b s j := by unfold wrap64; omega
            have HM : Hid (lsR (leF b s) k (j + 1) = if leF b s j < lsR (leF b s) k j then leF b s j else lsR (leF b s) k j) := Lib.hid (by simp only [lsR]; split <;> omega)
            generalize leF b s j = fj at *
            generalize lsR (leF b s) k j = mj at *
            go_wp2_with (go_at_call 26; refine (KOj.out _ hSx).mono ?_; rintro e w8 ⟨rfl, hb8⟩)
            go_roundw
            case rel => exact ⟨j + 1, by omega, by go_num, by rw [HM.out], Lib.hid (HX.out.trans (hb8.mono HX.out.size))⟩
            case measure => simp [intOf]; omega
          · obtain rfl : j = k := by omega
            have HH8 : Hid (ROwn 3 1 encI w5.heap.size wr v (tab (opF b s) j) ∧ SW w5 wr) := Lib.hid ⟨HH7.out.1.more HX.out, Below.trans HH7.out.2 (Below.mono HX.out HH7.out.2.size)⟩
            have HV : Hid (opF b s j = if lsR (leF b s) j j < 0 then 0 else lsR (leF b s) j j) := Lib.hid (by
              have := HF.out j
              unfold opF
              rw [lsR_self _ _ (by omega)]
              split <;> omega)
            have HXX : Hid (tab (opF b s) (j + 1) = tab (opF b s) j ++ [if lsR (leF b s) j j < 0 then 0 else lsR (leF b s) j j]) := Lib.hid (by rw [tab_snoc, HV.out])
            clear HH7 HX
            generalize lsR (leF b s) j j = mj at *
            have hO := HH8.out.1
            go_wp2_with (at_builtin; refine wpList_rapp rowI rfl _ _ rfl hO rfl (bel_alloc _ _) _ (if mj < 0 then 0 else mj) _ rfl (cs := #[.int .i64 (if mj < 0 then 0 else mj)]) rfl (heap_alloc_new _ _) HLm.out ?_; intro v1 w1 hO1 hC1)
            all_goals
              have HY : Hid (ROwn 3 1 encI w5.heap.size w1 v1 (tab (opF b s) (j + 1)) ∧ SW w5 w1) := Lib.hid (by rw [HXX.out]; exact ⟨hO1, Below.trans HH8.out.2 (hC1.below (B := w5.heap.size) hO)⟩)
              clear hO hO1 hC1
              go_roundg (n - (j + 1))
              case measure => have := HKX.out; omega
              case rel => exact ⟨_, j + 1, rfl, by go_num, HNX.out, HY⟩
      · have HE : Hid (k = n) := Lib.hid (by omega)
        have HR : Hid (∀ W, Below wr.heap.size wr W → IntR W v (tab (opF b s) n) ∧ Below w.heap.size w W) := Lib.hid (fun W hW => by
          have h := HH.out
          rw [HE.out] at h
          exact ⟨(h.1.rowL rowI.len).more hW, hS0.trans (hW.mono hS0.size)⟩)
        have i2 : ¬ (k : Int) < (n : Int) := by omega
        clear HH
        go_wp2_with (go_at_call 25; refine (KR.out _ hS0).mono ?_; rintro e w6 ⟨rfl, hb6⟩)
        go_ret
        exact ⟨_, rfl, HR.out _ hb6⟩
end Go.Proofs.Ytnakdacnfbgpnaa
