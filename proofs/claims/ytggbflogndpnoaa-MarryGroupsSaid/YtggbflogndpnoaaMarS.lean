/- The specification's Check. -/
import Derived.Test.YtggbflogndpnoaaMarR
namespace Go.Proofs.Ytggbflogndpnoaa
open Go.RowKit Go.Shelf Go.Maps
set_option linter.unusedSimpArgs false
set_option linter.unusedVariables false

theorem sep_none {l : List Int} {i : Nat} (h : ∀ j, i + 2 ≤ j → j < l.length → sepB l i j = false) : (List.range (l.length - (i + 2))).any (fun d => sepB l i (i + 2 + d)) = false := by
  rw [← Bool.not_eq_true, sep_any]
  rintro ⟨k, h1, h2, h3⟩
  rw [h k h1 h2] at h3; cases h3
theorem bad_no {l : List Int} (h : ∀ j, j < l.length → badI l j = false) : badP l = false := by
  rw [← Bool.not_eq_true, bad_iff]
  rintro ⟨k, h1, h2⟩
  rw [h k h1] at h2; cases h2
set_option maxRecDepth 100000 in
set_option maxHeartbeats 8000000 in
theorem rcheck_any (A : Option Addr) (c : Nat) (l : List Int) (w : World) (hl : l.length ≤ 1000) (hL : IntR w (.slice A l.length c) l) :
    Calls Try.prog 11 #[.slice A l.length c] w fun e w' => e = .returned (.int .i64 (chkP l)) ∧ Below w.heap.size w w' := by
  have HC : Hid (∀ k, k < l.length → ∃ b o, A = some ⟨b, o, none⟩ ∧ w.cell? ⟨b, o + k, none⟩ = some (.int .i64 (atP l k))) := Lib.hid (fun k hk => int_at hL (atP_get hk))
  have KN := Lib.hid (fun (i : Nat) (hi : i < l.length) (W : World) (h : Below w.heap.size w W) => rneighbour_any A c l i W hl hi (hL.more h))
  obtain ⟨n, hn⟩ : ∃ n, n = l.length := ⟨_, rfl⟩
  have HN := Lib.hid hn
  rw [← hn] at hl KN HC
  rw [← hn]
  clear hL hn
  go_enter Try.func11, Try.ntmps11
  go_wp2
  go_loopw [3] (fun vi wr => ∃ k : Nat, k ≤ n ∧ vi = .int .i64 (k : Int) ∧ Hid (∀ j, j < k → 0 ≤ atP l j) ∧ w = wr) (fun vi _ => n - (intOf vi).toNat)
  case atStart => exact ⟨0, Nat.zero_le _, rfl, Lib.hid (fun j h => by omega), rfl⟩
  case round =>
    obtain ⟨k, hk, rfl, HK, rfl⟩ := hrel
    by_cases hlt : k < n
    · obtain ⟨b, o, rfl, c0⟩ := HC.out k hlt
      obtain ⟨x, hx⟩ : ∃ x, x = atP l k := ⟨_, rfl⟩
      rw [← hx] at c0
      have i1 : (k : Int) < (n : Int) := by omega
      have i2 : (0 : Int) ≤ (k : Int) := by omega
      by_cases hneg : x < 0
      · have HR : Hid (chkP l = 2) := Lib.hid (by unfold chkP; rw [if_pos (neg_yes (k := k) (by have := HN.out; omega) (by rw [← hx]; exact hneg))])
        have d0 : decide (x < 0) = true := decide_eq_true hneg
        clear hx hneg
        go_wp2
        go_ret
        exact ⟨by rw [HR.out]; rfl, Below.refl _ _⟩
      · have HK2 : Hid (∀ j, j < k + 1 → 0 ≤ atP l j) := Lib.hid (fun j h => by
          by_cases e : j = k
          · rw [e, ← hx]; omega
          · exact HK.out j (by omega))
        have d0 : decide (x < 0) = false := decide_eq_false hneg
        clear hx hneg
        go_wp2
        go_roundw
        case rel => exact ⟨k + 1, by omega, by go_num, HK2, trivial⟩
        case measure => simp [intOf]; omega
    · have HNG : Hid (negB l = false) := Lib.hid (neg_none (fun j h => HK.out j (by have := HN.out; omega)))
      have i1 : ¬ (k : Int) < (n : Int) := by omega
      clear HK hk hlt
      go_wp2
      go_loopw [4] (fun vi wr => ∃ i : Nat, i ≤ n ∧ vi = .int .i64 (i : Int) ∧ Hid (∀ j, j < i → badI l j = false) ∧ Hid (Below w.heap.size w wr)) (fun vi _ => n - (intOf vi).toNat)
      case atStart => exact ⟨0, Nat.zero_le _, rfl, Lib.hid (fun j h => by omega), Lib.hid (Below.refl _ _)⟩
      case round =>
        clear i1
        obtain ⟨i, hi, rfl, HI, HS⟩ := hrel
        by_cases hlt : i < n
        · have hi2 := hlt
          obtain ⟨b, o, rfl, c0⟩ := HC.out i hlt
          have HD : Hid (∀ k, k < n → w.cell? ⟨b, o + k, none⟩ = some (.int .i64 (atP l k))) := Lib.hid (fun k hk => by
            obtain ⟨b', o', e, hc⟩ := HC.out k hk
            cases e
            exact hc)
          obtain ⟨x, hx⟩ : ∃ x, x = atP l i := ⟨_, rfl⟩
          rw [← hx] at c0
          have HX := Lib.hid hx
          have c0 := bel_cell HS.out c0
          have i1 : (i : Int) < (n : Int) := by omega
          have i2 : (0 : Int) ≤ (i : Int) := by omega
          have w6 : IntKind.i64.wrap ((i : Int) + 2) = (i : Int) + 2 := IntWalk.i64_in _ (by omega)
          clear hx HC
          by_cases hp : 0 < x
          · have d0 : decide (0 < x) = true := decide_eq_true hp
            have K := Lib.hid (KN.out i hlt _ HS.out)
            obtain ⟨q, hq⟩ : ∃ q, q = nbB l i := ⟨_, rfl⟩
            rw [← hq] at K
            have HQB := Lib.hid hq
            clear hq hp KN
            cases q with
            | false =>
              have HR : Hid (chkP l = 18) := Lib.hid (by
                have h1 : badP l = true := (bad_iff l).2 ⟨i, by have := HN.out; omega, by unfold badI; rw [← HX.out, d0, ← HQB.out]; rfl⟩
                unfold chkP
                rw [HNG.out, h1]; rfl)
              go_wp2_with (go_at_call 23; refine K.out.mono ?_; rintro e w7 ⟨rfl, hb7⟩)
              go_ret
              exact ⟨by rw [HR.out]; rfl, HS.out.trans (hb7.mono HS.out.size)⟩
            | true =>
              have HB0 : Hid ((decide (0 < atP l i) && !nbB l i) = false) := Lib.hid (by rw [← HQB.out]; simp)
              go_wp2_with (go_at_call 23; refine K.out.mono ?_; rintro e w7 ⟨rfl, hb7⟩)
              have HS1 := Lib.hid (HS.out.trans (hb7.mono HS.out.size))
              clear HS hb7 c0
              go_loopw [5] (fun vi wr => ∃ k : Nat, i + 2 ≤ k ∧ k ≤ n + 2 ∧ vi = .int .i64 (k : Int) ∧ Hid (∀ j, i + 2 ≤ j → j < k → sepB l i j = false) ∧ Hid (Below w.heap.size w wr)) (fun vi _ => n + 2 - (intOf vi).toNat)
              case atStart => exact ⟨i + 2, Nat.le_refl _, by omega, by go_num, Lib.hid (fun j h1 h2 => by omega), HS1⟩
              case round =>
                clear HS1
                obtain ⟨k, hk2, hkn, rfl, HQ, HS⟩ := hrel
                by_cases hlt : k < n
                · have c0 := bel_cell HS.out (HD.out i hi2)
                  have c1 := bel_cell HS.out (HD.out k hlt)
                  obtain ⟨m, hm⟩ : ∃ m, k = m + 1 := ⟨k - 1, by omega⟩
                  have c2 := bel_cell HS.out (HD.out m (by omega))
                  rw [← HX.out] at c0
                  obtain ⟨y, hy⟩ : ∃ y, y = atP l k := ⟨_, rfl⟩
                  obtain ⟨z, hz⟩ : ∃ z, z = atP l m := ⟨_, rfl⟩
                  rw [← hy] at c1
                  rw [← hz] at c2
                  have HSP : Hid (sepB l i k = (decide (0 < x) && decide (y = x) && decide (z ≠ x))) := Lib.hid (by unfold sepB; rw [← HX.out, hy, hz, show k - 1 = m by omega])
                  have j1 : (i : Int) < (n : Int) := by omega
                  have j2 : (0 : Int) ≤ (i : Int) := by omega
                  have j3 : (k : Int) < (n : Int) := by omega
                  have j4 : (0 : Int) ≤ (k : Int) := by omega
                  have j5 : (m : Int) < (n : Int) := by omega
                  have j6 : (0 : Int) ≤ (m : Int) := by omega
                  have w1 : IntKind.i64.wrap ((k : Int) - 1) = (m : Int) := by rw [IntWalk.i64_in _ (by omega)]; omega
                  have w2 : (k : Int) - 1 = (m : Int) := by omega
                  have w4 : IntKind.i64.wrap (m : Int) = (m : Int) := IntWalk.i64_in _ (by omega)
                  have w5 : IntKind.i64.wrap ((k : Int) + 1) = (k : Int) + 1 := IntWalk.i64_in _ (by omega)
                  have HNX : Hid (sepB l i k = false → ∀ j, i + 2 ≤ j → j < k + 1 → sepB l i j = false) := Lib.hid (fun h j h1 h2 => by
                    by_cases e : j = k
                    · rw [e]; exact h
                    · exact HQ.out j h1 (by omega))
                  have HBD : Hid (sepB l i k = true → chkP l = 18) := Lib.hid (fun h => by
                    have h1 : badP l = true := (bad_iff l).2 ⟨i, by have := HN.out; omega, by unfold badI; rw [Bool.or_eq_true]; exact .inr ((sep_any l i).2 ⟨k, hk2, by have := HN.out; omega, h⟩)⟩
                    unfold chkP
                    rw [HNG.out, h1]; rfl)
                  clear hm hy hz HQ
                  by_cases hyx : y = x
                  · have e1 : (y == x) = true := by rw [beq_iff_eq]; exact hyx
                    by_cases hzx : z = x
                    · have e2 : (z != x) = false := by rw [hzx]; simp
                      have HN2 := Lib.hid (HNX.out (by rw [HSP.out]; rw [hzx]; simp))
                      clear hyx hzx
                      go_wp2
                      go_quiet (fail)
                      go_wp2
                      go_roundw
                      case rel => exact ⟨k + 1, by omega, by omega, by go_num, HN2, Lib.hid (below_drewN HS.out _)⟩
                      case measure => simp [intOf]; omega
                    · have e2 : (z != x) = true := by simpa using hzx
                      have HR := Lib.hid (HBD.out (by rw [HSP.out, d0, decide_eq_true hyx, decide_eq_true hzx]; rfl))
                      clear hyx hzx
                      go_wp2
                      go_quiet (fail)
                      go_wp2
                      go_ret
                      exact ⟨by rw [HR.out]; rfl, below_drewN HS.out _⟩
                  · have e1 : (y == x) = false := beq_eq_false_iff_ne.2 hyx
                    have HN2 := Lib.hid (HNX.out (by rw [HSP.out]; rw [decide_eq_false hyx]; simp))
                    clear hyx
                    go_wp2
                    go_quiet (fail)
                    go_wp2
                    go_roundw
                    case rel => exact ⟨k + 1, by omega, by omega, by go_num, HN2, Lib.hid (below_drewN HS.out _)⟩
                    case measure => simp [intOf]; omega
                · have HQ2 : Hid (∀ j, i + 2 ≤ j → j < l.length → sepB l i j = false) := Lib.hid (fun j h1 h2 => HQ.out j h1 (by have := HN.out; omega))
                  have HI2 : Hid (∀ j, j < i + 1 → badI l j = false) := Lib.hid (fun j h => by
                    by_cases e : j = i
                    · rw [e]; unfold badI; rw [sep_none HQ2.out, HB0.out]; rfl
                    · exact HI.out j (by omega))
                  have j3 : ¬ (k : Int) < (n : Int) := by omega
                  clear hlt hk2 hkn
                  go_wp2
                  go_roundw
                  case rel => exact ⟨i + 1, by omega, by go_num, HI2, HS⟩
                  case measure => simp [intOf]; omega

          · have d0 : decide (0 < x) = false := decide_eq_false hp
            have HB0 : Hid ((decide (0 < atP l i) && !nbB l i) = false) := Lib.hid (by rw [← HX.out, d0]; rfl)
            clear hp KN
            go_wp2
            have HS1 := HS
            clear HS c0
            go_loopw [5] (fun vi wr => ∃ k : Nat, i + 2 ≤ k ∧ k ≤ n + 2 ∧ vi = .int .i64 (k : Int) ∧ Hid (∀ j, i + 2 ≤ j → j < k → sepB l i j = false) ∧ Hid (Below w.heap.size w wr)) (fun vi _ => n + 2 - (intOf vi).toNat)
            case atStart => exact ⟨i + 2, Nat.le_refl _, by omega, by go_num, Lib.hid (fun j h1 h2 => by omega), HS1⟩
            case round =>
              clear HS1
              obtain ⟨k, hk2, hkn, rfl, HQ, HS⟩ := hrel
              by_cases hlt : k < n
              · have c0 := bel_cell HS.out (HD.out i hi2)
                have c1 := bel_cell HS.out (HD.out k hlt)
                obtain ⟨m, hm⟩ : ∃ m, k = m + 1 := ⟨k - 1, by omega⟩
                have c2 := bel_cell HS.out (HD.out m (by omega))
                rw [← HX.out] at c0
                obtain ⟨y, hy⟩ : ∃ y, y = atP l k := ⟨_, rfl⟩
                obtain ⟨z, hz⟩ : ∃ z, z = atP l m := ⟨_, rfl⟩
                rw [← hy] at c1
                rw [← hz] at c2
                have HSP : Hid (sepB l i k = (decide (0 < x) && decide (y = x) && decide (z ≠ x))) := Lib.hid (by unfold sepB; rw [← HX.out, hy, hz, show k - 1 = m by omega])
                have j1 : (i : Int) < (n : Int) := by omega
                have j2 : (0 : Int) ≤ (i : Int) := by omega
                have j3 : (k : Int) < (n : Int) := by omega
                have j4 : (0 : Int) ≤ (k : Int) := by omega
                have j5 : (m : Int) < (n : Int) := by omega
                have j6 : (0 : Int) ≤ (m : Int) := by omega
                have w1 : IntKind.i64.wrap ((k : Int) - 1) = (m : Int) := by rw [IntWalk.i64_in _ (by omega)]; omega
                have w2 : (k : Int) - 1 = (m : Int) := by omega
                have w4 : IntKind.i64.wrap (m : Int) = (m : Int) := IntWalk.i64_in _ (by omega)
                have w5 : IntKind.i64.wrap ((k : Int) + 1) = (k : Int) + 1 := IntWalk.i64_in _ (by omega)
                have HNX : Hid (sepB l i k = false → ∀ j, i + 2 ≤ j → j < k + 1 → sepB l i j = false) := Lib.hid (fun h j h1 h2 => by
                  by_cases e : j = k
                  · rw [e]; exact h
                  · exact HQ.out j h1 (by omega))
                have HBD : Hid (sepB l i k = true → chkP l = 18) := Lib.hid (fun h => by
                  have h1 : badP l = true := (bad_iff l).2 ⟨i, by have := HN.out; omega, by unfold badI; rw [Bool.or_eq_true]; exact .inr ((sep_any l i).2 ⟨k, hk2, by have := HN.out; omega, h⟩)⟩
                  unfold chkP
                  rw [HNG.out, h1]; rfl)
                clear hm hy hz HQ
                have HN2 := Lib.hid (HNX.out (by rw [HSP.out]; rw [d0]; rfl))
                go_wp2
                go_quiet (fail)
                go_wp2
                go_roundw
                case rel => exact ⟨k + 1, by omega, by omega, by go_num, HN2, Lib.hid (below_drewN HS.out _)⟩
                case measure => simp [intOf]; omega
              · have HQ2 : Hid (∀ j, i + 2 ≤ j → j < l.length → sepB l i j = false) := Lib.hid (fun j h1 h2 => HQ.out j h1 (by have := HN.out; omega))
                have HI2 : Hid (∀ j, j < i + 1 → badI l j = false) := Lib.hid (fun j h => by
                  by_cases e : j = i
                  · rw [e]; unfold badI; rw [sep_none HQ2.out, HB0.out]; rfl
                  · exact HI.out j (by omega))
                have j3 : ¬ (k : Int) < (n : Int) := by omega
                clear hlt hk2 hkn
                go_wp2
                go_roundw
                case rel => exact ⟨i + 1, by omega, by go_num, HI2, HS⟩
                case measure => simp [intOf]; omega

        · have HR : Hid (chkP l = 0) := Lib.hid (chk_zero.2 ⟨HNG.out, bad_no (fun j h => HI.out j (by have := HN.out; omega))⟩)
          have i1 : ¬ (i : Int) < (n : Int) := by omega
          clear hlt
          go_wp2
          go_ret
          exact ⟨by rw [HR.out]; rfl, HS.out⟩
end Go.Proofs.Ytggbflogndpnoaa
