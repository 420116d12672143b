/- The law MoneyShares, walked. -/
import Derived.Test.YtalnocdgmcchaaaDoorSharesP
namespace Go.Proofs.YtalnocdgmcchaaaDoor
open Go.RowKit Go.Sort
set_option linter.unusedSimpArgs false
set_option linter.unusedVariables false

structure Shares (a : Int) (ws : List Int) (f : Nat → Int) : Prop where
  len : 0 < ws.length
  a1 : -1099511627776 ≤ a
  a2 : a ≤ 1099511627776
  sum : isum f ws.length = a
  pre : ∀ k, k ≤ ws.length → -1099511627776 ≤ isum f k ∧ isum f k ≤ 1099511627776
  bnd : ∀ i, i < ws.length → -1099511627776 ≤ f i ∧ f i ≤ 1099511627776
  neg : ∀ i, a < 0 → f i ≤ 0
  nonneg : ∀ i, 0 ≤ a → 0 ≤ f i
  none : ∀ i, i < ws.length → ws.getD i 0 = 0 → f i = 0
  more : ∀ i k, i < ws.length → k < ws.length → 0 < a → ws.getD k 0 < ws.getD i 0 → f k ≤ f i
theorem shares_of {a : Int} {ws : List Int} {ord : List Nat} (G : Good ws) (ha : amtB a = true) (O : Ordered (remL a ws) ord) : Shares a ws (shareF a ws ord) := by
  obtain ⟨a1, a2⟩ := amt_yes ha
  obtain ⟨h1, h2⟩ := share_sum G a O
  refine ⟨G.len, a1, a2, h1, fun k hk => by have := h2 k hk; omega, fun i hi => ?_, fun i => (share_sign a i).1, fun i => (share_sign a i).2, fun i hi h0 => share_none G a O i hi h0, fun i k hi hk hp hw => share_more G a hp O i k hi hk hw⟩
  have h3 := up_le G a O i hi
  have h4 := up_nonneg a ws ord (lN a ws) i
  unfold shareF sg
  split <;> omega
theorem split_pair (a : Int) (ws : List Int) (hn : ws.length ≤ 100) :
    (∃ code, code ≠ 0 ∧ ∀ v w, IntL w v ws → Calls Tryd.prog 20 #[.int .i64 a, v] w (SplitErr code w)) ∨
    ∃ f, Shares a ws f ∧ (∀ v w, IntL w v ws → Calls Tryd.prog 20 #[.int .i64 a, v] w (SplitAll a ws (tab f ws.length) 0 w)) ∧
      (∀ v w, IntL w v ws → Calls Tryd.prog 20 #[.int .i64 (-a), v] w (SplitAll (-a) ws (tab (fun i => -f i) ws.length) 0 w)) := by
  obtain ⟨t, code, hW⟩ : ∃ t code, weighR ws = (t, code) := ⟨_, _, rfl⟩
  by_cases hc : code = 0
  case neg => exact .inl ⟨code, hc, fun v w hv => split_err v a ws w code hv hn ⟨t, hW⟩ hc⟩
  subst hc
  cases ha : amtB a
  · exact .inl ⟨11, by decide, fun v w hv => split_over v a ws w t hv hn hW ha⟩
  · right
    obtain ⟨G, _⟩ := good_of hW
    obtain ⟨ord, ho⟩ := ordered_ex (remL a ws) (by simp [remL, tab_len]; exact G.len)
    have han : amtB (-a) = true := by
      obtain ⟨a1, a2⟩ := amt_yes ha
      exact amt_mk (by omega) (by omega)
    refine ⟨shareF a ws ord, shares_of G ha ho, fun v w hv => (split_ok v a ws w t hv hn hW ha).mono ?_, fun v w hv => (split_ok v (-a) ws w t hv hn hW han).mono ?_⟩
    · rintro e w' ⟨u, o2, he, h2, hl, hb⟩
      rw [ordered_one h2 ho] at hl
      exact ⟨u, he, hl, hb⟩
    · rintro e w' ⟨u, o2, he, h2, hl, hb⟩
      rw [remL_neg] at h2
      rw [ordered_one h2 ho, tab_congr (fun i hi => share_opposite G a ho i hi)] at hl
      exact ⟨u, he, hl, hb⟩
theorem tab_cells {w : World} {v : Value} {f : Nat → Int} {n : Nat} (h : IntL w v (tab f n)) (hp : 0 < n) :
    ∃ b o c, v = .slice (some ⟨b, o, none⟩) n c ∧ b < w.heap.size ∧ ∀ i, i < n → w.cell? ⟨b, o + i, none⟩ = some (.int .i64 (f i)) := by
  obtain ⟨A, c, rfl, h⟩ := h
  rw [tab_len]
  rcases h with h | ⟨b, o, rfl, hb, hc⟩
  · have := congrArg List.length h
    rw [tab_len] at this
    simp at this; omega
  · refine ⟨b, o, c, rfl, hb, fun i hi => ?_⟩
    have h1 := hc i (by rw [tab_len]; exact hi)
    rwa [tab_get] at h1
theorem list_cells {w : World} {A : Option Addr} {n c : Nat} {l : List Int} (h : IntL w (.slice A n c) l) (hp : 0 < l.length) :
    ∃ b o, A = some ⟨b, o, none⟩ ∧ b < w.heap.size ∧ ∀ i, i < l.length → w.cell? ⟨b, o + i, none⟩ = some (.int .i64 (l.getD i 0)) := by
  obtain ⟨A', c', he, h⟩ := h
  cases he
  rcases h with h | ⟨b, o, rfl, hb, hc⟩
  · rw [h] at hp; simp at hp
  · refine ⟨b, o, rfl, hb, fun i hi => ?_⟩
    rw [List.getD_eq_getElem?_getD, List.getElem?_eq_getElem hi]
    exact hc i hi

set_option maxRecDepth 100000 in
set_option maxHeartbeats 8000000 in
theorem moneyShares_walk (a : Int) (A : Option Addr) (c : Nat) (l : List Int) (w : World) (hv : IntL w (.slice A l.length c) l) (hbig : l.length ≤ 140737488355328) (hE : Env w) :
    Calls Tryd.prog 7 #[.int .i64 a, .slice A l.length c] w fun e w' => e = .returned (.bool true) ∧ Below w.heap.size w w' := by
  have HE := Lib.hid hE
  by_cases hlen : l.length ≤ 100
  case neg =>
    have hz : (l.length : Int) > 100 := by omega
    clear hE hlen
    go_enter Tryd.func7, Tryd.ntmps7
    go_wp2_with fail
    refine (knows_any _ HE.out).mono ?_
    rintro e w' ⟨rfl, hb⟩
    have HB := Lib.hid hb
    clear hb
    go_wp2
    go_ret
    exact ⟨rfl, HB.out⟩
  have hz : ¬ (l.length : Int) > 100 := by omega
  rcases split_pair a l hlen with ⟨code, hc, C⟩ | ⟨f, S, C1, C2⟩
  · have D := Lib.hid (C _ w hv)
    have hcb : ((code : Int) != 0) = true := by simp [hc]
    clear C hE hlen hv hc
    go_enter Tryd.func7, Tryd.ntmps7
    go_wp2_with fail
    refine D.out.mono ?_
    rintro e w1 ⟨rfl, hb1⟩
    have HB1 := Lib.hid hb1
    clear hb1 D
    go_wp2_with fail
    refine (knows_any _ (HE.out.more HB1.out)).mono ?_
    rintro e w' ⟨rfl, hb⟩
    have HB := Lib.hid (HB1.out.trans (hb.mono HB1.out.size))
    clear hb
    go_wp2
    go_ret
    exact ⟨rfl, HB.out⟩
  have HS := Lib.hid S
  have D1 := Lib.hid (C1 _ w hv)
  have D2 := Lib.hid (fun w' (hb : Below w.heap.size w w') => C2 _ w' (hv.more hb))
  have HV := Lib.hid hv
  have hp := S.len
  have sa1 := S.a1
  have sa2 := S.a2
  obtain ⟨bw, ow, rfl, hbw, hcw⟩ := list_cells hv S.len
  have HCW := Lib.hid hcw
  clear hE hv C1 C2 S hcw
  go_enter Tryd.func7, Tryd.ntmps7
  go_wp2_with fail
  refine D1.out.mono ?_
  rintro e w1 ⟨v1, rfl, hl1, hb1⟩
  obtain ⟨b5, o5, c5, rfl, hb5, hc5⟩ := tab_cells hl1 hp
  have HC5 := Lib.hid hc5
  have HB1 := Lib.hid hb1
  have HCW1 : Hid (∀ i, i < l.length → w1.cell? ⟨bw, ow + i, none⟩ = some (.int .i64 (l.getD i 0))) := Lib.hid fun i hi => (HB1.out.cell (p := ⟨bw, ow + i, none⟩) hbw).trans (HCW.out i hi)
  clear hl1 hb1 hc5 D1 HCW
  go_wp2_with fail
  go_loopg [4, 7, 8, 9] l.length (fun gh v4 vs vi vk wr => ∃ k m : Nat, k ≤ l.length ∧ l.length - k ≤ gh ∧ vi = .int .i64 k ∧ vs = .int .i64 (isum f k) ∧ wr = w1.drewN m)
  case atStart => exact ⟨0, 0, Nat.zero_le _, by omega, rfl, rfl, rfl⟩
  case round =>
    obtain ⟨k, m, hk, hg, rfl, rfl, rfl⟩ := hrel
    by_cases hlt : k < l.length
    · have g1 := HC5.out k hlt
      have g2 := HCW1.out k hlt
      have i1 : (k : Int) < (l.length : Int) := by omega
      obtain ⟨s1, s2⟩ := HS.out.pre k (by omega)
      obtain ⟨s3, s4⟩ := HS.out.pre (k + 1) hlt
      obtain ⟨x1, x2⟩ := HS.out.bnd k hlt
      have n1 := HS.out.neg k
      have n2 := HS.out.nonneg k
      have n3 := HS.out.none k hlt
      have HM : Hid (∀ j, j < l.length → 0 < a → l.getD j 0 < l.getD k 0 → f j ≤ f k) := Lib.hid fun j hj h0 h1 => HS.out.more k j hlt hj h0 h1
      have HT : Hid (isum f k + f k = isum f (k + 1)) := Lib.hid rfl
      generalize f k = x at g1 x1 x2 n1 n2 n3 HM HT
      generalize l.getD k 0 = y at g2 n3 HM
      generalize isum f k = s at s1 s2 HT ⊢
      go_upto_region 11 with fail
      go_cut [76] from 31 to 105 (fun v wx => v = .bool false ∧ Hid (wx = w1.drewN m))
      case first =>
        rcases Int.lt_or_le a 0 with ca | ca
        · have cx := n1 ca
          by_cases c0 : x = 0
          · have b1 : (x != 0) = false := by simp [c0]
            have c3 : ¬ x < 0 := by omega
            have c4 : ¬ x > 0 := by omega
            clear c0 n1 n2 n3 cx
            go_wp2_with fail
            go_meet
            exact ⟨by first | rfl | exact congrArg Value.bool (by simp [b1]; omega), Lib.hid rfl⟩
          · have cy : ¬ y = 0 := fun h => c0 (n3 h)
            have cx2 : x < 0 := by omega
            go_wp2_with fail
            go_meet
            exact ⟨by first | rfl | exact congrArg Value.bool (by simp [cy]; omega), Lib.hid rfl⟩
        · have cx := n2 ca
          by_cases c0 : x = 0
          · have b1 : (x != 0) = false := by simp [c0]
            have c3 : ¬ x < 0 := by omega
            have c4 : ¬ x > 0 := by omega
            clear c0 n1 n2 n3 cx
            go_wp2_with fail
            go_meet
            exact ⟨by first | rfl | exact congrArg Value.bool (by simp [b1]; omega), Lib.hid rfl⟩
          · have cy : ¬ y = 0 := fun h => c0 (n3 h)
            have cx2 : x > 0 := by omega
            go_wp2_with fail
            go_meet
            exact ⟨by first | rfl | exact congrArg Value.bool (by simp [cy]; omega), Lib.hid rfl⟩
      case rest =>
        obtain ⟨rfl, HX⟩ := hcut
        have hx := HX.out
        subst hx
        clear HX
        go_wp2_with fail
        go_loopg [4, 9] k (fun gh v4 vj wr => ∃ j m2 : Nat, j ≤ k ∧ k - j ≤ gh ∧ vj = .int .i64 j ∧ wr = w1.drewN m2)
        case atStart => exact ⟨0, m, Nat.zero_le _, by omega, rfl, rfl⟩
        case round =>
          obtain ⟨j, m2, hj, hg2, rfl, rfl⟩ := hrel
          by_cases hlt2 : j < k
          · have g3 := HC5.out j (by omega)
            have g4 := HCW1.out j (by omega)
            have i2 : (j : Int) < (k : Int) := by omega
            have i3 : (j : Int) < (l.length : Int) := by omega
            have hm := HM.out j (by omega)
            generalize f j = x3 at g3 hm
            generalize l.getD j 0 = y3 at g4 hm
            by_cases ha : a > 0
            · by_cases hy : y > y3
              · have hx3 : ¬ x < x3 := by have := hm ha hy; omega
                clear hm n1 n2 n3
                go_wp2
                go_quiet (fail)
                go_wp2
                go_roundg (k - (j + 1))
                case measure => omega
                case rel => exact ⟨j + 1, _, by omega, Nat.le_refl _, by go_num, rfl⟩
              · clear hm n1 n2 n3
                have hd : decide (y3 < y) = false := by simp; omega
                go_wp2
                go_quiet (fail)
                go_wp2
                go_roundg (k - (j + 1))
                case measure => omega
                case rel => exact ⟨j + 1, _, by omega, Nat.le_refl _, by go_num, rfl⟩
            · clear hm n1 n2 n3
              have hd : decide (0 < a) = false := by simp; omega
              go_wp2
              go_quiet (fail)
              go_wp2
              go_roundg (k - (j + 1))
              case measure => omega
              case rel => exact ⟨j + 1, _, by omega, Nat.le_refl _, by go_num, rfl⟩
          · obtain rfl : j = k := by omega
            clear n1 n2 n3 HM
            go_wp2
            go_roundg (l.length - (j + 1))
            case measure => omega
            case rel => exact ⟨j + 1, m2, by omega, Nat.le_refl _, by go_num, congrArg (Value.int .i64) HT.out, rfl⟩
    · obtain rfl : k = l.length := by omega
      rw [HS.out.sum]
      have HBm := Lib.hid (below_drewN HB1.out m)
      have HBs := Lib.hid (below_drewN (Below.refl w1.heap.size w1) m)
      go_wp2_with fail
      refine (D2.out _ HBm.out).mono ?_
      rintro e w2 ⟨v2, rfl, hl2, hb2⟩
      obtain ⟨b6, o6, c6, rfl, hb6, hc6⟩ := tab_cells hl2 hp
      have HC6 := Lib.hid hc6
      have HB2 := Lib.hid (HBm.out.trans (hb2.mono HBm.out.size))
      have HBt := Lib.hid (HBs.out.trans (hb2.mono HBs.out.size))
      have HC7 : Hid (∀ i, i < l.length → w2.cell? ⟨b5, o5 + i, none⟩ = some (.int .i64 (f i))) := Lib.hid fun i hi => (HBt.out.cell (p := ⟨b5, o5 + i, none⟩) hb5).trans (HC5.out i hi)
      clear hl2 hb2 hc6 D2 HC5 HCW1 HBt
      go_wp2_with fail
      go_loopg [4, 12] l.length (fun gh v4 vi wr => ∃ i m3 : Nat, i ≤ l.length ∧ l.length - i ≤ gh ∧ vi = .int .i64 i ∧ wr = w2.drewN m3)
      case atStart => exact ⟨0, 0, Nat.zero_le _, by omega, rfl, rfl⟩
      case round =>
        obtain ⟨i, m3, hi, hg3, rfl, rfl⟩ := hrel
        by_cases hlt3 : i < l.length
        · have g1 := HC7.out i hlt3
          have g2 := HC6.out i hlt3
          have i1 : (i : Int) < (l.length : Int) := by omega
          obtain ⟨x1, x2⟩ := HS.out.bnd i hlt3
          generalize f i = x at g1 g2 x1 x2
          go_wp2
          go_quiet (fail)
          go_wp2
          go_roundg (l.length - (i + 1))
          case measure => omega
          case rel => exact ⟨i + 1, _, by omega, Nat.le_refl _, by go_num, rfl⟩
        · obtain rfl : i = l.length := by omega
          have HB3 := Lib.hid (below_drewN HB2.out m3)
          generalize w2.drewN m3 = w3 at HB3 ⊢
          go_wp2_with fail
          refine (knows_any _ (HE.out.more HB3.out)).mono ?_
          rintro e w' ⟨rfl, hb⟩
          have HB := Lib.hid (HB3.out.trans (hb.mono HB3.out.size))
          clear hb
          go_wp2
          go_ret
          exact ⟨rfl, HB.out⟩
end Go.Proofs.YtalnocdgmcchaaaDoor
