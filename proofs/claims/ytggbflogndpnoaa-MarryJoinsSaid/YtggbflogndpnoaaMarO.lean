/- MarryTells and MarryJoins: the walks. -/
import Derived.Test.YtggbflogndpnoaaMarKn
namespace Go.Proofs.Ytggbflogndpnoaa
open Go.RowKit Go.Shelf Go.Maps
set_option linter.unusedSimpArgs false
set_option linter.unusedVariables false

/-- equal lists of any lengths up to 1000 are found equal -/
theorem same_two {W : World} {u v : Value} {xs : List Int} (hu : IntR W u xs) (hv : IntR W v xs) (hl : xs.length ≤ 1000) : Calls Try.prog 12 #[u, v] W fun e w' => e = .returned (.bool true) ∧ Below W.heap.size W w' := sameI_any u v xs W hu hv (by omega)
theorem with_len (l : List Int) (j : Int) : (withP l j).length ≤ l.length := by
  unfold withP
  split
  · unfold wiP
    rw [List.length_map]
    have := List.length_filter_le (wiB l j.toNat) (List.range l.length)
    rwa [List.length_range] at this
  · simp
theorem part_len (l : List Int) (j : Int) : (partP l j).length ≤ l.length := by
  unfold partP
  split
  · unfold prtP; rw [tab_len]; exact Nat.le_refl _
  · simp
theorem nrm_len (l : List Int) : (nrmP l).length ≤ l.length := by
  unfold nrmP
  split
  · rw [tab_len]; exact Nat.le_refl _
  · simp
theorem join_len (l : List Int) (a b : Int) : (joinP l a b).length ≤ l.length := by
  unfold joinP
  split
  · rw [setP_len]; exact Nat.le_refl _
  · simp

set_option maxRecDepth 100000 in
set_option maxHeartbeats 8000000 in
theorem marryJoins_walk (A : Option Addr) (c : Nat) (l : List Int) (a b : Int) (w : World) (hL : IntR w (.slice A l.length c) l) (hi : I64L l) (hh : l.length < 9223372036854775808) (hc : l.length ≤ c) (hb : -9223372036854775808 ≤ b ∧ b ≤ 9223372036854775807) :
    Calls Try.prog 4 #[.slice A l.length c, .int .i64 a, .int .i64 b] w fun e w' => e = .returned (.bool true) ∧ Below w.heap.size w w' := by
  have KK := Lib.hid knows_any
  by_cases hg : 300 < l.length
  · have d0 : decide ((300 : Int) < (l.length : Int)) = true := decide_eq_true (by omega)
    have d0' : decide (300 < l.length) = true := decide_eq_true hg
    clear hL hi hh hc hb hg
    generalize l.length = n at *
    go_enter Try.func4, Try.ntmps4
    go_wp2_with (go_at_call 7; refine (KK.out _).mono ?_; rintro e w6 ⟨rfl, hb6⟩)
    go_ret
    exact ⟨rfl, hb6⟩
  · have d0 : decide ((300 : Int) < (l.length : Int)) = false := decide_eq_false (by omega)
    have d0' : decide (300 < l.length) = false := decide_eq_false hg
    have hl : l.length ≤ 1000 := by omega
    have K1 := Lib.hid (join_any A c l a b w hl hc hi hb hL)
    have K2 := Lib.hid (fun W (h : Below w.heap.size w W) => rjoin_any A c l a b W hl hi hb (hL.more h))
    have HJ : Hid ((joinP l a b).length ≤ 1000) := Lib.hid (Nat.le_trans (join_len l a b) hl)
    clear hL hi hh hc hb hg
    generalize l.length = n at *
    generalize joinE l a b = er at *
    go_enter Try.func4, Try.ntmps4
    go_upto_region 4 with (go_at_call 19; refine K1.out.mono ?_; rintro e w1 ⟨v1, rfl, hv1, hb1⟩)
    go_upto_region 5 with (go_at_call 20; refine (K2.out _ hb1).mono ?_; rintro e w2 ⟨v2, rfl, hv2, hb2⟩)
    have KS := Lib.hid (same_two (hv1.more hb2) hv2 HJ.out)
    have HB := Lib.hid (hb1.trans (hb2.mono hb1.size))
    clear hv1 hv2 hb1 hb2
    go_wp2_with (first
      | (go_at_call 12; refine KS.out.mono ?_; rintro e w3 ⟨rfl, hb3⟩)
      | (go_at_call 7; refine (KK.out _).mono ?_; rintro e w6 ⟨rfl, hb6⟩))
    go_ret
    exact ⟨rfl, (HB.out.trans (hb3.mono HB.out.size)).trans (hb6.mono (HB.out.trans (hb3.mono HB.out.size)).size)⟩

set_option maxRecDepth 100000 in
set_option maxHeartbeats 16000000 in
theorem marryTells_walk (A : Option Addr) (c : Nat) (l : List Int) (j : Int) (w : World) (hL : IntR w (.slice A l.length c) l) (hi : I64L l) (hh : l.length < 9223372036854775808) :
    Calls Try.prog 3 #[.slice A l.length c, .int .i64 j] w fun e w' => e = .returned (.bool true) ∧ Below w.heap.size w w' := by
  have KK := Lib.hid knows_any
  by_cases hg : 300 < l.length
  · have d0 : decide ((300 : Int) < (l.length : Int)) = true := decide_eq_true (by omega)
    have d0' : decide (300 < l.length) = true := decide_eq_true hg
    clear hL hi hh hg
    generalize l.length = n at *
    go_enter Try.func3, Try.ntmps3
    go_wp2_with (go_at_call 7; refine (KK.out _).mono ?_; rintro e w6 ⟨rfl, hb6⟩)
    go_ret
    exact ⟨rfl, hb6⟩
  · have d0 : decide ((300 : Int) < (l.length : Int)) = false := decide_eq_false (by omega)
    have d0' : decide (300 < l.length) = false := decide_eq_false hg
    have hl : l.length ≤ 1000 := by omega
    have K1 := Lib.hid (groups_any A c l w hl hi hL)
    have K2 := Lib.hid (fun W (h : Below w.heap.size w W) => rgroups_any A c l W hl (hL.more h))
    have K3 := Lib.hid (fun W (h : Below w.heap.size w W) => check_any A c l W hl hi (hL.more h))
    have K4 := Lib.hid (fun W (h : Below w.heap.size w W) => rcheck_any A c l W hl (hL.more h))
    have K5 := Lib.hid (fun W (h : Below w.heap.size w W) => with_any A c l j W hl hi (hL.more h))
    have K6 := Lib.hid (fun W (h : Below w.heap.size w W) => rwith_any A c l j W hl (hL.more h))
    have K7 := Lib.hid (fun W (h : Below w.heap.size w W) => part_any A c l j W hl hi (hL.more h))
    have K8 := Lib.hid (fun W (h : Below w.heap.size w W) => rpart_any A c l j W hl (hL.more h))
    have K9 := Lib.hid (fun W (h : Below w.heap.size w W) => normal_any A c l W hl hi (hL.more h))
    have K10 := Lib.hid (fun W (h : Below w.heap.size w W) => rnormal_any A c l W hl (hL.more h))
    have HGL : Hid (∀ x ∈ grpP l, x.length ≤ 1000) := Lib.hid (fun x hx => by
      unfold grpP at hx
      split at hx
      · exact Nat.le_trans (gP_each l _ x hx) hl
      · cases hx)
    have HGN : Hid ((grpP l).length ≤ 1000) := Lib.hid (by
      unfold grpP
      split
      · exact Nat.le_trans (gP_len l _) hl
      · simp)
    have HW : Hid ((withP l j).length ≤ 1000) := Lib.hid (Nat.le_trans (with_len l j) hl)
    have HP : Hid ((partP l j).length ≤ 1000) := Lib.hid (Nat.le_trans (part_len l j) hl)
    have HNN : Hid ((nrmP l).length ≤ 1000) := Lib.hid (Nat.le_trans (nrm_len l) hl)
    clear hL hi hh hg
    generalize l.length = n at *
    generalize chkP l = ce at *
    generalize inE l j = ie at *
    go_enter Try.func3, Try.ntmps3
    go_upto_region 4 with (go_at_call 8; refine K1.out.mono ?_; rintro e w1 ⟨v1, xs, rfl, hx, hG1, hb1⟩)
    go_upto_region 5 with (go_at_call 9; refine (K2.out _ hb1).mono ?_; rintro e w2 ⟨v2, ys, rfl, hy, hG2, hb2⟩)
    have hB2 := hb1.trans (hb2.mono hb1.size)
    obtain ⟨r1, s1⟩ := hG1.gpV
    obtain ⟨r2, s2⟩ := hG2.gpV
    have R1 := Lib.hid (r1.more hb2)
    have R2 := Lib.hid r2
    have S1 := Lib.hid (fun x hx => (s1 x hx).more hb2)
    have S2 := Lib.hid s2
    obtain ⟨A1, c1, rfl, _⟩ := id r1
    obtain ⟨A2, c2, rfl, _⟩ := id r2
    have hlen : ys.length = xs.length := by have := congrArg List.length (hx.trans hy.symm); simpa using this.symm
    have hxl : xs.length ≤ 1000 := by have := congrArg List.length hx; rw [List.length_map] at this; have := HGN.out; omega
    rw [hlen] at R2 ⊢
    have HEQ : Hid (∀ (k : Nat) (x y : Gp), xs[k]? = some x → ys[k]? = some y → x.l = y.l ∧ x.l.length ≤ 1000) := Lib.hid (fun k x y h1 h2 => by
      have e := congrArg (fun q => q[k]?) (hx.trans hy.symm)
      simp only [List.getElem?_map, h1, h2, Option.map_some, Option.some.injEq] at e
      exact ⟨e, HGL.out _ (by rw [← hx]; exact List.mem_map.2 ⟨x, List.mem_of_getElem? h1, rfl⟩)⟩)
    have HYL := Lib.hid hlen
    obtain ⟨gn, hgn⟩ : ∃ gn, gn = xs.length := ⟨_, rfl⟩
    have HGX := Lib.hid hgn
    rw [← hgn] at R1 R2 hxl ⊢
    have HB2 := Lib.hid hB2
    clear r1 r2 s1 s2 hG1 hG2 hx hy hgn hlen hb1 hb2
    go_upto_region 7 with (first
      | (go_at_call 10; refine (K3.out _ hB2).mono ?_; rintro e w3 ⟨rfl, hb3⟩; have hB3 := hB2.trans (hb3.mono hB2.size))
      | (go_at_call 11; refine (K4.out _ hB3).mono ?_; rintro e w4 ⟨rfl, hb4⟩; have hB4 := hB3.trans (hb4.mono hB3.size)))
    have HS4 : Hid (Below w2.heap.size w2 w4) := Lib.hid (hb3.trans (hb4.mono hb3.size))
    have HB4 := Lib.hid hB4
    clear hb3 hb4 hB2 hB3 hB4 K1 K2 K3 K4
    go_wp2
    go_loopw [9] (fun vi wr => ∃ k : Nat, k ≤ gn ∧ vi = .int .i64 (k : Int) ∧ Hid (Below w2.heap.size w2 wr)) (fun vi _ => gn - (intOf vi).toNat)
    case atStart => exact ⟨0, Nat.zero_le _, rfl, HS4⟩
    case round =>
      clear HS4
      obtain ⟨k, hk, rfl, HS⟩ := hrel
      by_cases hlt : k < gn
      · obtain ⟨x, hx⟩ : ∃ x, xs[k]? = some x := ⟨_, List.getElem?_eq_getElem (by have := HGX.out; omega)⟩
        obtain ⟨y, hy⟩ : ∃ y, ys[k]? = some y := ⟨_, List.getElem?_eq_getElem (by have := HGX.out; have := HYL.out; omega)⟩
        obtain ⟨b1, o1, rfl, _, hc1⟩ := row_get R1.out hx
        obtain ⟨b2, o2, rfl, _, hc2⟩ := row_get R2.out hy
        have f1 := hc1 0 _ rfl
        have f2 := hc2 0 _ rfl
        rw [Nat.add_zero, Nat.mul_one] at f1 f2
        have KS := Lib.hid (fun W (h : SW wr W) => by
          have hW : Below w2.heap.size w2 W := HS.out.trans (Below.mono h HS.out.size)
          obtain ⟨e1, e2⟩ := HEQ.out k x y hx hy
          have h2 := (S2.out y (List.mem_of_getElem? hy)).more hW
          exact same_two ((S1.out x (List.mem_of_getElem? hx)).more hW) (by rw [e1]; exact h2) e2)
        have i1 : (k : Int) < (gn : Int) := by omega
        have i2 : (0 : Int) ≤ (k : Int) := by omega
        have g1 := SW.cell (bel_cell HS.out f1)
        have g2 := SW.cell (bel_cell HS.out f2)
        clear hx hy hc1 hc2 f1 f2
        go_wp2
        have hNe : Nonempty (Wd (SW wr)) := ⟨⟨_, SW.drew _⟩⟩
        refine quietS (S := SW wr) (by kernel_rfl) (by kernel_rfl) (SW.drew _) ?_
        repeat (first | go_big_quiet_skip | (go_big_quiet_want; go_big_quiet_op; first | go_big_quiet_on | go_big_quiet_call (((go_at_call 12; exact quiet_S ((KS.out _ (Wd.ok _)).mono (by rintro e w' ⟨he, hb⟩; exact ⟨he, Below.trans (Wd.ok _) (Below.mono hb (Below.size (Wd.ok _)))⟩)))))))
        refine wpQuiet_nil ?_
        rintro W ⟨⟨_, hW⟩, rfl⟩
        go_wp2
        go_roundw
        case rel => exact ⟨k + 1, by omega, by go_num, Lib.hid (HS.out.trans (Below.mono hW HS.out.size))⟩
        case measure => simp [intOf]; omega
      · have i1 : ¬ (k : Int) < (gn : Int) := by omega
        clear hlt hk
        have hS := HB2.out.trans (HS.out.mono HB2.out.size)
        go_upto_region 14 with (first
          | (go_at_call 13; refine (K5.out _ hS).mono ?_; rintro e w5 ⟨v5, rfl, hv5, hb5⟩; have hS5 := hS.trans (hb5.mono hS.size))
          | (go_at_call 14; refine (K6.out _ hS5).mono ?_; rintro e w6 ⟨v6, rfl, hv6, hb6⟩; have hS6 := hS5.trans (hb6.mono hS5.size)))
        have KS1 := Lib.hid (same_two (hv5.more hb6) hv6 HW.out)
        clear hv5 hv6 hb5 hb6
        go_upto_region 20 with (first
          | (go_at_call 12; refine KS1.out.mono ?_; rintro e w7 ⟨rfl, hb7⟩; have hS7 := hS6.trans (hb7.mono hS6.size))
          | (go_at_call 15; refine (K7.out _ hS7).mono ?_; rintro e w8 ⟨v8, rfl, hv8, hb8⟩; have hS8 := hS7.trans (hb8.mono hS7.size))
          | (go_at_call 16; refine (K8.out _ hS8).mono ?_; rintro e w9 ⟨v9, rfl, hv9, hb9⟩; have hS9 := hS8.trans (hb9.mono hS8.size))
          | (go_at_call 17; refine (K9.out _ hS9).mono ?_; rintro e w10 ⟨v10, rfl, hv10, hb10⟩; have hS10 := hS9.trans (hb10.mono hS9.size))
          | (go_at_call 18; refine (K10.out _ hS10).mono ?_; rintro e w11 ⟨v11, rfl, hv11, hb11⟩; have hS11 := hS10.trans (hb11.mono hS10.size)))
        have KS2 := Lib.hid (same_two (((hv8.more hb9).more hb10).more hb11) ((hv9.more hb10).more hb11) HP.out)
        have KS3 := Lib.hid (fun W (h : Below w11.heap.size w11 W) => same_two ((hv10.more hb11).more h) (hv11.more h) HNN.out)
        clear hv8 hv9 hv10 hv11 hb7 hb8 hb9 hb10 hb11
        go_wp2_with (first
          | (go_at_call 12; (with_reducible refine KS2.out.mono ?_); rintro e w12 ⟨rfl, hb12⟩)
          | (go_at_call 12; (with_reducible refine (KS3.out _ hb12).mono ?_); rintro e w13 ⟨rfl, hb13⟩)
          | (go_at_call 7; refine (KK.out _).mono ?_; rintro e w14 ⟨rfl, hb14⟩))
        go_ret
        have q1 := hS11.trans (hb12.mono hS11.size)
        have q2 := q1.trans (hb13.mono q1.size)
        exact ⟨rfl, q2.trans (hb14.mono q2.size)⟩
end Go.Proofs.Ytggbflogndpnoaa
