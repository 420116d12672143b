/- MarryParts: the walk. -/
import Derived.Test.YtggbflogndpnoaaMarQ
namespace Go.Proofs.Ytggbflogndpnoaa
open Go.RowKit Go.Shelf Go.Maps
set_option linter.unusedSimpArgs false
set_option linter.unusedVariables false

theorem rg_first {u v : Nat} (h : u ≤ v) : (rgP u (v + 1))[0]? = some (u : Int) := by
  unfold rgP tab
  rw [List.getElem?_map, List.getElem?_range (by omega)]
  rfl
theorem join_i64 {l : List Int} {u v : Nat} (hi : I64L l) (h : JoinF l u v) (hg : grP l < 9223372036854775807) : I64L (joinP l (u : Int) (v : Int)) := by
  rw [h.lst]
  have := grF_ge l l.length
  exact set_i64 hi ⟨by unfold grP; omega, by omega⟩
theorem join_gr {l : List Int} {a b : Int} (hi : I64L l) (h : joinE l a b = 0) : grP l < 9223372036854775807 := by
  have h1 := grF_le hi l.length (Nat.le_refl _)
  unfold joinE at h
  split at h
  · exact absurd h (by assumption)
  split at h
  · cases h
  split at h
  · cases h
  split at h
  · cases h
  · unfold grP at *; omega

set_option maxRecDepth 100000 in
set_option maxHeartbeats 16000000 in
theorem marryParts_walk (A : Option Addr) (c : Nat) (l : List Int) (a b : Int) (w : World) (hL : IntR w (.slice A l.length c) l) (hi : I64L l) (hh : l.length < 9223372036854775808) (hc : l.length ≤ c) (hb : -9223372036854775808 ≤ b ∧ b ≤ 9223372036854775807) :
    Calls Try.prog 5 #[.slice A l.length c, .int .i64 a, .int .i64 b] w fun e w' => e = .returned (.bool true) ∧ Below w.heap.size w w' := by
  have KK := Lib.hid knows_any
  by_cases hg : 300 < l.length
  · have d0 : decide ((300 : Int) < (l.length : Int)) = true := decide_eq_true (by omega)
    have d0' : decide (300 < l.length) = true := decide_eq_true hg
    clear hL hi hh hc hb hg
    generalize l.length = n at *
    go_enter Try.func5, Try.ntmps5
    go_wp2_with (go_at_call 7; refine (KK.out _).mono ?_; rintro e w6 ⟨rfl, hb6⟩)
    go_ret
    exact ⟨rfl, hb6⟩
  have d0 : decide ((300 : Int) < (l.length : Int)) = false := decide_eq_false (by omega)
  have d0' : decide (300 < l.length) = false := decide_eq_false hg
  have hl : l.length ≤ 1000 := by omega
  have K1 := Lib.hid (join_any A c l a b w hl hc hi hb hL)
  have HL := Lib.hid hL
  by_cases he : joinE l a b = 0
  rotate_left
  · have HJ : Hid (joinP l a b = []) := Lib.hid (by unfold joinP; rw [if_neg he])
    have HE := Lib.hid he
    clear hL hi hh hc hb hg HL
    generalize l.length = n at *
    generalize joinE l a b = er at *
    have g0 : (er != 0) = true := by simpa using he
    clear he
    go_enter Try.func5, Try.ntmps5
    go_upto_region 4 with (go_at_call 19; refine K1.out.mono ?_; rintro e w1 ⟨v1, rfl, hv1, hb1⟩)
    rw [HJ.out] at hv1
    obtain ⟨A1, c1, rfl, _⟩ := id hv1
    go_wp2_with (go_at_call 7; refine (KK.out _).mono ?_; rintro e w6 ⟨rfl, hb6⟩)
    go_ret
    exact ⟨rfl, hb1.trans (hb6.mono hb1.size)⟩
  · have HGR := join_gr hi he
    obtain ⟨u, v, rfl, rfl, hF⟩ := join_zero he
    have hI2 := join_i64 hi hF HGR
    have hlen2 : (joinP l (u : Int) (v : Int)).length = l.length := by rw [hF.lst, setP_len]
    have hl2 : (joinP l (u : Int) (v : Int)).length ≤ 1000 := by omega
    have HCK : Hid (chkP (joinP l (u : Int) (v : Int)) = 0) := Lib.hid (by rw [hF.lst]; exact hF.ok)
    have HWI := Lib.hid (fun (i : Nat) (h1 : u ≤ i) (h2 : i ≤ v) => hF.with h1 h2)
    have huv := hF.lt
    have hvn := hF.le
    rw [he] at K1
    obtain ⟨n, hn⟩ : ∃ n, n = l.length := ⟨_, rfl⟩
    have HN := Lib.hid hn
    obtain ⟨J, hJ⟩ : ∃ J, J = joinP l (u : Int) (v : Int) := ⟨_, rfl⟩
    rw [← hJ] at K1 hI2 hlen2 hl2 HCK HWI
    rw [← hn] at K1 hvn hl hlen2 d0 d0'
    rw [← hn]
    have HI2 := Lib.hid hI2
    have HLJ := Lib.hid hlen2
    have HL2 := Lib.hid hl2
    have HLL := Lib.hid hl
    clear hL hi hh hc hb hg he hI2 hlen2 hl2 hF hJ hn HGR
    have q1 : decide ((u : Int) < 0) = false := decide_eq_false (by omega)
    have q2 : decide ((n : Int) ≤ (v : Int)) = false := decide_eq_false (by omega)
    have q2' : decide (n ≤ v) = false := decide_eq_false (by omega)
    obtain ⟨m, hm⟩ : ∃ m, m = v + 1 - u := ⟨_, rfl⟩
    obtain ⟨m1, hm1⟩ : ∃ m1, m1 = v - u := ⟨_, rfl⟩
    have HM : Hid (m = v + 1 - u ∧ m1 + 1 = m ∧ v + 1 = u + m ∧ 1 ≤ m1) := Lib.hid ⟨hm, by omega, by omega, by omega⟩
    have w1 : IntKind.i64.wrap ((v : Int) - (u : Int)) = (m1 : Int) := by rw [IntWalk.i64_in _ (by omega)]; omega
    have w1' : (v : Int) - (u : Int) = (m1 : Int) := by omega
    have w2 : IntKind.i64.wrap (m1 : Int) = (m1 : Int) := IntWalk.i64_in _ (by omega)
    have w3 : IntKind.i64.wrap ((m1 : Int) + 1) = (m : Int) := by rw [IntWalk.i64_in _ (by omega)]; omega
    have w3' : (m1 : Int) + 1 = (m : Int) := by omega
    have q3 : decide ((m1 : Int) < 1) = false := decide_eq_false (by omega)
    have q3' : decide (m1 < 1) = false := decide_eq_false (by omega)
    clear hm hm1
    go_enter Try.func5, Try.ntmps5
    go_upto_region 4 with (go_at_call 19; refine K1.out.mono ?_; rintro e w1x ⟨v1, rfl, hv1, hb1⟩)
    obtain ⟨A1, c1, rfl, _⟩ := id hv1
    have HV1 := Lib.hid hv1
    have K2 := Lib.hid (fun W (h : Below w1x.heap.size w1x W) => check_any A1 c1 J W HL2.out HI2.out (hv1.more h))
    have K3 := Lib.hid (fun (i : Nat) W (h : Below w1x.heap.size w1x W) => part_any A1 c1 J (i : Int) W HL2.out HI2.out (hv1.more h))
    have K4 := Lib.hid (fun (i : Nat) W (h : Below w1x.heap.size w1x W) => with_any A1 c1 J (i : Int) W HL2.out HI2.out (hv1.more h))
    rw [HCK.out] at K2
    rw [HLJ.out] at K2 K3 K4 ⊢
    have HLW := Lib.hid (HL.out.more hb1)
    have HB1 := Lib.hid hb1
    have hS0 := Below.refl w1x.heap.size w1x
    clear hv1 hb1 HL K1
    go_wp2_with (go_at_call 10; refine (K2.out _ hS0).mono ?_; rintro e w2x ⟨rfl, hb2⟩)
    go_loopw [9] (fun vi wr => ∃ d : Nat, d ≤ m ∧ vi = .int .i64 ((u : Int) + (d : Int)) ∧ Hid (Below w1x.heap.size w1x wr)) (fun vi _ => u + m - (intOf vi).toNat)
    case atStart => exact ⟨0, Nat.zero_le _, by go_num, Lib.hid hb2⟩
    case round =>
      clear hb2 hS0
      obtain ⟨d, hd, rfl, HS⟩ := hrel
      obtain ⟨ud, hud⟩ : ∃ ud, ud = u + d := ⟨_, rfl⟩
      have HUD := Lib.hid hud
      rw [show (u : Int) + (d : Int) = (ud : Int) by omega]
      by_cases hlt : d < m
      · have i0 : decide ((ud : Int) ≤ (v : Int)) = true := decide_eq_true (by have := HM.out; omega)
        have i0' : decide (ud ≤ v) = true := decide_eq_true (by have := HM.out; omega)
        have w5 : IntKind.i64.wrap ((ud : Int) + 1) = (ud : Int) + 1 := IntWalk.i64_in _ (by have := HM.out; omega)
        obtain ⟨h1, h2, h3⟩ := HWI.out ud (by omega) (by have := HM.out; omega)
        have KP := Lib.hid (K3.out ud _ HS.out)
        have KW := Lib.hid (fun W (h : Below wr.heap.size wr W) => K4.out ud W (HS.out.trans (h.mono HS.out.size)))
        rw [h1, h3] at KP
        rw [h1, h2] at KW
        have HRL : Hid ((rgP u (v + 1)).length = m) := Lib.hid (by rw [rgP_len]; exact HM.out.1.symm)
        have hrg := rg_first (show u ≤ v by omega)
        generalize rgP u (v + 1) = R at *
        clear h1 h2 h3 hud
        go_upto_region 12 with (go_at_call 15; refine KP.out.mono ?_; rintro e w3x ⟨v3, rfl, hv3, hb3⟩)
        go_upto_region 13 with (go_at_call 13; refine (KW.out _ hb3).mono ?_; rintro e w4x ⟨v4, rfl, hv4, hb4⟩)
        have hS4 := HS.out.trans ((hb3.trans (hb4.mono hb3.size)).mono HS.out.size)
        have KS := Lib.hid (same_two (hv3.more hb4) (HLW.out.more hS4) (by rw [← HN.out]; exact HLL.out))
        rw [← HN.out] at KS
        obtain ⟨A4, c4, rfl, _⟩ := id hv4
        rw [HRL.out] at hv4 ⊢
        obtain ⟨b4, o4, rfl, f0⟩ := int_at hv4 hrg
        rw [Nat.add_zero] at f0
        have i3 : (0 : Int) < (m : Int) := by have := HM.out; omega
        have HS4 := Lib.hid hS4
        clear hv3 hv4 hb3 hb4 hS4
        go_wp2_with (go_at_call 12; refine KS.out.mono ?_; rintro e w5x ⟨rfl, hb5⟩; have f1 := bel_cell hb5 f0)
        go_roundw
        case rel => exact ⟨d + 1, by omega, by have := HUD.out; go_num, Lib.hid (HS4.out.trans (hb5.mono HS4.out.size))⟩
        case measure => have := HUD.out; simp [intOf]; omega
      · have i0 : decide ((ud : Int) ≤ (v : Int)) = false := decide_eq_false (by have := HM.out; omega)
        have i0' : decide (ud ≤ v) = false := decide_eq_false (by have := HM.out; omega)
        clear hlt hd hud
        go_wp2_with (go_at_call 7; refine (KK.out _).mono ?_; rintro e w6 ⟨rfl, hb6⟩)
        go_ret
        have q := HB1.out.trans (HS.out.mono HB1.out.size)
        exact ⟨rfl, q.trans (hb6.mono q.size)⟩
end Go.Proofs.Ytggbflogndpnoaa
