/- The laws BidCurves, BidTells and BidSeats. -/
import Derived.Test.YtjogjlfgfohihaaBidG
import Derived.Deep.LoopGhost
import Derived.BigQuiet
import Derived.Deep.CutRange
import Derived.Deep.CutBlock
namespace Go.Proofs.Ytjogjlfgfohihaa
open Go.RowKit Go.Shelf
set_option linter.unusedSimpArgs false
set_option linter.unusedVariables false

theorem rgt_nil : RgtP [] := ⟨by simp, fun k x h => by simp at h⟩
/-- what curve_any and rcurve_any tell, for the laws -/
theorem cur_right {l : List Dm} {n : Int} {a : List Int} (h0 : curE l n = 0 → CurveR l n.toNat a) (h1 : curE l n ≠ 0 → a = []) : RgtP a ∧ a.length ≤ 999 := by
  by_cases h : curE l n = 0
  · obtain ⟨h2, h3⟩ := curE_zero h
    have h4 := h0 h
    have h5 := h4.right (dmsE_zero h3) (by omega)
    exact ⟨h5, h5.1⟩
  · rw [h1 h]
    exact ⟨rgt_nil, by simp⟩
theorem cur_same {l : List Dm} {n : Int} {a b : List Int} (h0 : curE l n = 0 → CurveR l n.toNat a) (h1 : curE l n ≠ 0 → a = []) (g0 : curE l n = 0 → CurveR l n.toNat b) (g1 : curE l n ≠ 0 → b = []) : b = a := by
  by_cases h : curE l n = 0
  · exact (g0 h).uniq (h0 h)
  · rw [h1 h, g1 h]
set_option maxRecDepth 100000 in
set_option maxHeartbeats 8000000 in
theorem bidCurves_walk (A : Option Addr) (c : Nat) (l : List Dm) (n lft : Int) (w : World) (hL : DmL w (.slice A l.length c) l) (hbig : ∀ d ∈ l, d.c ≤ 9223372036854775807) (hh : l.length < 9223372036854775808) :
    Calls Try.prog 3 #[.slice A l.length c, .int .i64 n, .int .i64 lft] w fun e w' => e = .returned (.bool true) ∧ Below w.heap.size w w' := by
  have KA := Lib.hid knows_any
  by_cases h50 : (50 : Int) < l.length
  · clear hL
    go_enter Try.func3, Try.ntmps3
    go_wp2_with (go_at_call 8; refine (KA.out _).mono ?_; rintro e wd ⟨rfl, hbd⟩)
    go_ret
    exact ⟨rfl, hbd⟩
  have KC := Lib.hid (curve_any A c l n w (by omega) hL)
  have KD : Hid (∀ W, SW w W → Calls Try.prog 10 #[.slice A l.length c, .int .i64 n] W fun e w' => ∃ A c a, e = .returned (.tuple #[.slice A a.length c, .int .i64 (curE l n)]) ∧ IntR w' (.slice A a.length c) a ∧ (curE l n = 0 → CurveR l n.toNat a) ∧ (curE l n ≠ 0 → a = []) ∧ Below W.heap.size W w') := Lib.hid (fun W h => rcurve_any A c l n W (by omega) hbig (hL.more h))
  have HR : Hid (∀ a, (curE l n = 0 → CurveR l n.toNat a) → (curE l n ≠ 0 → a = []) → RgtP a ∧ a.length ≤ 999) := Lib.hid (fun a => cur_right)
  have HS : Hid (∀ a b, (curE l n = 0 → CurveR l n.toNat a) → (curE l n ≠ 0 → a = []) → (curE l n = 0 → CurveR l n.toNat b) → (curE l n ≠ 0 → b = []) → b = a) := Lib.hid (fun a b => cur_same)
  clear hL hbig
  go_enter Try.func3, Try.ntmps3
  go_upto_region 4 with (go_at_call 9; refine KC.out.mono ?_; rintro e w1 ⟨A1, c1, a, rfl, hi1, hcap, ha0, ha1, hb1⟩)
  have HA0 := Lib.hid ha0
  have HA1 := Lib.hid ha1
  have KD1 := Lib.hid (KD.out w1 hb1)
  clear ha0 ha1 KD KC
  go_upto_region 5 with (go_at_call 10; refine KD1.out.mono ?_; rintro e w2 ⟨A2, c2, b, rfl, hi2, hb0, hbb1, hb2⟩)
  obtain rfl : b = a := HS.out a b HA0.out HA1.out hb0 hbb1
  obtain ⟨hrt, hlen⟩ := HR.out b HA0.out HA1.out
  have hi1 := hi1.more hb2
  have KS := Lib.hid (same_any A1 c1 b A2 c2 b w2 (by omega) (by omega) hi1 hi2)
  have KR : Hid (∀ W, SW w2 W → Calls Try.prog 12 #[.slice A1 b.length c1] W fun e w' => e = .returned (.bool true) ∧ Below W.heap.size W w') := Lib.hid (fun W h => by
    have k := right_any A1 c1 b W (by omega) (hi1.more h)
    rw [(rgtC_iff b).2 hrt] at k
    exact k)
  have KP : Hid (∀ W, SW w2 W → Calls Try.prog 13 #[.slice A1 b.length c1, .int .i64 lft] W fun e w' => e = .returned (.int .i64 (prF b lft)) ∧ w' = W) := Lib.hid (fun W h => price_any A1 c1 b lft W (by omega) (hi1.more h))
  have KQ : Hid (∀ W, SW w2 W → Calls Try.prog 14 #[.slice A2 b.length c2, .int .i64 lft] W fun e w' => e = .returned (.int .i64 (prF b lft)) ∧ w' = W) := Lib.hid (fun W h => rprice_any A2 c2 b lft W (by omega) (hi2.more h))
  have HB := Lib.hid (hb1.trans (hb2.mono hb1.size))
  have g0 : (b == b) = true := by simp
  rw [g0] at KS
  clear hb0 hbb1 hb1 hb2 hi1 hi2 KD1 HR HS g0 hrt HA0 HA1
  generalize curE l n = x at *
  generalize prF b lft = p at *
  go_wp2_with (first
    | (go_at_call 11; with_reducible refine KS.out.mono ?_; rintro e w3 ⟨rfl, hS3⟩)
    | (go_at_call 12; with_reducible refine (KR.out _ hS3).mono ?_; rintro e w4 ⟨rfl, hb4⟩; have hS4 := Below.trans hS3 (Below.mono hb4 hS3.size))
    | (go_at_call 13; with_reducible refine (KP.out _ hS4).mono ?_; rintro e w5 ⟨rfl, rfl⟩)
    | (go_at_call 14; with_reducible refine (KQ.out _ hS4).mono ?_; rintro e w6 ⟨rfl, rfl⟩)
    | (go_at_call 8; with_reducible refine (KA.out _).mono ?_; rintro e wd ⟨rfl, hbd⟩))
  go_ret
  exact ⟨rfl, HB.out.trans ((Below.trans hS4 (hbd.mono hS4.size)).mono HB.out.size)⟩
set_option maxRecDepth 100000 in
set_option maxHeartbeats 8000000 in
theorem bidTells_walk (A : Option Addr) (c : Nat) (l : List Int) (lft : Int) (w : World) (hL : IntR w (.slice A l.length c) l) (hcap : l.length ≤ c) (hh : l.length < 9223372036854775808) :
    Calls Try.prog 4 #[.slice A l.length c, .int .i64 lft] w fun e w' => e = .returned (.bool true) ∧ Below w.heap.size w w' := by
  have KA := Lib.hid knows_any
  by_cases h2 : (2000 : Int) < l.length
  · clear hL
    go_enter Try.func4, Try.ntmps4
    go_wp2_with (go_at_call 8; refine (KA.out _).mono ?_; rintro e wd ⟨rfl, hbd⟩)
    go_ret
    exact ⟨rfl, hbd⟩
  have KR := Lib.hid (right_any A c l w (by omega) hL)
  have KRR : Hid (∀ W, SW w W → Calls Try.prog 15 #[.slice A l.length c] W fun e w' => e = .returned (.bool (rgtC l)) ∧ Below W.heap.size W w') := Lib.hid (fun W h => rright_any A c l W (by omega) (hL.more h))
  have KP : Hid (∀ W, SW w W → Calls Try.prog 13 #[.slice A l.length c, .int .i64 lft] W fun e w' => e = .returned (.int .i64 (prF l lft)) ∧ w' = W) := Lib.hid (fun W h => price_any A c l lft W (by omega) (hL.more h))
  have KQ : Hid (∀ W, SW w W → Calls Try.prog 14 #[.slice A l.length c, .int .i64 lft] W fun e w' => e = .returned (.int .i64 (prF l lft)) ∧ w' = W) := Lib.hid (fun W h => rprice_any A c l lft W (by omega) (hL.more h))
  cases hr : rgtC l with
  | false =>
    rw [hr] at KR KRR
    clear hL hr
    generalize prF l lft = p at *
    go_enter Try.func4, Try.ntmps4
    go_wp2_with (first
      | (go_at_call 12; with_reducible refine KR.out.mono ?_; rintro e w1 ⟨rfl, hS1⟩)
      | (go_at_call 15; with_reducible refine (KRR.out _ hS1).mono ?_; rintro e w2 ⟨rfl, hb2⟩; have hS2 := Below.trans hS1 (Below.mono hb2 hS1.size))
      | (go_at_call 13; with_reducible refine (KP.out _ hS2).mono ?_; rintro e w5 ⟨rfl, rfl⟩)
      | (go_at_call 14; with_reducible refine (KQ.out _ hS2).mono ?_; rintro e w6 ⟨rfl, rfl⟩)
      | (go_at_call 8; with_reducible refine (KA.out _).mono ?_; rintro e wd ⟨rfl, hbd⟩))
    go_ret
    exact ⟨rfl, Below.trans hS2 (hbd.mono hS2.size)⟩
  | true =>
    have hP := (rgtC_iff l).1 hr
    have KW : Hid (∀ W, SW w W → Calls Try.prog 16 #[.slice A l.length c, .int .i64 lft] W fun e w' => e = .returned (.int .i64 (wrF l lft)) ∧ Below W.heap.size W w') := Lib.hid (fun W h => worth_any A c l lft W hcap hP (hL.more h))
    have KX : Hid (∀ W, SW w W → Calls Try.prog 17 #[.slice A l.length c, .int .i64 lft] W fun e w' => e = .returned (.int .i64 (wrF l lft)) ∧ Below W.heap.size W w') := Lib.hid (fun W h => rworth_any A c l lft W hP (hL.more h))
    rw [hr] at KR KRR
    clear hL hr hP
    generalize prF l lft = p at *
    generalize wrF l lft = q at *
    go_enter Try.func4, Try.ntmps4
    go_wp2_with (first
      | (go_at_call 12; with_reducible refine KR.out.mono ?_; rintro e w1 ⟨rfl, hS1⟩)
      | (go_at_call 15; with_reducible refine (KRR.out _ hS1).mono ?_; rintro e w2 ⟨rfl, hb2⟩; have hS2 := Below.trans hS1 (Below.mono hb2 hS1.size))
      | (go_at_call 13; with_reducible refine (KP.out _ hS2).mono ?_; rintro e w5 ⟨rfl, rfl⟩)
      | (go_at_call 14; with_reducible refine (KQ.out _ hS2).mono ?_; rintro e w6 ⟨rfl, rfl⟩)
      | (go_at_call 16; with_reducible refine (KW.out _ hS2).mono ?_; rintro e w7 ⟨rfl, hb7⟩; have hS7 := Below.trans hS2 (Below.mono hb7 hS2.size))
      | (go_at_call 17; with_reducible refine (KX.out _ hS7).mono ?_; rintro e w8 ⟨rfl, hb8⟩; have hS8 := Below.trans hS7 (Below.mono hb8 hS7.size))
      | (go_at_call 8; with_reducible refine (KA.out _).mono ?_; rintro e wd ⟨rfl, hbd⟩))
    go_ret
    exact ⟨rfl, Below.trans hS8 (hbd.mono hS8.size)⟩
end Go.Proofs.Ytjogjlfgfohihaa
