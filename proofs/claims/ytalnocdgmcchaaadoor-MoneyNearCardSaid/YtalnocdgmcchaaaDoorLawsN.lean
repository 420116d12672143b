/- The law MoneyNear, walked. -/
import Derived.Test.YtalnocdgmcchaaaDoorKnows
namespace Go.Proofs.YtalnocdgmcchaaaDoor
open Go.RowKit
set_option linter.unusedSimpArgs false
set_option linter.unusedVariables false

theorem near_plain (n h : Int) (n1 : -1000000000 < n) (n2 : n < 1000000000) (h1 : -100000 < h) (h2 : h < 100000) :
    ∃ x far p : Int, n * h = p ∧ -100000000000000 ≤ p ∧ p ≤ 100000000000000 ∧ percR n h = (x, 0) ∧ -20000000000 ≤ x ∧ x ≤ 20000000000 ∧ 2 * (p - 10000 * x) = far ∧ -10000 ≤ far ∧ far < 10000 ∧ percR n 10000 = (n, 0) := by
  have hb : -100000000000000 ≤ n * h ∧ n * h ≤ 100000000000000 := by
    have e : n.natAbs * h.natAbs ≤ 1000000000 * 100000 := Nat.mul_le_mul (by omega) (by omega)
    have e2 : (n * h).natAbs = n.natAbs * h.natAbs := Int.natAbs_mul n h
    omega
  obtain ⟨p, hp⟩ : ∃ p, p = n * h := ⟨_, rfl⟩
  rw [← hp] at hb
  refine ⟨(2 * p + 10000) / 20000, 2 * (p - 10000 * ((2 * p + 10000) / 20000)), p, hp.symm, hb.1, hb.2, ?_, by omega, by omega, rfl, by omega, by omega, ?_⟩
  · rw [percR, ← hp, amt_mk (a := n) (by omega) (by omega), amt_mk (a := h) (by omega) (by omega), amt_mk (a := (2 * p + 10000) / 20000) (by omega) (by omega)]
    simp
  · have e : (2 * (n * 10000) + 10000) / 20000 = n := by omega
    rw [percR, e, amt_mk (a := n) (by omega) (by omega), amt_mk (a := (10000 : Int)) (by omega) (by omega)]
    simp
theorem near_up (n u : Int) (n1 : -1000000000 < n) (n2 : n < 1000000000) (u1 : 1 ≤ u) (u2 : u ≤ 1000) :
    ∃ v, upR n u = (v, 0) ∧ n ≤ v ∧ v < n + u ∧ v.tmod u = 0 := by
  obtain ⟨r1, r2⟩ := up_rem n u u1
  refine ⟨n + (-n) % u, ?_, by omega, by omega, ?_⟩
  · rw [upR, if_neg (by omega), amt_mk (a := n) (by omega) (by omega), amt_mk (a := n + (-n) % u) (by omega) (by omega)]
    simp
  · refine Int.tmod_eq_zero_of_dvd ?_
    have hd := Int.mul_ediv_add_emod (-n) u
    exact ⟨-((-n) / u), by rw [Int.mul_neg]; omega⟩
theorem near_sums (n h : Int) (n1 : -1000000000 < n) (n2 : n < 1000000000) (h1 : -100000 < h) (h2 : h < 100000) : addR n h = (n + h, 0) ∧ subR (n + h) h = (n, 0) := by
  constructor
  · rw [addR, amt_mk (a := n) (by omega) (by omega), amt_mk (a := h) (by omega) (by omega), amt_mk (a := n + h) (by omega) (by omega)]
    simp
  · have e : n + h + -h = n := by omega
    rw [subR, addR, e, amt_mk (a := h) (by omega) (by omega), amt_mk (a := n + h) (by omega) (by omega), amt_mk (a := -h) (by omega) (by omega), amt_mk (a := n) (by omega) (by omega)]
    simp

set_option maxRecDepth 100000 in
set_option maxHeartbeats 4000000 in
theorem moneyNear_walk (a b : Int) (w : World) (a1 : -2147483648 ≤ a) (a2 : a ≤ 2147483647) (b1 : -2147483648 ≤ b) (b2 : b ≤ 2147483647) (hE : Env w) :
    Calls Tryd.prog 8 #[.int .i32 a, .int .i32 b] w fun e w' => e = .returned (.bool true) ∧ Below w.heap.size w w' := by
  have HE := Lib.hid hE
  have n1 : -1000000000 < a.tmod 1000000000 := Int.lt_tmod_of_pos a (by omega)
  have n2 : a.tmod 1000000000 < 1000000000 := Int.tmod_lt_of_pos a (by omega)
  have h1 : -100000 < b.tmod 100000 := Int.lt_tmod_of_pos b (by omega)
  have h2 : b.tmod 100000 < 100000 := Int.tmod_lt_of_pos b (by omega)
  clear hE
  go_enter Tryd.func8, Tryd.ntmps8
  go_wp2_with fail
  generalize a.tmod 1000000000 = n at *
  generalize b.tmod 100000 = h at *
  obtain ⟨x, far, p, hp, p1, p2, hx, x1, x2, hfar, far1, far2, hall⟩ := near_plain n h n1 n2 h1 h2
  have hpw : IntKind.i64.wrap (n * h) = p := by rw [IntKind.wrap_i64, hp]; omega
  have hfw : IntKind.i64.wrap (2 * (p - 10000 * x)) = far := by rw [IntKind.wrap_i64, hfar]; omega
  have C1 := Lib.hid (fun w => percent_any n h w)
  have C2 := Lib.hid (fun w => percent_any n 10000 w)
  rw [hx] at C1
  rw [hall] at C2
  obtain ⟨hs1, hs2⟩ := near_sums n h n1 n2 h1 h2
  have C3 := Lib.hid (fun w => add_any n h w)
  have C4 := Lib.hid (fun w => sub_any (n + h) h w (by omega) (by omega))
  rw [hs1] at C3
  rw [hs2] at C4
  have HU := Lib.hid (fun u => near_up n u n1 n2)
  clear hs1 hs2 hx hall
  refine (C1.out _).mono ?_
  rintro e w' ⟨rfl, k1, rfl⟩
  go_wp2_with fail
  refine (C2.out _).mono ?_
  rintro e w' ⟨rfl, k2, rfl⟩
  go_wp2_with fail
  have u1 : 1 ≤ 1 + b % 4294967296 % 1000 := by omega
  have u2 : 1 + b % 4294967296 % 1000 ≤ 1000 := by omega
  generalize 1 + b % 4294967296 % 1000 = u at *
  obtain ⟨t, ht, t1, t2, t3⟩ := HU.out u u1 u2
  have C5 := Lib.hid (fun w => up_any n u w (by omega) (by omega))
  rw [ht] at C5
  clear ht HU
  refine (C5.out _).mono ?_
  rintro e w' ⟨rfl, rfl⟩
  go_wp2_with fail
  refine (C3.out _).mono ?_
  rintro e w' ⟨rfl, rfl⟩
  go_wp2_with fail
  refine (C4.out _).mono ?_
  rintro e w' ⟨rfl, rfl⟩
  have HB0 : Hid (Below w.heap.size w (w.drewN (k1 + k2))) := Lib.hid (below_drewN (Below.refl _ _) _)
  go_wp2_with fail
  refine (knows_any _ (HE.out.more HB0.out)).mono ?_
  rintro e w' ⟨rfl, hb⟩
  have HB := Lib.hid (HB0.out.trans (hb.mono HB0.out.size))
  clear hb
  go_wp2
  go_ret
  exact ⟨rfl, HB.out⟩
end Go.Proofs.YtalnocdgmcchaaaDoor
