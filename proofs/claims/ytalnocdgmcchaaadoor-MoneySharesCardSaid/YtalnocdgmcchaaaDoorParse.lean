/- Parse, ours and the reference's, walked. -/
import Derived.Test.YtalnocdgmcchaaaDoorParseP
namespace Go.Proofs.YtalnocdgmcchaaaDoor
open Go.RowKit
set_option linter.unusedSimpArgs false
set_option linter.unusedVariables false

set_option maxHeartbeats 400000 in
theorem misDigit_any (c : UInt8) (w : World) : Calls Tryd.prog 51 #[.int .u8 c.toNat] w fun e w' => e = .returned (.bool (dgB c)) ∧ w = w' := by
  by_cases h1 : 48 ≤ (c.toNat : Int)
  · go_enter Tryd.func51, Tryd.ntmps51
    go_wp2
    go_ret
    exact ⟨ret_bool (by simp [dgB]; omega), rfl⟩
  · go_enter Tryd.func51, Tryd.ntmps51
    go_wp2
    go_ret
    exact ⟨ret_bool (by simp [dgB]; omega), rfl⟩
theorem getD_byte (s : ByteArray) (k : Nat) (h : k < s.size) : s.data.toList.getD k 0 = s[k] := by
  rw [List.getD_eq_getElem?_getD, List.getElem?_eq_getElem (by simpa using h)]; rfl

set_option maxRecDepth 100000 in
set_option maxHeartbeats 2000000 in
theorem hasCents_any (D : ByteArray) (pt : Int) (w : World) (hs : D.size ≤ 40000) (hp : pt = (D.size : Int) - 3) :
    Calls Tryd.prog 41 #[.string D, .int .i64 pt] w fun e w' => e = .returned (.bool (centsB D.data.toList)) ∧ w = w' := by
  by_cases h4 : 4 ≤ D.size
  case neg =>
    have hz : ¬ pt > 0 := by omega
    have HC : Hid (centsB D.data.toList = false) := Lib.hid (by simp [centsB]; omega)
    clear hp h4
    go_enter Tryd.func41, Tryd.ntmps41
    go_wp2
    go_ret
    exact ⟨ret_bool HC.out.symm, rfl⟩
  obtain ⟨p, hpp⟩ : ∃ p : Nat, p = D.size - 3 := ⟨_, rfl⟩
  obtain rfl : pt = (p : Int) := by omega
  have k0 : 0 < D.size := by omega
  have k1 : p < D.size := by omega
  have k2 : p + 1 < D.size := by omega
  have k3 : p + 2 < D.size := by omega
  have hz : (p : Int) > 0 := by omega
  have HC : centsB D.data.toList = (dgB D[0] && (decide (D[p].toNat = 46) && (dgB D[p + 1] && dgB D[p + 2]))) := by
    have hl : D.data.toList.length = D.size := by simp
    unfold centsB
    rw [hl, show D.size - 3 = p by omega, show D.size - 2 = p + 1 by omega, show D.size - 1 = p + 2 by omega, getD_byte D 0 k0, getD_byte D p k1, getD_byte D (p + 1) k2, getD_byte D (p + 2) k3]
    simp [h4]
  clear hpp hp h4
  cases h0 : dgB D[0]
  · have HH : Hid (centsB D.data.toList = false) := Lib.hid (by rw [HC, h0]; rfl)
    clear HC
    go_enter Tryd.func41, Tryd.ntmps41
    go_wp2_with (go_at_call 51; refine (misDigit_any _ _).mono ?_; rintro e w' ⟨rfl, rfl⟩)
    go_ret
    exact ⟨ret_bool HH.out.symm, rfl⟩
  by_cases h1 : D[p].toNat = 46
  case neg =>
    have HH : Hid (centsB D.data.toList = false) := Lib.hid (by rw [HC, decide_eq_false h1]; simp)
    have hz1 : ((D[p].toNat : Int) == 46) = false := by rw [beq_eq_false_iff_ne]; omega
    clear HC h1
    go_enter Tryd.func41, Tryd.ntmps41
    go_wp2_with (go_at_call 51; refine (misDigit_any _ _).mono ?_; rintro e w' ⟨rfl, rfl⟩)
    go_ret
    exact ⟨ret_bool HH.out.symm, rfl⟩
  have hz1 : ((D[p].toNat : Int) == 46) = true := by rw [beq_iff_eq]; omega
  rw [h0, decide_eq_true h1, Bool.true_and, Bool.true_and] at HC
  clear h1
  cases h2 : dgB D[p + 1]
  · have HH : Hid (centsB D.data.toList = false) := Lib.hid (by rw [HC, h2]; rfl)
    clear HC
    go_enter Tryd.func41, Tryd.ntmps41
    go_wp2_with (go_at_call 51; refine (misDigit_any _ _).mono ?_; rintro e w' ⟨rfl, rfl⟩)
    go_ret
    exact ⟨ret_bool HH.out.symm, rfl⟩
  · have HH : Hid (centsB D.data.toList = dgB D[p + 2]) := Lib.hid (by rw [HC, h2]; rfl)
    clear HC
    go_enter Tryd.func41, Tryd.ntmps41
    go_wp2_with (go_at_call 51; refine (misDigit_any _ _).mono ?_; rintro e w' ⟨rfl, rfl⟩)
    go_ret
    exact ⟨ret_bool HH.out.symm, rfl⟩

theorem neg_prefix (l : List UInt8) : Lib.hasPrefix l [45] = negB l := by
  cases l with
  | nil => rfl
  | cons c r =>
    simp only [Lib.hasPrefix, List.isPrefixOf, negB, Bool.and_true]
    by_cases h : c.toNat = 45
    · have : c = 45 := UInt8.toNat_inj.1 h
      subst this
      simp
    · have : ¬ (45 : UInt8) = c := fun e => h (by rw [← e]; rfl)
      simp [h, this]
theorem cut_prefix (s : ByteArray) (w : World) :
    Calls Tryd.prog 40 #[.string s, .string ⟨#[45]⟩] w fun e w' => e = .returned (.tuple #[.string (bodyA s), .bool (negB s.data.toList)]) ∧ w = w' := by
  refine (Tryd.strings_CutPrefix s ⟨#[45]⟩ w).mono ?_
  rintro e w' ⟨rfl, rfl⟩
  refine ⟨?_, rfl⟩
  rw [bodyA, ← trim_eq, ← neg_prefix]

theorem signed_val (a : Int) (b : Bool) : (if b = true then -a else a) = if b then -a else a := rfl

set_option maxRecDepth 100000 in
set_option maxHeartbeats 4000000 in
theorem parse_any (s : ByteArray) (w : World) (hs : s.size ≤ 40000) (hE : Env w) :
    Calls Tryd.prog 23 #[.string s] w fun e w' => e = .returned (.tuple #[.int .i64 (parseR s.data.toList).1, .int .i64 (parseR s.data.toList).2]) ∧ Below w.heap.size w w' := by
  have CP := Lib.hid (fun w => cut_prefix s w)
  have hDs := bodyA_le s
  have hDl := bodyA_list s
  obtain ⟨D, hD⟩ : ∃ D, D = bodyA s := ⟨_, rfl⟩
  rw [← hD] at CP hDs hDl
  obtain ⟨neg, hneg⟩ : ∃ b, b = negB s.data.toList := ⟨_, rfl⟩
  rw [← hneg] at CP
  have HPR : Hid (parseR s.data.toList = if formD D.data.toList && !(neg && decide (D.data.toList = [48, 46, 48, 48])) then (if valD D.data.toList ≤ 1099511627776 then (if neg then -(valD D.data.toList : Int) else (valD D.data.toList : Int), 0) else (0, 11)) else (0, 3)) := Lib.hid (by rw [parseR, ← hDl, ← hneg])
  have CH := Lib.hid (fun w => hasCents_any D ((D.size : Int) - 3) w (by omega) rfl)
  clear hD hneg hDl
  cases hc : centsB D.data.toList
  · have HR : Hid (parseR s.data.toList = (0, 3)) := Lib.hid (by rw [HPR.out]; simp [formD, hc])
    rw [hc] at CH
    clear hc HPR
    go_enter Tryd.func23, Tryd.ntmps23
    go_wp2_with (first | (go_at_call 40; refine (CP.out _).mono ?_; rintro e w' ⟨rfl, rfl⟩) | (go_at_call 41; refine (CH.out _).mono ?_; rintro e w' ⟨rfl, rfl⟩))
    go_ret2
    exact ⟨by rw [HR.out]; rfl, Below.refl _ _⟩
  rw [hc] at CH
  have h4 : 4 ≤ D.size := by have := cents_len hc; simpa using this
  by_cases hz : neg = true ∧ D.data.toList = [48, 46, 48, 48]
  · obtain ⟨rfl, hz⟩ := hz
    have HR : Hid (parseR s.data.toList = (0, 3)) := Lib.hid (by rw [HPR.out]; simp [hz])
    have ht : (D.toList == [48, 46, 48, 48]) = true := by rw [ByteArray.toList_eq, hz]; rfl
    clear hc HPR hz
    go_enter Tryd.func23, Tryd.ntmps23
    go_wp2_with (first | (go_at_call 40; refine (CP.out _).mono ?_; rintro e w' ⟨rfl, rfl⟩) | (go_at_call 41; refine (CH.out _).mono ?_; rintro e w' ⟨rfl, rfl⟩))
    go_ret2
    exact ⟨by rw [HR.out]; rfl, Below.refl _ _⟩
  -- the units
  have HP2 : Hid (parseR s.data.toList = if formD D.data.toList then (if valD D.data.toList ≤ 1099511627776 then (if neg then -(valD D.data.toList : Int) else (valD D.data.toList : Int), 0) else (0, 11)) else (0, 3)) := Lib.hid (by
    rw [HPR.out]
    have : (neg && decide (D.data.toList = [48, 46, 48, 48])) = false := by
      cases neg
      · rfl
      · simp only [Bool.true_and, decide_eq_false_iff_not]; exact fun h => hz ⟨rfl, h⟩
    rw [this, Bool.not_false, Bool.and_true])
  have ht : neg = false ∨ (neg = true ∧ (D.toList == [48, 46, 48, 48]) = false) := by
    cases neg
    · exact Or.inl rfl
    · right
      refine ⟨rfl, ?_⟩
      rw [ByteArray.toList_eq, beq_eq_false_iff_ne]
      exact fun h => hz ⟨rfl, h⟩
  clear hz HPR
  obtain ⟨p, hp⟩ : ∃ p : Nat, p = D.size - 3 := ⟨_, rfl⟩
  have hpz : (D.size : Int) - 3 = (p : Int) := by omega
  rw [hpz] at CH
  have hU : (D.extract 0 p).data.toList = unitsL D.data.toList := by
    rw [hp]; simp [unitsL]
  have CN := number_any (D.extract 0 p)
  rw [hU, units_num hc] at CN
  have hUs : (D.extract 0 p).size ≤ 40000 := by simp; omega
  have HC := Lib.hid hc
  have HE := Lib.hid hE
  have hp1 : p + 1 < D.size := by omega
  have hp2 : p + 2 < D.size := by omega
  have hps : (p : Int) ≤ (D.size : Int) := by omega
  have CN2 := Lib.hid (fun w hE => CN w hUs hE)
  have HPn : Hid (p = D.size - 3) := Lib.hid hp
  clear CN hU hUs hc hE hp
  cases hf : formD D.data.toList
  · -- no form
    have HR : Hid (parseR s.data.toList = (0, 3)) := Lib.hid (by rw [HP2.out, hf]; rfl)
    rw [hf] at CN2
    clear HP2 hf
    rcases ht with rfl | ⟨rfl, ht⟩
    all_goals
      go_enter Tryd.func23, Tryd.ntmps23
      go_wp2_with (first | (go_at_call 40; refine (CP.out _).mono ?_; rintro e w' ⟨rfl, rfl⟩) | (go_at_call 41; refine (CH.out _).mono ?_; rintro e w' ⟨rfl, rfl⟩) | (go_at_call 42; refine (CN2.out _ HE.out).mono ?_; rintro e w2 ⟨rfl, hb⟩))
      go_ret2
      exact ⟨by rw [HR.out]; rfl, hb⟩
  rw [hf] at CN2
  obtain ⟨u, hu⟩ : ∃ u, u = dvF 0 (unitsL D.data.toList) := ⟨_, rfl⟩
  rw [← hu] at CN2
  by_cases hfit : u < 9223372036854775808
  case neg =>
    have HR : Hid (parseR s.data.toList = (0, 11)) := Lib.hid (by rw [HP2.out, hf, if_pos rfl, if_neg (big_units (by omega))])
    rw [if_pos rfl, if_neg hfit] at CN2
    clear HP2 hf hu hfit
    rcases ht with rfl | ⟨rfl, ht⟩
    all_goals
      go_enter Tryd.func23, Tryd.ntmps23
      go_wp2_with (first | (go_at_call 40; refine (CP.out _).mono ?_; rintro e w' ⟨rfl, rfl⟩) | (go_at_call 41; refine (CH.out _).mono ?_; rintro e w' ⟨rfl, rfl⟩) | (go_at_call 42; refine (CN2.out _ HE.out).mono ?_; rintro e w2 ⟨rfl, hb⟩))
      go_ret2
      exact ⟨by rw [HR.out]; rfl, hb⟩
  rw [if_pos rfl, if_pos hfit] at CN2
  by_cases hbig : u ≤ 10995116277
  case neg =>
    have HR : Hid (parseR s.data.toList = (0, 11)) := Lib.hid (by rw [HP2.out, hf, if_pos rfl, if_neg (big_units (by omega))])
    have hgt : (u : Int) > 10995116277 := by omega
    clear HP2 hf hu hbig
    rcases ht with rfl | ⟨rfl, ht⟩
    all_goals
      go_enter Tryd.func23, Tryd.ntmps23
      go_wp2_with (first | (go_at_call 40; refine (CP.out _).mono ?_; rintro e w' ⟨rfl, rfl⟩) | (go_at_call 41; refine (CH.out _).mono ?_; rintro e w' ⟨rfl, rfl⟩) | (go_at_call 42; refine (CN2.out _ HE.out).mono ?_; rintro e w2 ⟨rfl, hb⟩))
      go_ret2
      exact ⟨by rw [HR.out]; rfl, hb⟩
  have hle : ¬ (u : Int) > 10995116277 := by omega
  have hcc := HC.out
  simp only [centsB, Bool.and_eq_true] at hcc
  have hl : D.data.toList.length = D.size := by simp
  obtain ⟨_, _, _, gx, gy⟩ := hcc
  rw [hl, show D.size - 2 = p + 1 by have := HPn.out; omega, getD_byte D (p + 1) hp1] at gx
  rw [hl, show D.size - 1 = p + 2 by have := HPn.out; omega, getD_byte D (p + 2) hp2] at gy
  have gx2 := dgB_nat _ gx
  have gy2 := dgB_nat _ gy
  have hval : valD D.data.toList = u * 100 + (D[p + 1].toNat - 48) * 10 + (D[p + 2].toNat - 48) := by
    unfold valD
    rw [hl, ← hu, show D.size - 2 = p + 1 by have := HPn.out; omega, getD_byte D (p + 1) hp1, show D.size - 1 = p + 2 by have := HPn.out; omega, getD_byte D (p + 2) hp2]
  obtain ⟨V, hV⟩ : ∃ V, V = valD D.data.toList := ⟨_, rfl⟩
  have HP3 : Hid (parseR s.data.toList = if V ≤ 1099511627776 then (if neg then -(V : Int) else (V : Int), 0) else (0, 11)) := Lib.hid (by rw [HP2.out, hf, if_pos rfl, hV])
  rw [← hV] at hval
  obtain ⟨x, hx⟩ : ∃ x, x = D[p + 1].toNat - 48 := ⟨_, rfl⟩
  obtain ⟨y, hy⟩ : ∃ y, y = D[p + 2].toNat - 48 := ⟨_, rfl⟩
  rw [← hx, ← hy] at hval
  have t1 : IntKind.u8.wrap ((D[p + 1].toNat : Int) - 48) = (x : Int) := by rw [IntKind.wrap_u8]; omega
  have t2 : IntKind.u8.wrap ((D[p + 2].toNat : Int) - 48) = (y : Int) := by rw [IntKind.wrap_u8]; omega
  have hxb : x ≤ 9 := by omega
  have hyb : y ≤ 9 := by omega
  have t3 : IntKind.i64.wrap ((p : Int) + 1) = (p : Int) + 1 := by rw [IntKind.wrap_i64]; omega
  have t4 : IntKind.i64.wrap ((p : Int) + 2) = (p : Int) + 2 := by rw [IntKind.wrap_i64]; omega
  have t5 : IntKind.i64.wrap ((u : Int) * 100) = (u : Int) * 100 := by rw [IntKind.wrap_i64]; omega
  have t6 : IntKind.i64.wrap ((x : Int) * 10) = (x : Int) * 10 := by rw [IntKind.wrap_i64]; omega
  have t7 : IntKind.i64.wrap ((u : Int) * 100 + (x : Int) * 10) = (u : Int) * 100 + (x : Int) * 10 := by rw [IntKind.wrap_i64]; omega
  have t8 : IntKind.i64.wrap ((u : Int) * 100 + (x : Int) * 10 + (y : Int)) = (V : Int) := by rw [IntKind.wrap_i64]; omega
  have t9 : (0 : Int) ≤ (p : Int) + 1 := by omega
  have t10 : (0 : Int) ≤ (p : Int) + 2 := by omega
  have t11 : ((p : Int) + 1).toNat = p + 1 := by omega
  have t12 : ((p : Int) + 2).toNat = p + 2 := by omega
  have hVb : V ≤ 1099511627799 := by omega
  have t13 : (p : Int) + 1 < (D.size : Int) := by omega
  have t14 : (p : Int) + 2 < (D.size : Int) := by omega
  have CAm := Lib.hid (fun w => isAmount_any (V : Int) w)
  clear HP2 hf hu hval hV hx hy gx gy gx2 gy2 hl hbig hfit
  by_cases hok : V ≤ 1099511627776
  · have ham := amt_mk (a := (V : Int)) (by omega) (by omega)
    rw [ham] at CAm
    have HR : Hid (parseR s.data.toList = (if neg then -(V : Int) else (V : Int), 0)) := Lib.hid (by rw [HP3.out, if_pos hok])
    have CS := Lib.hid (fun w => signed_any (V : Int) neg w (by omega) (by omega))
    clear HP3 ham hok
    rcases ht with rfl | ⟨rfl, ht⟩
    all_goals
      go_enter Tryd.func23, Tryd.ntmps23
      go_wp2_with (first | (go_at_call 40; refine (CP.out _).mono ?_; rintro e w' ⟨rfl, rfl⟩) | (go_at_call 41; refine (CH.out _).mono ?_; rintro e w' ⟨rfl, rfl⟩) | (go_at_call 42; refine (CN2.out _ HE.out).mono ?_; rintro e w2 ⟨rfl, hb⟩))
      have HB := Lib.hid hb
      clear hb
      go_quiet (fail)
      go_wp2_with (first | (go_at_call 28; refine (CAm.out _).mono ?_; rintro e w' ⟨rfl, rfl⟩) | (go_at_call 31; refine (CS.out _).mono ?_; rintro e w' ⟨rfl, rfl⟩))
      go_ret2
      exact ⟨by rw [HR.out]; rfl, below_drewN HB.out _⟩
  · have ham := amt_not (a := (V : Int)) (by omega)
    rw [ham] at CAm
    have HR : Hid (parseR s.data.toList = (0, 11)) := Lib.hid (by rw [HP3.out, if_neg hok])
    clear HP3 ham hok
    rcases ht with rfl | ⟨rfl, ht⟩
    all_goals
      go_enter Tryd.func23, Tryd.ntmps23
      go_wp2_with (first | (go_at_call 40; refine (CP.out _).mono ?_; rintro e w' ⟨rfl, rfl⟩) | (go_at_call 41; refine (CH.out _).mono ?_; rintro e w' ⟨rfl, rfl⟩) | (go_at_call 42; refine (CN2.out _ HE.out).mono ?_; rintro e w2 ⟨rfl, hb⟩))
      have HB := Lib.hid hb
      clear hb
      go_quiet (fail)
      go_wp2_with (go_at_call 28; refine (CAm.out _).mono ?_; rintro e w' ⟨rfl, rfl⟩)
      go_ret2
      exact ⟨by rw [HR.out]; rfl, below_drewN HB.out _⟩
end Go.Proofs.YtalnocdgmcchaaaDoor
