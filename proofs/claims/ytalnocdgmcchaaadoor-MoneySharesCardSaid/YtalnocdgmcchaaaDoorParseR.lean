/- The reference's Parse, walked; and what is printed reads as it was. -/
import Derived.Test.YtalnocdgmcchaaaDoorParse
namespace Go.Proofs.YtalnocdgmcchaaaDoor
open Go.RowKit
set_option linter.unusedSimpArgs false
set_option linter.unusedVariables false

theorem shape_parts {D : ByteArray} : shapeB D.data.toList = (decide (4 ≤ D.size) && (decide ((D.data.toList.getD (D.size - 3) 0).toNat = 46) && (!headZ D.data.toList || decide (D.size = 4)))) := by
  have hl : D.data.toList.length = D.size := by simp
  unfold shapeB
  rw [hl]
theorem headZ_at {D : ByteArray} (h : 0 < D.size) : headZ D.data.toList = decide (D[0].toNat = 48) := headZ_eq D h
theorem sat_step (V d : Nat) : min (10 * min V 1099511627777 + d) 1099511627777 = min (V * 10 + d) 1099511627777 := by omega

set_option maxRecDepth 100000 in
set_option maxHeartbeats 2000000 in
theorem rparse_pos (s : ByteArray) (w : World) (hs : s.size ≤ 40000) (hn : negB s.data.toList = false) :
    Calls Tryd.prog 24 #[.string s] w fun e w' => e = .returned (.tuple #[.int .i64 (parseR s.data.toList).1, .int .i64 (parseR s.data.toList).2]) ∧ ∃ m, w' = w.drewN m := by
  have hb : bodyL s.data.toList = s.data.toList := by
    cases hd : s.data.toList with
    | nil => rfl
    | cons c r =>
      rw [hd] at hn
      simp only [negB, decide_eq_false_iff_not] at hn
      simp only [bodyL, if_neg hn]
  have HPR : Hid (parseR s.data.toList = if formD s.data.toList then (if valD s.data.toList ≤ 1099511627776 then ((valD s.data.toList : Int), 0) else (0, 11)) else (0, 3)) := Lib.hid (by
    rw [parseR, hb, hn]; simp)
  have hfirst : (¬ (s.size : Int) > 0) ∨ (0 < s.size ∧ (s.size : Int) > 0 ∧ ∃ h : 0 < s.size, ((s[0].toNat : Int) == 45) = false) := by
    by_cases h : 0 < s.size
    · refine Or.inr ⟨h, by omega, h, ?_⟩
      rw [bytes_cons1 s h] at hn
      simp only [negB, decide_eq_false_iff_not] at hn
      rw [beq_eq_false_iff_ne]; omega
    · exact Or.inl (by omega)
  clear hn hb
  rcases hfirst with hf | ⟨hf0, hf, hf1, hf2⟩
  · have HR : Hid (parseR s.data.toList = (0, 3)) := Lib.hid (by
      rw [HPR.out, form_noshape (by rw [shape_parts]; simp; omega)]; rfl)
    have h4z : (s.size : Int) < 4 := by omega
    clear HPR
    go_enter Tryd.func24, Tryd.ntmps24
    go_wp2
    go_ret2
    exact ⟨by rw [HR.out]; rfl, 0, rfl⟩

  have hl : s.data.toList.length = s.size := by simp
  by_cases h4 : s.size < 4
  · have HR : Hid (parseR s.data.toList = (0, 3)) := Lib.hid (by
      rw [HPR.out, form_noshape (by rw [shape_parts]; simp; omega)]; rfl)
    have h4z : (s.size : Int) < 4 := by omega
    clear HPR hl h4
    go_enter Tryd.func24, Tryd.ntmps24
    go_wp2
    go_ret2
    exact ⟨by rw [HR.out]; rfl, 0, rfl⟩
  obtain ⟨p, hp⟩ : ∃ p : Nat, p = s.size - 3 := ⟨_, rfl⟩
  have hpz : (s.size : Int) - 3 = (p : Int) := by omega
  have h4z : ¬ (s.size : Int) < 4 := by omega
  have k0 : 0 < s.size := by omega
  have k1 : p < s.size := by omega
  have HPn : Hid (p = s.size - 3) := Lib.hid hp
  have HL := Lib.hid hl
  clear hp hl
  by_cases hpt : s[p].toNat = 46
  case neg =>
    have HR : Hid (parseR s.data.toList = (0, 3)) := Lib.hid (by
      rw [HPR.out, form_noshape (by rw [shape_parts, ← HPn.out, getD_byte s p k1, decide_eq_false hpt]; simp)]; rfl)
    have hz1 : ((s[p].toNat : Int) != 46) = true := by simp; omega
    clear HPR hpt h4
    go_enter Tryd.func24, Tryd.ntmps24
    go_wp2
    go_ret2
    exact ⟨by rw [HR.out]; rfl, 0, rfl⟩
  have hz1 : ((s[p].toNat : Int) != 46) = false := by simp; omega
  by_cases hlz : 4 < s.size ∧ s[0].toNat = 48
  · obtain ⟨hl5, hz48⟩ := hlz
    have HR : Hid (parseR s.data.toList = (0, 3)) := Lib.hid (by
      rw [HPR.out, form_noshape (by rw [shape_parts, headZ_at k0, decide_eq_true hz48]; simp; omega)]; rfl)
    have hz2 : (s.size : Int) > 4 := by omega
    have hz3 : ((s[0].toNat : Int) == 48) = true := by rw [beq_iff_eq]; omega
    clear HPR hpt h4 hl5 hz48
    go_enter Tryd.func24, Tryd.ntmps24
    go_wp2
    go_ret2
    exact ⟨by rw [HR.out]; rfl, 0, rfl⟩
  have hsh : shapeB s.data.toList = true := by
    rw [shape_parts, ← HPn.out, getD_byte s p k1, decide_eq_true hpt, headZ_at k0]
    by_cases h5 : 4 < s.size
    · rw [decide_eq_false (fun h => hlz ⟨h5, h⟩)]; simp; omega
    · simp; omega
  have hgd : (¬ (s.size : Int) > 4) ∨ ((s.size : Int) > 4 ∧ ((s[0].toNat : Int) == 48) = false) := by
    by_cases h5 : 4 < s.size
    · refine Or.inr ⟨by omega, ?_⟩
      rw [beq_eq_false_iff_ne]
      intro h
      exact hlz ⟨h5, by omega⟩
    · exact Or.inl (by omega)
  have HSH := Lib.hid hsh
  have h44 : 4 ≤ s.data.toList.length := by rw [HL.out]; omega
  have H44 := Lib.hid h44
  clear hlz hsh hpt h44 h4
  rcases hgd with hg | ⟨hg, hg2⟩
  all_goals
    go_enter Tryd.func24, Tryd.ntmps24
    go_wp2
    go_loopw [6, 7] (fun vn vi wr => ∃ (k V n : Nat), k ≤ s.size ∧ vi = .int .i64 k ∧ vn = .int .i64 n ∧ n ≤ 1099511627777 ∧ Hid (V = dvF 0 (passed s.data.toList k)) ∧ Hid (n = min V 1099511627777) ∧ Hid ((passed s.data.toList k).all dgB = true) ∧ ∃ m, wr = w.drewN m) (fun _ i _ => s.size - (intOf i).toNat)
    case atStart => exact ⟨0, 0, 0, Nat.zero_le _, rfl, rfl, by omega, Lib.hid (by simp [passed, dvF_nil]), Lib.hid (by omega), Lib.hid (by simp [passed]), 0, rfl⟩
    case round =>
      obtain ⟨k, V, n, hk, rfl, rfl, hn, HV, HN, HA, m, rfl⟩ := hrel
      by_cases hlt : k < s.size
      · have hkz : (k : Int) < (s.size : Int) := by omega
        have hlk : k < s.data.toList.length := by rw [HL.out]; exact hlt
        by_cases hkp : k = p
        · have hkpz : ((k : Int) == (p : Int)) = true := by rw [beq_iff_eq]; omega
          have HE : Hid (passed s.data.toList (k + 1) = passed s.data.toList k) := Lib.hid (by
            have h := passed_point H44.out
            rw [HL.out, ← HPn.out, ← hkp] at h
            exact h)
          subst hkp
          go_wp2
          go_roundw
          case rel => exact ⟨k + 1, V, n, by omega, by go_num, rfl, hn, by rw [HE.out]; exact HV, HN, by rw [HE.out]; exact HA, _, rfl⟩
          case measure => simp [intOf]; omega
        · have hkpz : ((k : Int) == (p : Int)) = false := by rw [beq_eq_false_iff_ne]; omega
          have hne : k ≠ s.data.toList.length - 3 := by rw [HL.out, ← HPn.out]; exact hkp
          have hst := passed_step H44.out k hlk hne
          rw [show s.data.toList[k] = s[k] from rfl] at hst
          cases hd : dgB s[k]
          · have HR : Hid (parseR s.data.toList = (0, 3)) := Lib.hid (by
              rw [HPR.out, form_bad HSH.out k hlk hne hd]; rfl)
            have hcase : (s[k].toNat : Int) < 48 ∨ (¬ (s[k].toNat : Int) < 48 ∧ (s[k].toNat : Int) > 57) := by
              simp [dgB] at hd; omega
            clear hst hne hd hkp
            rcases hcase with hcs | ⟨hcs, hcs2⟩
            · go_wp2
              go_ret2
              exact ⟨by rw [HR.out]; rfl, _, rfl⟩
            · go_wp2
              go_ret2
              exact ⟨by rw [HR.out]; rfl, _, rfl⟩
          · have hdn := dgB_nat _ hd
            have hcs : ¬ (s[k].toNat : Int) < 48 := by omega
            have hcs2 : ¬ (s[k].toNat : Int) > 57 := by omega
            obtain ⟨x, hx⟩ : ∃ x, x = s[k].toNat - 48 := ⟨_, rfl⟩
            have t1 : IntKind.u8.wrap ((s[k].toNat : Int) - 48) = (x : Int) := by rw [IntKind.wrap_u8]; omega
            have t2 : (s[k].toNat : Int) - 48 = (x : Int) := by omega
            have hxb : x ≤ 9 := by omega
            have HV2 : Hid (V * 10 + x = dvF 0 (passed s.data.toList (k + 1))) := Lib.hid (by rw [hst, dvF_snoc, ← HV.out, hx])
            have HA2 : Hid ((passed s.data.toList (k + 1)).all dgB = true) := Lib.hid (by rw [hst, List.all_append, HA.out]; simp [hd])
            have HN2 : Hid (min (10 * n + x) 1099511627777 = min (V * 10 + x) 1099511627777) := Lib.hid (by rw [HN.out]; omega)
            clear hst hne hd hkp hdn hx HV HA HN
            go_wp2
            go_roundw
            case rel => exact ⟨k + 1, V * 10 + x, min (10 * n + x) 1099511627777, by omega, by go_num, (by congr 1; omega), by omega, HV2, HN2, HA2, _, rfl⟩
            case measure => simp [intOf]; omega
      · obtain rfl : k = s.size := by omega
        have hform : formD s.data.toList = true := by
          rw [form_shape HSH.out, HL.out]; exact HA.out
        have hval : V = valD s.data.toList := by
          have h := passed_val H44.out
          rw [HL.out, ← HV.out] at h
          exact h
        have hv0 := val_zero hform
        have hkz : ¬ (s.size : Int) < (s.size : Int) := by omega
        by_cases hgt : n ≤ 1099511627776
        · have HR : Hid (parseR s.data.toList = ((n : Int), 0)) := Lib.hid (by
            have := HN.out
            rw [HPR.out, hform, ← hval, show V = n by omega]; simp [hgt])
          have hgz : ¬ (n : Int) > 1099511627776 := by omega
          clear hform hval hv0 HV HN HA
          go_wp2
          all_goals
            go_ret2
            exact ⟨by rw [HR.out]; first | rfl | (simp; done) | (simp; omega), _, rfl⟩
        · have HR : Hid (parseR s.data.toList = (0, 11)) := Lib.hid (by
            have := HN.out
            rw [HPR.out, hform, ← hval, if_neg (show ¬ V ≤ 1099511627776 by omega)]; simp)
          have hgz : (n : Int) > 1099511627776 := by omega
          have hz0 : ((n : Int) == 0) = false := by rw [beq_eq_false_iff_ne]; omega
          clear hform hval hv0 HV HN HA
          go_wp2
          go_ret2
          exact ⟨by rw [HR.out]; rfl, _, rfl⟩


set_option maxRecDepth 100000 in
set_option maxHeartbeats 2000000 in
theorem rparse_neg (s : ByteArray) (w : World) (hs : s.size ≤ 40000) (hn : negB s.data.toList = true) :
    Calls Tryd.prog 24 #[.string s] w fun e w' => e = .returned (.tuple #[.int .i64 (parseR s.data.toList).1, .int .i64 (parseR s.data.toList).2]) ∧ ∃ m, w' = w.drewN m := by
  have hf0 : 0 < s.size := by
    rcases Nat.eq_zero_or_pos s.size with h | h
    · exfalso
      have : s.data.toList = [] := List.eq_nil_of_length_eq_zero (by simpa using h)
      rw [this] at hn; simp [negB] at hn
    · exact h
  have hf : (s.size : Int) > 0 := by omega
  have h45 : s[0].toNat = 45 := by
    rw [bytes_cons1 s hf0] at hn
    simpa [negB] using hn
  have hf2 : ((s[0].toNat : Int) == 45) = true := by rw [beq_iff_eq]; omega
  have hbl : bodyL s.data.toList = s.data.toList.drop 1 := by
    conv => lhs; rw [bytes_cons1 s hf0]
    simp only [bodyL, h45, if_true]
  obtain ⟨D, hD⟩ : ∃ D, D = s.extract 1 s.size := ⟨_, rfl⟩
  have hDl : D.data.toList = s.data.toList.drop 1 := by
    rw [hD]
    simp only [ByteArray.data_extract, Array.toList_extract, List.extract_eq_take_drop]
    rw [List.take_of_length_le (by simp)]
  have hDs : D.size ≤ 40000 := by rw [hD]; simp; omega
  have HPR : Hid (parseR s.data.toList = if formD D.data.toList && !(decide (D.data.toList = [48, 46, 48, 48])) then (if valD D.data.toList ≤ 1099511627776 then (-(valD D.data.toList : Int), 0) else (0, 11)) else (0, 3)) := Lib.hid (by
    rw [parseR, hbl, ← hDl, hn]; simp)
  have hsl : ∀ W, (Instr.slice 9 (.string s) (some (.int .i64 1)) none none).run Tryd.prog W = .ok (.string D) W := fun W => by
    rw [run_slice_string_l W _ s Tryd.underlying9 _ _ (by omega) (by omega), hD]; rfl
  have h1s : (1 : Int) ≤ (s.size : Int) := by omega
  clear hn hbl hDl hD h45

  have hl : D.data.toList.length = D.size := by simp
  by_cases h4 : D.size < 4
  · have HR : Hid (parseR s.data.toList = (0, 3)) := Lib.hid (by
      rw [HPR.out, form_noshape (by rw [shape_parts]; simp; omega)]; rfl)
    have h4z : (D.size : Int) < 4 := by omega
    clear HPR hl h4
    go_enter Tryd.func24, Tryd.ntmps24
    go_wp2_with fail
    go_quiet (fail)
    go_wp2
    go_ret2
    exact ⟨by rw [HR.out]; rfl, _, rfl⟩
  obtain ⟨p, hp⟩ : ∃ p : Nat, p = D.size - 3 := ⟨_, rfl⟩
  have hpz : (D.size : Int) - 3 = (p : Int) := by omega
  have h4z : ¬ (D.size : Int) < 4 := by omega
  have k0 : 0 < D.size := by omega
  have k1 : p < D.size := by omega
  have HPn : Hid (p = D.size - 3) := Lib.hid hp
  have HL := Lib.hid hl
  clear hp hl
  by_cases hpt : D[p].toNat = 46
  case neg =>
    have HR : Hid (parseR s.data.toList = (0, 3)) := Lib.hid (by
      rw [HPR.out, form_noshape (by rw [shape_parts, ← HPn.out, getD_byte D p k1, decide_eq_false hpt]; simp)]; rfl)
    have hz1 : ((D[p].toNat : Int) != 46) = true := by simp; omega
    clear HPR hpt h4
    go_enter Tryd.func24, Tryd.ntmps24
    go_wp2_with fail
    go_quiet (fail)
    go_wp2
    go_ret2
    exact ⟨by rw [HR.out]; rfl, _, rfl⟩
  have hz1 : ((D[p].toNat : Int) != 46) = false := by simp; omega
  by_cases hlz : 4 < D.size ∧ D[0].toNat = 48
  · obtain ⟨hl5, hz48⟩ := hlz
    have HR : Hid (parseR s.data.toList = (0, 3)) := Lib.hid (by
      rw [HPR.out, form_noshape (by rw [shape_parts, headZ_at k0, decide_eq_true hz48]; simp; omega)]; rfl)
    have hz2 : (D.size : Int) > 4 := by omega
    have hz3 : ((D[0].toNat : Int) == 48) = true := by rw [beq_iff_eq]; omega
    clear HPR hpt h4 hl5 hz48
    go_enter Tryd.func24, Tryd.ntmps24
    go_wp2_with fail
    go_quiet (fail)
    go_wp2
    go_ret2
    exact ⟨by rw [HR.out]; rfl, _, rfl⟩
  have hsh : shapeB D.data.toList = true := by
    rw [shape_parts, ← HPn.out, getD_byte D p k1, decide_eq_true hpt, headZ_at k0]
    by_cases h5 : 4 < D.size
    · rw [decide_eq_false (fun h => hlz ⟨h5, h⟩)]; simp; omega
    · simp; omega
  have hgd : (¬ (D.size : Int) > 4) ∨ ((D.size : Int) > 4 ∧ ((D[0].toNat : Int) == 48) = false) := by
    by_cases h5 : 4 < D.size
    · refine Or.inr ⟨by omega, ?_⟩
      rw [beq_eq_false_iff_ne]
      intro h
      exact hlz ⟨h5, by omega⟩
    · exact Or.inl (by omega)
  have HSH := Lib.hid hsh
  have h44 : 4 ≤ D.data.toList.length := by rw [HL.out]; omega
  have H44 := Lib.hid h44
  clear hlz hsh hpt h44 h4
  rcases hgd with hg | ⟨hg, hg2⟩
  all_goals
    go_enter Tryd.func24, Tryd.ntmps24
    go_wp2_with fail
    go_quiet (fail)
    go_wp2
    go_loopw [6, 7] (fun vn vi wr => ∃ (k V n : Nat), k ≤ D.size ∧ vi = .int .i64 k ∧ vn = .int .i64 n ∧ n ≤ 1099511627777 ∧ Hid (V = dvF 0 (passed D.data.toList k)) ∧ Hid (n = min V 1099511627777) ∧ Hid ((passed D.data.toList k).all dgB = true) ∧ ∃ m, wr = w.drewN m) (fun _ i _ => D.size - (intOf i).toNat)
    case atStart => exact ⟨0, 0, 0, Nat.zero_le _, rfl, rfl, by omega, Lib.hid (by simp [passed, dvF_nil]), Lib.hid (by omega), Lib.hid (by simp [passed]), _, rfl⟩
    case round =>
      obtain ⟨k, V, n, hk, rfl, rfl, hn, HV, HN, HA, m, rfl⟩ := hrel
      by_cases hlt : k < D.size
      · have hkz : (k : Int) < (D.size : Int) := by omega
        have hlk : k < D.data.toList.length := by rw [HL.out]; exact hlt
        by_cases hkp : k = p
        · have hkpz : ((k : Int) == (p : Int)) = true := by rw [beq_iff_eq]; omega
          have HE : Hid (passed D.data.toList (k + 1) = passed D.data.toList k) := Lib.hid (by
            have h := passed_point H44.out
            rw [HL.out, ← HPn.out, ← hkp] at h
            exact h)
          subst hkp
          go_wp2
          go_roundw
          case rel => exact ⟨k + 1, V, n, by omega, by go_num, rfl, hn, by rw [HE.out]; exact HV, HN, by rw [HE.out]; exact HA, _, rfl⟩
          case measure => simp [intOf]; omega
        · have hkpz : ((k : Int) == (p : Int)) = false := by rw [beq_eq_false_iff_ne]; omega
          have hne : k ≠ D.data.toList.length - 3 := by rw [HL.out, ← HPn.out]; exact hkp
          have hst := passed_step H44.out k hlk hne
          rw [show D.data.toList[k] = D[k] from rfl] at hst
          cases hd : dgB D[k]
          · have HR : Hid (parseR s.data.toList = (0, 3)) := Lib.hid (by
              rw [HPR.out, form_bad HSH.out k hlk hne hd]; rfl)
            have hcase : (D[k].toNat : Int) < 48 ∨ (¬ (D[k].toNat : Int) < 48 ∧ (D[k].toNat : Int) > 57) := by
              simp [dgB] at hd; omega
            clear hst hne hd hkp
            rcases hcase with hcs | ⟨hcs, hcs2⟩
            · go_wp2
              go_ret2
              exact ⟨by rw [HR.out]; rfl, _, rfl⟩
            · go_wp2
              go_ret2
              exact ⟨by rw [HR.out]; rfl, _, rfl⟩
          · have hdn := dgB_nat _ hd
            have hcs : ¬ (D[k].toNat : Int) < 48 := by omega
            have hcs2 : ¬ (D[k].toNat : Int) > 57 := by omega
            obtain ⟨x, hx⟩ : ∃ x, x = D[k].toNat - 48 := ⟨_, rfl⟩
            have t1 : IntKind.u8.wrap ((D[k].toNat : Int) - 48) = (x : Int) := by rw [IntKind.wrap_u8]; omega
            have t2 : (D[k].toNat : Int) - 48 = (x : Int) := by omega
            have hxb : x ≤ 9 := by omega
            have HV2 : Hid (V * 10 + x = dvF 0 (passed D.data.toList (k + 1))) := Lib.hid (by rw [hst, dvF_snoc, ← HV.out, hx])
            have HA2 : Hid ((passed D.data.toList (k + 1)).all dgB = true) := Lib.hid (by rw [hst, List.all_append, HA.out]; simp [hd])
            have HN2 : Hid (min (10 * n + x) 1099511627777 = min (V * 10 + x) 1099511627777) := Lib.hid (by rw [HN.out]; omega)
            clear hst hne hd hkp hdn hx HV HA HN
            go_wp2
            go_roundw
            case rel => exact ⟨k + 1, V * 10 + x, min (10 * n + x) 1099511627777, by omega, by go_num, (by congr 1; omega), by omega, HV2, HN2, HA2, _, rfl⟩
            case measure => simp [intOf]; omega
      · obtain rfl : k = D.size := by omega
        have hform : formD D.data.toList = true := by
          rw [form_shape HSH.out, HL.out]; exact HA.out
        have hval : V = valD D.data.toList := by
          have h := passed_val H44.out
          rw [HL.out, ← HV.out] at h
          exact h
        have hv0 := val_zero hform
        have hkz : ¬ (D.size : Int) < (D.size : Int) := by omega
        by_cases hz : n = 0
        · have hV0 : V = 0 := by have := HN.out; omega
          have HR : Hid (parseR s.data.toList = (0, 3)) := Lib.hid (by
            rw [HPR.out, hv0.1 (by omega)]; simp)
          subst hz
          clear hform hval hv0 HV HN HA
          go_wp2
          go_ret2
          exact ⟨by rw [HR.out]; rfl, _, rfl⟩
        · have hz0 : ((n : Int) == 0) = false := by rw [beq_eq_false_iff_ne]; omega
          have hnz : ¬ D.data.toList = [48, 46, 48, 48] := fun h => by
            have := hv0.2 h
            have := HN.out
            omega
          by_cases hgt : n ≤ 1099511627776
          · have HR : Hid (parseR s.data.toList = (-(n : Int), 0)) := Lib.hid (by
              have := HN.out
              rw [HPR.out, hform, decide_eq_false hnz, ← hval, show V = n by omega]; simp [hgt])
            have hgz : ¬ (n : Int) > 1099511627776 := by omega
            clear hform hval hv0 HV HN HA hnz hz
            go_wp2
            go_ret2
            exact ⟨by rw [HR.out]; first | rfl | (simp), _, rfl⟩
          · have HR : Hid (parseR s.data.toList = (0, 11)) := Lib.hid (by
              have := HN.out
              rw [HPR.out, hform, decide_eq_false hnz, ← hval, if_neg (show ¬ V ≤ 1099511627776 by omega)]; simp)
            have hgz : (n : Int) > 1099511627776 := by omega
            clear hform hval hv0 HV HN HA hnz hz
            go_wp2
            go_ret2
            exact ⟨by rw [HR.out]; rfl, _, rfl⟩


theorem rparse_any (s : ByteArray) (w : World) (hs : s.size ≤ 40000) :
    Calls Tryd.prog 24 #[.string s] w fun e w' => e = .returned (.tuple #[.int .i64 (parseR s.data.toList).1, .int .i64 (parseR s.data.toList).2]) ∧ ∃ m, w' = w.drewN m := by
  cases hn : negB s.data.toList
  · exact rparse_pos s w hs hn
  · exact rparse_neg s w hs hn

/-- what is printed reads as it was; a number that is no amount is over -/
theorem parse_print (a : Int) : parseR (printL a) = if amtB a then (a, 0) else (0, 11) := by
  obtain ⟨f1, f2, f3, f4⟩ := dec_facts (a.natAbs / 100)
  obtain ⟨D, hD⟩ : ∃ D, D = Lib.decDigits (a.natAbs / 100) := ⟨_, rfl⟩
  rw [← hD] at f1 f2 f3 f4
  obtain ⟨c, r, hcr⟩ : ∃ c r, D = c :: r := by
    cases hd : D with
    | nil => exact absurd hd f3
    | cons c r => exact ⟨c, r, rfl⟩
  have hc : dgB c = true := by rw [hcr] at f2; simp only [List.all_cons, Bool.and_eq_true] at f2; exact f2.1
  have hc45 := dg_ne45 c hc
  obtain ⟨x, hx⟩ : ∃ x, x = d1 (a.natAbs % 100 / 10) := ⟨_, rfl⟩
  obtain ⟨y, hy⟩ : ∃ y, y = d1 (a.natAbs % 10) := ⟨_, rfl⟩
  have hxn : x.toNat = 48 + a.natAbs % 100 / 10 := by rw [hx]; exact digit_nat _ (by omega)
  have hyn : y.toNat = 48 + a.natAbs % 10 := by rw [hy]; exact digit_nat _ (by omega)
  have hxd : dgB x = true := by rw [hx]; exact digit_dg _ (by omega)
  have hyd : dgB y = true := by rw [hy]; exact digit_dg _ (by omega)
  obtain ⟨d, hd⟩ : ∃ d, d = D ++ [46, x, y] := ⟨_, rfl⟩
  have hpl : printL a = (if a < 0 then [45] else []) ++ d := by rw [printL, ← hD, ← hx, ← hy, hd]; simp
  have hb : bodyL (printL a) = d := by
    rw [hpl]
    by_cases hs : a < 0
    · rw [if_pos hs]; rfl
    · rw [if_neg hs, hd, hcr]
      simp only [List.nil_append, List.cons_append, bodyL, if_neg hc45]
  have hn : negB (printL a) = decide (a < 0) := by
    rw [hpl]
    by_cases hs : a < 0
    · rw [if_pos hs, decide_eq_true hs]; rfl
    · rw [if_neg hs, hd, hcr, decide_eq_false hs]
      simp only [List.nil_append, List.cons_append, negB, decide_eq_false hc45]
  have hlen : d.length = D.length + 3 := by rw [hd]; simp
  have hD1 : 1 ≤ D.length := by rw [hcr]; simp
  have hu : unitsL d = D := by unfold unitsL; rw [hlen, hd]; simp
  have g3 : d.getD (d.length - 3) 0 = 46 := by rw [hlen, hd, List.getD_eq_getElem?_getD]; simp
  have g2 : d.getD (d.length - 2) 0 = x := by rw [hlen, hd, List.getD_eq_getElem?_getD, List.getElem?_append_right (by omega), show D.length + 3 - 2 - D.length = 1 by omega]; rfl
  have g1 : d.getD (d.length - 1) 0 = y := by rw [hlen, hd, List.getD_eq_getElem?_getD, List.getElem?_append_right (by omega), show D.length + 3 - 1 - D.length = 2 by omega]; rfl
  have g0 : d.getD 0 0 = c := by rw [hd, hcr]; rfl
  have hhz : headZ d = headZ D := by rw [hd, hcr]; rfl
  have hval : valD d = a.natAbs := by
    unfold valD
    rw [hu, f1, g2, g1, hxn, hyn]
    omega
  have hform : formD d = true := by
    unfold formD centsB
    rw [hu, f2, g0, g1, g2, g3, hc, hxd, hyd, hhz]
    simp only [Bool.and_true, Bool.true_and]
    rw [show decide (4 ≤ d.length) = true from decide_eq_true (by omega)]
    cases hz : headZ D
    · simp
    · have h0 := f4 hz
      have : D = [UInt8.ofNat (48 + 0)] := by rw [hD, h0]; exact decDigits_small 0 (by omega)
      have : D.length = 1 := by rw [this]; rfl
      simp [hlen, this]
  unfold parseR
  rw [hb, hn, hform, hval]
  have hnz : (decide (a < 0) && decide (d = [48, 46, 48, 48])) = false := by
    by_cases hs : a < 0
    · rw [show decide (d = [48, 46, 48, 48]) = false from decide_eq_false (fun h => by have := (val_zero hform).2 h; omega)]; simp
    · rw [decide_eq_false hs]; rfl
  rw [hnz]
  simp only [Bool.not_false, Bool.and_self, if_true]
  cases hm : amtB a
  · have := amt_no hm
    rw [if_neg (by omega)]; rfl
  · have := amt_yes hm
    rw [if_pos (by omega), if_pos rfl]
    by_cases hs : a < 0
    · rw [decide_eq_true hs, if_pos rfl]; congr 1; omega
    · rw [decide_eq_false hs, if_neg (by simp)]; congr 1; omega
end Go.Proofs.YtalnocdgmcchaaaDoor
