/- Walks of the reference's Number. -/
import Derived.Test.YtcdpcbdmnmipcaaDoorTextG
namespace Go.Proofs.YtcdpcbdmnmipcaaDoor
open Go.RowKit
set_option linter.unusedSimpArgs false
set_option linter.unusedVariables false

theorem num_step (D : ByteArray) (k : Nat) (a : Int) (hlt : k < D.size) (hall : D.data.toList.all dgB = true) (hk : k < 19) (ha : a = (dvF 0 (D.data.toList.take k) : Int)) :
    IntKind.u64.wrap (10 * a) = 10 * a ∧ IntKind.u8.wrap ((D[k].toNat : Int) - 48) = (D[k].toNat : Int) - 48 ∧ IntKind.u64.wrap ((D[k].toNat : Int) - 48) = (D[k].toNat : Int) - 48 ∧
    IntKind.u64.wrap (10 * a + ((D[k].toNat : Int) - 48)) = 10 * a + ((D[k].toNat : Int) - 48) ∧ 10 * a + ((D[k].toNat : Int) - 48) = (dvF 0 (D.data.toList.take (k + 1)) : Int) := by
  have hc : dgB D[k] = true := by
    rw [List.all_eq_true] at hall
    exact hall _ (by rw [show D[k] = D.data.toList[k]'(by simpa using hlt) from rfl]; exact List.getElem_mem _)
  have hcn := dgB_nat _ hc
  have hb : (D.data.toList.take k).all dgB = true := by
    rw [List.all_eq_true] at hall ⊢
    exact fun x hx => hall x (List.mem_of_mem_take hx)
  have hlt2 := dvF_lt (D.data.toList.take k) 0 hb
  have hl : (D.data.toList.take k).length ≤ 18 := by simp; omega
  have hp : (10 : Nat) ^ (D.data.toList.take k).length ≤ 10 ^ 18 := Nat.pow_le_pow_right (by omega) hl
  have e18 : (10 : Nat) ^ 18 = 1000000000000000000 := by decide
  have hs : dvF 0 (D.data.toList.take (k + 1)) = dvF 0 (D.data.toList.take k) * 10 + (D[k].toNat - 48) := by
    rw [List.take_succ_eq_append_getElem (by simpa using hlt), dvF_snoc]; rfl
  simp only [IntKind.wrap_u64, IntKind.wrap_u8]
  rw [hs]
  omega
theorem num_neg (a : Int) (h1 : 1 ≤ a) (h2 : a ≤ 9223372036854775808) : IntKind.u64.wrap (a - 1) = a - 1 ∧ wrap64 (a - 1) = a - 1 ∧ wrap64 (-(a - 1)) = -(a - 1) ∧ wrap64 (-(a - 1) - 1) = -a := by
  rw [IntKind.wrap_u64]
  unfold wrap64
  omega
theorem num_pos (l d : List UInt8) (hf : formB l = true) (hn : negB l = true) (hb : bodyL l = d) (a : Int) (ha : a = (dvF 0 d : Int)) : 1 ≤ a := by
  have h1 := form_body l hf
  rw [hb] at h1
  have hz : headZ d = false := by
    simp only [formB, Bool.and_eq_true, Bool.or_eq_true] at hf
    rcases hf.2 with h | h
    · rw [hb] at h; simpa using h
    · have : l = [48] := by simpa using h
      rw [this] at hn; simp [negB] at hn
  cases d with
  | nil => exact absurd rfl h1.1
  | cons c r =>
    have hc : dgB c = true := by have := h1.2; simp only [List.all_cons, Bool.and_eq_true] at this; exact this.1
    have hcn := dgB_nat c hc
    simp [headZ] at hz
    rw [ha, dvF_cons]
    have := dvF_le r (0 * 10 + (c.toNat - 48))
    omega

set_option maxRecDepth 100000 in
set_option maxHeartbeats 4000000 in
theorem rnumber_any (s : ByteArray) (w : World) (hs : s.size ≤ 40000) :
    Calls Tryd.prog 23 #[.string s] w fun e w' => e = .returned (.tuple #[.int .i64 (numR s.data.toList).1, .int .i64 (numR s.data.toList).2]) ∧ w = w' := by
  by_cases h0 : 0 < s.size
  case neg =>
    have t1 := isEmpty_yes s (by omega)
    have hl : s.data.toList = [] := List.eq_nil_of_length_eq_zero (by simp only [Array.length_toList, ByteArray.size_data]; omega)
    have HR : Hid (numR s.data.toList = (0, 3)) := Lib.hid (by rw [hl]; rfl)
    clear hl
    have h0' : ¬ 0 < (s.size : Int) := by omega
    go_enter Tryd.func23, Tryd.ntmps23
    go_wp2
    go_ret2
    exact ⟨by rw [HR.out]; rfl, rfl⟩
  by_cases h45 : s[0].toNat = 45
  · have c0 : ((s[0].toNat : Int) == 45) = true := by simp; omega
    obtain ⟨D, hD⟩ : ∃ D, s.extract 1 s.size = D := ⟨_, rfl⟩
    have hsz : D.size = s.size - 1 := by rw [← hD, ByteArray.size_extract]; omega
    have hb : bodyL s.data.toList = D.data.toList := by
      rw [← hD, extract_list, List.take_of_length_le (by simp)]
      rw [bytes_cons1 s h0]; simp [bodyL, h45]
    have hng : negB s.data.toList = true := by rw [bytes_cons1 s h0]; simp [negB, h45]
    have hne48 : (s.data.toList == [48]) = false := by
      rw [bytes_cons1 s h0]
      have : ¬ s[0] = 48 := fun e => by rw [e] at h45; exact absurd h45 (by decide)
      simp [this]
    clear h45
    have hDs : D.size ≤ 40000 := by omega
    clear hsz
    by_cases hD0 : 0 < D.size
    case neg =>
      have t1 := isEmpty_yes D (by omega)
      have HR : Hid (numR s.data.toList = (0, 3)) := Lib.hid (by
        have : formB s.data.toList = false := by rw [formB, hb, ← ByteArray.toList_eq, t1]; rfl
        simp [numR, this])
      clear hb hng hne48
      go_enter Tryd.func23, Tryd.ntmps23
      go_wp2
      go_ret2
      exact ⟨by rw [HR.out]; rfl, rfl⟩
    have t1 := isEmpty_no D hD0
    have hE : D.data.toList.isEmpty = false := by rw [← ByteArray.toList_eq]; exact t1
    have hz := headZ_eq D hD0
    have hf : formB s.data.toList = (allFrom dgB D 0 && (!headZ D.data.toList || s.data.toList == [48])) := by rw [formB, hb, hE]; rfl
    by_cases hlead : D[0].toNat = 48 ∧ True
    · have l1 : ((D[0].toNat : Int) == 48) = true := by simp; omega
      have HR : Hid (numR s.data.toList = (0, 3)) := Lib.hid (by
        have : formB s.data.toList = false := by rw [hf, hz, hlead.1, hne48]; simp
        simp [numR, this])
      clear hb hng hE hz hf hlead hne48
      go_enter Tryd.func23, Tryd.ntmps23
      go_wp2
      go_ret2
      exact ⟨by rw [HR.out]; rfl, rfl⟩
    have hz0 : ¬ D[0].toNat = 48 := fun h => hlead ⟨h, trivial⟩
    have hfa : formB s.data.toList = allFrom dgB D 0 := by rw [hf, hz]; simp [hz0]
    have l1 : ((D[0].toNat : Int) == 48) = false := by simp; omega
    have HFA := Lib.hid hfa
    have HB := Lib.hid hb
    have HNG := Lib.hid hng
    clear hb hng hE hz hf hlead hfa hne48 hz0
    go_enter Tryd.func23, Tryd.ntmps23
    go_wp2
    all_goals
      go_loop [6] (fun i => ∃ k : Nat, k ≤ D.size ∧ i = .int .i64 k ∧ allFrom dgB D 0 = allFrom dgB D k) (fun i => D.size - (intOf i).toNat)
      case atStart => exact ⟨0, Nat.zero_le _, rfl, rfl⟩
      case round =>
        obtain ⟨k, hk, rfl, he⟩ := hrel
        have He := Lib.hid he
        clear he
        by_cases hlt : k < D.size
        · have Hc := Lib.hid (allFrom_step dgB D k hlt)
          cases hc : dgB D[k]
          · have HR : Hid (numR s.data.toList = (0, 3)) := Lib.hid (by
              have : formB s.data.toList = false := by rw [HFA.out, He.out, Hc.out, hc]; rfl
              simp [numR, this])
            go_wp2_with (go_at_call 41; refine (digit_any _ _).mono ?_; rintro e w' ⟨rfl, rfl⟩)
            go_ret2
            exact ⟨by rw [HR.out]; rfl, rfl⟩
          · go_wp2_with (go_at_call 41; refine (digit_any _ _).mono ?_; rintro e w' ⟨rfl, rfl⟩)
            go_round
            case rel => exact ⟨k + 1, by omega, by go_num, by rw [He.out, Hc.out, hc]; rfl⟩
            case measure => simp [intOf]; omega
        · have hform : formB s.data.toList = true := by rw [HFA.out, He.out, allFrom_end dgB D k (by omega)]
          by_cases h19 : 19 < (D.size : Int)
          · have HR : Hid (numR s.data.toList = (0, 4)) := Lib.hid (by
              have : fitB s.data.toList = false := long_unfit _ hform (by rw [HB.out]; simp; omega)
              simp [numR, hform, this])
            clear hform
            go_wp2
            go_ret2
            exact ⟨by rw [HR.out]; rfl, rfl⟩
          · have hsm := short_small _ hform (by rw [HB.out]; simp; omega)
            rw [HB.out] at hsm
            have hall := (form_body _ hform).2
            rw [HB.out] at hall
            have HALL := Lib.hid hall
            have HFO := Lib.hid hform
            have HSM := Lib.hid hsm
            clear hform hsm hall
            go_wp2
            go_loop [7, 8] (fun n i => ∃ (k : Nat) (a : Int), k ≤ D.size ∧ i = .int .i64 k ∧ n = .int .u64 a ∧ Hid (a = (dvF 0 (D.data.toList.take k) : Int))) (fun _ i => D.size - (intOf i).toNat)
            case atStart => exact ⟨0, 0, Nat.zero_le _, rfl, rfl, Lib.hid rfl⟩
            case round =>
              obtain ⟨k, a, hk, rfl, rfl, HA⟩ := hrel
              by_cases hlt : k < D.size
              · obtain ⟨e1, e2, e3, e4, e5⟩ := num_step D k a hlt HALL.out (by omega) HA.out
                have HE5 := Lib.hid e5
                clear e5
                go_wp2
                go_round
                case rel => exact ⟨k + 1, _, by omega, by go_num, rfl, HE5⟩
                case measure => simp [intOf]; omega
              · have hka : a = (dvF 0 D.data.toList : Int) := by
                  have := HA.out
                  rw [List.take_of_length_le (by simp; omega)] at this
                  exact this
                by_cases hfit : a ≤ 9223372036854775808
                · have HR : Hid (numR s.data.toList = (-a, 0)) := Lib.hid (by
                    have h1 : fitB s.data.toList = true := by rw [fitB, HNG.out, HB.out]; simp; omega
                    rw [numR, HFO.out, h1, valI, HNG.out, HB.out, hka]; rfl)
                  have ha1 : 1 ≤ a := num_pos s.data.toList D.data.toList HFO.out HNG.out HB.out a hka
                  obtain ⟨e1, e2, e3, e4⟩ := num_neg a ha1 hfit
                  clear hka
                  go_wp2
                  go_ret2
                  refine ⟨?_, rfl⟩
                  rw [HR.out]
                  show Ending.returned (.tuple #[.int .i64 (-(a - 1) - 1), .int .i64 0]) = _
                  rw [show -(a - 1) - 1 = -a from by omega]
                · have HR : Hid (numR s.data.toList = (0, 4)) := Lib.hid (by
                    have h1 : fitB s.data.toList = false := by rw [fitB, HNG.out, HB.out]; simp; omega
                    rw [numR, HFO.out, h1]; rfl)
                  clear hka
                  go_wp2
                  go_ret2
                  exact ⟨by rw [HR.out]; rfl, rfl⟩
  · have c0 : ((s[0].toNat : Int) == 45) = false := by simp; omega
    have hb : bodyL s.data.toList = s.data.toList := by rw [bytes_cons1 s h0]; simp [bodyL, h45]
    have hng : negB s.data.toList = false := by rw [bytes_cons1 s h0]; simp [negB, h45]
    clear h45
    have hD0 := h0
    have hDs := hs
    have t1 := isEmpty_no s hD0
    have hE : s.data.toList.isEmpty = false := by rw [← ByteArray.toList_eq]; exact t1
    have hz := headZ_eq s hD0
    have h48 : (s.data.toList == [48]) = (decide (s.size = 1) && headZ s.data.toList) := by
      rw [hz, bytes_cons1 s h0]
      by_cases h1 : s.size = 1
      · have : s.data.toList.drop 1 = [] := List.drop_eq_nil_of_le (by simp; omega)
        rw [this]
        by_cases h2 : s[0].toNat = 48
        · have : s[0] = 48 := UInt8.toNat_inj.1 h2
          simp [h1, this]
        · have : ¬ s[0] = 48 := fun e => h2 (by rw [e]; rfl)
          simp [h1, h2, this]
      · have : s.data.toList.drop 1 ≠ [] := fun e => by have := congrArg List.length e; simp at this; omega
        rw [List.drop_one] at this
        simp [h1, this]
    have hf : formB s.data.toList = (allFrom dgB s 0 && (!headZ s.data.toList || s.data.toList == [48])) := by rw [formB, hb, hE]; rfl
    by_cases hlead : s[0].toNat = 48 ∧ 1 < s.size
    · have l1 : ((s[0].toNat : Int) == 48) = true := by simp; omega
      have HR : Hid (numR s.data.toList = (0, 3)) := Lib.hid (by
        have : formB s.data.toList = false := by rw [hf, h48, hz, hlead.1]; simp; intro _; omega
        simp [numR, this])
      have l2 : 1 < (s.size : Int) := by omega
      clear hb hng hE hz hf hlead h48
      go_enter Tryd.func23, Tryd.ntmps23
      go_wp2
      go_ret2
      exact ⟨by rw [HR.out]; rfl, rfl⟩
    have hfa : formB s.data.toList = allFrom dgB s 0 := by
      rw [hf, h48, hz]
      by_cases h1 : s[0].toNat = 48
      · have : s.size = 1 := by have : ¬ 1 < s.size := fun h => hlead ⟨h1, h⟩; omega
        simp [h1, this]
      · simp [h1]
    have l1 : ¬ (1 < (s.size : Int)) ∨ ((s[0].toNat : Int) == 48) = false := by
      by_cases h1 : s[0].toNat = 48
      · left; intro h; exact hlead ⟨h1, by omega⟩
      · right; simp; omega
    have HFA := Lib.hid hfa
    have HB := Lib.hid hb
    have HNG := Lib.hid hng
    clear hb hng hE hz hf hlead hfa h48
    rcases l1 with l1 | l1
    all_goals
      go_enter Tryd.func23, Tryd.ntmps23
      go_wp2
      all_goals
        go_loop [6] (fun i => ∃ k : Nat, k ≤ s.size ∧ i = .int .i64 k ∧ allFrom dgB s 0 = allFrom dgB s k) (fun i => s.size - (intOf i).toNat)
        case atStart => exact ⟨0, Nat.zero_le _, rfl, rfl⟩
        case round =>
          obtain ⟨k, hk, rfl, he⟩ := hrel
          have He := Lib.hid he
          clear he
          by_cases hlt : k < s.size
          · have Hc := Lib.hid (allFrom_step dgB s k hlt)
            cases hc : dgB s[k]
            · have HR : Hid (numR s.data.toList = (0, 3)) := Lib.hid (by
                have : formB s.data.toList = false := by rw [HFA.out, He.out, Hc.out, hc]; rfl
                simp [numR, this])
              go_wp2_with (go_at_call 41; refine (digit_any _ _).mono ?_; rintro e w' ⟨rfl, rfl⟩)
              go_ret2
              exact ⟨by rw [HR.out]; rfl, rfl⟩
            · go_wp2_with (go_at_call 41; refine (digit_any _ _).mono ?_; rintro e w' ⟨rfl, rfl⟩)
              go_round
              case rel => exact ⟨k + 1, by omega, by go_num, by rw [He.out, Hc.out, hc]; rfl⟩
              case measure => simp [intOf]; omega
          · have hform : formB s.data.toList = true := by rw [HFA.out, He.out, allFrom_end dgB s k (by omega)]
            by_cases h19 : 19 < (s.size : Int)
            · have HR : Hid (numR s.data.toList = (0, 4)) := Lib.hid (by
                have : fitB s.data.toList = false := long_unfit _ hform (by rw [HB.out]; simp; omega)
                simp [numR, hform, this])
              clear hform
              go_wp2
              go_ret2
              exact ⟨by rw [HR.out]; rfl, rfl⟩
            · have hsm := short_small _ hform (by rw [HB.out]; simp; omega)
              rw [HB.out] at hsm
              have hall := (form_body _ hform).2
              rw [HB.out] at hall
              have HALL := Lib.hid hall
              have HFO := Lib.hid hform
              have HSM := Lib.hid hsm
              clear hform hsm hall
              go_wp2
              go_loop [7, 8] (fun n i => ∃ (k : Nat) (a : Int), k ≤ s.size ∧ i = .int .i64 k ∧ n = .int .u64 a ∧ Hid (a = (dvF 0 (s.data.toList.take k) : Int))) (fun _ i => s.size - (intOf i).toNat)
              case atStart => exact ⟨0, 0, Nat.zero_le _, rfl, rfl, Lib.hid rfl⟩
              case round =>
                obtain ⟨k, a, hk, rfl, rfl, HA⟩ := hrel
                by_cases hlt : k < s.size
                · obtain ⟨e1, e2, e3, e4, e5⟩ := num_step s k a hlt HALL.out (by omega) HA.out
                  have HE5 := Lib.hid e5
                  clear e5
                  go_wp2
                  go_round
                  case rel => exact ⟨k + 1, _, by omega, by go_num, rfl, HE5⟩
                  case measure => simp [intOf]; omega
                · have hka : a = (dvF 0 s.data.toList : Int) := by
                    have := HA.out
                    rw [List.take_of_length_le (by simp; omega)] at this
                    exact this
                  by_cases hfit : 9223372036854775808 ≤ a
                  · have HR : Hid (numR s.data.toList = (0, 4)) := Lib.hid (by
                      have h1 : fitB s.data.toList = false := by rw [fitB, HNG.out, HB.out]; simp; omega
                      rw [numR, HFO.out, h1]; rfl)
                    clear hka
                    go_wp2
                    go_ret2
                    exact ⟨by rw [HR.out]; rfl, rfl⟩
                  · have HR : Hid (numR s.data.toList = (a, 0)) := Lib.hid (by
                      have h1 : fitB s.data.toList = true := by rw [fitB, HNG.out, HB.out]; simp; omega
                      rw [numR, HFO.out, h1, valI, HNG.out, HB.out, hka]; rfl)
                    have e1 : wrap64 a = a := by have : 0 ≤ a := by omega
                                                 unfold wrap64; omega
                    clear hka
                    go_wp2
                    go_ret2
                    exact ⟨by rw [HR.out]; simp only [e1]; rfl, rfl⟩
end Go.Proofs.YtcdpcbdmnmipcaaDoor
