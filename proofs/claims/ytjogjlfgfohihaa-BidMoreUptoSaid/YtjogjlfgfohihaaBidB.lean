/- Worth; lists compared. -/
import Derived.Test.YtjogjlfgfohihaaBidA
namespace Go.Proofs.Ytjogjlfgfohihaa
open Go.RowKit Go.Shelf
set_option linter.unusedSimpArgs false
set_option linter.unusedVariables false

theorem sumK {l : List Int} (h : RgtP l) {k : Nat} {x : Int} (hx : l[k]? = some x) : sumI (l.take (k + 1)) = sumI (l.take k) + x ∧ (0 ≤ sumI (l.take k) ∧ sumI (l.take k) ≤ 1098412116148224) ∧ 0 ≤ x ∧ x ≤ 1099511627776 := by
  refine ⟨sumI_snoc l k x hx, ?_, h.mem (List.mem_of_getElem? hx)⟩
  have := wrF_in h k
  omega
theorem wrF_all {l : List Int} {n : Int} (h : (l.length : Int) < n) : wrF l n = sumI (l.take l.length) := by
  unfold wrF
  rw [List.take_length, List.take_of_length_le (by omega)]
set_option maxRecDepth 100000 in
set_option maxHeartbeats 4000000 in
theorem worth_any (A : Option Addr) (c : Nat) (l : List Int) (n : Int) (w : World) (hc : l.length ≤ c) (hP : RgtP l) (hL : IntR w (.slice A l.length c) l) :
    Calls Try.prog 16 #[.slice A l.length c, .int .i64 n] w fun e w' => e = .returned (.int .i64 (wrF l n)) ∧ Below w.heap.size w w' := by
  have h999 := hP.1
  have HL := Lib.hid hL
  have HK : Hid (∀ (k : Nat) (x : Int), l[k]? = some x → sumI (l.take (k + 1)) = sumI (l.take k) + x ∧ (0 ≤ sumI (l.take k) ∧ sumI (l.take k) ≤ 1098412116148224) ∧ 0 ≤ x ∧ x ≤ 1099511627776) := Lib.hid (fun k x => sumK hP)
  clear hL hP
  by_cases h0 : n < 0
  · have e1 : wrF l n = 0 := by
      unfold wrF; rw [show n.toNat = 0 by omega]; rfl
    rw [e1]
    go_enter Try.func16, Try.ntmps16
    go_wp2
    go_loopw [5, 16] (fun s vi wr => s = .int .i64 0 ∧ vi = .int .i64 0 ∧ wr = w) (fun _ vi _ => 0)
    case atStart => exact ⟨rfl, rfl, rfl⟩
    case round =>
      obtain ⟨rfl, rfl, rfl⟩ := hrel
      go_wp2
      go_ret
      exact ⟨rfl, Below.refl _ _⟩
  · obtain ⟨t, ht⟩ : ∃ t : Nat, t = if (l.length : Int) < n then l.length else n.toNat := ⟨_, rfl⟩
    have HT : Hid (wrF l n = sumI (l.take t)) := Lib.hid (by
      rw [ht]
      split
      · exact wrF_all (by assumption)
      · rfl)
    have htl : t ≤ l.length := by rw [ht]; split <;> omega
    rw [HT.out]
    by_cases h1 : (l.length : Int) < n
    · rw [if_pos h1] at ht
      subst ht
      clear htl
      go_enter Try.func16, Try.ntmps16
      go_wp2
      go_loopw [5, 16] (fun s vi wr => ∃ k : Nat, k ≤ l.length ∧ vi = .int .i64 k ∧ s = .int .i64 (sumI (l.take k)) ∧ Below w.heap.size w wr) (fun _ vi _ => l.length - (intOf vi).toNat)
      case atStart => exact ⟨0, Nat.zero_le _, rfl, rfl, Below.refl _ _⟩
      case round =>
        obtain ⟨k, hk, rfl, rfl, hb⟩ := hrel
        by_cases hlt : k < l.length
        · obtain ⟨x, hka⟩ : ∃ x, l[k]? = some x := ⟨_, List.getElem?_eq_getElem hlt⟩
          obtain ⟨b, off, e1, hgl, ha⟩ := row_get (HL.out.more hb) hka
          cases e1
          have i2 : (k : Int) < (l.length : Int) := by omega
          have z0 := ha 0 _ rfl
          rw [Nat.mul_one, Nat.add_zero] at z0
          obtain ⟨g1, g2, g3⟩ := HK.out k x hka
          have HG := Lib.hid g1
          clear ha hgl hka g1
          generalize sumI (l.take k) = u at *
          go_wp2
          go_roundw
          case rel => exact ⟨k + 1, by omega, by go_num, by rw [HG.out], hb⟩
          case measure => simp [intOf]; omega
        · have HR : Hid (sumI (l.take k) = sumI (l.take l.length)) := Lib.hid (by rw [show l.length = k by omega])
          go_wp2
          go_ret
          exact ⟨ret_int HR.out, hb⟩
    · rw [if_neg h1] at ht
      have hnt : n = (t : Int) := by omega
      clear ht
      subst hnt
      go_enter Try.func16, Try.ntmps16
      go_wp2
      go_loopw [5, 16] (fun s vi wr => ∃ k : Nat, k ≤ t ∧ vi = .int .i64 k ∧ s = .int .i64 (sumI (l.take k)) ∧ Below w.heap.size w wr) (fun _ vi _ => t - (intOf vi).toNat)
      case atStart => exact ⟨0, Nat.zero_le _, rfl, rfl, Below.refl _ _⟩
      case round =>
        obtain ⟨k, hk, rfl, rfl, hb⟩ := hrel
        by_cases hlt : k < t
        · obtain ⟨x, hka⟩ : ∃ x, l[k]? = some x := ⟨_, List.getElem?_eq_getElem (by omega)⟩
          obtain ⟨b, off, e1, hgl, ha⟩ := row_get (HL.out.more hb) hka
          cases e1
          have i2 : (k : Int) < (t : Int) := by omega
          have z0 := ha 0 _ rfl
          rw [Nat.mul_one, Nat.add_zero] at z0
          obtain ⟨g1, g2, g3⟩ := HK.out k x hka
          have HG := Lib.hid g1
          clear ha hgl hka g1
          generalize sumI (l.take k) = u at *
          go_wp2
          go_roundw
          case rel => exact ⟨k + 1, by omega, by go_num, by rw [HG.out], hb⟩
          case measure => simp [intOf]; omega
        · have HR : Hid (sumI (l.take k) = sumI (l.take t)) := Lib.hid (by rw [show t = k by omega])
          go_wp2
          go_ret
          exact ⟨ret_int HR.out, hb⟩
set_option maxRecDepth 100000 in
set_option maxHeartbeats 4000000 in
theorem rworth_any (A : Option Addr) (c : Nat) (l : List Int) (n : Int) (w : World) (hP : RgtP l) (hL : IntR w (.slice A l.length c) l) :
    Calls Try.prog 17 #[.slice A l.length c, .int .i64 n] w fun e w' => e = .returned (.int .i64 (wrF l n)) ∧ Below w.heap.size w w' := by
  have h999 := hP.1
  have HL := Lib.hid hL
  have HK : Hid (∀ (k : Nat) (x : Int), l[k]? = some x → sumI (l.take (k + 1)) = sumI (l.take k) + x ∧ (0 ≤ sumI (l.take k) ∧ sumI (l.take k) ≤ 1098412116148224) ∧ 0 ≤ x ∧ x ≤ 1099511627776) := Lib.hid (fun k x => sumK hP)
  obtain ⟨t, ht⟩ : ∃ t : Nat, t = if (l.length : Int) < n then l.length else n.toNat := ⟨_, rfl⟩
  have HT : Hid (wrF l n = sumI (l.take t)) := Lib.hid (by
    rw [ht]
    split
    · exact wrF_all (by assumption)
    · rfl)
  rw [HT.out]
  have htl : t ≤ l.length := by rw [ht]; split <;> omega
  have htn : ∀ k : Nat, k < t → (k : Int) < n := fun k hk => by rw [ht] at hk; split at hk <;> omega
  have htm : ∀ k : Nat, t ≤ k → k < l.length → ¬ (k : Int) < n := fun k hk h2 => by rw [ht] at hk; split at hk <;> omega
  have HTN := Lib.hid htn
  have HTM := Lib.hid htm
  clear hL hP ht htn htm
  go_enter Try.func17, Try.ntmps17
  go_wp2
  go_loopw [5, 6] (fun s vi wr => ∃ k : Nat, k ≤ t ∧ vi = .int .i64 k ∧ s = .int .i64 (sumI (l.take k)) ∧ Below w.heap.size w wr) (fun _ vi _ => t - (intOf vi).toNat)
  case atStart => exact ⟨0, Nat.zero_le _, rfl, rfl, Below.refl _ _⟩
  case round =>
    obtain ⟨k, hk, rfl, rfl, hb⟩ := hrel
    by_cases hlt : k < t
    · obtain ⟨x, hka⟩ : ∃ x, l[k]? = some x := ⟨_, List.getElem?_eq_getElem (by omega)⟩
      obtain ⟨b, off, e1, hgl, ha⟩ := row_get (HL.out.more hb) hka
      cases e1
      have i2 : (k : Int) < (l.length : Int) := by omega
      have i3 := HTN.out k hlt
      have z0 := ha 0 _ rfl
      rw [Nat.mul_one, Nat.add_zero] at z0
      obtain ⟨g1, g2, g3⟩ := HK.out k x hka
      have HG := Lib.hid g1
      clear ha hgl hka g1
      generalize sumI (l.take k) = u at *
      go_wp2
      go_roundw
      case rel => exact ⟨k + 1, by omega, by go_num, by rw [HG.out], hb⟩
      case measure => simp [intOf]; omega
    · have HR : Hid (sumI (l.take k) = sumI (l.take t)) := Lib.hid (by rw [show t = k by omega])
      by_cases h2 : k < l.length
      · have i2 : (k : Int) < (l.length : Int) := by omega
        have i3 := HTM.out k (by omega) h2
        go_wp2
        go_ret
        exact ⟨ret_int HR.out, hb⟩
      · have i2 : ¬ (k : Int) < (l.length : Int) := by omega
        go_wp2
        go_ret
        exact ⟨ret_int HR.out, hb⟩
set_option maxRecDepth 100000 in
set_option maxHeartbeats 4000000 in
theorem same_any (A : Option Addr) (c : Nat) (l : List Int) (B : Option Addr) (e : Nat) (m : List Int) (w : World) (hl : l.length ≤ 100000) (hm : m.length ≤ 100000) (hL : IntR w (.slice A l.length c) l) (hM : IntR w (.slice B m.length e) m) :
    Calls Try.prog 11 #[.slice A l.length c, .slice B m.length e] w fun e w' => e = .returned (.bool (l == m)) ∧ Below w.heap.size w w' := by
  by_cases hlen : l.length = m.length
  · have HL := Lib.hid hL
    have HM := Lib.hid hM
    have HY : Hid ((∀ i x y, i < l.length → l[i]? = some x → m[i]? = some y → x = y) → (l == m) = true) := Lib.hid (fun h => by
      rw [beq_iff_eq]
      apply List.ext_getElem hlen
      intro i h1 h2
      exact h i _ _ h1 (List.getElem?_eq_getElem h1) (List.getElem?_eq_getElem h2))
    have HN : Hid (∀ (i : Nat) (x y : Int), l[i]? = some x → m[i]? = some y → x ≠ y → (l == m) = false) := Lib.hid (fun i x y hx hy hne => by
      rw [beq_eq_false_iff_ne]
      rintro rfl
      rw [hx] at hy
      exact hne (Option.some.inj hy))
    generalize (l == m) = r at *
    have HQ := Lib.hid hlen
    clear hL hM
    rw [← hlen] at hm ⊢
    rw [← hlen] at HM
    clear hlen
    go_enter Try.func11, Try.ntmps11
    go_wp2
    go_loopw [5] (fun vi wr => ∃ k : Nat, k ≤ l.length ∧ vi = .int .i64 k ∧ Hid (∀ i x y, i < k → l[i]? = some x → m[i]? = some y → x = y) ∧ Below w.heap.size w wr) (fun vi _ => l.length - (intOf vi).toNat)
    case atStart => exact ⟨0, Nat.zero_le _, rfl, Lib.hid (fun i _ _ h => absurd h (Nat.not_lt_zero _)), Below.refl _ _⟩
    case round =>
      obtain ⟨k, hk, rfl, HK, hb⟩ := hrel
      by_cases hlt : k < l.length
      · obtain ⟨x, hka⟩ : ∃ x, l[k]? = some x := ⟨_, List.getElem?_eq_getElem hlt⟩
        obtain ⟨y, hkb⟩ : ∃ y, m[k]? = some y := ⟨_, List.getElem?_eq_getElem (by rw [← HQ.out]; exact hlt)⟩
        obtain ⟨b, off, e1, hgl, ha⟩ := row_get (HL.out.more hb) hka
        cases e1
        obtain ⟨b', off', e1', hgl', ha'⟩ := row_get (HM.out.more hb) hkb
        cases e1'
        have i2 : (k : Int) < (l.length : Int) := by omega
        have z0 := ha 0 _ rfl
        have z1 := ha' 0 _ rfl
        rw [Nat.mul_one, Nat.add_zero] at z0 z1
        have HA := Lib.hid hka
        have HB := Lib.hid hkb
        clear ha hgl hka ha' hgl' hkb
        by_cases hxy : x = y
        · have HS : Hid (∀ i x y, i < k + 1 → l[i]? = some x → m[i]? = some y → x = y) := Lib.hid (fun i a b hi h1 h2 => by
            by_cases e : i = k
            · subst e; rw [HA.out] at h1; rw [HB.out] at h2; cases h1; cases h2; exact hxy
            · exact HK.out i a b (by omega) h1 h2)
          have g0 : (x != y) = false := by simp [hxy]
          clear hxy HA HB
          go_wp2
          go_quiet (fail)
          go_wp2
          go_roundw
          case rel => exact ⟨k + 1, by omega, by go_num, HS, below_drewN hb _⟩
          case measure => simp [intOf]; omega
        · have HR := Lib.hid (HN.out k x y HA.out HB.out hxy)
          have g0 : (x != y) = true := by simp [hxy]
          clear hxy HA HB
          go_wp2
          go_quiet (fail)
          go_wp2
          go_ret
          exact ⟨ret_bool HR.out.symm, below_drewN hb _⟩
      · have HR := Lib.hid (HY.out (fun i x y h => HK.out i x y (by omega)))
        have i2 : ¬ (k : Int) < (l.length : Int) := by omega
        go_wp2
        go_ret
        exact ⟨ret_bool HR.out.symm, hb⟩
  · have e1 : (l == m) = false := by rw [beq_eq_false_iff_ne]; rintro rfl; exact hlen rfl
    rw [e1]
    clear hL hM e1
    have g0 : ((l.length : Int) != (m.length : Int)) = true := by simp; omega
    have g1 : (l.length : Int) ≠ (m.length : Int) := by omega
    go_enter Try.func11, Try.ntmps11
    go_wp2
    go_ret
    exact ⟨rfl, Below.refl _ _⟩
end Go.Proofs.Ytjogjlfgfohihaa
