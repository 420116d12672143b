/- Price, Right, Worth and the check of a demand, the program's and the reference's. -/
import Derived.Test.YtjogjlfgfohihaaBidP
namespace Go.Proofs.Ytjogjlfgfohihaa
open Go.RowKit Go.Shelf
set_option linter.unusedSimpArgs false
set_option linter.unusedVariables false

set_option maxRecDepth 100000 in
theorem price_any (A : Option Addr) (c : Nat) (l : List Int) (n : Int) (w : World) (hl : l.length < 9223372036854775808) (hL : IntR w (.slice A l.length c) l) :
    Calls Try.prog 13 #[.slice A l.length c, .int .i64 n] w fun e w' => e = .returned (.int .i64 (prF l n)) ∧ w' = w := by
  by_cases h1 : n < 1
  · have e1 : prF l n = -1 := by unfold prF; rw [if_pos h1]
    rw [e1]
    clear hL
    go_enter Try.func13, Try.ntmps13
    go_wp2
    go_ret
    exact ⟨rfl, rfl⟩
  · by_cases h2 : (l.length : Int) < n
    · have e1 : prF l n = 0 := by unfold prF; rw [if_neg h1, if_pos h2]
      rw [e1]
      clear hL
      go_enter Try.func13, Try.ntmps13
      go_wp2
      go_ret
      exact ⟨rfl, rfl⟩
    · obtain ⟨k, rfl⟩ : ∃ k : Nat, n = (k : Int) + 1 := ⟨(n - 1).toNat, by omega⟩
      have hk : k < l.length := by omega
      have hka : l[k]? = some l[k] := List.getElem?_eq_getElem hk
      have e1 : prF l ((k : Int) + 1) = l[k] := by
        unfold prF
        rw [if_neg h1, if_neg h2, show ((k : Int) + 1 - 1).toNat = k by omega, List.getD_eq_getElem?_getD, hka]
        rfl
      rw [e1]
      generalize l[k] = x at hka
      obtain ⟨b, off, e2, hgl, ha⟩ := row_get hL hka
      cases e2
      have z0 := ha 0 _ rfl
      rw [Nat.mul_one, Nat.add_zero] at z0
      have s1 : (k : Int) + 1 - 1 = k := by omega
      clear ha hgl hka hL e1
      go_enter Try.func13, Try.ntmps13
      go_wp2
      go_ret
      exact ⟨rfl, rfl⟩
set_option maxRecDepth 100000 in
theorem rprice_any (A : Option Addr) (c : Nat) (l : List Int) (n : Int) (w : World) (hl : l.length < 9223372036854775808) (hL : IntR w (.slice A l.length c) l) :
    Calls Try.prog 14 #[.slice A l.length c, .int .i64 n] w fun e w' => e = .returned (.int .i64 (prF l n)) ∧ w' = w := by
  by_cases h1 : n < 1
  · have e1 : prF l n = -1 := by unfold prF; rw [if_pos h1]
    rw [e1]
    clear hL
    go_enter Try.func14, Try.ntmps14
    go_wp2
    go_ret
    exact ⟨rfl, rfl⟩
  · by_cases h2 : (l.length : Int) < n
    · have e1 : prF l n = 0 := by unfold prF; rw [if_neg h1, if_pos h2]
      rw [e1]
      clear hL
      go_enter Try.func14, Try.ntmps14
      go_wp2
      go_ret
      exact ⟨rfl, rfl⟩
    · obtain ⟨k, rfl⟩ : ∃ k : Nat, n = (k : Int) + 1 := ⟨(n - 1).toNat, by omega⟩
      have hk : k < l.length := by omega
      have hka : l[k]? = some l[k] := List.getElem?_eq_getElem hk
      have e1 : prF l ((k : Int) + 1) = l[k] := by
        unfold prF
        rw [if_neg h1, if_neg h2, show ((k : Int) + 1 - 1).toNat = k by omega, List.getD_eq_getElem?_getD, hka]
        rfl
      rw [e1]
      generalize l[k] = x at hka
      obtain ⟨b, off, e2, hgl, ha⟩ := row_get hL hka
      cases e2
      have z0 := ha 0 _ rfl
      rw [Nat.mul_one, Nat.add_zero] at z0
      have s1 : (k : Int) + 1 - 1 = k := by omega
      clear ha hgl hka hL e1
      go_enter Try.func14, Try.ntmps14
      go_wp2
      go_ret
      exact ⟨rfl, rfl⟩

set_option maxRecDepth 100000 in
theorem check_any (d : Dm) (w : World) : Calls Try.prog 21 #[.agg #[.int .i64 d.v, .int .i64 d.c]] w fun e w' => e = .returned (.int .i64 (dmE d)) ∧ Below w.heap.size w w' := by
  have hbA := bel_alloc w (.cells #[.int .i64 d.v, .int .i64 d.c] 40)
  have q0 := (cells_new w #[.int .i64 d.v, .int .i64 d.c] 40 0).trans (show _ = some (Value.int .i64 d.v) from rfl)
  have q1 := (cells_new w #[.int .i64 d.v, .int .i64 d.c] 40 1).trans (show _ = some (Value.int .i64 d.c) from rfl)
  obtain ⟨v, c⟩ := d
  dsimp only at *
  have HE : Hid (dmE ⟨v, c⟩ = if v < 0 ∨ 1099511627776 < v then 11 else if c < 0 then 2 else 0) := Lib.hid rfl
  have HB := Lib.hid hbA
  clear hbA
  generalize dmE ⟨v, c⟩ = r at *
  by_cases h1 : v < 0
  · have HR : Hid (r = 11) := Lib.hid (by rw [HE.out, if_pos (.inl h1)])
    clear HE
    go_enter Try.func21, Try.ntmps21
    go_wp2
    go_ret
    exact ⟨ret_int HR.out.symm, HB.out⟩
  · by_cases h2 : 1099511627776 < v
    · have HR : Hid (r = 11) := Lib.hid (by rw [HE.out, if_pos (.inr h2)])
      clear HE
      go_enter Try.func21, Try.ntmps21
      go_wp2
      go_ret
      exact ⟨ret_int HR.out.symm, HB.out⟩
    · by_cases h3 : c < 0
      · have HR : Hid (r = 2) := Lib.hid (by rw [HE.out, if_neg (by omega), if_pos h3])
        clear HE
        go_enter Try.func21, Try.ntmps21
        go_wp2
        go_ret
        exact ⟨ret_int HR.out.symm, HB.out⟩
      · have HR : Hid (r = 0) := Lib.hid (by rw [HE.out, if_neg (by omega), if_neg h3])
        clear HE
        go_enter Try.func21, Try.ntmps21
        go_wp2
        go_ret
        exact ⟨ret_int HR.out.symm, HB.out⟩

/-- the price before the price k -/
def pvA (a : List Int) (k : Nat) : Int := if k = 0 then 1099511627776 else a.getD (k - 1) 0
/-- the first k prices are right -/
def RgtK (a : List Int) (k : Nat) : Prop := ∀ (i : Nat) (x : Int), i < k → a[i]? = some x → 0 ≤ x ∧ x ≤ 1099511627776 ∧ ∀ y, a[i - 1]? = some y → x ≤ y
theorem RgtK.zero (a : List Int) : RgtK a 0 := fun i x h => absurd h (Nat.not_lt_zero _)
theorem pvA_in {a : List Int} {k : Nat} (h : RgtK a k) (hk : k < a.length) : pvA a k ≤ 1099511627776 := by
  unfold pvA
  split
  · omega
  · rw [List.getD_eq_getElem?_getD, List.getElem?_eq_getElem (show k - 1 < a.length by omega)]
    exact (h (k - 1) _ (by omega) (List.getElem?_eq_getElem (show k - 1 < a.length by omega))).2.1
theorem RgtK.step {a : List Int} {k : Nat} {x : Int} (h : RgtK a k) (hx : a[k]? = some x) (h0 : ¬ x < 0) (h1 : ¬ pvA a k < x) : RgtK a (k + 1) := by
  have hk := (List.getElem?_eq_some_iff.1 hx).1
  have h2 := pvA_in h hk
  intro i y hi hy
  by_cases e : i = k
  · subst e
    rw [hx] at hy; cases hy
    refine ⟨by omega, by omega, fun z hz => ?_⟩
    unfold pvA at h1
    split at h1
    · rename_i h3; subst h3; rw [Nat.zero_sub, hx] at hz; cases hz; exact Int.le_refl _
    · rw [List.getD_eq_getElem?_getD, hz] at h1
      simp only [Option.getD_some] at h1
      omega
  · exact h i y (by omega) hy
theorem RgtK.bad {a : List Int} {k : Nat} {x : Int} (hx : a[k]? = some x) (h : x < 0 ∨ pvA a k < x) : ¬ RgtP a := by
  intro ⟨_, hp⟩
  have h1 := hp k x hx
  have hk := (List.getElem?_eq_some_iff.1 hx).1
  rcases h with h | h
  · omega
  · unfold pvA at h
    split at h
    · omega
    · have hz : a[k - 1]? = some a[k - 1] := List.getElem?_eq_getElem (by omega)
      rw [List.getD_eq_getElem?_getD, hz] at h
      have := h1.2.2 _ hz
      simp only [Option.getD_some] at h
      omega
theorem pvA_succ {a : List Int} {k : Nat} {x : Int} (hx : a[k]? = some x) : pvA a (k + 1) = x := by
  unfold pvA
  rw [if_neg (by omega), Nat.add_sub_cancel, List.getD_eq_getElem?_getD, hx]; rfl
theorem RgtK.all {a : List Int} {k : Nat} (h : RgtK a k) (hk : a.length ≤ k) (hl : a.length ≤ 999) : RgtP a :=
  ⟨hl, fun i x hx => h i x (by have := (List.getElem?_eq_some_iff.1 hx).1; omega) hx⟩

set_option maxRecDepth 100000 in
set_option maxHeartbeats 4000000 in
theorem right_any (A : Option Addr) (c : Nat) (l : List Int) (w : World) (hl : l.length < 9223372036854775808) (hL : IntR w (.slice A l.length c) l) :
    Calls Try.prog 12 #[.slice A l.length c] w fun e w' => e = .returned (.bool (rgtC l)) ∧ Below w.heap.size w w' := by
  by_cases h1 : (999 : Int) < l.length
  · have e1 : rgtC l = false := rgtC_no (fun h => by have := h.1; omega)
    rw [e1]
    clear hL
    go_enter Try.func12, Try.ntmps12
    go_wp2
    go_ret
    exact ⟨rfl, Below.refl _ _⟩
  · have HL := Lib.hid hL
    have HY : Hid (∀ k, RgtK l k → l.length ≤ k → rgtC l = true) := Lib.hid (fun k h hk => (rgtC_iff l).2 (h.all hk (by omega)))
    have HN : Hid (∀ (k : Nat) (x : Int), l[k]? = some x → (x < 0 ∨ pvA l k < x) → rgtC l = false) := Lib.hid (fun k x hx h => rgtC_no (RgtK.bad hx h))
    generalize rgtC l = r at *
    clear hL
    go_enter Try.func12, Try.ntmps12
    go_wp2
    go_loopw [3, 11] (fun v3 vi wr => ∃ k : Nat, k ≤ l.length ∧ vi = .int .i64 k ∧ v3 = .int .i64 (pvA l k) ∧ Hid (RgtK l k) ∧ Below w.heap.size w wr) (fun _ vi _ => l.length - (intOf vi).toNat)
    case atStart => exact ⟨0, Nat.zero_le _, rfl, rfl, Lib.hid (RgtK.zero l), Below.refl _ _⟩
    case round =>
      obtain ⟨k, hk, rfl, rfl, HK, hb⟩ := hrel
      by_cases hlt : k < l.length
      · obtain ⟨x, hka⟩ : ∃ x, l[k]? = some x := ⟨_, List.getElem?_eq_getElem hlt⟩
        obtain ⟨b, off, e1, hgl, ha⟩ := row_get (HL.out.more hb) hka
        cases e1
        have i2 : (k : Int) < (l.length : Int) := by omega
        have z0 := ha 0 _ rfl
        rw [Nat.mul_one, Nat.add_zero] at z0
        have HA := Lib.hid hka
        have HP := Lib.hid (pvA_succ hka)
        clear ha hgl hka
        generalize hp : pvA l k = p at *
        by_cases hx0 : x < 0
        · have HR := Lib.hid (HN.out k x HA.out (.inl hx0))
          go_wp2
          go_ret
          exact ⟨ret_bool HR.out.symm, hb⟩
        · by_cases hx1 : p < x
          · have HR := Lib.hid (HN.out k x HA.out (.inr (by rw [hp]; exact hx1)))
            go_wp2
            go_ret
            exact ⟨ret_bool HR.out.symm, hb⟩
          · have HS := Lib.hid (HK.out.step HA.out hx0 (by rw [hp]; exact hx1))
            clear hp
            go_wp2
            go_roundw
            case rel => exact ⟨k + 1, by omega, by go_num, by rw [HP.out], HS, hb⟩
            case measure => simp [intOf]; omega
      · have HR := Lib.hid (HY.out k HK.out (by omega))
        go_wp2
        go_ret
        exact ⟨ret_bool HR.out.symm, hb⟩
set_option maxRecDepth 100000 in
set_option maxHeartbeats 4000000 in
theorem rright_any (A : Option Addr) (c : Nat) (l : List Int) (w : World) (hl : l.length < 9223372036854775808) (hL : IntR w (.slice A l.length c) l) :
    Calls Try.prog 15 #[.slice A l.length c] w fun e w' => e = .returned (.bool (rgtC l)) ∧ Below w.heap.size w w' := by
  have HL := Lib.hid hL
  have HY : Hid (∀ k, RgtK l k → l.length ≤ k → rgtC l = decide ((l.length : Int) ≤ 999)) := Lib.hid (fun k h hk => by
    by_cases h2 : (l.length : Int) ≤ 999
    · rw [(rgtC_iff l).2 (h.all hk (by omega))]; simp [h2]
    · rw [rgtC_no (fun h => by have := h.1; omega)]; simp [h2])
  have HN : Hid (∀ (k : Nat) (x : Int), l[k]? = some x → (x < 0 ∨ pvA l k < x) → rgtC l = false) := Lib.hid (fun k x hx h => rgtC_no (RgtK.bad hx h))
  generalize rgtC l = r at *
  clear hL
  go_enter Try.func15, Try.ntmps15
  go_wp2
  go_loopw [3] (fun vi wr => ∃ k : Nat, k ≤ l.length ∧ vi = .int .i64 k ∧ Hid (RgtK l k) ∧ Below w.heap.size w wr) (fun vi _ => l.length - (intOf vi).toNat)
  case atStart => exact ⟨0, Nat.zero_le _, rfl, Lib.hid (RgtK.zero l), Below.refl _ _⟩
  case round =>
    obtain ⟨k, hk, rfl, HK, hb⟩ := hrel
    by_cases hlt : k < l.length
    · obtain ⟨x, hka⟩ : ∃ x, l[k]? = some x := ⟨_, List.getElem?_eq_getElem hlt⟩
      obtain ⟨b, off, e1, hgl, ha⟩ := row_get (HL.out.more hb) hka
      cases e1
      have i2 : (k : Int) < (l.length : Int) := by omega
      have z0 := ha 0 _ rfl
      rw [Nat.mul_one, Nat.add_zero] at z0
      have HA := Lib.hid hka
      have HPI := Lib.hid (pvA_in HK.out hlt)
      clear ha hgl
      by_cases hx0 : x < 0
      · have HR := Lib.hid (HN.out k x hka (.inl hx0))
        have g0 : decide (x < 0) = true := decide_eq_true hx0
        clear hka hx0
        go_wp2
        go_quiet (fail)
        go_wp2
        go_ret
        exact ⟨ret_bool HR.out.symm, below_drewN hb _⟩
      · by_cases hx1 : 1099511627776 < x
        · have HR := Lib.hid (HN.out k x hka (.inr (by have := HPI.out; omega)))
          have g0 : decide (x < 0) = false := decide_eq_false hx0
          have g1 : decide (1099511627776 < x) = true := decide_eq_true hx1
          clear hka hx0 hx1
          go_wp2
          go_quiet (fail)
          go_wp2
          go_ret
          exact ⟨ret_bool HR.out.symm, below_drewN hb _⟩
        · by_cases hk0 : 0 < k
          · obtain ⟨m, rfl⟩ : ∃ m, k = m + 1 := ⟨k - 1, by omega⟩
            obtain ⟨y, hkb⟩ : ∃ y, l[m]? = some y := ⟨_, List.getElem?_eq_getElem (by omega)⟩
            obtain ⟨b2, off2, e2, hgl2, ha2⟩ := row_get (HL.out.more hb) hkb
            cases e2
            have z1 := ha2 0 _ rfl
            rw [Nat.mul_one, Nat.add_zero] at z1
            have s1 : ((m + 1 : Nat) : Int) - 1 = m := by omega
            have i3 : (m : Int) < (l.length : Int) := by omega
            have e3 := pvA_succ hkb
            clear ha2 hgl2
            by_cases hx2 : y < x
            · have HR := Lib.hid (HN.out (m + 1) x hka (.inr (by rw [e3]; exact hx2)))
              have g0 : decide (x < 0) = false := decide_eq_false hx0
              have g1 : decide (1099511627776 < x) = false := decide_eq_false hx1
              have g2 : decide (y < x) = true := decide_eq_true hx2
              clear hka hkb e3 hx0 hx1 hx2
              go_wp2
              go_quiet (fail)
              go_wp2
              go_ret
              exact ⟨ret_bool HR.out.symm, below_drewN hb _⟩
            · have HS := Lib.hid (HK.out.step hka hx0 (by rw [e3]; exact hx2))
              have g0 : decide (x < 0) = false := decide_eq_false hx0
              have g1 : decide (1099511627776 < x) = false := decide_eq_false hx1
              have g2 : decide (y < x) = false := decide_eq_false hx2
              clear hka hkb e3 hx0 hx1 hx2
              go_wp2
              go_quiet (fail)
              go_wp2
              go_roundw
              case rel => exact ⟨m + 1 + 1, by omega, by go_num, HS, below_drewN hb _⟩
              case measure => simp [intOf]; omega
          · obtain rfl : k = 0 := by omega
            have HS := Lib.hid (HK.out.step hka hx0 (by have : pvA l 0 = 1099511627776 := rfl; omega))
            have g0 : decide (x < 0) = false := decide_eq_false hx0
            have g1 : decide (1099511627776 < x) = false := decide_eq_false hx1
            rw [Nat.add_zero] at z0
            clear hka hx0 hx1
            go_wp2
            go_quiet (fail)
            go_wp2
            go_roundw
            case rel => exact ⟨0 + 1, by omega, by go_num, HS, below_drewN hb _⟩
            case measure => simp [intOf]; omega
    · have HR := Lib.hid (HY.out k HK.out (by omega))
      go_wp2
      go_ret
      exact ⟨ret_bool HR.out.symm, hb⟩
end Go.Proofs.Ytjogjlfgfohihaa
