/- Weights, and the reference's share, walked. -/
import Derived.Test.YtalnocdgmcchaaaDoorMoneyE
namespace Go.Proofs.YtalnocdgmcchaaaDoor
open Go.RowKit
set_option linter.unusedSimpArgs false
set_option linter.unusedVariables false

def wsum (l : List Int) : Int := l.foldr (· + ·) 0
theorem wsum_cons (x : Int) (r : List Int) : wsum (x :: r) = x + wsum r := rfl
theorem wsum_nonneg : ∀ (l : List Int), (∀ x ∈ l, 0 ≤ x) → 0 ≤ wsum l
  | [], _ => by simp [wsum]
  | x :: r, h => by
    have h1 := h x (List.mem_cons_self ..)
    have h2 := wsum_nonneg r (fun y hy => h y (List.mem_cons_of_mem _ hy))
    rw [wsum_cons]; omega
theorem wsum_take_step (l : List Int) (k : Nat) (h : k < l.length) : wsum (l.take (k + 1)) = wsum (l.take k) + l[k] := by
  rw [List.take_succ_eq_append_getElem h]
  generalize l.take k = t
  generalize l[k] = x
  induction t with
  | nil => simp [wsum]
  | cons y r ih => rw [List.cons_append, wsum_cons, wsum_cons, ih]; omega
theorem wsum_take_le (l : List Int) (k : Nat) (h : ∀ x ∈ l, 0 ≤ x) : wsum (l.take k) ≤ wsum l := by
  conv => rhs; rw [← List.take_append_drop k l]
  have h2 : ∀ (a b : List Int), wsum (a ++ b) = wsum a + wsum b := by
    intro a b
    induction a with
    | nil => simp [wsum]
    | cons y r ih => rw [List.cons_append, wsum_cons, wsum_cons, ih]; omega
  rw [h2]
  have := wsum_nonneg (l.drop k) (fun x hx => h x (List.mem_of_mem_drop hx))
  omega
/-- the sum of the weights, or the error -/
def weighR (l : List Int) : Int × Int := if l.any (· < 0) then (0, 2) else if wsum l > 1099511627776 then (0, 11) else if wsum l = 0 then (0, 2) else (wsum l, 0)
theorem any_neg {l : List Int} {k : Nat} (h : k < l.length) (h2 : l[k] < 0) : l.any (· < 0) = true := List.any_eq_true.2 ⟨l[k], List.getElem_mem h, by simpa using h2⟩
theorem no_neg {l : List Int} (h : ∀ j (hj : j < l.length), 0 ≤ l[j]) : l.any (· < 0) = false := by
  rw [List.any_eq_false]
  intro x hx
  obtain ⟨j, hj, rfl⟩ := List.mem_iff_getElem.1 hx
  have := h j hj
  simp; omega

set_option maxRecDepth 100000 in
set_option maxHeartbeats 2000000 in
theorem weigh_any (v : Value) (l : List Int) (w : World) (hv : IntL w v l) (hn : l.length ≤ 1000000) :
    Calls Tryd.prog 34 #[v] w fun e w' => e = .returned (.tuple #[.int .i64 (weighR l).1, .int .i64 (weighR l).2]) ∧ w = w' := by
  obtain ⟨A, c, rfl, hc⟩ := hv
  have HC := Lib.hid hc
  clear hc
  go_enter Tryd.func34, Tryd.ntmps34
  go_wp2
  go_loop [4, 9] (fun s i => ∃ (k : Nat) (acc : Int), k ≤ l.length ∧ i = .int .i64 k ∧ s = .int .i64 acc ∧ 0 ≤ acc ∧ acc ≤ 1099511627777 ∧ Hid (acc = min (wsum (l.take k)) 1099511627777) ∧ Hid (∀ j (hj : j < l.length), j < k → 0 ≤ l[j])) (fun _ i => l.length - (intOf i).toNat)
  case atStart => exact ⟨0, 0, Nat.zero_le _, rfl, rfl, by omega, by omega, Lib.hid (by rw [List.take_zero]; decide), Lib.hid (fun j _ h => by omega)⟩
  case round =>
    obtain ⟨k, acc, hk, rfl, rfl, ha0, ha1, HS, HN⟩ := hrel
    by_cases hlt : k < l.length
    · obtain ⟨b, o, rfl, hb, hcc⟩ : ∃ b o, A = some ⟨b, o, none⟩ ∧ b < w.heap.size ∧ ∀ i (h : i < l.length), w.cell? ⟨b, o + i, none⟩ = some (.int .i64 l[i]) := by
        rcases HC.out with h | h
        · rw [h] at hlt; simp at hlt
        · exact h
      have g1 := hcc k hlt
      have i1 : (k : Int) < (l.length : Int) := by omega
      clear hcc
      by_cases hneg : l[k] < 0
      · have HR : Hid (weighR l = (0, 2)) := Lib.hid (by rw [weighR, any_neg hlt hneg]; rfl)
        generalize l[k] = x at *
        go_wp2
        go_ret2
        exact ⟨by rw [HR.out]; rfl, rfl⟩
      · have HS2 : Hid (min (acc + min l[k] 1099511627777) 1099511627777 = min (wsum (l.take (k + 1))) 1099511627777) := Lib.hid (by
          have := HS.out
          rw [wsum_take_step l k hlt]
          omega)
        have HN2 : Hid (∀ j (hj : j < l.length), j < k + 1 → 0 ≤ l[j]) := Lib.hid (fun j hj hjk => by
          by_cases e : j = k
          · subst e; omega
          · exact HN.out j hj (by omega))
        clear HN
        generalize l[k] = x at *
        go_wp2
        go_round
        case rel => exact ⟨k + 1, _, by omega, by go_num, rfl, by omega, by omega, HS2, HN2⟩
        case measure => simp [intOf]; omega
    · have e : l.take k = l := List.take_of_length_le (by omega)
      have hA := no_neg (l := l) (fun j hj => HN.out j hj (by omega))
      have hS := HS.out
      rw [e] at hS
      by_cases h0 : acc = 0
      · have HR : Hid (weighR l = (0, 2)) := Lib.hid (by rw [weighR, hA, if_neg (by simp), if_neg (by omega), if_pos (by omega)])
        subst h0
        clear hS e hA
        go_wp2
        go_ret2
        exact ⟨by rw [HR.out]; rfl, rfl⟩
      by_cases h1 : acc = 1099511627777
      · have HR : Hid (weighR l = (0, 11)) := Lib.hid (by rw [weighR, hA, if_neg (by simp), if_pos (by omega)])
        subst h1
        clear hS e hA h0
        go_wp2
        go_ret2
        exact ⟨by rw [HR.out]; rfl, rfl⟩
      · have HR : Hid (weighR l = (acc, 0)) := Lib.hid (by rw [weighR, hA, if_neg (by simp), if_neg (by omega), if_neg (by omega)]; congr 1; omega)
        have hz0 : ((acc : Int) == 0) = false := by rw [beq_eq_false_iff_ne]; exact h0
        have hz1 : ((acc : Int) == 1099511627777) = false := by rw [beq_eq_false_iff_ne]; exact h1
        clear hS e hA h0 h1
        go_wp2
        go_ret2
        exact ⟨by rw [HR.out]; rfl, rfl⟩

set_option maxRecDepth 100000 in
set_option maxHeartbeats 2000000 in
theorem rweigh_any (v : Value) (l : List Int) (w : World) (hv : IntL w v l) (hn : l.length ≤ 1000000) :
    Calls Tryd.prog 37 #[v] w fun e w' => e = .returned (.tuple #[.int .i64 (weighR l).1, .int .i64 (weighR l).2]) ∧ ∃ n, w' = w.drewN n := by
  obtain ⟨A, c, rfl, hc⟩ := hv
  have HC := Lib.hid hc
  clear hc
  go_enter Tryd.func37, Tryd.ntmps37
  go_wp2
  go_loop [5] (fun i => ∃ (k : Nat), k ≤ l.length ∧ i = .int .i64 k ∧ Hid (∀ j (hj : j < l.length), j < k → 0 ≤ l[j])) (fun i => l.length - (intOf i).toNat)
  case atStart => exact ⟨0, Nat.zero_le _, rfl, Lib.hid (fun j _ h => by omega)⟩
  case round =>
    obtain ⟨k, hk, rfl, HN⟩ := hrel
    by_cases hlt : k < l.length
    · obtain ⟨b, o, rfl, hb, hcc⟩ : ∃ b o, A = some ⟨b, o, none⟩ ∧ b < w.heap.size ∧ ∀ i (h : i < l.length), w.cell? ⟨b, o + i, none⟩ = some (.int .i64 l[i]) := by
        rcases HC.out with h | h
        · rw [h] at hlt; simp at hlt
        · exact h
      have g1 := hcc k hlt
      have i1 : (k : Int) < (l.length : Int) := by omega
      clear hcc
      by_cases hneg : l[k] < 0
      · have HR : Hid (weighR l = (0, 2)) := Lib.hid (by rw [weighR, any_neg hlt hneg]; rfl)
        generalize l[k] = x at *
        go_wp2
        go_ret2
        exact ⟨by rw [HR.out]; rfl, 0, rfl⟩
      · have HN2 : Hid (∀ j (hj : j < l.length), j < k + 1 → 0 ≤ l[j]) := Lib.hid (fun j hj hjk => by
          by_cases e : j = k
          · subst e; omega
          · exact HN.out j hj (by omega))
        clear HN
        generalize l[k] = x at *
        go_wp2
        go_round
        case rel => exact ⟨k + 1, by omega, by go_num, HN2⟩
        case measure => simp [intOf]; omega
    · have HA := Lib.hid (no_neg (l := l) (fun j hj => HN.out j hj (by omega)))
      have HM : Hid (∀ x ∈ l, 0 ≤ x) := Lib.hid (fun x hx => by
        obtain ⟨j, hj, rfl⟩ := List.mem_iff_getElem.1 hx
        exact HN.out j hj (by omega))
      go_wp2
      go_loop [4, 6] (fun s i => ∃ (k : Nat) (acc : Int), k ≤ l.length ∧ i = .int .i64 k ∧ s = .int .i64 acc ∧ 0 ≤ acc ∧ acc ≤ 1099511627776 ∧ Hid (acc = wsum (l.take k))) (fun _ i => l.length - (intOf i).toNat)
      case atStart => exact ⟨0, 0, Nat.zero_le _, rfl, rfl, by omega, by omega, Lib.hid (by simp [wsum])⟩
      case round =>
        obtain ⟨k2, acc, hk2, rfl, rfl, ha0, ha1, HS⟩ := hrel
        by_cases hlt2 : k2 < l.length
        · obtain ⟨b, o, rfl, hb, hcc⟩ : ∃ b o, A = some ⟨b, o, none⟩ ∧ b < w.heap.size ∧ ∀ i (h : i < l.length), w.cell? ⟨b, o + i, none⟩ = some (.int .i64 l[i]) := by
            rcases HC.out with h | h
            · rw [h] at hlt2; simp at hlt2
            · exact h
          have g1 := hcc k2 hlt2
          have i1 : (k2 : Int) < (l.length : Int) := by omega
          have hnn := HM.out l[k2] (List.getElem_mem hlt2)
          have hst := wsum_take_step l k2 hlt2
          have hle := wsum_take_le l (k2 + 1) HM.out
          clear hcc
          by_cases hgt : l[k2] > 1099511627776 - acc
          · have HR : Hid (weighR l = (0, 11)) := Lib.hid (by
              have := HS.out
              rw [weighR, HA.out, if_neg (by simp), if_pos (by omega)])
            clear hst hle
            generalize l[k2] = x at *
            go_wp2
            go_ret2
            exact ⟨by rw [HR.out]; rfl, 0, rfl⟩
          · have HS2 : Hid (acc + l[k2] = wsum (l.take (k2 + 1))) := Lib.hid (by have := HS.out; omega)
            clear hst hle
            generalize l[k2] = x at *
            go_wp2
            go_round
            case rel => exact ⟨k2 + 1, acc + x, by omega, by go_num, rfl, by omega, by omega, HS2⟩
            case measure => simp [intOf]; omega
        · have hS := HS.out
          rw [List.take_of_length_le (by omega)] at hS
          by_cases h0 : acc = 0
          · have HR : Hid (weighR l = (0, 2)) := Lib.hid (by rw [weighR, HA.out, if_neg (by simp), if_neg (by omega), if_pos (by omega)])
            subst h0
            clear hS
            go_wp2
            go_ret2
            exact ⟨by rw [HR.out]; rfl, 0, rfl⟩
          · have HR : Hid (weighR l = (acc, 0)) := Lib.hid (by rw [weighR, HA.out, if_neg (by simp), if_neg (by omega), if_neg (by omega), hS])
            have hz0 : ((acc : Int) == 0) = false := by rw [beq_eq_false_iff_ne]; exact h0
            clear hS h0
            go_wp2
            go_ret2
            exact ⟨by rw [HR.out]; rfl, 0, rfl⟩

/-! ### the reference's share, bit by bit -/
theorem share_next {a w t q r k : Nat} (h : q * t + r = a / 2 ^ (k + 1) * w) : 2 * q * t + (2 * r + a / 2 ^ k % 2 * w) = a / 2 ^ k * w := by
  have e : a / 2 ^ (k + 1) = a / 2 ^ k / 2 := by rw [Nat.pow_succ, Nat.div_div_eq_div_mul]
  rw [e] at h
  generalize a / 2 ^ k = A at *
  have e2 : A * w = 2 * (A / 2 * w) + A % 2 * w := by
    conv => lhs; rw [← Nat.div_add_mod A 2]
    rw [Nat.add_mul, Nat.mul_assoc]
  rw [e2, ← h, Nat.mul_assoc]
  omega
theorem share_le {A w t q r : Nat} (h : q * t + r = A * w) (hw : w ≤ t) (ht : 0 < t) : q ≤ A := by
  have h1 : A * w ≤ A * t := Nat.mul_le_mul_left A hw
  rcases Nat.lt_or_ge A q with h2 | h2
  · exfalso
    have : (A + 1) * t ≤ q * t := Nat.mul_le_mul_right t h2
    rw [Nat.add_mul] at this
    omega
  · exact h2
theorem half_pow (j : Nat) : 2 ^ (j + 1) / 2 = 2 ^ j := by rw [Nat.pow_succ]; exact Nat.mul_div_cancel _ (by omega)
theorem pow_le40 {j : Nat} (h : j ≤ 40) : 2 ^ j ≤ 1099511627776 := by
  have := Nat.pow_le_pow_right (n := 2) (by omega) h
  simpa using this
set_option maxRecDepth 100000 in
set_option maxHeartbeats 2000000 in
theorem rshare_any (a x t : Nat) (w : World) (ha : a ≤ 1099511627776) (hx : x ≤ t) (ht : 0 < t) (ht2 : t ≤ 1099511627776) :
    Calls Tryd.prog 38 #[.int .i64 a, .int .i64 x, .int .i64 t] w fun e w' => e = .returned (.tuple #[.int .i64 ((a * x / t : Nat) : Int), .int .i64 ((a * x % t : Nat) : Int)]) ∧ w = w' := by
  go_enter Tryd.func38, Tryd.ntmps38
  go_wp2
  go_loop [8, 9, 10] (fun vq vr vb => ∃ (k q r B : Nat), k ≤ 41 ∧ vq = .int .i64 q ∧ vr = .int .i64 r ∧ vb = .int .i64 B ∧ Hid (B = 2 ^ k / 2) ∧ B ≤ 1099511627776 ∧ r < t ∧ q ≤ 1099511627776 ∧ Hid (q * t + r = a / 2 ^ k * x)) (fun _ _ b => (intOf b).toNat)
  case atStart => exact ⟨41, 0, 0, 1099511627776, Nat.le_refl _, rfl, rfl, rfl, Lib.hid (by decide), by omega, ht, by omega, Lib.hid (by rw [Nat.div_eq_of_lt (by omega)]; simp)⟩
  case round =>
    obtain ⟨k, q, r, B, hk, rfl, rfl, rfl, HB, hB, hr, hq, HS⟩ := hrel
    cases k with
    | zero =>
      have h0 : B = 0 := by have := HB.out; simpa using this
      subst h0
      have hS := HS.out
      rw [Nat.pow_zero, Nat.div_one] at hS
      have e1 : a * x / t = q := by rw [← hS, Nat.mul_comm, Nat.mul_add_div ht, Nat.div_eq_of_lt hr, Nat.add_zero]
      have e2 : a * x % t = r := by rw [← hS, Nat.mul_comm, Nat.mul_add_mod, Nat.mod_eq_of_lt hr]
      have E1 := Lib.hid e1
      have E2 := Lib.hid e2
      clear hS e1 e2
      go_wp2
      go_ret2
      exact ⟨ret_pair (by rw [← E1.out]; simp) (by rw [← E2.out]; simp), rfl⟩
    | succ j =>
      have hBj : B = 2 ^ j := by rw [HB.out, half_pow]
      have hBp : 0 < B := by rw [hBj]; exact Nat.pow_pos (by omega)
      have hq2 : q ≤ a / 2 ^ (j + 1) := share_le HS.out hx ht
      have hq3 : 2 * q + 1 ≤ 1099511627777 := by
        have e : a / 2 ^ (j + 1) ≤ a / 2 := Nat.div_le_div_left (by rw [Nat.pow_succ]; have := Nat.pow_pos (n := j) (show 0 < 2 by omega); omega) (by omega)
        omega
      have hN := share_next HS.out
      rw [← hBj] at hN
      obtain ⟨D, hD⟩ : ∃ D, D = a / B := ⟨_, rfl⟩
      have hDz : (a : Int) / (B : Int) = (D : Int) := by rw [hD]; simp
      have hDb : D ≤ 1099511627776 := by rw [hD]; exact Nat.le_trans (Nat.div_le_self _ _) ha
      have hBz : ((B : Int) == 0) = false := by rw [beq_eq_false_iff_ne]; omega
      have hBn : ¬ B = 0 := by omega
      have HBj : Hid (B / 2 = 2 ^ j / 2) := Lib.hid (by rw [hBj])
      have HD : Hid (D = a / 2 ^ j) := Lib.hid (by rw [hD, hBj])
      rw [← hD] at hN
      have hNb := hN
      clear hD hBj hN hq2 HB HS
      rcases Nat.mod_two_eq_zero_or_one D with hbit | hbit
      · rw [hbit, Nat.zero_mul, Nat.add_zero] at hNb
        have HN := Lib.hid hNb
        have hbz : ((D : Int) % 2 == 1) = false := by rw [beq_eq_false_iff_ne]; omega
        clear hNb hbit
        go_wp2
        go_loop [8, 9] (fun vq vr => ∃ (q' r' : Nat), vq = .int .i64 q' ∧ vr = .int .i64 r' ∧ r' ≤ 3 * t ∧ q' ≤ 1099511627790 ∧ q' + r' ≤ 9000000000000 ∧ Hid (q' * t + r' = D * x)) (fun _ r => (intOf r).toNat)
        case atStart => exact ⟨2 * q, 2 * r, by go_num, by go_num, by omega, by omega, by omega, HN⟩
        case round =>
          clear HN
          obtain ⟨q', r', rfl, rfl, hr', hq', hqr, HN⟩ := hrel
          by_cases hge : t ≤ r'
          · have hz : (r' : Int) ≥ (t : Int) := by omega
            have HN2 : Hid ((q' + 1) * t + (r' - t) = D * x) := Lib.hid (by have := HN.out; rw [Nat.add_mul, Nat.one_mul]; omega)
            have hle := share_le HN2.out hx ht
            clear HN
            go_wp2
            go_round
            case rel => exact ⟨q' + 1, r' - t, by go_num, (by congr 1; omega), by omega, by omega, by omega, HN2⟩
            case measure => simp [intOf]; omega
          · have hz : ¬ (r' : Int) ≥ (t : Int) := by omega
            have hle := share_le HN.out hx ht
            go_wp2
            go_round
            case rel => exact ⟨j, q', r', B / 2, by omega, rfl, rfl, by first | rfl | (congr 1; omega), HBj, by omega, by omega, by omega, Lib.hid (by rw [← HD.out]; exact HN.out)⟩
            case measure => simp [intOf]; omega
      · rw [hbit, Nat.one_mul] at hNb
        have HN := Lib.hid hNb
        have hbz : ((D : Int) % 2 == 1) = true := by rw [beq_iff_eq]; omega
        clear hNb hbit
        go_wp2
        go_loop [8, 9] (fun vq vr => ∃ (q' r' : Nat), vq = .int .i64 q' ∧ vr = .int .i64 r' ∧ r' ≤ 3 * t ∧ q' ≤ 1099511627790 ∧ q' + r' ≤ 9000000000000 ∧ Hid (q' * t + r' = D * x)) (fun _ r => (intOf r).toNat)
        case atStart => exact ⟨2 * q, 2 * r + x, by go_num, by go_num, by omega, by omega, by omega, HN⟩
        case round =>
          clear HN
          obtain ⟨q', r', rfl, rfl, hr', hq', hqr, HN⟩ := hrel
          by_cases hge : t ≤ r'
          · have hz : (r' : Int) ≥ (t : Int) := by omega
            have HN2 : Hid ((q' + 1) * t + (r' - t) = D * x) := Lib.hid (by have := HN.out; rw [Nat.add_mul, Nat.one_mul]; omega)
            have hle := share_le HN2.out hx ht
            clear HN
            go_wp2
            go_round
            case rel => exact ⟨q' + 1, r' - t, by go_num, (by congr 1; omega), by omega, by omega, by omega, HN2⟩
            case measure => simp [intOf]; omega
          · have hz : ¬ (r' : Int) ≥ (t : Int) := by omega
            have hle := share_le HN.out hx ht
            go_wp2
            go_round
            case rel => exact ⟨j, q', r', B / 2, by omega, rfl, rfl, by first | rfl | (congr 1; omega), HBj, by omega, by omega, by omega, Lib.hid (by rw [← HD.out]; exact HN.out)⟩
            case measure => simp [intOf]; omega
end Go.Proofs.YtalnocdgmcchaaaDoor
