/- The plain half of a division of two words by one, digit by digit. No program in this text. -/
import Derived.Lib.BitFns
import Derived.Laws.Bits64b
import Derived.Laws.MathBits
namespace Go.Proofs.YtalnocdgmcchaaaDoor
set_option linter.unusedSimpArgs false
set_option linter.unusedVariables false

/-- what is known of a digit's guess q, with the rest r of the upper half -/
structure Guess (a u Y n1 n0 q r : Nat) : Prop where
  sum : q * n1 + r = a
  top : a * 4294967296 + u < (q + 1) * Y

/-- the normalised divisor -/
structure Norm (Y n1 n0 : Nat) : Prop where
  eq : n1 * 4294967296 + n0 = Y
  lt : Y < 18446744073709551616
  n0 : n0 < 4294967296
  ge : 2147483648 ≤ n1

theorem Norm.n1lt {Y n1 n0 : Nat} (N : Norm Y n1 n0) : n1 < 4294967296 := by have := N.eq; have := N.lt; omega
theorem Norm.mul {Y n1 n0 : Nat} (N : Norm Y n1 n0) (q : Nat) : q * Y = q * n1 * 4294967296 + q * n0 := by
  rw [← N.eq, Nat.mul_add, Nat.mul_assoc]
theorem Guess.first {a u Y n1 n0 : Nat} (N : Norm Y n1 n0) (hu : u < 4294967296) : Guess a u Y n1 n0 (a / n1) (a % n1) := by
  refine ⟨by have := Nat.div_add_mod a n1; rw [Nat.mul_comm]; exact this, ?_⟩
  have h1 := Nat.div_add_mod a n1
  have h2 := Nat.mod_lt a (show 0 < n1 by have := N.ge; omega)
  have h3 := N.mul (a / n1 + 1)
  have h4 : (a / n1 + 1) * n1 = n1 * (a / n1) + n1 := by rw [Nat.add_mul, Nat.one_mul, Nat.mul_comm]
  rw [h3, h4]
  omega
/-- the guess is too great -/
theorem Guess.test {a u Y n1 n0 q r : Nat} (G : Guess a u Y n1 n0 q r) (N : Norm Y n1 n0) : q * n0 > 4294967296 * r + u ↔ q * Y > a * 4294967296 + u := by
  have h := N.mul q
  have h2 := G.sum
  omega
theorem Guess.big {a u Y n1 n0 q r : Nat} (G : Guess a u Y n1 n0 q r) (N : Norm Y n1 n0) (ha : a < Y) (hu : u < 4294967296) (hq : 4294967296 ≤ q) : q * Y > a * 4294967296 + u := by
  have h : 4294967296 * Y ≤ q * Y := Nat.mul_le_mul_right Y hq
  omega
theorem Guess.next {a u Y n1 n0 q r : Nat} (G : Guess a u Y n1 n0 (q + 1) r) (h : (q + 1) * Y > a * 4294967296 + u) : Guess a u Y n1 n0 q (r + n1) := by
  refine ⟨?_, h⟩
  have := G.sum
  rw [Nat.add_mul, Nat.one_mul] at this
  omega
theorem Guess.le {a u Y n1 n0 q r : Nat} (G : Guess a u Y n1 n0 q r) (N : Norm Y n1 n0) (ha : a < Y) : q ≤ 4294967297 := by
  have h1 := G.sum
  have h2 := N.eq
  have h3 := N.n0
  have h4 := N.ge
  by_cases h : q ≤ 4294967297
  · exact h
  · exfalso
    have h5 : 4294967298 * n1 ≤ q * n1 := Nat.mul_le_mul_right n1 (by omega)
    omega
theorem Guess.pos {a u Y q : Nat} (h : q * Y > a * 4294967296 + u) : 0 < q := by
  rcases Nat.eq_zero_or_pos q with h1 | h1
  · rw [h1, Nat.zero_mul] at h; omega
  · exact h1
/-- the rest is long: the guess is right -/
theorem Guess.stop {a u Y n1 n0 q r : Nat} (G : Guess a u Y n1 n0 q r) (N : Norm Y n1 n0) (hq : q ≤ 4294967296) (hr : 4294967296 ≤ r) : q * Y ≤ a * 4294967296 + u := by
  have h := N.mul q
  have h2 := G.sum
  have h3 : q * n0 ≤ 4294967296 * 4294967295 := Nat.mul_le_mul hq (by have := N.n0; omega)
  omega
theorem digit_lt {a u Y q : Nat} (ha : a < Y) (hu : u < 4294967296) (h : q * Y ≤ a * 4294967296 + u) : q < 4294967296 := by
  by_cases hq : q < 4294967296
  · exact hq
  · have : 4294967296 * Y ≤ q * Y := Nat.mul_le_mul_right Y (by omega)
    omega
theorem half_mul {a b : Nat} (ha : a < 4294967296) (hb : b < 4294967296) : a * b < 18446744073709551616 := by
  have : a * b ≤ 4294967295 * 4294967295 := Nat.mul_le_mul (by omega) (by omega)
  omega

/-- the rest behind a digit, as the machine reckons it -/
theorem rest_wrap {a u Y q : Nat} (hY : Y < 18446744073709551616) (h1 : q * Y ≤ a * 4294967296 + u) (h2 : a * 4294967296 + u < (q + 1) * Y) :
    ((a : Int) * 4294967296 % 18446744073709551616 + (u : Int) - ((q : Int) * (Y : Int)) % 18446744073709551616) % 18446744073709551616 = ((a * 4294967296 + u - q * Y : Nat) : Int) ∧ a * 4294967296 + u - q * Y < Y := by
  rw [Nat.add_mul, Nat.one_mul] at h2
  have e : (q : Int) * (Y : Int) = ((q * Y : Nat) : Int) := by simp
  rw [e]
  generalize q * Y = P at *
  omega

set_option maxRecDepth 100000 in
/-- the parts of the number, shifted -/
theorem parts {hi lo y s : Nat} (hs : s ≤ 64) (hy : hi < y) (hlo : lo < 18446744073709551616) :
    (hi * 18446744073709551616 + lo) * 2 ^ s = (hi * 2 ^ s + lo / 2 ^ (64 - s)) * 18446744073709551616 + lo * 2 ^ s % 18446744073709551616 ∧ hi * 2 ^ s + lo / 2 ^ (64 - s) < y * 2 ^ s := by
  have e : 2 ^ (64 - s) * 2 ^ s = 18446744073709551616 := by
    rw [← Nat.pow_add, show 64 - s + s = 64 by omega]
  have h1 : lo * 2 ^ s / 18446744073709551616 = lo / 2 ^ (64 - s) := by
    rw [← e]; exact Nat.mul_div_mul_right _ _ (Nat.pow_pos (by omega))
  have h2 := Nat.div_add_mod (lo * 2 ^ s) 18446744073709551616
  rw [h1] at h2
  have h3 : (hi * 18446744073709551616 + lo) * 2 ^ s = hi * 2 ^ s * 18446744073709551616 + lo * 2 ^ s := by
    rw [Nat.add_mul, Nat.mul_right_comm]
  have h4 : (hi + 1) * 2 ^ s ≤ y * 2 ^ s := Nat.mul_le_mul_right _ hy
  rw [Nat.add_mul, Nat.one_mul] at h4
  have h5 : lo * 2 ^ s < 2 ^ s * 18446744073709551616 := by
    rw [Nat.mul_comm (2 ^ s)]; exact Nat.mul_lt_mul_of_pos_right hlo (Nat.pow_pos (by omega))
  have h6 : lo * 2 ^ s / 18446744073709551616 < 2 ^ s := by
    rw [Nat.div_lt_iff_lt_mul (by decide)]; exact h5
  rw [h1] at h6
  rw [h3]
  clear h1 h3 h5 e hlo
  generalize lo * 2 ^ s = L at *
  generalize lo / 2 ^ (64 - s) = b at *
  generalize hi * 2 ^ s = H at *
  generalize y * 2 ^ s = Y at *
  generalize 2 ^ s = T at *
  exact ⟨by rw [Nat.add_mul, Nat.add_assoc, Nat.mul_comm b, h2], by omega⟩

theorem whole_sum {q1 q0 Y B P Q : Nat} (hP : P = q1 * Y) (hQ : Q = q0 * Y) : (q1 * B + q0) * Y = P * B + Q := by
  rw [hP, hQ, Nat.add_mul, Nat.mul_right_comm]
set_option maxRecDepth 100000 in
/-- both digits together -/
theorem whole {U A u1 u0 Y q1 q0 : Nat} (hU : U = A * 18446744073709551616 + (u1 * 4294967296 + u0)) (h1 : q1 * Y ≤ A * 4294967296 + u1)
    (h2 : q0 * Y ≤ (A * 4294967296 + u1 - q1 * Y) * 4294967296 + u0) (h3 : (A * 4294967296 + u1 - q1 * Y) * 4294967296 + u0 - q0 * Y < Y) :
    U / Y = q1 * 4294967296 + q0 ∧ U % Y = (A * 4294967296 + u1 - q1 * Y) * 4294967296 + u0 - q0 * Y := by
  obtain ⟨P, hP⟩ : ∃ P, P = q1 * Y := ⟨_, rfl⟩
  obtain ⟨Q, hQ⟩ : ∃ Q, Q = q0 * Y := ⟨_, rfl⟩
  rw [← hP] at h1 h2 h3
  rw [← hQ] at h2 h3
  have e0 := whole_sum (B := 4294967296) hP hQ
  rw [← hP, ← hQ]
  obtain ⟨r1, hr1⟩ : ∃ r1, r1 = A * 4294967296 + u1 - P := ⟨_, rfl⟩
  rw [← hr1] at h2 h3 ⊢
  have hs1 : r1 + P = A * 4294967296 + u1 := by omega
  obtain ⟨r, hr⟩ : ∃ r, r = r1 * 4294967296 + u0 - Q := ⟨_, rfl⟩
  rw [← hr] at h3 ⊢
  have hs2 : r + Q = r1 * 4294967296 + u0 := by omega
  have e : U = Y * (q1 * 4294967296 + q0) + r := by
    rw [Nat.mul_comm Y, e0, hU]
    clear hU hP hQ e0 hr hr1 h1 h2 h3
    omega
  have hY : 0 < Y := by omega
  constructor
  · rw [e, Nat.mul_add_div hY, Nat.div_eq_of_lt h3, Nat.add_zero]
  · rw [e, Nat.mul_add_mod, Nat.mod_eq_of_lt h3]

theorem or_parts {a b s : Nat} (hs : s ≤ 64) (hb : b < 2 ^ s) (ha : a * 2 ^ s < 18446744073709551616) (hb2 : b < 18446744073709551616) : bits .or .u64 ((a * 2 ^ s : Nat) : Int) (b : Int) = ((a * 2 ^ s + b : Nat) : Int) := by
  rw [bits_or_u64_nat _ _ ha hb2, ← Nat.shiftLeft_eq, ← Nat.shiftLeft_add_eq_or_of_lt hb]

theorem aux_len : ∀ (f x : Nat), x ≠ 0 → x < 2 ^ f → ∃ k, Lib.bitLenAux f x = k + 1 ∧ 2 ^ k ≤ x ∧ x < 2 ^ (k + 1)
  | 0, x, h, h2 => by simp at h2; omega
  | f + 1, x, h, h2 => by
    rw [Lib.bitLenAux, if_neg h]
    by_cases h3 : x / 2 = 0
    · refine ⟨0, ?_, by simp; omega, by simp; omega⟩
      rw [h3]
      cases f <;> simp [Lib.bitLenAux]
    · obtain ⟨k, h4, h5, h6⟩ := aux_len f (x / 2) h3 (by rw [Nat.pow_succ] at h2; omega)
      refine ⟨k + 1, by omega, ?_, ?_⟩
      · rw [Nat.pow_succ]; omega
      · rw [Nat.pow_succ]; omega
theorem lead {y : Nat} (h0 : 0 < y) (hy : y < 18446744073709551616) : ∃ s : Nat, s < 64 ∧ (64 - (Lib.bitLen y : Int)) = (s : Int) ∧ 9223372036854775808 ≤ y * 2 ^ s ∧ y * 2 ^ s < 18446744073709551616 := by
  obtain ⟨k, h1, h2, h3⟩ := aux_len 64 y (by omega) (by simpa using hy)
  have hk : k < 64 := by
    rcases Nat.lt_or_ge k 64 with h | h
    · exact h
    · have : 2 ^ 64 ≤ 2 ^ k := Nat.pow_le_pow_right (by omega) h
      omega
  have e1 : 2 ^ k * 2 ^ (63 - k) = 9223372036854775808 := by rw [← Nat.pow_add, show k + (63 - k) = 63 by omega]
  have e2 : 2 ^ (k + 1) * 2 ^ (63 - k) = 18446744073709551616 := by rw [← Nat.pow_add, show k + 1 + (63 - k) = 64 by omega]
  refine ⟨63 - k, by omega, ?_, ?_, ?_⟩
  · rw [show Lib.bitLen y = k + 1 from h1]; omega
  · rw [← e1]; exact Nat.mul_le_mul_right _ h2
  · rw [← e2]; exact Nat.mul_lt_mul_of_pos_right h3 (Nat.pow_pos (by omega))
end Go.Proofs.YtalnocdgmcchaaaDoor
