/- Plain facts on numbers as text. -/
import Derived.Lib.AtoiAll
import Derived.Lib.ItoaNum
namespace Go.Proofs.YtkcdifanhdakhaaDoor
set_option linter.unusedSimpArgs false
set_option linter.unusedVariables false

def dgB (c : UInt8) : Bool := decide (48 ≤ (c.toNat : Int) ∧ (c.toNat : Int) ≤ 57)
theorem dgB_nat (c : UInt8) (h : dgB c = true) : 48 ≤ c.toNat ∧ c.toNat ≤ 57 := by simp [dgB] at h; omega
/-- what digits say, behind a number -/
def dvF (a : Nat) (l : List UInt8) : Nat := l.foldl (fun a c => a * 10 + (c.toNat - 48)) a
theorem dvF_nil (a : Nat) : dvF a [] = a := by simp only [dvF, List.foldl_nil]
theorem dvF_cons (a : Nat) (c : UInt8) (r : List UInt8) : dvF a (c :: r) = dvF (a * 10 + (c.toNat - 48)) r := by simp only [dvF, List.foldl_cons]
theorem dvF_snoc (l : List UInt8) (c : UInt8) (a : Nat) : dvF a (l ++ [c]) = dvF a l * 10 + (c.toNat - 48) := by simp only [dvF, List.foldl_append, List.foldl_cons, List.foldl_nil]
theorem dvF_ge : ∀ (l : List UInt8) (a : Nat), a * 10 ^ l.length ≤ dvF a l
  | [], a => by simp [dvF_nil]
  | c :: r, a => by
    have h := dvF_ge r (a * 10 + (c.toNat - 48))
    simp only [dvF_cons, List.length_cons, Nat.pow_succ]
    refine Nat.le_trans ?_ h
    have : a * (10 ^ r.length * 10) = a * 10 * 10 ^ r.length := by rw [Nat.mul_comm (10 ^ r.length) 10, Nat.mul_assoc]
    rw [this]
    exact Nat.mul_le_mul_right _ (by omega)
theorem dvF_lt : ∀ (l : List UInt8) (a : Nat), l.all dgB = true → dvF a l < (a + 1) * 10 ^ l.length
  | [], a, _ => by simp [dvF_nil]
  | c :: r, a, h => by
    simp only [List.all_cons, Bool.and_eq_true] at h
    have hc := dgB_nat c h.1
    have h2 := dvF_lt r (a * 10 + (c.toNat - 48)) h.2
    simp only [dvF_cons, List.length_cons, Nat.pow_succ]
    refine Nat.lt_of_lt_of_le h2 ?_
    have : (a + 1) * (10 ^ r.length * 10) = ((a + 1) * 10) * 10 ^ r.length := by rw [Nat.mul_comm (10 ^ r.length) 10, Nat.mul_assoc]
    rw [this]
    exact Nat.mul_le_mul_right _ (by omega)
theorem dvF_le (r : List UInt8) (a : Nat) : a ≤ dvF a r :=
  Nat.le_trans (Nat.le_mul_of_pos_right _ (Nat.pow_pos (by omega))) (dvF_ge r a)
theorem parse_ok : ∀ (l : List UInt8) (a : Nat), l.all dgB = true → dvF a l < 18446744073709551616 → Lib.parseUint10 a l = .ok (dvF a l)
  | [], a, _, h => by simp only [Lib.parseUint10, dvF_nil, dvF_cons]
  | c :: r, a, h, hb => by
    simp only [List.all_cons, Bool.and_eq_true] at h
    have hc := dgB_nat c h.1
    simp only [dvF_nil, dvF_cons] at hb
    have hle := dvF_le r (a * 10 + (c.toNat - 48))
    simp only [Lib.parseUint10, dvF_nil, dvF_cons]
    rw [if_pos hc, if_neg (by omega), if_neg (by omega)]
    exact parse_ok r _ h.2 hb
theorem parse_range : ∀ (l : List UInt8) (a : Nat), l.all dgB = true → a < 18446744073709551616 → 18446744073709551616 ≤ dvF a l → Lib.parseUint10 a l = .range
  | [], a, _, ha, h => by simp only [dvF_nil, dvF_cons] at h; omega
  | c :: r, a, h, ha, hb => by
    simp only [List.all_cons, Bool.and_eq_true] at h
    have hc := dgB_nat c h.1
    simp only [dvF_nil, dvF_cons] at hb
    simp only [Lib.parseUint10]
    rw [if_pos hc]
    by_cases h1 : 1844674407370955162 ≤ a
    · rw [if_pos h1]
    · rw [if_neg h1]
      by_cases h2 : 18446744073709551616 ≤ a * 10 + (c.toNat - 48)
      · rw [if_pos h2]
      · rw [if_neg h2]
        exact parse_range r _ h.2 (by omega) hb

/-- the digits of a numeral: what stands behind the sign -/
def bodyL : List UInt8 → List UInt8
  | [] => []
  | c :: r => if c.toNat = 45 then r else c :: r
def negB : List UInt8 → Bool
  | [] => false
  | c :: _ => decide (c.toNat = 45)
def headZ : List UInt8 → Bool
  | [] => false
  | c :: _ => decide (c.toNat = 48)
/-- is it the form of a number? -/
def formB (l : List UInt8) : Bool := !(bodyL l).isEmpty && (bodyL l).all dgB && (!headZ (bodyL l) || l == [48])
/-- does the number fit? -/
def fitB (l : List UInt8) : Bool := if negB l then decide (dvF 0 (bodyL l) ≤ 9223372036854775808) else decide (dvF 0 (bodyL l) < 9223372036854775808)
def valI (l : List UInt8) : Int := if negB l then -(dvF 0 (bodyL l) : Int) else (dvF 0 (bodyL l) : Int)
def numR (l : List UInt8) : Int × Int := if formB l then (if fitB l then (valI l, 0) else (0, 4)) else (0, 3)
theorem form_body (l : List UInt8) (h : formB l = true) : bodyL l ≠ [] ∧ (bodyL l).all dgB = true := by
  simp [formB] at h
  exact ⟨h.1.1, by simpa using h.1.2⟩
theorem atoi_eq (l : List UInt8) (h : formB l = true) : Lib.atoiAll l = if fitB l then .ok (valI l) else .range := by
  obtain ⟨h1, h2⟩ := form_body l h
  cases l with
  | nil => exact absurd rfl h1
  | cons c r =>
    have hb : (if c.toNat = 43 ∨ c.toNat = 45 then r else c :: r) = bodyL (c :: r) := by
      by_cases hc : c.toNat = 45
      · simp [bodyL, hc]
      · have hd : dgB c = true := by simp only [bodyL, hc, if_false, List.all_cons, Bool.and_eq_true] at h2; exact h2.1
        have := dgB_nat c hd
        simp only [bodyL, hc, if_false, or_false]
        rw [if_neg (by omega)]
    unfold Lib.atoiAll
    simp only [hb]
    have hn : negB (c :: r) = decide (c.toNat = 45) := rfl
    by_cases hu : dvF 0 (bodyL (c :: r)) < 18446744073709551616
    · have hp : Lib.parseMag (bodyL (c :: r)) = .ok (dvF 0 (bodyL (c :: r))) := by
        unfold Lib.parseMag; rw [if_neg h1]; exact parse_ok _ 0 h2 hu
      rw [hp]
      simp only [fitB, valI, hn]
      by_cases hc : c.toNat = 45
      · simp only [hc, decide_true, if_true, not_true, false_and, if_false, true_and]
        by_cases h9 : dvF 0 (bodyL (c :: r)) ≤ 9223372036854775808
        · rw [if_neg (by omega)]; simp [h9]
        · rw [if_pos (by omega)]; simp [h9]
      · simp only [hc, decide_false, Bool.false_eq_true, if_false, not_false_eq_true, true_and, false_and]
        by_cases h9 : dvF 0 (bodyL (c :: r)) < 9223372036854775808
        · rw [if_neg (by omega)]; simp [h9]
        · rw [if_pos (by omega)]; simp [h9]
    · have hp : Lib.parseMag (bodyL (c :: r)) = .range := by
        unfold Lib.parseMag; rw [if_neg h1]; exact parse_range _ 0 h2 (by omega) (by omega)
      rw [hp]
      simp only [fitB, hn]
      by_cases hc : c.toNat = 45
      · simp only [hc, decide_true, if_true]
        rw [if_neg (by simp; omega)]
      · simp only [hc, decide_false, Bool.false_eq_true, if_false]
        rw [if_neg (by simp; omega)]
theorem long_big (l : List UInt8) (h : formB l = true) (hl : 20 ≤ (bodyL l).length) : 10000000000000000000 ≤ dvF 0 (bodyL l) := by
  obtain ⟨h1, h2⟩ := form_body l h
  have h3 : headZ (bodyL l) = false := by
    simp [formB] at h
    rcases h.2 with h | h
    · exact h
    · rw [h] at hl; simp [bodyL] at hl
  cases hb : bodyL l with
  | nil => exact absurd hb h1
  | cons c r =>
    rw [hb] at h2 h3 hl
    simp only [List.all_cons, Bool.and_eq_true] at h2
    have hc := dgB_nat c h2.1
    simp [headZ] at h3
    simp only [dvF_nil, dvF_cons]
    have hg := dvF_ge r (0 * 10 + (c.toNat - 48))
    refine Nat.le_trans ?_ hg
    have e1 : (10 : Nat) ^ 19 ≤ 10 ^ r.length := Nat.pow_le_pow_right (by omega) (by simp at hl; omega)
    have e2 : 10 ^ r.length ≤ (0 * 10 + (c.toNat - 48)) * 10 ^ r.length := Nat.le_mul_of_pos_left _ (by omega)
    have e3 : (10 : Nat) ^ 19 = 10000000000000000000 := by decide
    omega
theorem long_unfit (l : List UInt8) (h : formB l = true) (hl : 20 ≤ (bodyL l).length) : fitB l = false := by
  have := long_big l h hl
  unfold fitB
  split <;> simp <;> omega
theorem short_small (l : List UInt8) (h : formB l = true) (hl : (bodyL l).length ≤ 19) : dvF 0 (bodyL l) < 10000000000000000000 := by
  have h1 := dvF_lt (bodyL l) 0 (form_body l h).2
  have e1 : (10 : Nat) ^ (bodyL l).length ≤ 10 ^ 19 := Nat.pow_le_pow_right (by omega) hl
  have e3 : (10 : Nat) ^ 19 = 10000000000000000000 := by decide
  omega

/-! ### what is written is read -/
theorem decDigits_step (u : Nat) (h : 10 ≤ u) : Lib.decDigits u = Lib.decDigits (u / 10) ++ [UInt8.ofNat (48 + u % 10)] := by
  rw [Lib.decDigits, dif_neg (by omega)]
theorem decDigits_small (u : Nat) (h : u < 10) : Lib.decDigits u = [UInt8.ofNat (48 + u)] := by
  rw [Lib.decDigits, dif_pos h]
theorem digit_nat (n : Nat) (h : n < 10) : (UInt8.ofNat (48 + n)).toNat = 48 + n := by
  rw [UInt8.toNat_ofNat']; omega
theorem digit_dg (n : Nat) (h : n < 10) : dgB (UInt8.ofNat (48 + n)) = true := by
  simp only [dgB, digit_nat n h]; simp; omega
theorem dec_facts : ∀ u : Nat, dvF 0 (Lib.decDigits u) = u ∧ (Lib.decDigits u).all dgB = true ∧ Lib.decDigits u ≠ [] ∧ (headZ (Lib.decDigits u) = true → u = 0)
  | u => by
    by_cases h : u < 10
    · rw [decDigits_small u h]
      refine ⟨?_, ?_, by simp, ?_⟩
      · simp only [dvF_nil, dvF_cons, digit_nat u h]; omega
      · simp only [List.all_cons, List.all_nil, digit_dg u h]; rfl
      · intro hz; simp only [headZ, digit_nat u h, decide_eq_true_eq] at hz; omega
    · obtain ⟨i1, i2, i3, i4⟩ := dec_facts (u / 10)
      rw [decDigits_step u (by omega)]
      refine ⟨?_, ?_, by simp, ?_⟩
      · rw [dvF_snoc, i1, digit_nat _ (by omega)]; omega
      · simp only [List.all_append, i2, List.all_cons, List.all_nil, digit_dg _ (show u % 10 < 10 by omega)]; rfl
      · intro hz
        have : headZ (Lib.decDigits (u / 10)) = true := by
          cases hd : Lib.decDigits (u / 10) with
          | nil => exact absurd hd i3
          | cons c r => rw [hd] at hz; exact hz
        have := i4 this
        omega
termination_by u => u
theorem dg_ne45 (c : UInt8) (h : dgB c = true) : c.toNat ≠ 45 := by have := dgB_nat c h; omega
theorem itoa_facts (n : Int) (h0 : -9223372036854775808 ≤ n) (h1 : n ≤ 9223372036854775807) : numR (Lib.itoa n) = (n, 0) := by
  unfold Lib.itoa
  by_cases hn : n < 0
  · rw [if_pos hn]
    obtain ⟨i1, i2, i3, i4⟩ := dec_facts n.natAbs
    have hz : headZ (Lib.decDigits n.natAbs) = false := by
      cases hh : headZ (Lib.decDigits n.natAbs)
      · rfl
      · have := i4 hh; omega
    have hf : formB (45 :: Lib.decDigits n.natAbs) = true := by
      have hb : bodyL (45 :: Lib.decDigits n.natAbs) = Lib.decDigits n.natAbs := by simp [bodyL]
      simp only [formB, hb, i2, hz]
      simp [i3]
    have hb : bodyL (45 :: Lib.decDigits n.natAbs) = Lib.decDigits n.natAbs := by simp [bodyL]
    have hng : negB (45 :: Lib.decDigits n.natAbs) = true := by simp [negB]
    have hfit : fitB (45 :: Lib.decDigits n.natAbs) = true := by
      simp only [fitB, hng, hb, i1, if_true]; simp; omega
    simp only [numR, hf, hfit, if_true, valI, hng, hb, i1]
    congr 1
    omega
  · rw [if_neg hn]
    obtain ⟨i1, i2, i3, i4⟩ := dec_facts n.toNat
    cases hd : Lib.decDigits n.toNat with
    | nil => exact absurd hd i3
    | cons c r =>
      rw [hd] at i1 i2 i4
      have hc : dgB c = true := by simp only [List.all_cons, Bool.and_eq_true] at i2; exact i2.1
      have h45 := dg_ne45 c hc
      have hb : bodyL (c :: r) = c :: r := by simp [bodyL, h45]
      have hng : negB (c :: r) = false := by simp [negB, h45]
      have hf : formB (c :: r) = true := by
        simp only [formB, hb, i2]
        cases hh : headZ (c :: r)
        · simp
        · have hu := i4 hh
          rw [hu, decDigits_small 0 (by omega)] at hd
          rw [← hd]
          decide
      have hfit : fitB (c :: r) = true := by
        simp only [fitB, hng, hb, i1, Bool.false_eq_true, if_false]; simp; omega
      simp only [numR, hf, hfit, if_true, valI, hng, hb, i1, Bool.false_eq_true, if_false]
      congr 1
      omega
/-- digits without a zero ahead of them are the digits of what they say -/
theorem dec_dv : ∀ (n : Nat) (l : List UInt8), l.length ≤ n → l ≠ [] → l.all dgB = true → (headZ l = false ∨ l.length = 1) → Lib.decDigits (dvF 0 l) = l
  | 0, l, hn, hne, _, _ => absurd (List.eq_nil_of_length_eq_zero (by omega)) hne
  | n + 1, l, hn, hne, hd, hz => by
    rcases List.eq_nil_or_concat l with h | ⟨r, c, h⟩
    · exact absurd h hne
    · rw [List.concat_eq_append] at h
      subst h
      simp only [List.all_append, List.all_cons, List.all_nil, Bool.and_true, Bool.and_eq_true] at hd
      have hc := dgB_nat c hd.2
      rw [dvF_snoc]
      cases r with
      | nil =>
        rw [decDigits_small _ (by simp only [dvF_nil, dvF_cons]; omega)]
        simp only [dvF_nil, dvF_cons, List.nil_append]
        congr 1
        apply UInt8.toNat_inj.1
        rw [digit_nat _ (by omega)]
        omega
      | cons d r' =>
        have hz' : headZ (d :: r') = false := by
          rcases hz with h | h
          · exact h
          · simp at h
        have ih := dec_dv n (d :: r') (by simp at hn ⊢; omega) (by simp) hd.1 (.inl hz')
        have hpos : 1 ≤ dvF 0 (d :: r') := by
          simp [headZ] at hz'
          simp only [List.all_cons, Bool.and_eq_true] at hd
          have hdd := dgB_nat d hd.1.1
          have hg := dvF_ge r' (0 * 10 + (d.toNat - 48))
          have : 0 * 10 + (d.toNat - 48) ≤ (0 * 10 + (d.toNat - 48)) * 10 ^ r'.length := Nat.le_mul_of_pos_right _ (Nat.pow_pos (by omega))
          simp only [dvF_nil, dvF_cons]
          omega
        have e1 : (dvF 0 (d :: r') * 10 + (c.toNat - 48)) / 10 = dvF 0 (d :: r') := by omega
        have e2 : (dvF 0 (d :: r') * 10 + (c.toNat - 48)) % 10 = c.toNat - 48 := by omega
        rw [decDigits_step _ (by omega), e1, ih, e2]
        congr 2
        apply UInt8.toNat_inj.1
        rw [digit_nat _ (by omega)]
        omega
theorem itoa_back (l : List UInt8) (v : Int) (h : numR l = (v, 0)) : Lib.itoa v = l := by
  unfold numR at h
  cases hf : formB l
  · rw [hf] at h; simp at h
  · rw [hf] at h
    simp only [if_true] at h
    cases hfit : fitB l
    · rw [hfit] at h; simp at h
    · rw [hfit] at h
      simp only [if_true] at h
      have hv := (Prod.mk.inj h).1
      obtain ⟨b1, b2⟩ := form_body l hf
      simp only [formB, Bool.and_eq_true, Bool.or_eq_true] at hf
      cases l with
      | nil => exact absurd rfl b1
      | cons c r =>
        by_cases hc : c.toNat = 45
        · have hb : bodyL (c :: r) = r := by simp [bodyL, hc]
          have hng : negB (c :: r) = true := by simp [negB, hc]
          rw [hb] at b1 b2 hf
          have hz : headZ r = false := by
            rcases hf.2 with h | h
            · simpa using h
            · simp at h; rw [h.1] at hc; simp at hc
          have hdd := dec_dv r.length r (Nat.le_refl _) b1 b2 (.inl hz)
          simp only [valI, hng, hb, if_true] at hv
          have hpos : 1 ≤ dvF 0 r := by
            rcases Nat.eq_zero_or_pos (dvF 0 r) with h | h
            · rw [h] at hdd
              rw [← hdd] at hz
              rw [decDigits_small 0 (by omega)] at hz
              simp [headZ] at hz
            · exact h
          rw [← hv]
          unfold Lib.itoa
          rw [if_pos (by omega)]
          have e : (-(dvF 0 r : Int)).natAbs = dvF 0 r := by omega
          rw [e, hdd]
          congr 1
          exact (UInt8.toNat_inj.1 hc).symm
        · have hb : bodyL (c :: r) = c :: r := by simp [bodyL, hc]
          have hng : negB (c :: r) = false := by simp [negB, hc]
          rw [hb] at b1 b2 hf
          have hdd := dec_dv (c :: r).length (c :: r) (Nat.le_refl _) b1 b2 (by
            rcases hf.2 with h | h
            · left; simpa using h
            · right; simp at h; simp [h])
          simp only [valI, hng, hb, Bool.false_eq_true, if_false] at hv
          rw [← hv]
          unfold Lib.itoa
          rw [if_neg (by omega)]
          have e : ((dvF 0 (c :: r) : Int)).toNat = dvF 0 (c :: r) := by omega
          rw [e, hdd]
end Go.Proofs.YtkcdifanhdakhaaDoor
