/- The plain half of reading an amount. -/
import Derived.Test.YtalnocdgmcchaaaDoorPrint
namespace Go.Proofs.YtalnocdgmcchaaaDoor
open Go.RowKit
set_option linter.unusedSimpArgs false
set_option linter.unusedVariables false

/-- the text from the point on has the form of hundredths, and it begins with a digit -/
def centsB (d : List UInt8) : Bool := decide (4 ≤ d.length) && (dgB (d.getD 0 0) && (decide ((d.getD (d.length - 3) 0).toNat = 46) && (dgB (d.getD (d.length - 2) 0) && dgB (d.getD (d.length - 1) 0))))
def unitsL (d : List UInt8) : List UInt8 := d.take (d.length - 3)
def formD (d : List UInt8) : Bool := centsB d && ((unitsL d).all dgB && (!headZ d || decide (d.length = 4)))
def valD (d : List UInt8) : Nat := dvF 0 (unitsL d) * 100 + ((d.getD (d.length - 2) 0).toNat - 48) * 10 + ((d.getD (d.length - 1) 0).toNat - 48)
/-- what a text reads as -/
def parseR (l : List UInt8) : Int × Int :=
  if formD (bodyL l) && !(negB l && decide (bodyL l = [48, 46, 48, 48])) then (if valD (bodyL l) ≤ 1099511627776 then (if negB l then -(valD (bodyL l) : Int) else (valD (bodyL l) : Int), 0) else (0, 11)) else (0, 3)

theorem cents_len {d : List UInt8} (h : centsB d = true) : 4 ≤ d.length := by simp [centsB] at h; exact h.1
theorem getD_dig {d : List UInt8} {k : Nat} (h : k < d.length) : d.getD k 0 = d[k] := by
  rw [List.getD_eq_getElem?_getD, List.getElem?_eq_getElem h]; rfl
theorem units_cons {d : List UInt8} (h : 4 ≤ d.length) : ∃ r, unitsL d = d.getD 0 0 :: r ∧ r.length + 4 = d.length := by
  unfold unitsL
  cases d with
  | nil => simp at h
  | cons c r =>
    simp only [List.length_cons] at h ⊢
    rw [show r.length + 1 - 3 = (r.length - 3) + 1 by omega, List.take_succ_cons]
    exact ⟨r.take (r.length - 3), rfl, by rw [List.length_take]; omega⟩
/-- what text.Number makes of the units -/
theorem units_num {d : List UInt8} (h : centsB d = true) : numR (unitsL d) = if formD d then (if dvF 0 (unitsL d) < 9223372036854775808 then ((dvF 0 (unitsL d) : Int), 0) else (0, 4)) else (0, 3) := by
  have h4 := cents_len h
  obtain ⟨r, hr, hrl⟩ := units_cons h4
  have hd : dgB (d.getD 0 0) = true := by simp [centsB] at h; exact h.2.1
  have hne : (d.getD 0 0).toNat ≠ 45 := dg_ne45 _ hd
  have e1 : bodyL (unitsL d) = unitsL d := by rw [hr]; simp only [bodyL, if_neg hne]
  have e2 : negB (unitsL d) = false := by rw [hr]; simp only [negB, decide_eq_false_iff_not]; exact hne
  have e3 : headZ (unitsL d) = headZ d := by
    rw [hr]
    cases d with
    | nil => simp at h4
    | cons c r => rfl
  have e4 : formB (unitsL d) = formD d := by
    unfold formB formD
    rw [e1, h, Bool.true_and, e3, show (unitsL d).isEmpty = false by rw [hr]; rfl, Bool.not_false, Bool.true_and]
    congr 1
    cases hz : headZ d
    · rfl
    · simp only [Bool.not_true, Bool.false_or]
      have hz2 : (d.getD 0 0).toNat = 48 := by
        rw [← e3, hr] at hz
        simpa [headZ] using hz
      rw [Bool.eq_iff_iff, hr]
      simp only [beq_iff_eq, decide_eq_true_eq, List.cons.injEq]
      constructor
      · intro h2; rw [h2.2] at hrl; simp at hrl; omega
      · intro h2; exact ⟨UInt8.toNat_inj.1 hz2, List.eq_nil_of_length_eq_zero (by omega)⟩
  unfold numR fitB valI
  rw [e4, e2, e1]
  simp only [Bool.false_eq_true, if_false, decide_eq_true_eq]
theorem big_units {d : List UInt8} (h : 10995116278 ≤ dvF 0 (unitsL d)) : ¬ valD d ≤ 1099511627776 := by unfold valD; omega

/-! ### the reference's way: byte by byte -/
/-- the bytes before k, without the point -/
def passed (d : List UInt8) (k : Nat) : List UInt8 := if k ≤ d.length - 3 then d.take k else unitsL d ++ (d.drop (d.length - 2)).take (k - (d.length - 2))
theorem passed_point {d : List UInt8} (h4 : 4 ≤ d.length) : passed d (d.length - 3 + 1) = passed d (d.length - 3) := by
  unfold passed
  rw [if_neg (by omega), if_pos (Nat.le_refl _), show d.length - 3 + 1 - (d.length - 2) = 0 by omega, List.take_zero, List.append_nil]; rfl
theorem passed_step {d : List UInt8} (h4 : 4 ≤ d.length) (k : Nat) (hk : k < d.length) (hne : k ≠ d.length - 3) : passed d (k + 1) = passed d k ++ [d[k]] := by
  unfold passed
  by_cases h : k < d.length - 3
  · rw [if_pos (by omega), if_pos (by omega), List.take_succ_eq_append_getElem hk]
  · rw [if_neg (by omega)]
    have hk2 : d.length - 2 ≤ k := by omega
    rw [if_neg (by omega), show k + 1 - (d.length - 2) = (k - (d.length - 2)) + 1 by omega, List.take_succ_eq_append_getElem (by rw [List.length_drop]; omega), List.getElem_drop, ← List.append_assoc]
    simp only [show d.length - 2 + (k - (d.length - 2)) = k by omega]
theorem passed_all {d : List UInt8} (h4 : 4 ≤ d.length) : passed d d.length = unitsL d ++ [d.getD (d.length - 2) 0, d.getD (d.length - 1) 0] := by
  unfold passed
  rw [if_neg (by omega), show d.length - (d.length - 2) = 2 by omega]
  congr 1
  rw [getD_dig (by omega), getD_dig (by omega)]
  apply List.ext_getElem
  · simp; omega
  · intro i h1 h2
    simp only [List.length_cons, List.length_nil] at h2
    rw [List.getElem_take, List.getElem_drop]
    match i, h2 with
    | 0, _ => simp
    | 1, _ => simp only [List.getElem_cons_succ, List.getElem_cons_zero]; congr 1; omega
theorem passed_val {d : List UInt8} (h4 : 4 ≤ d.length) : dvF 0 (passed d d.length) = valD d := by
  rw [passed_all h4]
  unfold valD
  rw [show unitsL d ++ [d.getD (d.length - 2) 0, d.getD (d.length - 1) 0] = (unitsL d ++ [d.getD (d.length - 2) 0]) ++ [d.getD (d.length - 1) 0] by simp, dvF_snoc, dvF_snoc]
  omega
/-- the form that the reference asks, before it looks at the digits -/
def shapeB (d : List UInt8) : Bool := decide (4 ≤ d.length) && (decide ((d.getD (d.length - 3) 0).toNat = 46) && (!headZ d || decide (d.length = 4)))
theorem form_shape {d : List UInt8} (h : shapeB d = true) : formD d = (passed d d.length).all dgB := by
  simp only [shapeB, Bool.and_eq_true, decide_eq_true_eq] at h
  obtain ⟨h4, hp, hz⟩ := h
  obtain ⟨r, hr, hrl⟩ := units_cons h4
  rw [passed_all h4]
  unfold formD centsB
  rw [hz, Bool.and_true, List.all_append, hr]
  simp only [h4, hp, decide_true, Bool.true_and, List.all_cons, List.all_nil, Bool.and_true]
  cases dgB (d.getD 0 0) <;> cases dgB (d.getD (d.length - 2) 0) <;> cases dgB (d.getD (d.length - 1) 0) <;> simp
theorem form_noshape {d : List UInt8} (h : shapeB d = false) : formD d = false := by
  cases hf : formD d
  · rfl
  · exfalso
    simp only [formD, centsB, Bool.and_eq_true] at hf
    obtain ⟨⟨h1, _, h3, _⟩, _, h6⟩ := hf
    simp only [shapeB, h1, h3, h6, Bool.and_self] at h
    cases h
theorem form_bad {d : List UInt8} (h : shapeB d = true) (k : Nat) (hk : k < d.length) (hne : k ≠ d.length - 3) (hb : dgB d[k] = false) : formD d = false := by
  have h4 : 4 ≤ d.length := by simp only [shapeB, Bool.and_eq_true, decide_eq_true_eq] at h; exact h.1
  rw [form_shape h, List.all_eq_false]
  refine ⟨d[k], ?_, by simp [hb]⟩
  rw [passed_all h4, List.mem_append]
  by_cases h1 : k < d.length - 3
  · exact Or.inl (List.mem_iff_getElem.2 ⟨k, by unfold unitsL; rw [List.length_take]; omega, by unfold unitsL; rw [List.getElem_take]⟩)
  · right
    rw [getD_dig (by omega), getD_dig (by omega)]
    by_cases h2 : k = d.length - 2
    · subst h2; simp
    · have : k = d.length - 1 := by omega
      subst this; simp
/-- nothing: the one text of no amount -/
theorem val_zero {d : List UInt8} (h : formD d = true) : valD d = 0 ↔ d = [48, 46, 48, 48] := by
  constructor
  · intro hv
    simp only [formD, centsB, Bool.and_eq_true, decide_eq_true_eq] at h
    obtain ⟨⟨h4, h0, hp, hx, hy⟩, ha, hz⟩ := h
    obtain ⟨r, hr, hrl⟩ := units_cons h4
    have gx := dgB_nat _ hx
    have gy := dgB_nat _ hy
    have g0 := dgB_nat _ h0
    unfold valD at hv
    have hu : dvF 0 (unitsL d) = 0 := by omega
    rw [hr, dvF_cons] at hu
    have hge := dvF_ge r (0 * 10 + ((d.getD 0 0).toNat - 48))
    have hpow : 0 < 10 ^ r.length := Nat.pow_pos (by omega)
    have hc : (d.getD 0 0).toNat = 48 := by
      rcases Nat.eq_zero_or_pos ((d.getD 0 0).toNat - 48) with h1 | h1
      · omega
      · exfalso
        have : 1 * 10 ^ r.length ≤ (0 * 10 + ((d.getD 0 0).toNat - 48)) * 10 ^ r.length := Nat.mul_le_mul_right _ (by omega)
        omega
    have hhz : headZ d = true := by
      cases d with
      | nil => simp at h4
      | cons c r => simpa [headZ] using hc
    rw [hhz] at hz
    simp at hz
    match d, hz with
    | [c0, c1, c2, c3], _ =>
      simp at hp hx hy gx gy hc hv
      have q2 : c2.toNat = 48 := by omega
      have q3 : c3.toNat = 48 := by omega
      rw [show c0 = 48 from UInt8.toNat_inj.1 hc, show c1 = 46 from UInt8.toNat_inj.1 hp, show c2 = 48 from UInt8.toNat_inj.1 q2, show c3 = 48 from UInt8.toNat_inj.1 q3]
  · rintro rfl; decide
end Go.Proofs.YtalnocdgmcchaaaDoor
