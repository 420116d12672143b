/- Plain: a text cut at a byte; the weekdays of a text; a period read from a text. -/
import Derived.Test.YtnfdmdhpbaifiaaDoorPerP
import Derived.Test.YtnfdmdhpbaifiaaDoorCalQ
import Derived.Lib.Split
import Derived.Lib.IndexLaws
import Derived.Lib.IndexBytes
namespace Go.Proofs.YtnfdmdhpbaifiaaDoor
set_option linter.unusedSimpArgs false
set_option linter.unusedVariables false

/-- what comes before, put on the first part -/
def glue (p : List UInt8) : List (List UInt8) → List (List UInt8)
  | [] => [p]
  | h :: t => (p ++ h) :: t
/-- a text cut at each slash -/
def cutL : List UInt8 → List (List UInt8)
  | [] => [[]]
  | c :: r => if c = 47 then [] :: cutL r else glue [c] (cutL r)
theorem glue_ne (p : List UInt8) (l : List (List UInt8)) : glue p l ≠ [] := by cases l <;> simp [glue]
theorem cutL_ne (l : List UInt8) : cutL l ≠ [] := by
  cases l with
  | nil => simp [cutL]
  | cons c r => rw [cutL]; split <;> simp [glue_ne]
theorem glue_glue (p : List UInt8) (c : UInt8) (l : List (List UInt8)) : glue p (glue [c] l) = glue (p ++ [c]) l := by
  cases l <;> simp [glue]
theorem glue_nil (l : List (List UInt8)) (h : l ≠ []) : glue [] l = l := by
  cases l with
  | nil => exact absurd rfl h
  | cons a t => rfl
theorem cut_hit (r : List UInt8) : cutL (47 :: r) = [] :: cutL r := by rw [cutL, if_pos rfl]
theorem cut_miss {c : UInt8} (h : c ≠ 47) (r : List UInt8) : cutL (c :: r) = glue [c] (cutL r) := by rw [cutL, if_neg h]
theorem glue_len {p : List UInt8} {l : List (List UInt8)} (h : l ≠ []) : (glue p l).length = l.length := by
  cases l with
  | nil => exact absurd rfl h
  | cons a t => rfl
theorem cut_le (l : List UInt8) : (cutL l).length ≤ l.length + 1 := by
  induction l with
  | nil => simp [cutL]
  | cons c r ih =>
    by_cases h : c = 47
    · subst h; rw [cut_hit]; simp; omega
    · rw [cut_miss h, glue_len (cutL_ne r)]; simp; omega
theorem cut_index (l : List UInt8) : (Lib.indexByte l 47 = -1 ∧ cutL l = [l]) ∨ ∃ i : Nat, Lib.indexByte l 47 = i ∧ i < l.length ∧ cutL l = l.take i :: cutL (l.drop (i + 1)) := by
  induction l with
  | nil => left; exact ⟨rfl, rfl⟩
  | cons c r ih =>
    by_cases h : c = 47
    · subst h
      right
      exact ⟨0, by simp [Lib.indexByte], by simp, by rw [cut_hit]; simp⟩
    · rw [cut_miss h]
      rcases ih with ⟨h1, h2⟩ | ⟨i, h1, hl, h2⟩
      · left
        exact ⟨by simp [Lib.indexByte, h, h1], by rw [h2]; rfl⟩
      · right
        exact ⟨i + 1, by simp [Lib.indexByte, h, h1] <;> omega, by simp <;> omega, by rw [h2]; rfl⟩
theorem split_cut (n : Nat) : ∀ l : List UInt8, (Lib.splitK [47] 0 n l).length = min (cutL l).length (n + 1) ∧ ((cutL l).length ≤ n + 1 → Lib.splitK [47] 0 n l = cutL l) := by
  induction n with
  | zero =>
    intro l
    have h := cutL_ne l
    rw [show Lib.splitK [47] 0 0 l = [l] from rfl]
    have h3 : 1 ≤ (cutL l).length := by cases hc : cutL l with
      | nil => exact absurd hc h
      | cons _ _ => simp
    refine ⟨by simp; omega, fun h2 => ?_⟩
    rcases cut_index l with ⟨_, h1⟩ | ⟨i, _, _, h1⟩
    · exact h1.symm
    · exfalso
      rw [h1] at h2
      simp at h2
      exact cutL_ne _ h2
  | succ n ih =>
    intro l
    rcases cut_index l with ⟨h0, h1⟩ | ⟨i, h0, hl, h1⟩
    · have e : Lib.splitK [47] 0 (n + 1) l = [l] := by
        rw [Lib.splitK, Lib.index_one, h0]; rfl
      rw [e, h1]
      exact ⟨by simp <;> omega, fun _ => rfl⟩
    · have e : Lib.splitK [47] 0 (n + 1) l = l.take i :: Lib.splitK [47] 0 n (l.drop (i + 1)) := by
        rw [Lib.splitK, Lib.index_one, h0, if_neg (by simp <;> omega)]; simp
      obtain ⟨i1, i2⟩ := ih (l.drop (i + 1))
      rw [e, h1]
      refine ⟨by simp [i1] <;> omega, fun h2 => ?_⟩
      rw [i2 (by simp at h2; omega)]
/-- what SplitN of at most four parts gives -/
theorem split_four (s : ByteArray) (L : List ByteArray) (h : L = Lib.splitB ⟨#[47]⟩ 0 (min 4 (s.size + 1) - 1) s) :
    ((cutL s.data.toList).length ≠ 3 → L.length ≠ 3) ∧ ((cutL s.data.toList).length = 3 → L.map (·.data.toList) = cutL s.data.toList) := by
  have e : L.map (·.data.toList) = Lib.splitK [47] 0 (min 4 (s.size + 1) - 1) s.data.toList := by rw [h, Lib.splitB_data]
  have hs : s.data.toList.length = s.size := by simp
  have hle := cut_le s.data.toList
  obtain ⟨h1, h2⟩ := split_cut (min 4 (s.size + 1) - 1) s.data.toList
  rw [← e, List.length_map] at h1
  constructor
  · intro h3; omega
  · intro h3; rw [e]; exact h2 (by omega)

/-! ### the weekdays -/
/-- the weekdays of digits, behind those of d -/
def dgF (d : Nat) : List UInt8 → Int × Int
  | [] => if d = 0 then (0, 3) else (d, 0)
  | c :: r => if c.toNat < 49 ∨ 55 < c.toNat then (0, 3) else if 2 ^ (c.toNat - 49) ≤ d then (0, 3) else dgF (d + 2 ^ (c.toNat - 49)) r
theorem dg_low {d : Nat} {c : UInt8} {r : List UInt8} (h : (c.toNat : Int) < 49) : dgF d (c :: r) = (0, 3) := by rw [dgF, if_pos (.inl (by omega))]
theorem dg_high {d : Nat} {c : UInt8} {r : List UInt8} (h : 55 < (c.toNat : Int)) : dgF d (c :: r) = (0, 3) := by rw [dgF, if_pos (.inr (by omega))]
theorem dg_old {d : Nat} {c : UInt8} {r : List UInt8} (h : 2 ^ (c.toNat - 49) ≤ d) : dgF d (c :: r) = (0, 3) := by
  rw [dgF]; split
  · rfl
  · rfl
theorem dg_next {d : Nat} {c : UInt8} {r : List UInt8} (h1 : ¬ (c.toNat : Int) < 49) (h2 : ¬ 55 < (c.toNat : Int)) (h : ¬ 2 ^ (c.toNat - 49) ≤ d) : dgF d (c :: r) = dgF (d + 2 ^ (c.toNat - 49)) r := by
  rw [dgF, if_neg (by omega), if_neg h]
theorem dg_in : ∀ (l : List UInt8) (d : Nat), d < 128 → 0 ≤ (dgF d l).1 ∧ (dgF d l).1 < 128 ∧ ((dgF d l).2 = 0 ∨ (dgF d l).2 = 3 ∧ (dgF d l).1 = 0) := by
  intro l
  induction l with
  | nil => intro d h; rw [dgF]; split <;> simp <;> omega
  | cons c r ih =>
    intro d h
    rw [dgF]
    split
    · simp
    · split
      · simp
      · rename_i h1 h2
        refine ih _ ?_
        have h3 : c.toNat - 49 = 0 ∨ c.toNat - 49 = 1 ∨ c.toNat - 49 = 2 ∨ c.toNat - 49 = 3 ∨ c.toNat - 49 = 4 ∨ c.toNat - 49 = 5 ∨ c.toNat - 49 = 6 := by omega
        rcases h3 with h3 | h3 | h3 | h3 | h3 | h3 | h3 <;> rw [h3] at h2 ⊢ <;> omega

/-! ### a period -/
/-- a period read from three parts -/
def per3 (a b c : List UInt8) : Per × Int :=
  if (parseP a).2 ≠ 0 then ((0, 0, 0), (parseP a).2)
  else if (parseP b).2 ≠ 0 then ((0, 0, 0), (parseP b).2)
  else if (dgF 0 c).2 ≠ 0 then ((0, 0, 0), (dgF 0 c).2)
  else if errQ ((parseP a).1, (parseP b).1, (dgF 0 c).1) ≠ 0 then ((0, 0, 0), errQ ((parseP a).1, (parseP b).1, (dgF 0 c).1))
  else (((parseP a).1, (parseP b).1, (dgF 0 c).1), 0)
/-- a period read from a text -/
def perR (l : List UInt8) : Per × Int :=
  match cutL l with
  | [a, b, c] => per3 a b c
  | _ => ((0, 0, 0), 3)
theorem perR_len {l : List UInt8} (h : (cutL l).length ≠ 3) : perR l = ((0, 0, 0), 3) := by
  rw [perR]
  split
  · rename_i hc; rw [hc] at h; exact absurd rfl h
  · rfl
theorem perR_three {l a b c : List UInt8} (h : cutL l = [a, b, c]) : perR l = per3 a b c := by rw [perR, h]
theorem per3_a {a b c : List UInt8} (h : (parseP a).2 ≠ 0) : per3 a b c = ((0, 0, 0), (parseP a).2) := by rw [per3, if_pos h]
theorem per3_b {a b c : List UInt8} (h0 : (parseP a).2 = 0) (h : (parseP b).2 ≠ 0) : per3 a b c = ((0, 0, 0), (parseP b).2) := by rw [per3, if_neg (by simp [h0]), if_pos h]
theorem per3_c {a b c : List UInt8} (h0 : (parseP a).2 = 0) (h1 : (parseP b).2 = 0) (h : (dgF 0 c).2 ≠ 0) : per3 a b c = ((0, 0, 0), (dgF 0 c).2) := by rw [per3, if_neg (by simp [h0]), if_neg (by simp [h1]), if_pos h]
theorem per3_d {a b c : List UInt8} (h0 : (parseP a).2 = 0) (h1 : (parseP b).2 = 0) (h2 : (dgF 0 c).2 = 0) (h : errQ ((parseP a).1, (parseP b).1, (dgF 0 c).1) ≠ 0) :
    per3 a b c = ((0, 0, 0), errQ ((parseP a).1, (parseP b).1, (dgF 0 c).1)) := by rw [per3, if_neg (by simp [h0]), if_neg (by simp [h1]), if_neg (by simp [h2]), if_pos h]
theorem per3_ok {a b c : List UInt8} (h0 : (parseP a).2 = 0) (h1 : (parseP b).2 = 0) (h2 : (dgF 0 c).2 = 0) (h : errQ ((parseP a).1, (parseP b).1, (dgF 0 c).1) = 0) :
    per3 a b c = (((parseP a).1, (parseP b).1, (dgF 0 c).1), 0) := by rw [per3, if_neg (by simp [h0]), if_neg (by simp [h1]), if_neg (by simp [h2]), if_neg (by simp [h])]

end Go.Proofs.YtnfdmdhpbaifiaaDoor
