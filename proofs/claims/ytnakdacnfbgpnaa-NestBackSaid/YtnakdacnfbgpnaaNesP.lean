/- Plain facts on the sale of nested classes. -/
import Derived.Test.YtnakdacnfbgpnaaKitN
namespace Go.Proofs.Ytnakdacnfbgpnaa
open Go.RowKit Go.Shelf
set_option linter.unusedSimpArgs false
set_option linter.unusedVariables false

def sumI : List Int → Int
  | [] => 0
  | x :: r => x + sumI r
theorem sumI_app (a b : List Int) : sumI (a ++ b) = sumI a + sumI b := by
  induction a with
  | nil => simp [sumI]
  | cons x r ih => simp only [List.cons_append, sumI, ih]; omega
/-- a number of seats that can be sold -/
def nOk (n : Int) : Bool := decide (0 ≤ n) && decide (n ≤ 9999)
def nBad (n : Int) : Bool := decide (n < 0) || decide (9999 < n)
theorem nBad_ok (n : Int) : nBad n = !nOk n := by
  unfold nBad nOk
  rw [Bool.eq_iff_iff]
  simp only [Bool.or_eq_true, decide_eq_true_eq, Bool.not_eq_true', Bool.and_eq_false_iff, decide_eq_false_iff_not]
  omega
def rgtB (b : Cb) (s : List Int) : Bool := decide (s.length = b.l.length) && s.all nOk
theorem rgtB_yes {b : Cb} {s : List Int} (h : rgtB b s = true) : s.length = b.l.length ∧ ∀ x ∈ s, 0 ≤ x ∧ x ≤ 9999 := by
  simp only [rgtB, Bool.and_eq_true, decide_eq_true_eq, List.all_eq_true, nOk] at h
  exact h
/-- the nested sales of the class i -/
def nsF (s : List Int) (i : Nat) : Int := sumI (s.drop i)
theorem nsF_end (s : List Int) (i : Nat) (h : s.length ≤ i) : nsF s i = 0 := by
  unfold nsF
  rw [List.drop_eq_nil_of_le h]; rfl
theorem nsF_step (s : List Int) (i : Nat) (x : Int) (h : s[i]? = some x) : nsF s i = x + nsF s (i + 1) := by
  unfold nsF
  obtain ⟨hi, rfl⟩ := List.getElem?_eq_some_iff.1 h
  rw [List.drop_eq_getElem_cons hi]; rfl
theorem sumI_in (s : List Int) (h : ∀ x ∈ s, 0 ≤ x ∧ x ≤ 9999) : 0 ≤ sumI s ∧ sumI s ≤ 9999 * s.length := by
  induction s with
  | nil => simp [sumI]
  | cons x r ih =>
    have h1 := h x (List.mem_cons_self ..)
    have h2 := ih (fun y hy => h y (List.mem_cons_of_mem _ hy))
    simp only [sumI, List.length_cons]
    omega
theorem nsF_in (s : List Int) (h : ∀ x ∈ s, 0 ≤ x ∧ x ≤ 9999) (i : Nat) : 0 ≤ nsF s i ∧ nsF s i ≤ 9999 * s.length := by
  have h1 := sumI_in (s.drop i) (fun x hx => h x (List.mem_of_mem_drop hx))
  unfold nsF
  rw [List.length_drop] at h1
  omega
/-- what is left of the limit of the class i -/
def leF (b : Cb) (s : List Int) (i : Nat) : Int := limA b i - nsF s i
theorem limA_in {b : Cb} (hP : LimP b) (i : Nat) : -1998 ≤ limA b i ∧ limA b i ≤ 1998 := by
  obtain ⟨s1, s2, s3, s4⟩ := sizB_in hP.siz
  cases i with
  | zero => simp only [limA]; omega
  | succ k =>
    simp only [limA]
    split
    · rename_i x hx
      have := hP.pro x (List.mem_of_getElem? hx)
      omega
    · omega
theorem leF_in {b : Cb} {s : List Int} (hP : LimP b) (h : rgtB b s = true) (i : Nat) : -400000 ≤ leF b s i ∧ leF b s i ≤ 400000 := by
  obtain ⟨h1, h2⟩ := rgtB_yes h
  have h3 := nsF_in s h2 i
  have h4 := limA_in hP i
  have h5 := hP.len
  unfold leF
  omega
/-- the least of the first k numbers; of none the greatest number that there is -/
def lsM (f : Nat → Int) : Nat → Int
  | 0 => 9223372036854775807
  | k + 1 => min (lsM f k) (f k)
/-- the least of the number i and of the first k -/
def lsR (f : Nat → Int) (i : Nat) : Nat → Int
  | 0 => f i
  | k + 1 => min (lsR f i k) (f k)
theorem lsR_min (f : Nat → Int) (i k : Nat) (h : f i ≤ 9223372036854775807) : lsR f i k = min (lsM f k) (f i) := by
  induction k with
  | zero => simp only [lsR, lsM]; omega
  | succ k ih => simp only [lsR, lsM, ih]; omega
theorem lsR_self (f : Nat → Int) (i : Nat) (h : f i ≤ 9223372036854775807) : lsR f i i = lsM f (i + 1) := lsR_min f i i h
theorem lsM_le (f : Nat → Int) : ∀ (n k : Nat), k < n → lsM f n ≤ f k
  | 0, k, h => by omega
  | n + 1, k, h => by
    simp only [lsM]
    by_cases e : k = n
    · subst e; omega
    · have := lsM_le f n k (by omega); omega
theorem lsM_ge (f : Nat → Int) (m : Int) (hm : m ≤ 9223372036854775807) : ∀ n : Nat, (∀ k, k < n → m ≤ f k) → m ≤ lsM f n
  | 0, _ => hm
  | n + 1, h => by
    simp only [lsM]
    have h1 := lsM_ge f m hm n (fun k hk => h k (by omega))
    have h2 := h n (by omega)
    omega
theorem lsM_anti (f : Nat → Int) (n : Nat) : lsM f (n + 1) ≤ lsM f n := by simp only [lsM]; omega
/-- the seats for sale in the class i -/
def opF (b : Cb) (s : List Int) (i : Nat) : Int := max (lsM (leF b s) (i + 1)) 0
def opL (b : Cb) (s : List Int) : List Int := if rgtB b s = true then tab (opF b s) s.length else []
/-- by how much the first k numbers are below 0 at most -/
def exF (f : Nat → Int) : Nat → Int
  | 0 => 0
  | k + 1 => max (exF f k) (-f k)
theorem exF_ge (f : Nat → Int) : ∀ n : Nat, 0 ≤ exF f n
  | 0 => Int.le_refl _
  | n + 1 => by have := exF_ge f n; simp only [exF]; omega
theorem exF_zero (f : Nat → Int) : ∀ n : Nat, exF f n = 0 ↔ ∀ k, k < n → 0 ≤ f k
  | 0 => ⟨fun _ k hk => by omega, fun _ => rfl⟩
  | n + 1 => by
    have h0 := exF_ge f n
    have ih := exF_zero f n
    simp only [exF]
    constructor
    · intro h k hk
      by_cases e : k = n
      · subst e; omega
      · exact (ih.1 (by omega)) k (by omega)
    · intro h
      have h1 := ih.2 (fun k hk => h k (by omega))
      have h2 := h n (by omega)
      omega
def exP (b : Cb) (s : List Int) : Int := if rgtB b s = true then exF (leF b s) s.length else 0
def fitB (b : Cb) (s : List Int) : Bool := rgtB b s && decide (exP b s = 0)
theorem fitB_iff (b : Cb) (s : List Int) : fitB b s = true ↔ rgtB b s = true ∧ ∀ k, k < s.length → 0 ≤ leF b s k := by
  unfold fitB exP
  rw [Bool.and_eq_true, decide_eq_true_eq]
  constructor
  · rintro ⟨h1, h2⟩
    rw [if_pos h1] at h2
    exact ⟨h1, (exF_zero _ _).1 h2⟩
  · rintro ⟨h1, h2⟩
    refine ⟨h1, ?_⟩
    rw [if_pos h1]
    exact (exF_zero _ _).2 h2
/-- the errors that Sell and Cancel have in common; those of each -/
def erP (b : Cb) (s : List Int) (r n : Int) : Int := if rgtB b s = false ∨ n < 1 then 2 else if r < 0 ∨ (s.length : Int) ≤ r then 16 else 0
def selE (b : Cb) (s : List Int) (r n : Int) : Int := if erP b s r n = 0 then (if opF b s r.toNat < n then 17 else 0) else erP b s r n
def canE (b : Cb) (s : List Int) (r n : Int) : Int := if erP b s r n = 0 then (if (s[r.toNat]?).getD 0 < n then 2 else 0) else erP b s r n
/-- the numbers with n more of one class -/
def wiL (s : List Int) (k : Nat) (n : Int) : List Int := s.set k ((s[k]?).getD 0 + n)
theorem erP_zero {b : Cb} {s : List Int} {r n : Int} (h : erP b s r n = 0) : rgtB b s = true ∧ 1 ≤ n ∧ 0 ≤ r ∧ r.toNat < s.length ∧ r = (r.toNat : Int) := by
  unfold erP at h
  split at h
  · omega
  · split at h
    · omega
    · rename_i h1 h2
      refine ⟨?_, by omega, by omega, by omega, by omega⟩
      cases hr : rgtB b s with
      | true => rfl
      | false => exact absurd (.inl hr) h1
theorem wiL_len (s : List Int) (k : Nat) (n : Int) : (wiL s k n).length = s.length := by simp [wiL]
end Go.Proofs.Ytnakdacnfbgpnaa
