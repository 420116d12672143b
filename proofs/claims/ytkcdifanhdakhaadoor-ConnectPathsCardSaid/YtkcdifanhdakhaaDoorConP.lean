/- Connecting times, segments and journeys as plain data; which journeys there are, by both ways of searching. -/
import Derived.Test.YtkcdifanhdakhaaDoorPlaB
namespace Go.Proofs.YtkcdifanhdakhaaDoor.Con
set_option linter.unusedSimpArgs false
set_option linter.unusedVariables false

structure Cn where
  a : ByteArray
  i : ByteArray
  o : ByteArray
  m : Int
structure Sg where
  car : ByteArray
  num : Int
  day : Int
  f : ByteArray
  t : ByteArray
  dep : Int
  arr : Int
def sgZ : Sg := ⟨noB, 0, 0, noB, noB, 0, 0⟩
def emB (s : ByteArray) : Bool := s.toList.isEmpty
def matB (x y : ByteArray) : Bool := emB x || eqS x y
def cnB (c : Cn) (a i o : ByteArray) : Bool := matB c.a a && matB c.i i && matB c.o o
def rk (c : Cn) : Int := (if emB c.a then 0 else 6) + (if emB c.i then 0 else 5) + (if emB c.o then 0 else 4)
def stM (a i o : ByteArray) (s : Int × Int) (c : Cn) : Int × Int := if cnB c a i o && decide (rk c > s.1) then (rk c, c.m) else s
def minS (l : List Cn) (a i o : ByteArray) : Int × Int := l.foldl (stM a i o) (-1, 60)
def minC (l : List Cn) (a i o : ByteArray) : Int := (minS l a i o).2
theorem minS_snoc (l : List Cn) (c : Cn) (a i o : ByteArray) : minS (l ++ [c]) a i o = stM a i o (minS l a i o) c := by simp [minS]
/-! the reference's rank -/
def rk0 (c : Cn) : Int := (if emB c.a then 0 else 110) + (if emB c.i then 0 else 101) + (if emB c.o then 0 else 100)
def rk2 (c : Cn) (a i o : ByteArray) : Int := if cnB c a i o then rk0 c else -1
def stN (a i o : ByteArray) (s : Int × Int) (c : Cn) : Int × Int := if decide (rk2 c a i o > s.1) then (rk2 c a i o, c.m) else s
def minT (l : List Cn) (a i o : ByteArray) : Int × Int := l.foldl (stN a i o) (-1, 60)
theorem minT_snoc (l : List Cn) (c : Cn) (a i o : ByteArray) : minT (l ++ [c]) a i o = stN a i o (minT l a i o) c := by simp [minT]
def RkR (s s' : Int × Int) : Prop := s.2 = s'.2 ∧ ((s.1 = -1 ∧ s'.1 = -1) ∨ ∃ c : Cn, s.1 = rk c ∧ s'.1 = rk0 c)
theorem rk_cmp (c d : Cn) : decide (rk c > rk d) = decide (rk0 c > rk0 d) := by
  unfold rk rk0
  cases emB c.a <;> cases emB c.i <;> cases emB c.o <;> cases emB d.a <;> cases emB d.i <;> cases emB d.o <;> decide
theorem rk_nn (c : Cn) : decide (rk c > -1) = true ∧ decide (rk0 c > -1) = true ∧ ¬ (-1 : Int) > rk0 c := by
  unfold rk rk0
  cases emB c.a <;> cases emB c.i <;> cases emB c.o <;> decide
theorem step_rk (a i o : ByteArray) (s s' : Int × Int) (c : Cn) (h : RkR s s') : RkR (stM a i o s c) (stN a i o s' c) := by
  obtain ⟨h1, h2⟩ := h
  unfold stM stN rk2
  cases hm : cnB c a i o
  · simp only [Bool.false_and, Bool.false_eq_true, if_false]
    have : ¬ ((-1 : Int) > s'.1) := by
      rcases h2 with ⟨_, h⟩ | ⟨d, _, h⟩
      · rw [h]; decide
      · rw [h]; exact (rk_nn d).2.2
    rw [if_neg (by simpa using this)]
    exact ⟨h1, h2⟩
  · simp only [Bool.true_and, if_true]
    have : decide (rk c > s.1) = decide (rk0 c > s'.1) := by
      rcases h2 with ⟨h, h'⟩ | ⟨d, h, h'⟩
      · rw [h, h', (rk_nn c).1, (rk_nn c).2.1]
      · rw [h, h', rk_cmp]
    rw [this]
    by_cases hc : decide (rk0 c > s'.1) = true
    · rw [if_pos hc, if_pos hc]; exact ⟨rfl, .inr ⟨c, rfl, rfl⟩⟩
    · rw [if_neg hc, if_neg hc]; exact ⟨h1, h2⟩
theorem fold_rk (a i o : ByteArray) : ∀ (l : List Cn) (s s' : Int × Int), RkR s s' → RkR (l.foldl (stM a i o) s) (l.foldl (stN a i o) s')
  | [], _, _, h => h
  | c :: l, s, s', h => fold_rk a i o l _ _ (step_rk a i o s s' c h)
theorem minT_eq (l : List Cn) (a i o : ByteArray) : (minT l a i o).2 = minC l a i o := (fold_rk a i o l (-1, 60) (-1, 60) ⟨rfl, .inl ⟨rfl, rfl⟩⟩).1.symm

/-- a segment connects dn another one -/
def fitB (l : List Cn) (x y : Sg) : Bool := eqS y.f x.t && decide (y.dep - x.arr ≤ 1440) && decide (minC l x.t x.car y.car ≤ y.dep - x.arr)
theorem eqS_comm (a b : ByteArray) : eqS a b = eqS b a := by
  rw [Bool.eq_iff_iff, eqS_iff, eqS_iff]
  exact ⟨fun h => h.symm, fun h => h.symm⟩

/-! ### journeys -/
def sA (S : List Sg) (i : Nat) : Sg := S.getD i sgZ
theorem sA_get {S : List Sg} {i : Nat} (h : i < S.length) : S[i]? = some (sA S i) := by
  unfold sA
  rw [List.getElem?_eq_getElem h, List.getD_eq_getElem?_getD, List.getElem?_eq_getElem h]
  rfl
/-- the position that a segment can have: 0 none, 1 the only one, 2 the first, 3 the last, 4 between -/
def kd (fr dn : ByteArray) (s : Sg) : Nat :=
  if eqS s.t fr || eqS s.f dn || eqS s.f s.t then 0
  else if eqS s.f fr && eqS s.t dn then 1
  else if eqS s.f fr then 2
  else if eqS s.t dn then 3
  else 4
def ix (S : List Sg) (p : Sg → Bool) (n : Nat) : List Nat := (List.range n).filter fun i => p (sA S i)
theorem ix_succ (S : List Sg) (p : Sg → Bool) (n : Nat) : ix S p (n + 1) = ix S p n ++ (if p (sA S n) then [n] else []) := by
  unfold ix
  rw [List.range_succ, List.filter_append]
  congr 1
  rw [List.filter_cons]
  cases p (sA S n) <;> simp
theorem ix_len (S : List Sg) (p : Sg → Bool) (n : Nat) : (ix S p n).length ≤ n := by
  have := List.length_filter_le (fun i => p (sA S i)) (List.range n)
  simpa [ix] using this
theorem ix_lt {S : List Sg} {p : Sg → Bool} {n k : Nat} (h : k ∈ ix S p n) : k < n ∧ p (sA S k) = true := by
  unfold ix at h
  rw [List.mem_filter, List.mem_range] at h
  exact h
theorem ix_mem {S : List Sg} {p : Sg → Bool} {n k : Nat} : k ∈ ix S p n ↔ k < n ∧ p (sA S k) = true := by
  unfold ix
  rw [List.mem_filter, List.mem_range]
theorem ix_nodup (S : List Sg) (p : Sg → Bool) (n : Nat) : (ix S p n).Nodup := List.Pairwise.filter _ List.nodup_range
def onlyP (S : List Sg) (fr dn : ByteArray) (n : Nat) : List Nat := ix S (fun s => kd fr dn s == 1) n
def firstP (S : List Sg) (fr dn : ByteArray) (X : ByteArray) (n : Nat) : List Nat := ix S (fun s => kd fr dn s == 2 && eqS s.t X) n
def lastP (S : List Sg) (fr dn : ByteArray) (n : Nat) : List Nat := ix S (fun s => kd fr dn s == 3) n
def lastF (S : List Sg) (fr dn : ByteArray) (Y : ByteArray) (n : Nat) : List Nat := ix S (fun s => kd fr dn s == 3 && eqS s.f Y) n
def midP (S : List Sg) (fr dn : ByteArray) (n : Nat) : List Nat := ix S (fun s => kd fr dn s == 4) n
def befP (l : List Cn) (S : List Sg) (fr dn : ByteArray) (i : Nat) : List Nat := (firstP S fr dn (sA S i).f S.length).filter fun j => fitB l (sA S j) (sA S i)
def aftP (l : List Cn) (S : List Sg) (fr dn : ByteArray) (i : Nat) : List Nat := (lastF S fr dn (sA S i).t S.length).filter fun j => fitB l (sA S i) (sA S j)
/-- two segments, the last one being k -/
def twoP (l : List Cn) (S : List Sg) (fr dn : ByteArray) (k : Nat) : List (List Nat) := (befP l S fr dn k).map fun f => [f, k]
/-- three segments, the first one being f and the middle one k -/
def triP (l : List Cn) (S : List Sg) (fr dn : ByteArray) (k f : Nat) : List (List Nat) := (aftP l S fr dn k).map fun j => [f, k, j]
def midsP (l : List Cn) (S : List Sg) (fr dn : ByteArray) (k : Nat) : List (List Nat) := (befP l S fr dn k).flatMap fun f => triP l S fr dn k f
def oneL (S : List Sg) (fr dn : ByteArray) : List (List Nat) := (onlyP S fr dn S.length).map fun i => [i]
def twoL (l : List Cn) (S : List Sg) (fr dn : ByteArray) : List (List Nat) := (lastP S fr dn S.length).flatMap fun k => twoP l S fr dn k
def triL (l : List Cn) (S : List Sg) (fr dn : ByteArray) : List (List Nat) := (midP S fr dn S.length).flatMap fun k => midsP l S fr dn k
def pathsP (l : List Cn) (S : List Sg) (fr dn : ByteArray) (most : Int) : List (List Nat) :=
  oneL S fr dn ++ (if most < 2 then [] else twoL l S fr dn ++ (if most < 3 then [] else triL l S fr dn))

/-! ### the reference's search -/
def lst (p : List Nat) : Nat := p.getLastD 0
def visB (S : List Sg) (fr : ByteArray) (p : List Nat) (X : ByteArray) : Bool := p.any (fun i => eqS (sA S i).t X) || eqS fr X
def extB (l : List Cn) (S : List Sg) (fr : ByteArray) (p : List Nat) (k : Nat) : Bool := fitB l (sA S (lst p)) (sA S k) && !visB S fr p (sA S k).t
def extP (l : List Cn) (S : List Sg) (fr : ByteArray) (p : List Nat) (n : Nat) : List (List Nat) := ((List.range n).filter fun k => extB l S fr p k).map fun k => p ++ [k]
def longP (l : List Cn) (S : List Sg) (fr : ByteArray) (ps : List (List Nat)) : List (List Nat) := ps.flatMap fun p => extP l S fr p S.length
def now1 (S : List Sg) (fr : ByteArray) (n : Nat) : List (List Nat) := (ix S (fun s => eqS s.f fr && !eqS s.t fr) n).map fun i => [i]
def nowP (l : List Cn) (S : List Sg) (fr : ByteArray) : Nat → List (List Nat)
  | 0 => []
  | 1 => now1 S fr S.length
  | n + 2 => longP l S fr (nowP l S fr (n + 1))
def endB (S : List Sg) (dn : ByteArray) (p : List Nat) : Bool := eqS (sA S (lst p)).t dn
/-- what ends at the place -/
def endP (l : List Cn) (S : List Sg) (fr dn : ByteArray) (n : Nat) : List (List Nat) := (nowP l S fr n).filter fun p => endB S dn p

end Go.Proofs.YtkcdifanhdakhaaDoor.Con
