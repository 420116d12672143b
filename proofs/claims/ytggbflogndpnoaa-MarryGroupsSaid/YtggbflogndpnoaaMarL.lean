/- Normal: plain. -/
import Derived.Test.YtggbflogndpnoaaMarJ
namespace Go.Proofs.Ytggbflogndpnoaa
open Go.RowKit Go.Shelf Go.Maps
set_option linter.unusedSimpArgs false
set_option linter.unusedVariables false

/-- how many marriages begin before a place -/
def cntP (l : List Int) : Nat → Int
  | 0 => 0
  | k + 1 => cntP l k + (if staB l k = true ∧ 0 < atP l k then 1 else 0)
/-- the number of a segment -/
def nmP (l : List Int) (i : Nat) : Int := if 0 < atP l i then cntP l (i + 1) else 0
def nrmP (l : List Int) : List Int := if chkP l = 0 then tab (nmP l) l.length else []
theorem cnt_in (l : List Int) : ∀ k : Nat, 0 ≤ cntP l k ∧ cntP l k ≤ (k : Int)
  | 0 => by simp [cntP]
  | k + 1 => by
    have := cnt_in l k
    simp only [cntP]
    split <;> omega
theorem cnt_run {l : List Int} {f t : Nat} (he : IsEnd l f t) (hs : staB l f = true) (hp : 0 < atP l f) : ∀ j : Nat, f ≤ j → j < t → cntP l (j + 1) = cntP l f + 1
  | 0, h1, h2 => by
    have : f = 0 := by omega
    subst this
    simp only [cntP]
    rw [if_pos ⟨hs, hp⟩]
  | j + 1, h1, h2 => by
    by_cases e : f = j + 1
    · subst e
      show cntP l (j + 1) + _ = _
      rw [if_pos ⟨hs, hp⟩]
    · have ih := cnt_run he hs hp j (by omega) (by omega)
      have h3 := (he.inner (j := j + 1) (by omega) h2).1
      show cntP l (j + 1) + _ = _
      rw [if_neg (by rw [h3]; simp), ih]
      omega
/-- what the rounds have written -/
def nst1 (l : List Int) (s : Int × (Nat → Int)) (x : Nat × Nat) : Int × (Nat → Int) := if atP l x.1 = 0 then s else (s.1 + 1, ovP s.2 x.1 (x.2 - x.1) (s.1 + 1))
def nstP (l : List Int) (pre : List (Nat × Nat)) : Int × (Nat → Int) := pre.foldl (nst1 l) (0, fun _ => 0)
theorem nst_snoc (l : List Int) (pre : List (Nat × Nat)) (x : Nat × Nat) : nstP l (pre ++ [x]) = nst1 l (nstP l pre) x := by simp [nstP]
theorem nst_in (l : List Int) (pre : List (Nat × Nat)) : 0 ≤ (nstP l pre).1 ∧ (nstP l pre).1 ≤ (pre.length : Int) := by
  have key : ∀ (pre : List (Nat × Nat)) (s : Int × (Nat → Int)), 0 ≤ s.1 → 0 ≤ (pre.foldl (nst1 l) s).1 ∧ (pre.foldl (nst1 l) s).1 ≤ s.1 + (pre.length : Int) := by
    intro pre
    induction pre with
    | nil => intro s h; simp [h]
    | cons x r ih =>
      intro s h
      rw [List.foldl_cons]
      have h1 : 0 ≤ (nst1 l s x).1 ∧ (nst1 l s x).1 ≤ s.1 + 1 := by
        unfold nst1
        split
        · exact ⟨h, by omega⟩
        · exact ⟨by show 0 ≤ s.1 + 1; omega, Int.le_refl _⟩
      have := ih (nst1 l s x) h1.1
      rw [List.length_cons]
      omega
  have := key pre (0, fun _ => 0) (Int.le_refl 0)
  unfold nstP
  simpa using this
theorem nst_run {l : List Int} (hn : negB l = false) {pre : List (Nat × Nat)} {b : Nat} (h : Ch l pre b) : (nstP l pre).1 = cntP l b ∧ ∀ j, (nstP l pre).2 j = if j < b then nmP l j else 0 := by
  induction h with
  | nil => exact ⟨rfl, fun j => by rw [if_neg (by omega)]; rfl⟩
  | @snoc pre f t h1 h2 ih =>
    obtain ⟨i1, i2⟩ := ih
    rw [nst_snoc]
    have hft := h2.lt
    have hs := h1.start (by have := h2.le; omega)
    unfold nst1
    dsimp only
    by_cases h0 : atP l f = 0
    · rw [if_pos h0]
      have e := h2.one (by omega)
      subst e
      refine ⟨?_, fun j => ?_⟩
      · rw [i1]; show _ = cntP l f + _
        rw [if_neg (by omega)]; omega
      · rw [i2]
        by_cases e : j = f
        · subst e
          rw [if_neg (by omega), if_pos (by omega)]
          unfold nmP
          rw [if_neg (by omega)]
        · by_cases e2 : j < f
          · rw [if_pos e2, if_pos (by omega)]
          · rw [if_neg e2, if_neg (by omega)]
    · rw [if_neg h0]
      have hp : 0 < atP l f := by have := neg_no hn f; omega
      refine ⟨?_, fun j => ?_⟩
      · have := cnt_run h2 hs hp (t - 1) (by omega) (by omega)
        rw [show t - 1 + 1 = t by omega] at this
        show (nstP l pre).1 + 1 = _
        rw [this, i1]
      · show ovP (nstP l pre).2 f (t - f) ((nstP l pre).1 + 1) j = _
        unfold ovP
        by_cases e : f ≤ j ∧ j < f + (t - f)
        · rw [if_pos e, if_pos (by omega)]
          unfold nmP
          rw [if_pos (by rw [h2.same j e.1 (by omega)]; exact hp), cnt_run h2 hs hp j e.1 (by omega), i1]
        · rw [if_neg e, i2]
          by_cases e2 : j < f
          · rw [if_pos e2, if_pos (by omega)]
          · rw [if_neg e2, if_neg (by omega)]
theorem nst_all {l : List Int} (hc : chkP l = 0) {ys : List (Nat × Nat)} (h : Ch l ys l.length) : tab (nstP l ys).2 l.length = nrmP l := by
  unfold nrmP
  rw [if_pos hc]
  refine tab_ext fun j hj => ?_
  rw [(nst_run (chk_zero.1 hc).1 h).2, if_pos hj]
end Go.Proofs.Ytggbflogndpnoaa
