/- Plain facts on a heap of stops. -/
import Derived.Test.YtkcdifanhdakhaaDoorPlaP
namespace Go.Proofs.YtkcdifanhdakhaaDoor
set_option linter.unusedSimpArgs false
set_option linter.unusedVariables false

def el (l : List Stp) (i : Nat) : Stp := l.getD i (⟨#[]⟩, 0)
def key (l : List Stp) (i : Nat) : Nat := (el l i).2
def swapL (l : List Stp) (i j : Nat) : List Stp := (l.set i (el l j)).set j (el l i)
theorem swapL_len (l : List Stp) (i j : Nat) : (swapL l i j).length = l.length := by simp [swapL]
theorem el_some {l : List Stp} {i : Nat} (h : i < l.length) : l[i]? = some (el l i) := by
  unfold el
  rw [List.getD_eq_getElem?_getD, List.getElem?_eq_getElem h]
  rfl
theorem el_get {l : List Stp} {i : Nat} (h : i < l.length) : l[i] = el l i := by
  have := el_some h
  rw [List.getElem?_eq_getElem h] at this
  exact Option.some.inj this
theorem el_swap (l : List Stp) (i j : Nat) (hi : i < l.length) (hj : j < l.length) (k : Nat) : el (swapL l i j) k = if k = j then el l i else if k = i then el l j else el l k := by
  have e : (swapL l i j)[k]? = if k = j then some (el l i) else if k = i then some (el l j) else l[k]? := by
    unfold swapL
    rw [List.getElem?_set]
    by_cases h1 : j = k
    · subst h1
      simp [hj]
    · rw [if_neg h1, if_neg (fun h => h1 h.symm), List.getElem?_set]
      by_cases h2 : i = k
      · subst h2
        simp [hi]
      · rw [if_neg h2, if_neg (fun h => h2 h.symm)]
  show (swapL l i j).getD k _ = _
  rw [List.getD_eq_getElem?_getD, e]
  split
  · rfl
  · split
    · rfl
    · rw [← List.getD_eq_getElem?_getD]; rfl
theorem key_swap (l : List Stp) (i j : Nat) (hi : i < l.length) (hj : j < l.length) (k : Nat) : key (swapL l i j) k = if k = j then key l i else if k = i then key l j else key l k := by
  unfold key
  rw [el_swap l i j hi hj]
  split
  · rfl
  · split <;> rfl
theorem swapL_perm (l : List Stp) (i j : Nat) (hi : i < l.length) (hj : j < l.length) : (swapL l i j).Perm l := by
  have h := List.set_set_perm («as» := l) hi hj
  have e : swapL l i j = (l.set i l[j]).set j l[i] := by
    unfold swapL
    rw [el_get hi, el_get hj]
  rw [e]
  exact h
/-- the first n are a heap -/
def HeapB (l : List Stp) (n : Nat) : Prop := ∀ i, 0 < i → i < n → key l ((i - 1) / 2) ≤ key l i
def UpX (l : List Stp) (j : Nat) : Prop :=
  (∀ i, 0 < i → i < l.length → i ≠ j → key l ((i - 1) / 2) ≤ key l i) ∧ (∀ i, 0 < i → i < l.length → (i - 1) / 2 = j → 0 < j → key l ((j - 1) / 2) ≤ key l i)
theorem UpX.done {l : List Stp} {j : Nat} (h : UpX l j) (hj : j = 0 ∨ key l ((j - 1) / 2) ≤ key l j) : HeapB l l.length := by
  intro i h0 hi
  by_cases e : i = j
  · subst e
    rcases hj with h | h
    · omega
    · exact h
  · exact h.1 i h0 hi e
theorem UpX.swap {l : List Stp} {j : Nat} (h : UpX l j) (h0 : 0 < j) (hj : j < l.length) (hlt : key l j < key l ((j - 1) / 2)) : UpX (swapL l ((j - 1) / 2) j) ((j - 1) / 2) := by
  have hp : (j - 1) / 2 < j := by omega
  have K := key_swap l ((j - 1) / 2) j (by omega) hj
  rw [UpX, swapL_len]
  constructor
  · intro i hi0 hi hne
    rw [K, K]
    by_cases e : i = j
    · subst e
      rw [if_neg (by omega), if_pos rfl, if_pos rfl]
      omega
    · rw [if_neg e, if_neg hne]
      have h1 := h.1 i hi0 hi e
      by_cases e1 : (i - 1) / 2 = j
      · rw [if_pos e1]
        exact h.2 i hi0 hi e1 h0
      · rw [if_neg e1]
        by_cases e2 : (i - 1) / 2 = (j - 1) / 2
        · rw [if_pos e2]
          rw [e2] at h1
          omega
        · rw [if_neg e2]
          exact h1
  · intro i hi0 hi hpar hpos
    rw [K, K]
    have hg : ((j - 1) / 2 - 1) / 2 < (j - 1) / 2 := by omega
    rw [if_neg (show ¬ ((j - 1) / 2 - 1) / 2 = j by omega), if_neg (show ¬ ((j - 1) / 2 - 1) / 2 = (j - 1) / 2 by omega)]
    have hq := h.1 ((j - 1) / 2) hpos (by omega) (by omega)
    by_cases e : i = j
    · rw [if_pos e]
      exact hq
    · rw [if_neg e, if_neg (show ¬ i = (j - 1) / 2 by omega)]
      have h1 := h.1 i hi0 hi e
      rw [hpar] at h1
      omega
def DownX (l : List Stp) (n i : Nat) : Prop :=
  (∀ k, 0 < k → k < n → (k - 1) / 2 ≠ i → key l ((k - 1) / 2) ≤ key l k) ∧ (∀ k, 0 < k → k < n → (k - 1) / 2 = i → 0 < i → key l ((i - 1) / 2) ≤ key l k)
theorem DownX.done {l : List Stp} {n i : Nat} (h : DownX l n i) (hc : ∀ k, 0 < k → k < n → (k - 1) / 2 = i → key l i ≤ key l k) : HeapB l n := by
  intro k h0 hk
  by_cases e : (k - 1) / 2 = i
  · rw [e]
    exact hc k h0 hk e
  · exact h.1 k h0 hk e
theorem DownX.swap {l : List Stp} {n i j : Nat} (h : DownX l n i) (hn : n ≤ l.length) (hj : j < n) (hp : (j - 1) / 2 = i) (h0 : 0 < j) (hmin : ∀ k, 0 < k → k < n → (k - 1) / 2 = i → key l j ≤ key l k) (hlt : key l j < key l i) :
    DownX (swapL l i j) n j := by
  have hi : i < j := by omega
  have K := key_swap l i j (by omega) (by omega)
  constructor
  · intro k hk0 hk hne
    rw [K, K]
    rw [if_neg hne]
    by_cases e : (k - 1) / 2 = i
    · rw [if_pos e]
      by_cases e1 : k = j
      · rw [if_pos e1]
        omega
      · rw [if_neg e1, if_neg (show ¬ k = i by omega)]
        exact hmin k hk0 hk e
    · rw [if_neg e]
      have h1 := h.1 k hk0 hk e
      have e1 : ¬ k = j := fun e1 => e (by rw [e1]; exact hp)
      rw [if_neg e1]
      by_cases e2 : k = i
      · rw [if_pos e2]
        have h2 := h.2 j h0 hj hp (by omega)
        rw [e2]
        exact h2
      · rw [if_neg e2]
        exact h1
  · intro k hk0 hk hpar hpos
    rw [K, K]
    rw [hp, if_neg (show ¬ i = j by omega), if_pos rfl, if_neg (show ¬ k = j by omega), if_neg (show ¬ k = i by omega)]
    have := h.1 k hk0 hk (by omega)
    rw [hpar] at this
    exact this
theorem HeapB.min {l : List Stp} {n : Nat} (h : HeapB l n) : ∀ k, k < n → key l 0 ≤ key l k := by
  intro k
  induction k using Nat.strongRecOn with
  | ind k ih =>
    intro hk
    by_cases e : k = 0
    · subst e; exact Nat.le_refl _
    · exact Nat.le_trans (ih ((k - 1) / 2) (by omega) (by omega)) (h k (by omega) hk)
theorem heap_pop {l : List Stp} (h : HeapB l l.length) (h0 : 0 < l.length) : DownX (swapL l 0 (l.length - 1)) (l.length - 1) 0 := by
  have K := key_swap l 0 (l.length - 1) h0 (by omega)
  refine ⟨fun k hk0 hk hne => ?_, fun k hk0 hk hp h => absurd h (by omega)⟩
  rw [K, K, if_neg (by omega), if_neg hne, if_neg (by omega), if_neg (by omega)]
  exact h k hk0 (by omega)
theorem heap_push {l : List Stp} (h : HeapB l l.length) (x : Stp) : UpX (l ++ [x]) l.length := by
  have K : ∀ i, i < l.length → key (l ++ [x]) i = key l i := fun i hi => by
    unfold key el
    rw [List.getD_eq_getElem?_getD, List.getD_eq_getElem?_getD, List.getElem?_append_left hi]
  refine ⟨fun i hi0 hi hne => ?_, fun i hi0 hi hp h => ?_⟩
  · simp only [List.length_append, List.length_cons, List.length_nil] at hi
    rw [K _ (by omega), K _ (by omega)]
    exact h i hi0 (by omega)
  · simp only [List.length_append, List.length_cons, List.length_nil] at hi
    omega
theorem key_mem {l : List Stp} {x : Stp} (h : x ∈ l) : ∃ i, i < l.length ∧ key l i = x.2 := by
  obtain ⟨i, hi, rfl⟩ := List.getElem_of_mem h
  exact ⟨i, hi, by unfold key; rw [el_get hi]⟩
theorem heap_one (x : Stp) : HeapB [x] [x].length := fun i h0 hi => by simp at hi; omega
/-- what a heap gives first -/
theorem heap_first {l l2 : List Stp} (h : HeapB l l.length) (h0 : 0 < l.length) (hp : l2.Perm (swapL l 0 (l.length - 1))) (hlen : l2.length = l.length) (he : el l2 (l.length - 1) = el (swapL l 0 (l.length - 1)) (l.length - 1)) :
    l.Perm (el l2 (l.length - 1) :: l2.take (l.length - 1)) ∧ ∀ x ∈ l, (el l2 (l.length - 1)).2 ≤ x.2 := by
  have e0 : el l2 (l.length - 1) = el l 0 := by
    rw [he, el_swap l 0 (l.length - 1) h0 (by omega), if_pos rfl]
  constructor
  · have h1 : l2 = l2.take (l.length - 1) ++ [el l2 (l.length - 1)] := by
      have := List.take_append_getElem (l := l2) (i := l.length - 1) (by omega)
      rw [el_get] at this
      rw [this, List.take_of_length_le (by omega)]
    have h2 : l.Perm l2 := (hp.trans (swapL_perm l 0 (l.length - 1) h0 (by omega))).symm
    exact h2.trans (by
      rw [h1]
      have h3 : (el (l2.take (l.length - 1) ++ [el l2 (l.length - 1)]) (l.length - 1)) = el l2 (l.length - 1) := by rw [← h1]
      rw [h3]
      have h4 : (l2.take (l.length - 1) ++ [el l2 (l.length - 1)]).take (l.length - 1) = l2.take (l.length - 1) := by rw [← h1]
      rw [h4]
      exact List.perm_append_comm)
  · intro x hx
    obtain ⟨i, hi, hk⟩ := key_mem hx
    rw [e0, ← hk]
    exact h.min i hi

end Go.Proofs.YtkcdifanhdakhaaDoor
