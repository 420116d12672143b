/- Words and walks that the laws below ask: SortP, Srt0. -/
import Derived.Sort.LotA
import Derived.Sort.LotD2
import Derived.Sort.WalkA
import Derived.Shelf.SlSortCmp.KitK
import Derived.Lib.Hide
import Derived.Test.YtldillnjnjkkgaaGreatDoorPk5
/- The plain half of a stable sort by merging in place: what a rotation and a merge do to a row, and that the parts make a sorted whole. No program in this text. -/
namespace Go.Proofs.YtldillnjnjkkgaaGreatDoor
open Go.Sort
set_option linter.unusedSimpArgs false
set_option linter.unusedVariables false
variable {α : Type} [Inhabited α]

/-- x goes ahead of y: 'tot' is a strict weak order that parts equals by 'lo', which is how they stood at first -/
structure Ordd (lt tot : α → α → Bool) (lo : α → α → Prop) : Prop where
  swo : SWO tot
  key : ∀ x y, lo x y → lt y x = tot y x
omit [Inhabited α] in
theorem asym {lt : α → α → Bool} (h : SWO lt) {x y : α} (h1 : lt x y = true) : lt y x = false := by
  cases h2 : lt y x
  · rfl
  · have := h.trans _ _ _ h1 h2; rw [h.irrefl] at this; cases this

/-- the places a ≤ k < m change with those m ≤ k < b -/
def rotAt (a m b : Nat) (d : Array α) (k : Nat) : α := if a ≤ k ∧ k < a + (b - m) then d[k + (m - a)]! else if a + (b - m) ≤ k ∧ k < b then d[k - (b - m)]! else d[k]!
/-- the n places from a on change with those from b on -/
def swrAt (a b n : Nat) (d : Array α) (k : Nat) : α := if a ≤ k ∧ k < a + n then d[k - a + b]! else if b ≤ k ∧ k < b + n then d[k - b + a]! else d[k]!

theorem swr_zero (a b : Nat) (d : Array α) (k : Nat) : swrAt a b 0 d k = d[k]! := by
  unfold swrAt
  rw [if_neg (by omega), if_neg (by omega)]
theorem swr_step (a b i : Nat) (d d' : Array α) (hab : a + i < b) (hb : b + i < d.size) (hs : d'.size = d.size) (h : ∀ k, d'[k]! = swrAt a b i d k) (k : Nat) :
    (swp d' (a + i) (b + i))[k]! = swrAt a b (i + 1) d k := by
  by_cases h1 : k = a + i
  · subst h1
    rw [swp_left _ _ _ (by omega) (by omega), h]
    unfold swrAt
    rw [if_neg (by omega), if_neg (by omega), if_pos (by omega)]
    congr 1; omega
  by_cases h2 : k = b + i
  · subst h2
    rw [swp_right _ _ _ (by omega), h]
    unfold swrAt
    rw [if_neg (by omega), if_neg (by omega), if_neg (by omega), if_pos (by omega)]
    congr 1; omega
  · rw [swp_other _ _ _ _ h1 h2, h]
    unfold swrAt
    by_cases h3 : a ≤ k ∧ k < a + i
    · rw [if_pos h3, if_pos (by omega)]
    · rw [if_neg h3, if_neg (c := a ≤ k ∧ k < a + (i + 1)) (by omega)]
      by_cases h4 : b ≤ k ∧ k < b + i
      · rw [if_pos h4, if_pos (by omega)]
      · rw [if_neg h4, if_neg (by omega)]

theorem rot_more (m i j : Nat) (d d' : Array α) (hi : i ≤ m) (hij : j < i) (h : ∀ k, d'[k]! = swrAt (m - i) m j d k) (k : Nat) :
    rotAt (m - (i - j)) m (m + j) d' k = rotAt (m - i) m (m + j) d k := by
  unfold rotAt
  by_cases h1 : m - i ≤ k ∧ k < m - i + j
  · rw [if_neg (by omega), if_neg (by omega), if_pos (by omega), h]
    unfold swrAt
    rw [if_pos (by omega)]
    congr 1; omega
  by_cases h2 : m - i + j ≤ k ∧ k < m + j
  · rw [if_neg (c := m - i ≤ k ∧ k < m - i + (m + j - m)) (by omega), if_pos (c := m - i + (m + j - m) ≤ k ∧ k < m + j) (by omega)]
    by_cases h3 : k < m - (i - j) + j
    · rw [if_pos (by omega), h]
      unfold swrAt
      rw [if_neg (by omega), if_pos (by omega)]
      congr 1; omega
    · rw [if_neg (by omega), if_pos (by omega), h]
      unfold swrAt
      rw [if_neg (by omega), if_neg (by omega)]
  · rw [if_neg (by omega), if_neg (by omega), if_neg (by omega), if_neg (by omega), h]
    unfold swrAt
    rw [if_neg (by omega), if_neg (by omega)]
theorem rot_less (m i j : Nat) (d d' : Array α) (hi : i ≤ m) (hij : i < j) (h : ∀ k, d'[k]! = swrAt (m - i) (m + j - i) i d k) (k : Nat) :
    rotAt (m - i) m (m + (j - i)) d' k = rotAt (m - i) m (m + j) d k := by
  unfold rotAt
  by_cases h1 : m + j - i ≤ k ∧ k < m + j
  · rw [if_neg (by omega), if_neg (by omega), if_neg (by omega), if_pos (by omega), h]
    unfold swrAt
    rw [if_neg (by omega), if_pos (by omega)]
    congr 1; omega
  by_cases h2 : m - i ≤ k ∧ k < m + j - i
  · by_cases h3 : k < m - i + (j - i)
    · rw [if_pos (by omega), if_pos (c := m - i ≤ k ∧ k < m - i + (m + j - m)) (by omega), h]
      unfold swrAt
      by_cases h5 : m + j - i ≤ k + i
      · rw [if_neg (by omega), if_pos (by omega)]
        exfalso; omega
      · rw [if_neg (by omega), if_neg (by omega)]
    · rw [if_neg (by omega), if_pos (by omega), if_pos (by omega), h]
      unfold swrAt
      rw [if_pos (by omega)]
      congr 1; omega
  · rw [if_neg (by omega), if_neg (by omega), if_neg (by omega), if_neg (by omega), h]
    unfold swrAt
    rw [if_neg (by omega), if_neg (by omega)]
theorem rot_last (m i : Nat) (d d' : Array α) (hi : i ≤ m) (h : ∀ k, d'[k]! = swrAt (m - i) m i d k) (k : Nat) : d'[k]! = rotAt (m - i) m (m + i) d k := by
  rw [h]
  unfold rotAt swrAt
  by_cases h1 : m - i ≤ k ∧ k < m - i + i
  · rw [if_pos h1, if_pos (by omega)]; congr 1; omega
  by_cases h2 : m ≤ k ∧ k < m + i
  · rw [if_neg h1, if_pos h2, if_neg (by omega), if_pos (by omega)]; congr 1; omega
  · rw [if_neg h1, if_neg h2, if_neg (by omega), if_neg (by omega)]

/-! ### gluing -/
section
variable {lt tot : α → α → Bool} {lo : α → α → Prop}
theorem glue (a mid b : Nat) (d2 d3 d4 : Array α) (ham : a ≤ mid) (hmb : mid ≤ b) (hb : b ≤ d2.size)
    (hx : ∀ i j, a ≤ i → i < mid → mid ≤ j → j < b → tot d2[j]! d2[i]! = false)
    (p1 : PermIn a mid d2 d3) (s1 : SortedIn tot a mid d3) (p2 : PermIn mid b d3 d4) (s2 : SortedIn tot mid b d4) :
    PermIn a b d2 d4 ∧ SortedIn tot a b d4 := by
  have hs3 := p1.1
  have q1 := permIn_mono d2 d3 a mid a b (Nat.le_refl _) hmb hb p1
  have q2 := permIn_mono d3 d4 mid b a b ham (Nat.le_refl _) (by omega) p2
  refine ⟨permIn_trans _ _ _ _ _ q1 q2, fun i j hi hij hj => ?_⟩
  by_cases h1 : j < mid
  · rw [p2.2.1 i (Or.inl (by omega)), p2.2.1 j (Or.inl h1)]
    exact s1 i j hi hij h1
  by_cases h2 : mid ≤ i
  · exact s2 i j h2 hij hj
  · rw [p2.2.1 i (Or.inl (by omega))]
    refine permIn_all d3 d4 mid b (fun x => tot x d3[i]! = false) (by omega) p2 (fun j' hj1 hj2 => ?_) j (by omega) hj
    rw [p1.2.1 j' (Or.inr hj1)]
    exact permIn_all d2 d3 a mid (fun x => tot d2[j']! x = false) (by omega) p1 (fun i' hi1 hi2 => hx i' j' hi1 hi2 hj1 hj2) i hi (by omega)

/-- what stands at the head of a merge -/
structure Halves (tot : α → α → Bool) (lo : α → α → Prop) (a m b : Nat) (d : Array α) : Prop where
  left : SortedIn tot a m d
  right : SortedIn tot m b d
  asc : ∀ i j, a ≤ i → i < m → m ≤ j → j < b → lo d[i]! d[j]!

/-- where the halves are cut, and what is known of the places at the cut -/
structure Cutt (tot : α → α → Bool) (a m b mid s e : Nat) (d : Array α) : Prop where
  b1 : a ≤ s
  b2 : s ≤ m
  b3 : m ≤ e
  b4 : e ≤ b
  sum : s + e = mid + m
  low : s = a ∨ e = b ∨ tot d[e]! d[s - 1]! = false
  high : s = m ∨ e = m ∨ tot d[e - 1]! d[s]! = true

theorem sorted_le {a b : Nat} {d : Array α} (S : SWO tot) (h : SortedIn tot a b d) {i j : Nat} (hi : a ≤ i) (hij : i ≤ j) (hj : j < b) : tot d[j]! d[i]! = false := by
  rcases Nat.eq_or_lt_of_le hij with h1 | h1
  · subst h1; exact S.irrefl _
  · exact h i j hi h1 hj

theorem Cutt.cross {a m b mid s e : Nat} {d d2 : Array α} (C : Cutt tot a m b mid s e d) (S : SWO tot) (H : Halves tot lo a m b d) (hr : ∀ k, d2[k]! = rotAt s m e d k) :
    ∀ i j, a ≤ i → i < mid → mid ≤ j → j < b → tot d2[j]! d2[i]! = false := by
  intro i j hi1 hi2 hj1 hj2
  obtain ⟨b1, b2, b3, b4, sum, low, high⟩ := C
  rw [hr, hr]
  unfold rotAt
  -- j: in [mid, e) from the left half, or in [e, b)
  rw [if_neg (c := s ≤ j ∧ j < s + (e - m)) (by omega)]
  by_cases h1 : i < s
  · rw [if_neg (c := s ≤ i ∧ i < s + (e - m)) (by omega), if_neg (c := s + (e - m) ≤ i ∧ i < e) (by omega)]
    by_cases h2 : j < e
    · rw [if_pos (by omega)]
      exact H.left i _ hi1 (by omega) (by omega)
    · rw [if_neg (by omega)]
      rcases low with low | low | low
      · omega
      · omega
      · have e1 := sorted_le S H.left (i := i) (j := s - 1) hi1 (by omega) (by omega)
        have e2 := sorted_le S H.right (i := e) (j := j) b3 (by omega) hj2
        exact S.ntrans _ _ _ e2 (S.ntrans _ _ _ low e1)
  · rw [if_pos (c := s ≤ i ∧ i < s + (e - m)) (by omega)]
    by_cases h2 : j < e
    · rw [if_pos (by omega)]
      rcases high with high | high | high
      · omega
      · omega
      · have e1 := sorted_le S H.left (i := s) (j := j - (e - m)) b1 (by omega) (by omega)
        have e2 := sorted_le S H.right (i := i + (m - s)) (j := e - 1) (by omega) (by omega) (by omega)
        exact S.ntrans _ _ _ e1 (S.ntrans _ _ _ (asym S high) e2)
    · rw [if_neg (by omega)]
      exact H.right _ _ (by omega) (by omega) hj2

theorem Cutt.lower {a m b mid s e : Nat} {d d2 : Array α} (C : Cutt tot a m b mid s e d) (H : Halves tot lo a m b d) (hr : ∀ k, d2[k]! = rotAt s m e d k) : Halves tot lo a s mid d2 := by
  obtain ⟨b1, b2, b3, b4, sum, _, _⟩ := C
  have g1 : ∀ k, k < s → d2[k]! = d[k]! := fun k hk => by
    rw [hr]; unfold rotAt; rw [if_neg (by omega), if_neg (by omega)]
  have g2 : ∀ k, s ≤ k → k < mid → d2[k]! = d[k + (m - s)]! := fun k h1 h2 => by
    rw [hr]; unfold rotAt; rw [if_pos (by omega)]
  refine ⟨fun i j h1 h2 h3 => ?_, fun i j h1 h2 h3 => ?_, fun i j h1 h2 h3 h4 => ?_⟩
  · rw [g1 i (by omega), g1 j (by omega)]; exact H.left i j h1 h2 (by omega)
  · rw [g2 i (by omega) (by omega), g2 j (by omega) (by omega)]; exact H.right _ _ (by omega) (by omega) (by omega)
  · rw [g1 i (by omega), g2 j (by omega) (by omega)]; exact H.asc _ _ h1 (by omega) (by omega) (by omega)
theorem Cutt.upper {a m b mid s e : Nat} {d d2 d3 : Array α} (C : Cutt tot a m b mid s e d) (H : Halves tot lo a m b d) (hr : ∀ k, d2[k]! = rotAt s m e d k) (p : PermIn a mid d2 d3) : Halves tot lo mid e b d3 := by
  obtain ⟨b1, b2, b3, b4, sum, _, _⟩ := C
  have g1 : ∀ k, mid ≤ k → k < e → d3[k]! = d[k - (e - m)]! := fun k h1 h2 => by
    rw [p.2.1 k (Or.inr h1), hr]; unfold rotAt; rw [if_neg (by omega), if_pos (by omega)]
  have g2 : ∀ k, e ≤ k → d3[k]! = d[k]! := fun k h1 => by
    rw [p.2.1 k (Or.inr (by omega)), hr]; unfold rotAt; rw [if_neg (by omega), if_neg (by omega)]
  refine ⟨fun i j h1 h2 h3 => ?_, fun i j h1 h2 h3 => ?_, fun i j h1 h2 h3 h4 => ?_⟩
  · rw [g1 i (by omega) (by omega), g1 j (by omega) (by omega)]; exact H.left _ _ (by omega) (by omega) (by omega)
  · rw [g2 i (by omega), g2 j (by omega)]; exact H.right _ _ (by omega) (by omega) (by omega)
  · rw [g1 i (by omega) (by omega), g2 j (by omega)]; exact H.asc _ _ (by omega) (by omega) (by omega) (by omega)
/-- one half is empty: the other is the whole -/
theorem Halves.sorted {a m b : Nat} {d : Array α} (H : Halves tot lo a m b d) (h : ¬ (a < m ∧ m < b)) : SortedIn tot a b d := by
  intro i j h1 h2 h3
  by_cases h4 : m ≤ a
  · exact H.right i j (by omega) h2 h3
  · exact H.left i j h1 h2 (by omega)
theorem rot_none (s m e : Nat) (d : Array α) (h : s = m ∨ e = m) (hs : s ≤ m) (he : m ≤ e) (k : Nat) : d[k]! = rotAt s m e d k := by
  unfold rotAt
  rcases h with h | h
  · subst h
    by_cases h1 : s ≤ k ∧ k < s + (e - s)
    · rw [if_pos h1]; congr 1; omega
    · rw [if_neg h1, if_neg (by omega)]
  · subst h
    by_cases h1 : s + (e - e) ≤ k ∧ k < e
    · rw [if_neg (by omega), if_pos h1]; congr 1; omega
    · rw [if_neg (by omega), if_neg h1]

/-! ### one element into a sorted row -/
/-- the first of the places a ≤ k < i goes behind the others -/
theorem swp_up (a i : Nat) (d d' : Array α) (k : Nat) (hk : a ≤ k) (hi : i + 1 ≤ d.size) (hki : k < i) (hs : d'.size = d.size)
    (h : ∀ x, d'[x]! = if a ≤ x ∧ x < k then d[x + 1]! else if x = k then d[a]! else d[x]!) (x : Nat) :
    (swp d' k (k + 1))[x]! = if a ≤ x ∧ x < k + 1 then d[x + 1]! else if x = k + 1 then d[a]! else d[x]! := by
  by_cases h1 : x = k
  · subst h1
    rw [swp_left _ _ _ (by omega) (by omega), h, if_neg (by omega), if_neg (by omega), if_pos (by omega)]
  by_cases h2 : x = k + 1
  · subst h2
    rw [swp_right _ _ _ (by omega), h, if_neg (by omega), if_pos rfl, if_neg (by omega), if_pos rfl]
  · rw [swp_other _ _ _ _ h1 h2, h]
    by_cases h3 : a ≤ x ∧ x < k
    · rw [if_pos h3, if_pos (by omega)]
    · rw [if_neg h3, if_neg (by omega), if_neg (by omega), if_neg (by omega)]
/-- the last, m, goes ahead of the places from i on -/
theorem swp_down (m : Nat) (d d' : Array α) (k : Nat) (hk : k + 1 ≤ m) (hm : m < d.size) (hs : d'.size = d.size)
    (h : ∀ x, d'[x]! = if k + 1 < x ∧ x ≤ m then d[x - 1]! else if x = k + 1 then d[m]! else d[x]!) (x : Nat) :
    (swp d' (k + 1) k)[x]! = if k < x ∧ x ≤ m then d[x - 1]! else if x = k then d[m]! else d[x]! := by
  by_cases h1 : x = k + 1
  · subst h1
    rw [swp_left _ _ _ (by omega) (by omega), h, if_neg (by omega), if_neg (by omega), if_pos (by omega)]
    congr 1
  by_cases h2 : x = k
  · subst h2
    rw [swp_right _ _ _ (by omega), h, if_neg (by omega), if_pos rfl, if_neg (by omega), if_pos rfl]
  · rw [swp_other _ _ _ _ h1 h2, h]
    by_cases h3 : k + 1 < x ∧ x ≤ m
    · rw [if_pos h3, if_pos (by omega)]
    · rw [if_neg h3, if_neg (by omega), if_neg (by omega), if_neg (by omega)]

theorem one_left (S : SWO tot) {a b i : Nat} {d d' : Array α} (H : Halves tot lo a (a + 1) b d) (h1 : a + 1 ≤ i) (h2 : i ≤ b)
    (hlow : i = a + 1 ∨ tot d[i - 1]! d[a]! = true) (hhigh : i = b ∨ tot d[i]! d[a]! = false)
    (h : ∀ x, d'[x]! = if a ≤ x ∧ x < i - 1 then d[x + 1]! else if x = i - 1 then d[a]! else d[x]!) : SortedIn tot a b d' := by
  intro x y hx hxy hy
  rw [h, h]
  by_cases c1 : y < i - 1
  · rw [if_pos (by omega), if_pos (by omega)]
    exact H.right _ _ (by omega) (by omega) (by omega)
  by_cases c2 : y = i - 1
  · rw [if_neg (by omega), if_pos c2, if_pos (by omega)]
    rcases hlow with hl | hl
    · omega
    · exact S.ntrans _ _ _ (asym S hl) (sorted_le S H.right (by omega) (by omega) (by omega))
  · rw [if_neg (by omega), if_neg c2]
    by_cases c3 : x < i - 1
    · rw [if_pos (by omega)]
      exact H.right _ _ (by omega) (by omega) (by omega)
    by_cases c4 : x = i - 1
    · rw [if_neg (by omega), if_pos c4]
      rcases hhigh with hh | hh
      · omega
      · exact S.ntrans _ _ _ (sorted_le S H.right (i := i) (by omega) (by omega) (by omega)) hh
    · rw [if_neg (by omega), if_neg c4]
      exact H.right _ _ (by omega) (by omega) (by omega)
theorem one_right (S : SWO tot) {a m i : Nat} {d d' : Array α} (H : Halves tot lo a m (m + 1) d) (h1 : a ≤ i) (h2 : i ≤ m)
    (hlow : i = a ∨ tot d[m]! d[i - 1]! = false) (hhigh : i = m ∨ tot d[m]! d[i]! = true)
    (h : ∀ x, d'[x]! = if i < x ∧ x ≤ m then d[x - 1]! else if x = i then d[m]! else d[x]!) : SortedIn tot a (m + 1) d' := by
  intro x y hx hxy hy
  rw [h, h]
  by_cases c1 : i < x
  · rw [if_pos (by omega), if_pos (by omega)]
    exact H.left _ _ (by omega) (by omega) (by omega)
  by_cases c2 : x = i
  · rw [if_pos (by omega), if_neg (by omega), if_pos c2]
    rcases hhigh with hh | hh
    · omega
    · exact S.ntrans _ _ _ (sorted_le S H.left (i := i) (by omega) (by omega) (by omega)) (asym S hh)
  · rw [if_neg (c := i < x ∧ x ≤ m) (by omega), if_neg c2]
    by_cases c3 : i < y
    · rw [if_pos (by omega)]
      exact H.left _ _ (by omega) (by omega) (by omega)
    by_cases c4 : y = i
    · rw [if_neg (by omega), if_pos c4]
      rcases hlow with hh | hh
      · omega
      · exact S.ntrans _ _ _ hh (sorted_le S H.left (j := i - 1) (by omega) (by omega) (by omega))
    · rw [if_neg (by omega), if_neg c4]
      exact H.left _ _ (by omega) (by omega) (by omega)

/-! ### insertion, over elements that ascend by 'lo' at first -/
theorem inner_eq (O : Ordd lt tot lo) (a : Nat) : ∀ (j : Nat) (d : Array α), j < d.size → (∀ k, a ≤ k → k < j → lo d[k]! d[j]!) → insInner lt a j d = insInner tot a j d
  | 0, d, _, _ => by rw [insInner_stop lt a 0 d (Or.inl (Nat.zero_le _)), insInner_stop tot a 0 d (Or.inl (Nat.zero_le _))]
  | j + 1, d, hj, h => by
    by_cases ha : a < j + 1
    · have e := O.key _ _ (h j (by omega) (by omega))
      cases hc : tot d[j + 1]! d[j]!
      · rw [insInner_stop lt a (j + 1) d (Or.inr (e.trans hc)), insInner_stop tot a (j + 1) d (Or.inr hc)]
      · rw [insInner_go lt a (j + 1) d ha (e.trans hc), insInner_go tot a (j + 1) d ha hc]
        refine inner_eq O a j _ (by rw [size_swp]; omega) (fun k h1 h2 => ?_)
        simp only [Nat.add_sub_cancel]
        rw [swp_other _ _ _ _ (by omega) (by omega), swp_right _ _ _ (by omega)]
        exact h k h1 (by omega)
    · rw [insInner_stop lt a (j + 1) d (Or.inl (by omega)), insInner_stop tot a (j + 1) d (Or.inl (by omega))]
theorem inner_perm (a : Nat) (f : α → α → Bool) : ∀ (j : Nat) (d : Array α), j < d.size → a ≤ j → PermIn a (j + 1) d (insInner f a j d)
  | 0, d, _, _ => by rw [insInner_stop f a 0 d (Or.inl (Nat.zero_le _))]; exact permIn_refl _ _ _
  | j + 1, d, hj, ha => by
    by_cases h : a < j + 1 ∧ f d[j + 1]! d[j]! = true
    · rw [insInner_go f a (j + 1) d h.1 h.2]
      simp only [Nat.add_sub_cancel]
      have h1 := swp_permIn d a (j + 1 + 1) (j + 1) j (by omega) (by omega) (by omega) (by omega) (by omega)
      have h2 := inner_perm a f j (swp d (j + 1) j) (by rw [size_swp]; omega) (by omega)
      exact permIn_trans _ _ _ _ _ h1 (permIn_mono _ _ a (j + 1) a (j + 1 + 1) (Nat.le_refl _) (by omega) (by rw [size_swp]; omega) h2)
    · rw [insInner_stop f a (j + 1) d (by
        by_cases h1 : a < j + 1
        · exact Or.inr (by simpa using fun hc => h ⟨h1, hc⟩)
        · exact Or.inl (by omega))]
      exact permIn_refl _ _ _
theorem outer_eq (O : Ordd lt tot lo) (a b : Nat) : ∀ (n i : Nat) (d : Array α), b - i = n → a ≤ i → b ≤ d.size → (∀ k m, a ≤ k → k < m → i ≤ m → m < b → lo d[k]! d[m]!) → insOuter lt a b i d = insOuter tot a b i d
  | 0, i, d, hn, _, _, _ => by rw [insOuter_stop lt a b i d (by omega), insOuter_stop tot a b i d (by omega)]
  | n + 1, i, d, hn, hi, hb, h => by
    rw [insOuter_go lt a b i d (by omega), insOuter_go tot a b i d (by omega), inner_eq O a i d (by omega) (fun k h1 h2 => h k i h1 h2 (Nat.le_refl _) (by omega))]
    have p := inner_perm a tot i d (by omega) hi
    refine outer_eq O a b n (i + 1) _ (by omega) (by omega) (by rw [p.1]; exact hb) (fun k m h1 h2 h3 h4 => ?_)
    rw [p.2.1 m (Or.inr (by omega))]
    by_cases hk : k < i + 1
    · exact permIn_all d _ a (i + 1) (fun x => lo x d[m]!) (by omega) p (fun k' h5 h6 => h k' m h5 (by omega) (by omega) h4) k h1 hk
    · rw [p.2.1 k (Or.inr (by omega))]; exact h k m h1 h2 (by omega) h4
theorem insertion_stable (O : Ordd lt tot lo) (a b : Nat) (d : Array α) (hab : a ≤ b) (hb : b ≤ d.size) (h : ∀ k m, a ≤ k → k < m → m < b → lo d[k]! d[m]!) :
    PermIn a b d (insertionSort lt d a b) ∧ SortedIn tot a b (insertionSort lt d a b) := by
  have e : insertionSort lt d a b = insertionSort tot d a b := by
    unfold insertionSort
    exact outer_eq O a b _ (a + 1) d rfl (by omega) hb (fun k m h1 h2 h3 h4 => h k m h1 h2 h4)
  rw [e]
  exact insertionSort_holds O.swo d a b hab hb

/-! ### the blocks -/
/-- places with one label are sorted; of two labels' elements the earlier one's came first -/
def Lab (tot : α → α → Bool) (lo : α → α → Prop) (n : Nat) (lab : Nat → Nat) (d : Array α) : Prop :=
  ∀ i j, i < j → j < n → (lab i = lab j → tot d[j]! d[i]! = false) ∧ (lab i ≠ lab j → lo d[i]! d[j]!)
theorem Lab.congr {n : Nat} {lab lab' : Nat → Nat} {d : Array α} (h : Lab tot lo n lab d) (he : ∀ i j, i < j → j < n → (lab' i = lab' j ↔ lab i = lab j)) : Lab tot lo n lab' d := fun i j h1 h2 =>
  ⟨fun h3 => (h i j h1 h2).1 ((he i j h1 h2).1 h3), fun h3 => (h i j h1 h2).2 fun h4 => h3 ((he i j h1 h2).2 h4)⟩
theorem Lab.step {n a b : Nat} {lab lab' : Nat → Nat} {d d' : Array α} (h : Lab tot lo n lab d) (hb : b ≤ n) (hn : n ≤ d.size) (p : PermIn a b d d') (s : SortedIn tot a b d')
    (hin : ∀ i j, a ≤ i → i < j → j < b → lab' i = lab' j)
    (hout : ∀ i j, i < j → j < n → ¬ (a ≤ i ∧ j < b) → (lab' i = lab' j ↔ lab i = lab j))
    (hx : ∀ i j, i < j → j < n → (a ≤ i ∧ i < b ∧ b ≤ j ∨ i < a ∧ a ≤ j ∧ j < b) → lab i ≠ lab j) : Lab tot lo n lab' d' := by
  intro i j hij hj
  by_cases h1 : a ≤ i ∧ j < b
  · exact ⟨fun _ => s i j h1.1 hij h1.2, fun h3 => absurd (hin i j h1.1 hij h1.2) h3⟩
  have e := hout i j hij hj h1
  by_cases h2 : a ≤ i ∧ i < b
  · -- j is behind
    have hjb : b ≤ j := by omega
    have hne := hx i j hij hj (Or.inl ⟨h2.1, h2.2, hjb⟩)
    refine ⟨fun h3 => absurd (e.1 h3) hne, fun _ => ?_⟩
    rw [p.2.1 j (Or.inr hjb)]
    exact permIn_all d d' a b (fun x => lo x d[j]!) (by omega) p (fun i' h5 h6 => (h i' j (by omega) hj).2 (hx i' j (by omega) hj (Or.inl ⟨h5, h6, hjb⟩))) i h2.1 h2.2
  by_cases h3 : a ≤ j ∧ j < b
  · have hia : i < a := by omega
    have hne := hx i j hij hj (Or.inr ⟨hia, h3.1, h3.2⟩)
    refine ⟨fun h4 => absurd (e.1 h4) hne, fun _ => ?_⟩
    rw [p.2.1 i (Or.inl hia)]
    exact permIn_all d d' a b (fun x => lo d[i]! x) (by omega) p (fun j' h5 h6 => (h i j' (by omega) (by omega)).2 (hx i j' (by omega) (by omega) (Or.inr ⟨hia, h5, h6⟩))) j h3.1 h3.2
  · rw [p.2.1 i (by omega), p.2.1 j (by omega)]
    exact ⟨fun h4 => (h i j hij hj).1 (e.1 h4), fun h4 => (h i j hij hj).2 fun h5 => h4 (e.2 h5)⟩
theorem Lab.halves {n a m b : Nat} {lab : Nat → Nat} {d : Array α} (h : Lab tot lo n lab d) (hb : b ≤ n) (h1 : ∀ i j, a ≤ i → i < j → j < m → lab i = lab j) (h2 : ∀ i j, m ≤ i → i < j → j < b → lab i = lab j)
    (h3 : ∀ i j, a ≤ i → i < m → m ≤ j → j < b → lab i ≠ lab j) (hm : m ≤ b) : Halves tot lo a m b d :=
  ⟨fun i j c1 c2 c3 => (h i j c2 (by omega)).1 (h1 i j c1 c2 c3), fun i j c1 c2 c3 => (h i j c2 (by omega)).1 (h2 i j c1 c2 c3), fun i j c1 c2 c3 c4 => (h i j (by omega) (by omega)).2 (h3 i j c1 c2 c3 c4)⟩
end
end Go.Proofs.YtldillnjnjkkgaaGreatDoor

/- Words for the library's stable sort at rows of legs on a day (8 cells). -/
namespace Go.Proofs.YtldillnjnjkkgaaGreatDoor
open Go.Shelf Go.RowKit Go.Lib Go.Sort
set_option linter.unusedSimpArgs false
set_option linter.unusedVariables false

instance : Inhabited Dt := ⟨⟨noB, 0, 0, noB, noB, 0, 0, noB⟩⟩
abbrev aggD (d : Dt) : Value := .agg #[.string d.car, .int .i64 d.num, .int .i64 d.day, .string d.f, .string d.t, .int .i64 d.dep, .int .i64 d.arr, .string d.eq]
variable {w0 W : World} {blk off : Nat} {dk d0 : Array Dt}
theorem dt_at (h : SWK encDt 8 w0 blk off dk W) (R : RowK encDt 8 w0 blk off d0) (hs : dk.size = d0.size) (i : Nat) (hi : i < dk.size) : ∀ j u, (encDt dk[i]!)[j]? = some u → W.cell? ⟨blk, off + i * 8 + j, none⟩ = some u := by
  have h1 := HoldsK.cells (h.holds R.hblk R.hH hs) R.hk hi
  intro j u hu
  have h2 := h1 j u hu
  rw [Addr.add_lit] at h2
  exact h2
theorem dt_fr (h : SWK encDt 8 w0 blk off dk W) (R : RowK encDt 8 w0 blk off d0) (hs : dk.size = d0.size) (i : Nat) (hi : i < dk.size) : ∀ j, j < 8 → W.frozen? ⟨blk, off + i * 8 + j, none⟩ = false := by
  intro j hj
  have h1 : Holds id W blk off (flatK encDt 8 dk) := h.holds R.hblk R.hH hs
  have h2 := (h1 (i * 8 + j) (by rw [size_flatK]; omega)).2
  rw [← Nat.add_assoc] at h2
  exact h2
/-- an element of the row, in every world that a comparison passes through -/
theorem dt_cl (h : SWK encDt 8 w0 blk off dk W) (R : RowK encDt 8 w0 blk off d0) (hs : dk.size = d0.size) (i : Nat) (hi : i < dk.size) :
    (∀ n os, (grow (W.drewN n) os).cell? ⟨blk, off + i * 8, none⟩ = some (.string dk[i]!.car)) ∧ (∀ n os, (grow (W.drewN n) os).cell? ⟨blk, off + i * 8 + 1, none⟩ = some (.int .i64 dk[i]!.num)) ∧
    (∀ n os, (grow (W.drewN n) os).cell? ⟨blk, off + i * 8 + 2, none⟩ = some (.int .i64 dk[i]!.day)) ∧ (∀ n os, (grow (W.drewN n) os).cell? ⟨blk, off + i * 8 + 3, none⟩ = some (.string dk[i]!.f)) ∧
    (∀ n os, (grow (W.drewN n) os).cell? ⟨blk, off + i * 8 + 4, none⟩ = some (.string dk[i]!.t)) ∧ (∀ n os, (grow (W.drewN n) os).cell? ⟨blk, off + i * 8 + 5, none⟩ = some (.int .i64 dk[i]!.dep)) ∧
    (∀ n os, (grow (W.drewN n) os).cell? ⟨blk, off + i * 8 + 6, none⟩ = some (.int .i64 dk[i]!.arr)) ∧ (∀ n os, (grow (W.drewN n) os).cell? ⟨blk, off + i * 8 + 7, none⟩ = some (.string dk[i]!.eq)) := by
  have g := fun n os => dt_at (h.grown n os) R hs i hi
  exact ⟨fun n os => g n os 0 _ rfl, fun n os => g n os 1 _ rfl, fun n os => g n os 2 _ rfl, fun n os => g n os 3 _ rfl, fun n os => g n os 4 _ rfl, fun n os => g n os 5 _ rfl, fun n os => g n os 6 _ rfl, fun n os => g n os 7 _ rfl⟩
theorem dt_cmp {g : Nat} {cb : Array Value} {cf : Dt → Dt → Int} {size : Nat} (h : SWK encDt 8 w0 blk off dk W) (hC : CmpLays Tryz.prog g cb encDt 8 cf blk off size w0) (hs : dk.size = size) (x y : Dt) (n : Nat) (os : Array Obj) :
    Calls Tryz.prog g (#[aggD x, aggD y] ++ cb) (grow (W.drewN n) os) fun e w' => e = .returned (.int .i64 (cf x y)) ∧ ∃ q os', w' = grow ((grow (W.drewN n) os).drewN q) os' := h.cmp hC hs x y n os
/-- eight stores -/
def S8 (w : World) (b o : Nat) (x : Dt) : World := (((((((w.setCell ⟨b, o, none⟩ (.string x.car)).setCell ⟨b, o + 1, none⟩ (.int .i64 x.num)).setCell ⟨b, o + 2, none⟩ (.int .i64 x.day)).setCell ⟨b, o + 3, none⟩ (.string x.f)).setCell ⟨b, o + 4, none⟩ (.string x.t)).setCell ⟨b, o + 5, none⟩ (.int .i64 x.dep)).setCell ⟨b, o + 6, none⟩ (.int .i64 x.arr)).setCell ⟨b, o + 7, none⟩ (.string x.eq)
theorem dt_swap (h : SWK encDt 8 w0 blk off dk W) (R : RowK encDt 8 w0 blk off d0) (i j : Nat) (hi : i < dk.size) (hj : j < dk.size) :
    SWK encDt 8 w0 blk off (swp dk i j) (S8 (S8 W.drew blk (off + i * 8) dk[j]!) blk (off + j * 8) dk[i]!) := h.swapped R i j hi hj
theorem dt_c8 (h : SWK encDt 8 w0 blk off dk W) (R : RowK encDt 8 w0 blk off d0) (hs : dk.size = d0.size) (i : Nat) (hi : i < dk.size) :
    W.cell? ⟨blk, off + i * 8, none⟩ = some (.string dk[i]!.car) ∧ W.cell? ⟨blk, off + i * 8 + 1, none⟩ = some (.int .i64 dk[i]!.num) ∧ W.cell? ⟨blk, off + i * 8 + 2, none⟩ = some (.int .i64 dk[i]!.day) ∧ W.cell? ⟨blk, off + i * 8 + 3, none⟩ = some (.string dk[i]!.f) ∧
    W.cell? ⟨blk, off + i * 8 + 4, none⟩ = some (.string dk[i]!.t) ∧ W.cell? ⟨blk, off + i * 8 + 5, none⟩ = some (.int .i64 dk[i]!.dep) ∧ W.cell? ⟨blk, off + i * 8 + 6, none⟩ = some (.int .i64 dk[i]!.arr) ∧ W.cell? ⟨blk, off + i * 8 + 7, none⟩ = some (.string dk[i]!.eq) := by
  have g := dt_at h R hs i hi
  exact ⟨g 0 _ rfl, g 1 _ rfl, g 2 _ rfl, g 3 _ rfl, g 4 _ rfl, g 5 _ rfl, g 6 _ rfl, g 7 _ rfl⟩
theorem dt_f8 (h : SWK encDt 8 w0 blk off dk W) (R : RowK encDt 8 w0 blk off d0) (hs : dk.size = d0.size) (i : Nat) (hi : i < dk.size) :
    W.frozen? ⟨blk, off + i * 8, none⟩ = false ∧ W.frozen? ⟨blk, off + i * 8 + 1, none⟩ = false ∧ W.frozen? ⟨blk, off + i * 8 + 2, none⟩ = false ∧ W.frozen? ⟨blk, off + i * 8 + 3, none⟩ = false ∧
    W.frozen? ⟨blk, off + i * 8 + 4, none⟩ = false ∧ W.frozen? ⟨blk, off + i * 8 + 5, none⟩ = false ∧ W.frozen? ⟨blk, off + i * 8 + 6, none⟩ = false ∧ W.frozen? ⟨blk, off + i * 8 + 7, none⟩ = false := by
  have g := dt_fr h R hs i hi
  exact ⟨g 0 (by omega), g 1 (by omega), g 2 (by omega), g 3 (by omega), g 4 (by omega), g 5 (by omega), g 6 (by omega), g 7 (by omega)⟩
theorem setCell_drew1 (w : World) (a : Addr) (v : Value) : w.drew.setCell a v = (w.setCell a v).drew := rfl
theorem S8_drew (w : World) (b o : Nat) (x : Dt) : S8 w.drew b o x = (S8 w b o x).drew := by
  unfold S8
  simp only [setCell_drew1]
theorem dt_sw2 (h : SWK encDt 8 w0 blk off dk W) (R : RowK encDt 8 w0 blk off d0) (i j : Nat) (hi : i < dk.size) (hj : j < dk.size) (x y : Dt) (hx : x = dk[i]!) (hy : y = dk[j]!) (iN jN : Nat) (hiN : iN = i) (hjN : jN = j) :
    ∀ W', W' = (S8 (S8 W blk (off + iN * 8) y) blk (off + jN * 8) x).drew → SWK encDt 8 w0 blk off (swp dk i j) W' := by
  subst hx hy hiN hjN
  intro W' e
  have h1 := dt_swap h R iN jN hi hj
  rw [S8_drew, S8_drew] at h1
  rw [e]
  exact h1

end Go.Proofs.YtldillnjnjkkgaaGreatDoor
