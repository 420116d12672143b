/- Words and walks that the laws below ask: SortP, Srt0, SrtA, SrtB, SrtC, SrtD, SrtE, SrtF, SchR, TopA, PlaR, PlaY. -/
import Derived.Sort.LotA
import Derived.Sort.LotD2
import Derived.Sort.WalkA
import Derived.Shelf.SlSortCmp.KitK
import Derived.Lib.Hide
import Derived.Test.YtmmpalnalogfnaaProg
import Derived.Shelf.SlSortCmp.Insertion1
import Derived.Deep.CutRange
import Derived.Shelf.SlSortFuncK.ComposeK
import Derived.Test.YtmmpalnalogfnaaPk2
import Derived.Test.YtmmpalnalogfnaaPk3
/- The plain half of a stable sort by merging in place: what a rotation and a merge do to a row, and that the parts make a sorted whole. No program in this text. -/
namespace Go.Proofs.Ytmmpalnalogfnaa
open Go.Sort
set_option linter.unusedSimpArgs false
set_option linter.unusedVariables false
variable {α : Type} [Inhabited α]

/-- x goes ahead of y: 'tot' is a strict weak order that parts equals by 'lo', which is how they stood at first -/
structure Ordd (lt tot : α → α → Bool) (lo : α → α → Prop) : Prop where
  swo : SWO tot
  key : ∀ x y, lo x y → lt y x = tot y x
omit [Inhabited α] in
theorem asym {lt : α → α → Bool} (h : SWO lt) {x y : α} (h1 : lt x y = true) : lt y x = false := by
  cases h2 : lt y x
  · rfl
  · have := h.trans _ _ _ h1 h2; rw [h.irrefl] at this; cases this

/-- the places a ≤ k < m change with those m ≤ k < b -/
def rotAt (a m b : Nat) (d : Array α) (k : Nat) : α := if a ≤ k ∧ k < a + (b - m) then d[k + (m - a)]! else if a + (b - m) ≤ k ∧ k < b then d[k - (b - m)]! else d[k]!
/-- the n places from a on change with those from b on -/
def swrAt (a b n : Nat) (d : Array α) (k : Nat) : α := if a ≤ k ∧ k < a + n then d[k - a + b]! else if b ≤ k ∧ k < b + n then d[k - b + a]! else d[k]!

theorem swr_zero (a b : Nat) (d : Array α) (k : Nat) : swrAt a b 0 d k = d[k]! := by
  unfold swrAt
  rw [if_neg (by omega), if_neg (by omega)]
theorem swr_step (a b i : Nat) (d d' : Array α) (hab : a + i < b) (hb : b + i < d.size) (hs : d'.size = d.size) (h : ∀ k, d'[k]! = swrAt a b i d k) (k : Nat) :
    (swp d' (a + i) (b + i))[k]! = swrAt a b (i + 1) d k := by
  by_cases h1 : k = a + i
  · subst h1
    rw [swp_left _ _ _ (by omega) (by omega), h]
    unfold swrAt
    rw [if_neg (by omega), if_neg (by omega), if_pos (by omega)]
    congr 1; omega
  by_cases h2 : k = b + i
  · subst h2
    rw [swp_right _ _ _ (by omega), h]
    unfold swrAt
    rw [if_neg (by omega), if_neg (by omega), if_neg (by omega), if_pos (by omega)]
    congr 1; omega
  · rw [swp_other _ _ _ _ h1 h2, h]
    unfold swrAt
    by_cases h3 : a ≤ k ∧ k < a + i
    · rw [if_pos h3, if_pos (by omega)]
    · rw [if_neg h3, if_neg (c := a ≤ k ∧ k < a + (i + 1)) (by omega)]
      by_cases h4 : b ≤ k ∧ k < b + i
      · rw [if_pos h4, if_pos (by omega)]
      · rw [if_neg h4, if_neg (by omega)]

theorem rot_more (m i j : Nat) (d d' : Array α) (hi : i ≤ m) (hij : j < i) (h : ∀ k, d'[k]! = swrAt (m - i) m j d k) (k : Nat) :
    rotAt (m - (i - j)) m (m + j) d' k = rotAt (m - i) m (m + j) d k := by
  unfold rotAt
  by_cases h1 : m - i ≤ k ∧ k < m - i + j
  · rw [if_neg (by omega), if_neg (by omega), if_pos (by omega), h]
    unfold swrAt
    rw [if_pos (by omega)]
    congr 1; omega
  by_cases h2 : m - i + j ≤ k ∧ k < m + j
  · rw [if_neg (c := m - i ≤ k ∧ k < m - i + (m + j - m)) (by omega), if_pos (c := m - i + (m + j - m) ≤ k ∧ k < m + j) (by omega)]
    by_cases h3 : k < m - (i - j) + j
    · rw [if_pos (by omega), h]
      unfold swrAt
      rw [if_neg (by omega), if_pos (by omega)]
      congr 1; omega
    · rw [if_neg (by omega), if_pos (by omega), h]
      unfold swrAt
      rw [if_neg (by omega), if_neg (by omega)]
  · rw [if_neg (by omega), if_neg (by omega), if_neg (by omega), if_neg (by omega), h]
    unfold swrAt
    rw [if_neg (by omega), if_neg (by omega)]
theorem rot_less (m i j : Nat) (d d' : Array α) (hi : i ≤ m) (hij : i < j) (h : ∀ k, d'[k]! = swrAt (m - i) (m + j - i) i d k) (k : Nat) :
    rotAt (m - i) m (m + (j - i)) d' k = rotAt (m - i) m (m + j) d k := by
  unfold rotAt
  by_cases h1 : m + j - i ≤ k ∧ k < m + j
  · rw [if_neg (by omega), if_neg (by omega), if_neg (by omega), if_pos (by omega), h]
    unfold swrAt
    rw [if_neg (by omega), if_pos (by omega)]
    congr 1; omega
  by_cases h2 : m - i ≤ k ∧ k < m + j - i
  · by_cases h3 : k < m - i + (j - i)
    · rw [if_pos (by omega), if_pos (c := m - i ≤ k ∧ k < m - i + (m + j - m)) (by omega), h]
      unfold swrAt
      by_cases h5 : m + j - i ≤ k + i
      · rw [if_neg (by omega), if_pos (by omega)]
        exfalso; omega
      · rw [if_neg (by omega), if_neg (by omega)]
    · rw [if_neg (by omega), if_pos (by omega), if_pos (by omega), h]
      unfold swrAt
      rw [if_pos (by omega)]
      congr 1; omega
  · rw [if_neg (by omega), if_neg (by omega), if_neg (by omega), if_neg (by omega), h]
    unfold swrAt
    rw [if_neg (by omega), if_neg (by omega)]
theorem rot_last (m i : Nat) (d d' : Array α) (hi : i ≤ m) (h : ∀ k, d'[k]! = swrAt (m - i) m i d k) (k : Nat) : d'[k]! = rotAt (m - i) m (m + i) d k := by
  rw [h]
  unfold rotAt swrAt
  by_cases h1 : m - i ≤ k ∧ k < m - i + i
  · rw [if_pos h1, if_pos (by omega)]; congr 1; omega
  by_cases h2 : m ≤ k ∧ k < m + i
  · rw [if_neg h1, if_pos h2, if_neg (by omega), if_pos (by omega)]; congr 1; omega
  · rw [if_neg h1, if_neg h2, if_neg (by omega), if_neg (by omega)]

/-! ### gluing -/
section
variable {lt tot : α → α → Bool} {lo : α → α → Prop}
theorem glue (a mid b : Nat) (d2 d3 d4 : Array α) (ham : a ≤ mid) (hmb : mid ≤ b) (hb : b ≤ d2.size)
    (hx : ∀ i j, a ≤ i → i < mid → mid ≤ j → j < b → tot d2[j]! d2[i]! = false)
    (p1 : PermIn a mid d2 d3) (s1 : SortedIn tot a mid d3) (p2 : PermIn mid b d3 d4) (s2 : SortedIn tot mid b d4) :
    PermIn a b d2 d4 ∧ SortedIn tot a b d4 := by
  have hs3 := p1.1
  have q1 := permIn_mono d2 d3 a mid a b (Nat.le_refl _) hmb hb p1
  have q2 := permIn_mono d3 d4 mid b a b ham (Nat.le_refl _) (by omega) p2
  refine ⟨permIn_trans _ _ _ _ _ q1 q2, fun i j hi hij hj => ?_⟩
  by_cases h1 : j < mid
  · rw [p2.2.1 i (Or.inl (by omega)), p2.2.1 j (Or.inl h1)]
    exact s1 i j hi hij h1
  by_cases h2 : mid ≤ i
  · exact s2 i j h2 hij hj
  · rw [p2.2.1 i (Or.inl (by omega))]
    refine permIn_all d3 d4 mid b (fun x => tot x d3[i]! = false) (by omega) p2 (fun j' hj1 hj2 => ?_) j (by omega) hj
    rw [p1.2.1 j' (Or.inr hj1)]
    exact permIn_all d2 d3 a mid (fun x => tot d2[j']! x = false) (by omega) p1 (fun i' hi1 hi2 => hx i' j' hi1 hi2 hj1 hj2) i hi (by omega)

/-- what stands at the head of a merge -/
structure Halves (tot : α → α → Bool) (lo : α → α → Prop) (a m b : Nat) (d : Array α) : Prop where
  left : SortedIn tot a m d
  right : SortedIn tot m b d
  asc : ∀ i j, a ≤ i → i < m → m ≤ j → j < b → lo d[i]! d[j]!

/-- where the halves are cut, and what is known of the places at the cut -/
structure Cutt (tot : α → α → Bool) (a m b mid s e : Nat) (d : Array α) : Prop where
  b1 : a ≤ s
  b2 : s ≤ m
  b3 : m ≤ e
  b4 : e ≤ b
  sum : s + e = mid + m
  low : s = a ∨ e = b ∨ tot d[e]! d[s - 1]! = false
  high : s = m ∨ e = m ∨ tot d[e - 1]! d[s]! = true

theorem sorted_le {a b : Nat} {d : Array α} (S : SWO tot) (h : SortedIn tot a b d) {i j : Nat} (hi : a ≤ i) (hij : i ≤ j) (hj : j < b) : tot d[j]! d[i]! = false := by
  rcases Nat.eq_or_lt_of_le hij with h1 | h1
  · subst h1; exact S.irrefl _
  · exact h i j hi h1 hj

theorem Cutt.cross {a m b mid s e : Nat} {d d2 : Array α} (C : Cutt tot a m b mid s e d) (S : SWO tot) (H : Halves tot lo a m b d) (hr : ∀ k, d2[k]! = rotAt s m e d k) :
    ∀ i j, a ≤ i → i < mid → mid ≤ j → j < b → tot d2[j]! d2[i]! = false := by
  intro i j hi1 hi2 hj1 hj2
  obtain ⟨b1, b2, b3, b4, sum, low, high⟩ := C
  rw [hr, hr]
  unfold rotAt
  -- j: in [mid, e) from the left half, or in [e, b)
  rw [if_neg (c := s ≤ j ∧ j < s + (e - m)) (by omega)]
  by_cases h1 : i < s
  · rw [if_neg (c := s ≤ i ∧ i < s + (e - m)) (by omega), if_neg (c := s + (e - m) ≤ i ∧ i < e) (by omega)]
    by_cases h2 : j < e
    · rw [if_pos (by omega)]
      exact H.left i _ hi1 (by omega) (by omega)
    · rw [if_neg (by omega)]
      rcases low with low | low | low
      · omega
      · omega
      · have e1 := sorted_le S H.left (i := i) (j := s - 1) hi1 (by omega) (by omega)
        have e2 := sorted_le S H.right (i := e) (j := j) b3 (by omega) hj2
        exact S.ntrans _ _ _ e2 (S.ntrans _ _ _ low e1)
  · rw [if_pos (c := s ≤ i ∧ i < s + (e - m)) (by omega)]
    by_cases h2 : j < e
    · rw [if_pos (by omega)]
      rcases high with high | high | high
      · omega
      · omega
      · have e1 := sorted_le S H.left (i := s) (j := j - (e - m)) b1 (by omega) (by omega)
        have e2 := sorted_le S H.right (i := i + (m - s)) (j := e - 1) (by omega) (by omega) (by omega)
        exact S.ntrans _ _ _ e1 (S.ntrans _ _ _ (asym S high) e2)
    · rw [if_neg (by omega)]
      exact H.right _ _ (by omega) (by omega) hj2

theorem Cutt.lower {a m b mid s e : Nat} {d d2 : Array α} (C : Cutt tot a m b mid s e d) (H : Halves tot lo a m b d) (hr : ∀ k, d2[k]! = rotAt s m e d k) : Halves tot lo a s mid d2 := by
  obtain ⟨b1, b2, b3, b4, sum, _, _⟩ := C
  have g1 : ∀ k, k < s → d2[k]! = d[k]! := fun k hk => by
    rw [hr]; unfold rotAt; rw [if_neg (by omega), if_neg (by omega)]
  have g2 : ∀ k, s ≤ k → k < mid → d2[k]! = d[k + (m - s)]! := fun k h1 h2 => by
    rw [hr]; unfold rotAt; rw [if_pos (by omega)]
  refine ⟨fun i j h1 h2 h3 => ?_, fun i j h1 h2 h3 => ?_, fun i j h1 h2 h3 h4 => ?_⟩
  · rw [g1 i (by omega), g1 j (by omega)]; exact H.left i j h1 h2 (by omega)
  · rw [g2 i (by omega) (by omega), g2 j (by omega) (by omega)]; exact H.right _ _ (by omega) (by omega) (by omega)
  · rw [g1 i (by omega), g2 j (by omega) (by omega)]; exact H.asc _ _ h1 (by omega) (by omega) (by omega)
theorem Cutt.upper {a m b mid s e : Nat} {d d2 d3 : Array α} (C : Cutt tot a m b mid s e d) (H : Halves tot lo a m b d) (hr : ∀ k, d2[k]! = rotAt s m e d k) (p : PermIn a mid d2 d3) : Halves tot lo mid e b d3 := by
  obtain ⟨b1, b2, b3, b4, sum, _, _⟩ := C
  have g1 : ∀ k, mid ≤ k → k < e → d3[k]! = d[k - (e - m)]! := fun k h1 h2 => by
    rw [p.2.1 k (Or.inr h1), hr]; unfold rotAt; rw [if_neg (by omega), if_pos (by omega)]
  have g2 : ∀ k, e ≤ k → d3[k]! = d[k]! := fun k h1 => by
    rw [p.2.1 k (Or.inr (by omega)), hr]; unfold rotAt; rw [if_neg (by omega), if_neg (by omega)]
  refine ⟨fun i j h1 h2 h3 => ?_, fun i j h1 h2 h3 => ?_, fun i j h1 h2 h3 h4 => ?_⟩
  · rw [g1 i (by omega) (by omega), g1 j (by omega) (by omega)]; exact H.left _ _ (by omega) (by omega) (by omega)
  · rw [g2 i (by omega), g2 j (by omega)]; exact H.right _ _ (by omega) (by omega) (by omega)
  · rw [g1 i (by omega) (by omega), g2 j (by omega)]; exact H.asc _ _ (by omega) (by omega) (by omega) (by omega)
/-- one half is empty: the other is the whole -/
theorem Halves.sorted {a m b : Nat} {d : Array α} (H : Halves tot lo a m b d) (h : ¬ (a < m ∧ m < b)) : SortedIn tot a b d := by
  intro i j h1 h2 h3
  by_cases h4 : m ≤ a
  · exact H.right i j (by omega) h2 h3
  · exact H.left i j h1 h2 (by omega)
theorem rot_none (s m e : Nat) (d : Array α) (h : s = m ∨ e = m) (hs : s ≤ m) (he : m ≤ e) (k : Nat) : d[k]! = rotAt s m e d k := by
  unfold rotAt
  rcases h with h | h
  · subst h
    by_cases h1 : s ≤ k ∧ k < s + (e - s)
    · rw [if_pos h1]; congr 1; omega
    · rw [if_neg h1, if_neg (by omega)]
  · subst h
    by_cases h1 : s + (e - e) ≤ k ∧ k < e
    · rw [if_neg (by omega), if_pos h1]; congr 1; omega
    · rw [if_neg (by omega), if_neg h1]

/-! ### one element into a sorted row -/
/-- the first of the places a ≤ k < i goes behind the others -/
theorem swp_up (a i : Nat) (d d' : Array α) (k : Nat) (hk : a ≤ k) (hi : i + 1 ≤ d.size) (hki : k < i) (hs : d'.size = d.size)
    (h : ∀ x, d'[x]! = if a ≤ x ∧ x < k then d[x + 1]! else if x = k then d[a]! else d[x]!) (x : Nat) :
    (swp d' k (k + 1))[x]! = if a ≤ x ∧ x < k + 1 then d[x + 1]! else if x = k + 1 then d[a]! else d[x]! := by
  by_cases h1 : x = k
  · subst h1
    rw [swp_left _ _ _ (by omega) (by omega), h, if_neg (by omega), if_neg (by omega), if_pos (by omega)]
  by_cases h2 : x = k + 1
  · subst h2
    rw [swp_right _ _ _ (by omega), h, if_neg (by omega), if_pos rfl, if_neg (by omega), if_pos rfl]
  · rw [swp_other _ _ _ _ h1 h2, h]
    by_cases h3 : a ≤ x ∧ x < k
    · rw [if_pos h3, if_pos (by omega)]
    · rw [if_neg h3, if_neg (by omega), if_neg (by omega), if_neg (by omega)]
/-- the last, m, goes ahead of the places from i on -/
theorem swp_down (m : Nat) (d d' : Array α) (k : Nat) (hk : k + 1 ≤ m) (hm : m < d.size) (hs : d'.size = d.size)
    (h : ∀ x, d'[x]! = if k + 1 < x ∧ x ≤ m then d[x - 1]! else if x = k + 1 then d[m]! else d[x]!) (x : Nat) :
    (swp d' (k + 1) k)[x]! = if k < x ∧ x ≤ m then d[x - 1]! else if x = k then d[m]! else d[x]! := by
  by_cases h1 : x = k + 1
  · subst h1
    rw [swp_left _ _ _ (by omega) (by omega), h, if_neg (by omega), if_neg (by omega), if_pos (by omega)]
    congr 1
  by_cases h2 : x = k
  · subst h2
    rw [swp_right _ _ _ (by omega), h, if_neg (by omega), if_pos rfl, if_neg (by omega), if_pos rfl]
  · rw [swp_other _ _ _ _ h1 h2, h]
    by_cases h3 : k + 1 < x ∧ x ≤ m
    · rw [if_pos h3, if_pos (by omega)]
    · rw [if_neg h3, if_neg (by omega), if_neg (by omega), if_neg (by omega)]

theorem one_left (S : SWO tot) {a b i : Nat} {d d' : Array α} (H : Halves tot lo a (a + 1) b d) (h1 : a + 1 ≤ i) (h2 : i ≤ b)
    (hlow : i = a + 1 ∨ tot d[i - 1]! d[a]! = true) (hhigh : i = b ∨ tot d[i]! d[a]! = false)
    (h : ∀ x, d'[x]! = if a ≤ x ∧ x < i - 1 then d[x + 1]! else if x = i - 1 then d[a]! else d[x]!) : SortedIn tot a b d' := by
  intro x y hx hxy hy
  rw [h, h]
  by_cases c1 : y < i - 1
  · rw [if_pos (by omega), if_pos (by omega)]
    exact H.right _ _ (by omega) (by omega) (by omega)
  by_cases c2 : y = i - 1
  · rw [if_neg (by omega), if_pos c2, if_pos (by omega)]
    rcases hlow with hl | hl
    · omega
    · exact S.ntrans _ _ _ (asym S hl) (sorted_le S H.right (by omega) (by omega) (by omega))
  · rw [if_neg (by omega), if_neg c2]
    by_cases c3 : x < i - 1
    · rw [if_pos (by omega)]
      exact H.right _ _ (by omega) (by omega) (by omega)
    by_cases c4 : x = i - 1
    · rw [if_neg (by omega), if_pos c4]
      rcases hhigh with hh | hh
      · omega
      · exact S.ntrans _ _ _ (sorted_le S H.right (i := i) (by omega) (by omega) (by omega)) hh
    · rw [if_neg (by omega), if_neg c4]
      exact H.right _ _ (by omega) (by omega) (by omega)
theorem one_right (S : SWO tot) {a m i : Nat} {d d' : Array α} (H : Halves tot lo a m (m + 1) d) (h1 : a ≤ i) (h2 : i ≤ m)
    (hlow : i = a ∨ tot d[m]! d[i - 1]! = false) (hhigh : i = m ∨ tot d[m]! d[i]! = true)
    (h : ∀ x, d'[x]! = if i < x ∧ x ≤ m then d[x - 1]! else if x = i then d[m]! else d[x]!) : SortedIn tot a (m + 1) d' := by
  intro x y hx hxy hy
  rw [h, h]
  by_cases c1 : i < x
  · rw [if_pos (by omega), if_pos (by omega)]
    exact H.left _ _ (by omega) (by omega) (by omega)
  by_cases c2 : x = i
  · rw [if_pos (by omega), if_neg (by omega), if_pos c2]
    rcases hhigh with hh | hh
    · omega
    · exact S.ntrans _ _ _ (sorted_le S H.left (i := i) (by omega) (by omega) (by omega)) (asym S hh)
  · rw [if_neg (c := i < x ∧ x ≤ m) (by omega), if_neg c2]
    by_cases c3 : i < y
    · rw [if_pos (by omega)]
      exact H.left _ _ (by omega) (by omega) (by omega)
    by_cases c4 : y = i
    · rw [if_neg (by omega), if_pos c4]
      rcases hlow with hh | hh
      · omega
      · exact S.ntrans _ _ _ hh (sorted_le S H.left (j := i - 1) (by omega) (by omega) (by omega))
    · rw [if_neg (by omega), if_neg c4]
      exact H.left _ _ (by omega) (by omega) (by omega)

/-! ### insertion, over elements that ascend by 'lo' at first -/
theorem inner_eq (O : Ordd lt tot lo) (a : Nat) : ∀ (j : Nat) (d : Array α), j < d.size → (∀ k, a ≤ k → k < j → lo d[k]! d[j]!) → insInner lt a j d = insInner tot a j d
  | 0, d, _, _ => by rw [insInner_stop lt a 0 d (Or.inl (Nat.zero_le _)), insInner_stop tot a 0 d (Or.inl (Nat.zero_le _))]
  | j + 1, d, hj, h => by
    by_cases ha : a < j + 1
    · have e := O.key _ _ (h j (by omega) (by omega))
      cases hc : tot d[j + 1]! d[j]!
      · rw [insInner_stop lt a (j + 1) d (Or.inr (e.trans hc)), insInner_stop tot a (j + 1) d (Or.inr hc)]
      · rw [insInner_go lt a (j + 1) d ha (e.trans hc), insInner_go tot a (j + 1) d ha hc]
        refine inner_eq O a j _ (by rw [size_swp]; omega) (fun k h1 h2 => ?_)
        simp only [Nat.add_sub_cancel]
        rw [swp_other _ _ _ _ (by omega) (by omega), swp_right _ _ _ (by omega)]
        exact h k h1 (by omega)
    · rw [insInner_stop lt a (j + 1) d (Or.inl (by omega)), insInner_stop tot a (j + 1) d (Or.inl (by omega))]
theorem inner_perm (a : Nat) (f : α → α → Bool) : ∀ (j : Nat) (d : Array α), j < d.size → a ≤ j → PermIn a (j + 1) d (insInner f a j d)
  | 0, d, _, _ => by rw [insInner_stop f a 0 d (Or.inl (Nat.zero_le _))]; exact permIn_refl _ _ _
  | j + 1, d, hj, ha => by
    by_cases h : a < j + 1 ∧ f d[j + 1]! d[j]! = true
    · rw [insInner_go f a (j + 1) d h.1 h.2]
      simp only [Nat.add_sub_cancel]
      have h1 := swp_permIn d a (j + 1 + 1) (j + 1) j (by omega) (by omega) (by omega) (by omega) (by omega)
      have h2 := inner_perm a f j (swp d (j + 1) j) (by rw [size_swp]; omega) (by omega)
      exact permIn_trans _ _ _ _ _ h1 (permIn_mono _ _ a (j + 1) a (j + 1 + 1) (Nat.le_refl _) (by omega) (by rw [size_swp]; omega) h2)
    · rw [insInner_stop f a (j + 1) d (by
        by_cases h1 : a < j + 1
        · exact Or.inr (by simpa using fun hc => h ⟨h1, hc⟩)
        · exact Or.inl (by omega))]
      exact permIn_refl _ _ _
theorem outer_eq (O : Ordd lt tot lo) (a b : Nat) : ∀ (n i : Nat) (d : Array α), b - i = n → a ≤ i → b ≤ d.size → (∀ k m, a ≤ k → k < m → i ≤ m → m < b → lo d[k]! d[m]!) → insOuter lt a b i d = insOuter tot a b i d
  | 0, i, d, hn, _, _, _ => by rw [insOuter_stop lt a b i d (by omega), insOuter_stop tot a b i d (by omega)]
  | n + 1, i, d, hn, hi, hb, h => by
    rw [insOuter_go lt a b i d (by omega), insOuter_go tot a b i d (by omega), inner_eq O a i d (by omega) (fun k h1 h2 => h k i h1 h2 (Nat.le_refl _) (by omega))]
    have p := inner_perm a tot i d (by omega) hi
    refine outer_eq O a b n (i + 1) _ (by omega) (by omega) (by rw [p.1]; exact hb) (fun k m h1 h2 h3 h4 => ?_)
    rw [p.2.1 m (Or.inr (by omega))]
    by_cases hk : k < i + 1
    · exact permIn_all d _ a (i + 1) (fun x => lo x d[m]!) (by omega) p (fun k' h5 h6 => h k' m h5 (by omega) (by omega) h4) k h1 hk
    · rw [p.2.1 k (Or.inr (by omega))]; exact h k m h1 h2 (by omega) h4
theorem insertion_stable (O : Ordd lt tot lo) (a b : Nat) (d : Array α) (hab : a ≤ b) (hb : b ≤ d.size) (h : ∀ k m, a ≤ k → k < m → m < b → lo d[k]! d[m]!) :
    PermIn a b d (insertionSort lt d a b) ∧ SortedIn tot a b (insertionSort lt d a b) := by
  have e : insertionSort lt d a b = insertionSort tot d a b := by
    unfold insertionSort
    exact outer_eq O a b _ (a + 1) d rfl (by omega) hb (fun k m h1 h2 h3 h4 => h k m h1 h2 h4)
  rw [e]
  exact insertionSort_holds O.swo d a b hab hb

/-! ### the blocks -/
/-- places with one label are sorted; of two labels' elements the earlier one's came first -/
def Lab (tot : α → α → Bool) (lo : α → α → Prop) (n : Nat) (lab : Nat → Nat) (d : Array α) : Prop :=
  ∀ i j, i < j → j < n → (lab i = lab j → tot d[j]! d[i]! = false) ∧ (lab i ≠ lab j → lo d[i]! d[j]!)
theorem Lab.congr {n : Nat} {lab lab' : Nat → Nat} {d : Array α} (h : Lab tot lo n lab d) (he : ∀ i j, i < j → j < n → (lab' i = lab' j ↔ lab i = lab j)) : Lab tot lo n lab' d := fun i j h1 h2 =>
  ⟨fun h3 => (h i j h1 h2).1 ((he i j h1 h2).1 h3), fun h3 => (h i j h1 h2).2 fun h4 => h3 ((he i j h1 h2).2 h4)⟩
theorem Lab.step {n a b : Nat} {lab lab' : Nat → Nat} {d d' : Array α} (h : Lab tot lo n lab d) (hb : b ≤ n) (hn : n ≤ d.size) (p : PermIn a b d d') (s : SortedIn tot a b d')
    (hin : ∀ i j, a ≤ i → i < j → j < b → lab' i = lab' j)
    (hout : ∀ i j, i < j → j < n → ¬ (a ≤ i ∧ j < b) → (lab' i = lab' j ↔ lab i = lab j))
    (hx : ∀ i j, i < j → j < n → (a ≤ i ∧ i < b ∧ b ≤ j ∨ i < a ∧ a ≤ j ∧ j < b) → lab i ≠ lab j) : Lab tot lo n lab' d' := by
  intro i j hij hj
  by_cases h1 : a ≤ i ∧ j < b
  · exact ⟨fun _ => s i j h1.1 hij h1.2, fun h3 => absurd (hin i j h1.1 hij h1.2) h3⟩
  have e := hout i j hij hj h1
  by_cases h2 : a ≤ i ∧ i < b
  · -- j is behind
    have hjb : b ≤ j := by omega
    have hne := hx i j hij hj (Or.inl ⟨h2.1, h2.2, hjb⟩)
    refine ⟨fun h3 => absurd (e.1 h3) hne, fun _ => ?_⟩
    rw [p.2.1 j (Or.inr hjb)]
    exact permIn_all d d' a b (fun x => lo x d[j]!) (by omega) p (fun i' h5 h6 => (h i' j (by omega) hj).2 (hx i' j (by omega) hj (Or.inl ⟨h5, h6, hjb⟩))) i h2.1 h2.2
  by_cases h3 : a ≤ j ∧ j < b
  · have hia : i < a := by omega
    have hne := hx i j hij hj (Or.inr ⟨hia, h3.1, h3.2⟩)
    refine ⟨fun h4 => absurd (e.1 h4) hne, fun _ => ?_⟩
    rw [p.2.1 i (Or.inl hia)]
    exact permIn_all d d' a b (fun x => lo d[i]! x) (by omega) p (fun j' h5 h6 => (h i j' (by omega) (by omega)).2 (hx i j' (by omega) (by omega) (Or.inr ⟨hia, h5, h6⟩))) j h3.1 h3.2
  · rw [p.2.1 i (by omega), p.2.1 j (by omega)]
    exact ⟨fun h4 => (h i j hij hj).1 (e.1 h4), fun h4 => (h i j hij hj).2 fun h5 => h4 (e.2 h5)⟩
theorem Lab.halves {n a m b : Nat} {lab : Nat → Nat} {d : Array α} (h : Lab tot lo n lab d) (hb : b ≤ n) (h1 : ∀ i j, a ≤ i → i < j → j < m → lab i = lab j) (h2 : ∀ i j, m ≤ i → i < j → j < b → lab i = lab j)
    (h3 : ∀ i j, a ≤ i → i < m → m ≤ j → j < b → lab i ≠ lab j) (hm : m ≤ b) : Halves tot lo a m b d :=
  ⟨fun i j c1 c2 c3 => (h i j c2 (by omega)).1 (h1 i j c1 c2 c3), fun i j c1 c2 c3 => (h i j c2 (by omega)).1 (h2 i j c1 c2 c3), fun i j c1 c2 c3 c4 => (h i j (by omega) (by omega)).2 (h3 i j c1 c2 c3 c4)⟩
end
end Go.Proofs.Ytmmpalnalogfnaa

/- Words for the library's stable sort at rows of legs on a day (8 cells). -/
namespace Go.Proofs.Ytmmpalnalogfnaa
open Go.Shelf Go.RowKit Go.Lib Go.Sort
set_option linter.unusedSimpArgs false
set_option linter.unusedVariables false

instance : Inhabited Dt := ⟨⟨noB, 0, 0, noB, noB, 0, 0, noB⟩⟩
abbrev aggD (d : Dt) : Value := .agg #[.string d.car, .int .i64 d.num, .int .i64 d.day, .string d.f, .string d.t, .int .i64 d.dep, .int .i64 d.arr, .string d.eq]
variable {w0 W : World} {blk off : Nat} {dk d0 : Array Dt}
theorem dt_at (h : SWK encDt 8 w0 blk off dk W) (R : RowK encDt 8 w0 blk off d0) (hs : dk.size = d0.size) (i : Nat) (hi : i < dk.size) : ∀ j u, (encDt dk[i]!)[j]? = some u → W.cell? ⟨blk, off + i * 8 + j, none⟩ = some u := by
  have h1 := HoldsK.cells (h.holds R.hblk R.hH hs) R.hk hi
  intro j u hu
  have h2 := h1 j u hu
  rw [Addr.add_lit] at h2
  exact h2
theorem dt_fr (h : SWK encDt 8 w0 blk off dk W) (R : RowK encDt 8 w0 blk off d0) (hs : dk.size = d0.size) (i : Nat) (hi : i < dk.size) : ∀ j, j < 8 → W.frozen? ⟨blk, off + i * 8 + j, none⟩ = false := by
  intro j hj
  have h1 : Holds id W blk off (flatK encDt 8 dk) := h.holds R.hblk R.hH hs
  have h2 := (h1 (i * 8 + j) (by rw [size_flatK]; omega)).2
  rw [← Nat.add_assoc] at h2
  exact h2
/-- an element of the row, in every world that a comparison passes through -/
theorem dt_cl (h : SWK encDt 8 w0 blk off dk W) (R : RowK encDt 8 w0 blk off d0) (hs : dk.size = d0.size) (i : Nat) (hi : i < dk.size) :
    (∀ n os, (grow (W.drewN n) os).cell? ⟨blk, off + i * 8, none⟩ = some (.string dk[i]!.car)) ∧ (∀ n os, (grow (W.drewN n) os).cell? ⟨blk, off + i * 8 + 1, none⟩ = some (.int .i64 dk[i]!.num)) ∧
    (∀ n os, (grow (W.drewN n) os).cell? ⟨blk, off + i * 8 + 2, none⟩ = some (.int .i64 dk[i]!.day)) ∧ (∀ n os, (grow (W.drewN n) os).cell? ⟨blk, off + i * 8 + 3, none⟩ = some (.string dk[i]!.f)) ∧
    (∀ n os, (grow (W.drewN n) os).cell? ⟨blk, off + i * 8 + 4, none⟩ = some (.string dk[i]!.t)) ∧ (∀ n os, (grow (W.drewN n) os).cell? ⟨blk, off + i * 8 + 5, none⟩ = some (.int .i64 dk[i]!.dep)) ∧
    (∀ n os, (grow (W.drewN n) os).cell? ⟨blk, off + i * 8 + 6, none⟩ = some (.int .i64 dk[i]!.arr)) ∧ (∀ n os, (grow (W.drewN n) os).cell? ⟨blk, off + i * 8 + 7, none⟩ = some (.string dk[i]!.eq)) := by
  have g := fun n os => dt_at (h.grown n os) R hs i hi
  exact ⟨fun n os => g n os 0 _ rfl, fun n os => g n os 1 _ rfl, fun n os => g n os 2 _ rfl, fun n os => g n os 3 _ rfl, fun n os => g n os 4 _ rfl, fun n os => g n os 5 _ rfl, fun n os => g n os 6 _ rfl, fun n os => g n os 7 _ rfl⟩
theorem dt_cmp {g : Nat} {cb : Array Value} {cf : Dt → Dt → Int} {size : Nat} (h : SWK encDt 8 w0 blk off dk W) (hC : CmpLays Try.prog g cb encDt 8 cf blk off size w0) (hs : dk.size = size) (x y : Dt) (n : Nat) (os : Array Obj) :
    Calls Try.prog g (#[aggD x, aggD y] ++ cb) (grow (W.drewN n) os) fun e w' => e = .returned (.int .i64 (cf x y)) ∧ ∃ q os', w' = grow ((grow (W.drewN n) os).drewN q) os' := h.cmp hC hs x y n os
/-- eight stores -/
def S8 (w : World) (b o : Nat) (x : Dt) : World := (((((((w.setCell ⟨b, o, none⟩ (.string x.car)).setCell ⟨b, o + 1, none⟩ (.int .i64 x.num)).setCell ⟨b, o + 2, none⟩ (.int .i64 x.day)).setCell ⟨b, o + 3, none⟩ (.string x.f)).setCell ⟨b, o + 4, none⟩ (.string x.t)).setCell ⟨b, o + 5, none⟩ (.int .i64 x.dep)).setCell ⟨b, o + 6, none⟩ (.int .i64 x.arr)).setCell ⟨b, o + 7, none⟩ (.string x.eq)
theorem dt_swap (h : SWK encDt 8 w0 blk off dk W) (R : RowK encDt 8 w0 blk off d0) (i j : Nat) (hi : i < dk.size) (hj : j < dk.size) :
    SWK encDt 8 w0 blk off (swp dk i j) (S8 (S8 W.drew blk (off + i * 8) dk[j]!) blk (off + j * 8) dk[i]!) := h.swapped R i j hi hj
theorem dt_c8 (h : SWK encDt 8 w0 blk off dk W) (R : RowK encDt 8 w0 blk off d0) (hs : dk.size = d0.size) (i : Nat) (hi : i < dk.size) :
    W.cell? ⟨blk, off + i * 8, none⟩ = some (.string dk[i]!.car) ∧ W.cell? ⟨blk, off + i * 8 + 1, none⟩ = some (.int .i64 dk[i]!.num) ∧ W.cell? ⟨blk, off + i * 8 + 2, none⟩ = some (.int .i64 dk[i]!.day) ∧ W.cell? ⟨blk, off + i * 8 + 3, none⟩ = some (.string dk[i]!.f) ∧
    W.cell? ⟨blk, off + i * 8 + 4, none⟩ = some (.string dk[i]!.t) ∧ W.cell? ⟨blk, off + i * 8 + 5, none⟩ = some (.int .i64 dk[i]!.dep) ∧ W.cell? ⟨blk, off + i * 8 + 6, none⟩ = some (.int .i64 dk[i]!.arr) ∧ W.cell? ⟨blk, off + i * 8 + 7, none⟩ = some (.string dk[i]!.eq) := by
  have g := dt_at h R hs i hi
  exact ⟨g 0 _ rfl, g 1 _ rfl, g 2 _ rfl, g 3 _ rfl, g 4 _ rfl, g 5 _ rfl, g 6 _ rfl, g 7 _ rfl⟩
theorem dt_f8 (h : SWK encDt 8 w0 blk off dk W) (R : RowK encDt 8 w0 blk off d0) (hs : dk.size = d0.size) (i : Nat) (hi : i < dk.size) :
    W.frozen? ⟨blk, off + i * 8, none⟩ = false ∧ W.frozen? ⟨blk, off + i * 8 + 1, none⟩ = false ∧ W.frozen? ⟨blk, off + i * 8 + 2, none⟩ = false ∧ W.frozen? ⟨blk, off + i * 8 + 3, none⟩ = false ∧
    W.frozen? ⟨blk, off + i * 8 + 4, none⟩ = false ∧ W.frozen? ⟨blk, off + i * 8 + 5, none⟩ = false ∧ W.frozen? ⟨blk, off + i * 8 + 6, none⟩ = false ∧ W.frozen? ⟨blk, off + i * 8 + 7, none⟩ = false := by
  have g := dt_fr h R hs i hi
  exact ⟨g 0 (by omega), g 1 (by omega), g 2 (by omega), g 3 (by omega), g 4 (by omega), g 5 (by omega), g 6 (by omega), g 7 (by omega)⟩
theorem setCell_drew1 (w : World) (a : Addr) (v : Value) : w.drew.setCell a v = (w.setCell a v).drew := rfl
theorem S8_drew (w : World) (b o : Nat) (x : Dt) : S8 w.drew b o x = (S8 w b o x).drew := by
  unfold S8
  simp only [setCell_drew1]
theorem dt_sw2 (h : SWK encDt 8 w0 blk off dk W) (R : RowK encDt 8 w0 blk off d0) (i j : Nat) (hi : i < dk.size) (hj : j < dk.size) (x y : Dt) (hx : x = dk[i]!) (hy : y = dk[j]!) (iN jN : Nat) (hiN : iN = i) (hjN : jN = j) :
    ∀ W', W' = (S8 (S8 W blk (off + iN * 8) y) blk (off + jN * 8) x).drew → SWK encDt 8 w0 blk off (swp dk i j) W' := by
  subst hx hy hiN hjN
  intro W' e
  have h1 := dt_swap h R iN jN hi hj
  rw [S8_drew, S8_drew] at h1
  rw [e]
  exact h1

end Go.Proofs.Ytmmpalnalogfnaa

/- The library's stable sort, walked: swapRangeCmpFunc and rotateCmpFunc change the places that they should. -/
namespace Go.Proofs.Ytmmpalnalogfnaa
open Go.Shelf Go.RowKit Go.Lib Go.Sort
set_option linter.unusedSimpArgs false
set_option linter.unusedVariables false

/-- a call that leaves the row with d' in it -/
def Left (w0 : World) (blk off : Nat) (p : Array Dt → Prop) (e : Ending) (w' : World) : Prop := e = .returned (.tuple #[]) ∧ ∃ d', p d' ∧ SWK encDt 8 w0 blk off d' w'

set_option maxHeartbeats 16000000 in
set_option maxRecDepth 100000 in
theorem swapRange_s (fv : Value) (blk off cap a b n : Nat) (d0 d : Array Dt) (w0 w : World) (R : RowK encDt 8 w0 blk off d0) (hs : d0.size = d.size) (S : SWK encDt 8 w0 blk off d w)
    (hab : a + n ≤ b) (hb : b + n ≤ d.size) (hsz : d.size < 4611686018427387904) :
    Calls Try.prog 86 #[.slice (some ⟨blk, off, none⟩) d.size cap, .int .i64 a, .int .i64 b, .int .i64 n, fv] w
      (Left w0 blk off fun d' => d'.size = d.size ∧ (∀ k, d'[k]! = swrAt a b n d k) ∧ PermIn a (b + n) d d') := by
  have mixed : Try.prog.follows .mixedOrders = true := by kernel_rfl
  have S0 : Aside (SWK encDt 8 w0 blk off d w) := S
  clear S
  go_enter Try.func86, Try.ntmps86
  go_wp2
  go_loopg [10] n (fun g1 vi wr => ∃ (i : Nat) (dk : Array Dt), vi = .int .i64 i ∧ i ≤ n ∧ n - i ≤ g1 ∧ dk.size = d.size ∧ Aside (SWK encDt 8 w0 blk off dk wr) ∧ Hid (∀ k, dk[k]! = swrAt a b i d k) ∧ Hid (PermIn a (b + n) d dk))
  case atStart => exact ⟨0, d, by go_num, by omega, by omega, rfl, S0, Lib.hid (fun k => (swr_zero a b d k).symm), Lib.hid (permIn_refl _ _ _)⟩
  case round =>
    clear S0
    obtain ⟨i, dk, rfl, hin, hg1, hsk, S1, HA, HP⟩ := hrel
    by_cases hlt : i < n
    · have hltz : (i : Int) < (n : Int) := by omega
      go_wp2_with fail
      obtain ⟨iN, hiN⟩ : ∃ q, q = a + i := ⟨_, rfl⟩
      obtain ⟨jN, hjN⟩ : ∃ q, q = b + i := ⟨_, rfl⟩
      have ea : ((a : Int) + (i : Int)).toNat = iN := by omega
      have pa : (0 : Int) ≤ (a : Int) + (i : Int) := by omega
      have ba : (a : Int) + (i : Int) < (d.size : Int) := by omega
      have ra : IntKind.i64.wrap ((a : Int) + (i : Int)) = (a : Int) + (i : Int) := by rw [IntKind.wrap_i64]; omega
      have ec : ((b : Int) + (i : Int)).toNat = jN := by omega
      have pc : (0 : Int) ≤ (b : Int) + (i : Int) := by omega
      have bc : (b : Int) + (i : Int) < (d.size : Int) := by omega
      have rc : IntKind.i64.wrap ((b : Int) + (i : Int)) = (b : Int) + (i : Int) := by rw [IntKind.wrap_i64]; omega
      obtain ⟨x, hx⟩ : ∃ x, x = dk[a + i]! := ⟨_, rfl⟩
      obtain ⟨y, hy⟩ : ∃ x, x = dk[b + i]! := ⟨_, rfl⟩
      have T3 : Hid _ := Lib.hid (dt_sw2 S1.out R (a + i) (b + i) (by omega) (by omega) x y hx hy iN jN (by omega) (by omega))
      obtain ⟨c10, c11, c12, c13, c14, c15, c16, c17⟩ := dt_c8 S1.out R (by omega) (a + i) (by omega)
      obtain ⟨c20, c21, c22, c23, c24, c25, c26, c27⟩ := dt_c8 S1.out R (by omega) (b + i) (by omega)
      obtain ⟨f10, f11, f12, f13, f14, f15, f16, f17⟩ := dt_f8 S1.out R (by omega) (a + i) (by omega)
      obtain ⟨f20, f21, f22, f23, f24, f25, f26, f27⟩ := dt_f8 S1.out R (by omega) (b + i) (by omega)
      rw [← hx] at c10 c11 c12 c13 c14 c15 c16 c17
      rw [← hy] at c20 c21 c22 c23 c24 c25 c26 c27
      try simp only [← hiN] at f10 f11 f12 f13 f14 f15 f16 f17 f20 f21 f22 f23 f24 f25 f26 f27 c10 c11 c12 c13 c14 c15 c16 c17 c20 c21 c22 c23 c24 c25 c26 c27
      try simp only [← hjN] at f10 f11 f12 f13 f14 f15 f16 f17 f20 f21 f22 f23 f24 f25 f26 f27 c10 c11 c12 c13 c14 c15 c16 c17 c20 c21 c22 c23 c24 c25 c26 c27
      clear S1 hx hy hiN hjN
      go_wp2_with fail
      go_big_region_o
      clear f10 f11 f12 f13 f14 f15 f16 f17 f20 f21 f22 f23 f24 f25 f26 f27 c10 c11 c12 c13 c14 c15 c16 c17 c20 c21 c22 c23 c24 c25 c26 c27
      generalize hw3 : ((((((((((((((((wr.setCell ⟨blk, off + iN * 8, none⟩ (.string y.car)).setCell ⟨blk, off + iN * 8 + 1, none⟩ (.int .i64 y.num)).setCell ⟨blk, off + iN * 8 + 2, none⟩ (.int .i64 y.day)).setCell ⟨blk, off + iN * 8 + 3, none⟩ (.string y.f)).setCell ⟨blk, off + iN * 8 + 4, none⟩ (.string y.t)).setCell ⟨blk, off + iN * 8 + 5, none⟩ (.int .i64 y.dep)).setCell ⟨blk, off + iN * 8 + 6, none⟩ (.int .i64 y.arr)).setCell ⟨blk, off + iN * 8 + 7, none⟩ (.string y.eq)).setCell ⟨blk, off + jN * 8, none⟩ (.string x.car)).setCell ⟨blk, off + jN * 8 + 1, none⟩ (.int .i64 x.num)).setCell ⟨blk, off + jN * 8 + 2, none⟩ (.int .i64 x.day)).setCell ⟨blk, off + jN * 8 + 3, none⟩ (.string x.f)).setCell ⟨blk, off + jN * 8 + 4, none⟩ (.string x.t)).setCell ⟨blk, off + jN * 8 + 5, none⟩ (.int .i64 x.dep)).setCell ⟨blk, off + jN * 8 + 6, none⟩ (.int .i64 x.arr)).setCell ⟨blk, off + jN * 8 + 7, none⟩ (.string x.eq)) = w3 at *
      have S3 : Aside (SWK encDt 8 w0 blk off (swp dk (a + i) (b + i)) w3.drew) := T3.out _ (by rw [← hw3]; rfl)
      clear hw3 T3
      clear ea ec
      go_wp2
      go_roundg (n - (i + 1))
      case measure => omega
      case rel => exact ⟨i + 1, swp dk (a + i) (b + i), by go_num, by omega, by omega, by rw [size_swp]; exact hsk, S3, Lib.hid (swr_step a b i d dk (by omega) (by omega) hsk HA.out),
        Lib.hid (permIn_trans _ _ _ _ _ HP.out (swp_permIn dk a (b + n) (a + i) (b + i) (by omega) (by omega) (by omega) (by omega) (by omega)))⟩
    · have hltz : ¬ (i : Int) < (n : Int) := by omega
      obtain rfl : i = n := by omega
      go_wp2
      go_end0
      exact ⟨rfl, dk, ⟨hsk, HA.out, HP.out⟩, S1.out⟩

set_option maxHeartbeats 16000000 in
set_option maxRecDepth 100000 in
theorem rotate_s (fv : Value) (blk off cap a m b : Nat) (d0 d : Array Dt) (w0 w : World) (R : RowK encDt 8 w0 blk off d0) (hs : d0.size = d.size) (S : SWK encDt 8 w0 blk off d w)
    (ham : a < m) (hmb : m < b) (hb : b ≤ d.size) (hsz : d.size < 4611686018427387904) :
    Calls Try.prog 85 #[.slice (some ⟨blk, off, none⟩) d.size cap, .int .i64 a, .int .i64 m, .int .i64 b, fv] w
      (Left w0 blk off fun d' => d'.size = d.size ∧ (∀ k, d'[k]! = rotAt a m b d k) ∧ PermIn a b d d') := by
  have S0 : Aside (SWK encDt 8 w0 blk off d w) := S
  clear S
  go_enter Try.func85, Try.ntmps85
  go_wp2
  go_loopg [10, 11] (b - a) (fun g1 vi vj wr => ∃ (i j : Nat) (dk : Array Dt), vi = .int .i64 i ∧ vj = .int .i64 j ∧ 0 < i ∧ 0 < j ∧ i ≤ m - a ∧ j ≤ b - m ∧ i + j ≤ g1 ∧ dk.size = d.size ∧ Aside (SWK encDt 8 w0 blk off dk wr) ∧ Hid (∀ k, rotAt (m - i) m (m + j) dk k = rotAt a m b d k) ∧ Hid (PermIn a b d dk))
  case atStart => exact ⟨m - a, b - m, d, by first | rfl | (congr 1; omega), by first | rfl | (congr 1; omega), by omega, by omega, by omega, by omega, by omega, rfl, S0, Lib.hid (fun k => by rw [show m - (m - a) = a by omega, show m + (b - m) = b by omega]), Lib.hid (permIn_refl _ _ _)⟩
  case round =>
    clear S0
    obtain ⟨i, j, dk, rfl, rfl, hi0, hj0, him, hjm, hg1, hsk, S1, HA, HP⟩ := hrel
    have Hs := Lib.hid hsk
    have hsk2 : b ≤ dk.size := by omega
    have hsk3 : dk.size < 4611686018427387904 := by omega
    have hd0 : Hid (d0.size = dk.size) := Lib.hid (by omega)
    have hmi : (m : Int) - (i : Int) = ((m - i : Nat) : Int) := by omega
    have hmji : (m : Int) + (j : Int) - (i : Int) = ((m + j - i : Nat) : Int) := by omega
    have Hmi := Lib.hid hmi
    have Hmji := Lib.hid hmji
    have er : dk.size = d.size := hsk
    clear hmi hmji hsk
    rcases Nat.lt_trichotomy i j with hij | hij | hij
    · have h1 : ((i : Int) != (j : Int)) = true := by simp; omega
      have h2 : ¬ (i : Int) > (j : Int) := by omega
      have C := fun w' (S : SWK encDt 8 w0 blk off dk w') => swapRange_s fv blk off cap (m - i) (m + j - i) i d0 dk w0 w' R hd0.out S (by omega) (by omega) hsk3
      rw [er] at C
      rw [← Hmi.out, ← Hmji.out] at C
      have C' := Lib.hid C
      clear C er
      go_wp2_with ((go_at_call 86; refine (C'.out _ S1.out).mono ?_; rintro e w' ⟨rfl, d2, ⟨q1, q2, q3⟩, S2⟩; have Q1 := Lib.hid q1; have Q2 := Lib.hid q2; have Q3 := Lib.hid q3; have T2 : Aside _ := S2; clear q1 q2 q3 S2))
      go_roundg (i + (j - i))
      case measure => omega
      case rel => exact ⟨i, j - i, d2, rfl, by first | rfl | (congr 1; omega), hi0, by omega, him, by omega, Nat.le_refl _, Q1.out, T2, Lib.hid (fun k => by rw [rot_less m i j dk d2 (by omega) hij Q2.out, HA.out]), Lib.hid (permIn_trans _ _ _ _ _ HP.out (permIn_mono _ _ (m - i) (m + j - i + i) a b (by omega) (by omega) hsk2 Q3.out))⟩
    · subst hij
      have C := fun w' (S : SWK encDt 8 w0 blk off dk w') => swapRange_s fv blk off cap (m - i) m i d0 dk w0 w' R hd0.out S (by omega) (by omega) hsk3
      rw [er] at C
      rw [← Hmi.out] at C
      have C' := Lib.hid C
      clear C er
      go_wp2_with ((go_at_call 86; refine (C'.out _ S1.out).mono ?_; rintro e w' ⟨rfl, d2, ⟨q1, q2, q3⟩, S2⟩; have Q1 := Lib.hid q1; have Q2 := Lib.hid q2; have Q3 := Lib.hid q3; have T2 : Aside _ := S2; clear q1 q2 q3 S2))
      go_end0
      exact ⟨rfl, d2, ⟨Q1.out, fun k => by rw [rot_last m i dk d2 (by omega) Q2.out, HA.out], permIn_trans _ _ _ _ _ HP.out (permIn_mono _ _ (m - i) (m + i) a b (by omega) (by omega) hsk2 Q3.out)⟩, T2.out⟩
    · have h1 : ((i : Int) != (j : Int)) = true := by simp; omega
      have h2 : (i : Int) > (j : Int) := by omega
      have C := fun w' (S : SWK encDt 8 w0 blk off dk w') => swapRange_s fv blk off cap (m - i) m j d0 dk w0 w' R hd0.out S (by omega) (by omega) hsk3
      rw [er] at C
      rw [← Hmi.out] at C
      have C' := Lib.hid C
      clear C er
      go_wp2_with ((go_at_call 86; refine (C'.out _ S1.out).mono ?_; rintro e w' ⟨rfl, d2, ⟨q1, q2, q3⟩, S2⟩; have Q1 := Lib.hid q1; have Q2 := Lib.hid q2; have Q3 := Lib.hid q3; have T2 : Aside _ := S2; clear q1 q2 q3 S2))
      go_roundg (i - j + j)
      case measure => omega
      case rel => exact ⟨i - j, j, d2, by first | rfl | (congr 1; omega), rfl, by omega, hj0, by omega, by omega, Nat.le_refl _, Q1.out, T2, Lib.hid (fun k => by rw [rot_more m i j dk d2 (by omega) hij Q2.out, HA.out]), Lib.hid (permIn_trans _ _ _ _ _ HP.out (permIn_mono _ _ (m - i) (m + j) a b (by omega) (by omega) hsk2 Q3.out))⟩
end Go.Proofs.Ytmmpalnalogfnaa

/- The library's stable sort, walked: symMergeCmpFunc makes one sorted row of two. -/
namespace Go.Proofs.Ytmmpalnalogfnaa
open Go.Shelf Go.RowKit Go.Lib Go.Sort
set_option linter.unusedSimpArgs false
set_option linter.unusedVariables false

theorem test_lt {cf : Dt → Dt → Int} {tot : Dt → Dt → Bool} {lo : Dt → Dt → Prop} (O : Ordd (ltOf cf) tot lo) {x y : Dt} (h : lo x y) : decide (cf y x < 0) = tot y x := O.key x y h

set_option maxHeartbeats 16000000 in
set_option maxRecDepth 100000 in
theorem symMerge_left (cf : Dt → Dt → Int) (tot : Dt → Dt → Bool) (lo : Dt → Dt → Prop) (O : Ordd (ltOf cf) tot lo) (g : Nat) (cb : Array Value) (blk off cap a m b : Nat) (d0 d : Array Dt) (w0 w : World)
    (eg : ∀ args w, (callFunc g args).run Try.prog w = .ok (.enter g args) w) (hcmp : CmpLays Try.prog g cb encDt 8 cf blk off d0.size w0) (R : RowK encDt 8 w0 blk off d0)
    (hs : d0.size = d.size) (S : SWK encDt 8 w0 blk off d w) (hm : m = a + 1) (hmb : m < b) (hb : b ≤ d.size) (hsz : d.size < 4611686018427387904) (H : Halves tot lo a m b d) :
    Calls Try.prog 79 #[.slice (some ⟨blk, off, none⟩) d.size cap, .int .i64 a, .int .i64 m, .int .i64 b, .func (.func g) #[] cb] w
      (Left w0 blk off fun d' => PermIn a b d d' ∧ SortedIn tot a b d') := by
  have mixed : Try.prog.follows .mixedOrders = true := by kernel_rfl
  have S0 : Aside (SWK encDt 8 w0 blk off d w) := S
  have HC : Aside _ := hcmp
  have HH := Lib.hid H
  clear S hcmp H
  have hm1 : ((m : Int) - (a : Int) == 1) = true := by rw [beq_iff_eq]; omega
  have hm2 : a + 1 ≤ m := by omega
  have hm3 : m ≤ a + 1 := by omega
  clear hm
  go_enter Try.func79, Try.ntmps79
  go_wp2
  go_loopg [10, 11, 12] (b - a) (fun g1 vi vj vh wr => ∃ (i j : Nat), vi = .int .i64 i ∧ vj = .int .i64 j ∧ m ≤ i ∧ i ≤ j ∧ j ≤ b ∧ j - i ≤ g1 ∧ Aside (SWK encDt 8 w0 blk off d wr) ∧ Hid (i = m ∨ tot d[i - 1]! d[a]! = true) ∧ Hid (j = b ∨ tot d[j]! d[a]! = false))
  case atStart => exact ⟨m, b, rfl, rfl, by omega, by omega, by omega, by omega, S0, Lib.hid (Or.inl rfl), Lib.hid (Or.inl rfl)⟩
  case round =>
    clear S0
    obtain ⟨i, j, rfl, rfl, hai, hij, hjb, hg1, S1, HL, HR⟩ := hrel
    by_cases hlt : i < j
    · have hltz : (i : Int) < (j : Int) := by omega
      obtain ⟨h, hh⟩ : ∃ h : Nat, h = (i + j) / 2 := ⟨_, rfl⟩
      have hk := test_lt O (HH.out.asc a h (by omega) (by omega) (by omega) (by omega))
      have h1 : i ≤ h := by omega
      have h2 : h < j := by omega
      have ea : (((i : Int) + (j : Int)) / 2).toNat = h := by omega
      have pa : (0 : Int) ≤ ((i : Int) + (j : Int)) / 2 := by omega
      have ba : ((i : Int) + (j : Int)) / 2 < (d.size : Int) := by omega
      have bc : (a : Int) < (d.size : Int) := by omega
      obtain ⟨l10, l11, l12, l13, l14, l15, l16, l17⟩ := dt_cl S1.out R (by omega) h (by omega)
      obtain ⟨l20, l21, l22, l23, l24, l25, l26, l27⟩ := dt_cl S1.out R (by omega) a (by omega)
      obtain ⟨x, hx⟩ : ∃ x, x = d[h]! := ⟨_, rfl⟩
      obtain ⟨y, hy⟩ : ∃ x, x = d[a]! := ⟨_, rfl⟩
      rw [← hx] at l10 l11 l12 l13 l14 l15 l16 l17
      rw [← hy] at l20 l21 l22 l23 l24 l25 l26 l27
      have hc := dt_cmp S1.out HC.out (by omega) x y
      cases hv : tot d[h]! d[a]!
      · have hd1 : decide (cf x y < 0) = false := by rw [hx, hy, hk]; exact hv
        have hd2 : ¬ cf x y < 0 := of_decide_eq_false hd1
        have HV := Lib.hid hv
        have Heh := Lib.hid ea
        clear hx hy hh hv hk
        go_wp2_with fail
        go_quiet_grown (first | (go_at_fn g; refine Calls.grown_of (hc _ _)))
        have S2 : Aside (SWK encDt 8 w0 blk off d (grow (wr.drewN nq) osq)) := S1.out.grown nq osq
        clear l10 l11 l12 l13 l14 l15 l16 l17 l20 l21 l22 l23 l24 l25 l26 l27 hc S1
        generalize grow (wr.drewN nq) osq = w2 at S2 ⊢
        clear nq osq
        clear ea
        go_wp2
        go_roundg (h - i)
        case measure => omega
        case rel => exact ⟨i, h, rfl, (by congr 1; have := Heh.out; omega), by omega, by omega, by omega, by omega, S2, HL, Lib.hid (Or.inr HV.out)⟩
      · have hd1 : decide (cf x y < 0) = true := by rw [hx, hy, hk]; exact hv
        have hd2 : cf x y < 0 := of_decide_eq_true hd1
        have HV := Lib.hid hv
        have Heh := Lib.hid ea
        clear hx hy hh hv hk
        go_wp2_with fail
        go_quiet_grown (first | (go_at_fn g; refine Calls.grown_of (hc _ _)))
        have S2 : Aside (SWK encDt 8 w0 blk off d (grow (wr.drewN nq) osq)) := S1.out.grown nq osq
        clear l10 l11 l12 l13 l14 l15 l16 l17 l20 l21 l22 l23 l24 l25 l26 l27 hc S1
        generalize grow (wr.drewN nq) osq = w2 at S2 ⊢
        clear nq osq
        clear ea
        go_wp2
        go_roundg (j - (h + 1))
        case measure => omega
        case rel => exact ⟨h + 1, j, (by congr 1; have := Heh.out; omega), rfl, by omega, by omega, by omega, by omega, S2, Lib.hid (Or.inr (by simpa using HV.out)), HR⟩
    · have hltz : ¬ (i : Int) < (j : Int) := by omega
      obtain rfl : i = j := by omega
      have hi0 : IntKind.i64.wrap ((i : Int) - 1) = (i : Int) - 1 := by rw [IntKind.wrap_i64]; omega
      go_wp2
      go_loopg [13] (i - 1 - a) (fun g1 vk wr => ∃ (k : Nat) (dk : Array Dt), vk = .int .i64 k ∧ a ≤ k ∧ k + 1 ≤ i ∧ i - 1 - k ≤ g1 ∧ dk.size = d.size ∧ Aside (SWK encDt 8 w0 blk off dk wr) ∧ Hid (∀ x, dk[x]! = if a ≤ x ∧ x < k then d[x + 1]! else if x = k then d[a]! else d[x]!) ∧ Hid (PermIn a b d dk))
      case atStart => exact ⟨a, d, rfl, by omega, by omega, by omega, rfl, S1, Lib.hid (fun x => by rw [if_neg (by omega)]; split <;> simp_all), Lib.hid (permIn_refl _ _ _)⟩
      case round =>
        clear S1
        obtain ⟨k, dk, rfl, hak, hki, hg2, hsk, S1, HA, HP⟩ := hrel
        by_cases hlt2 : k + 1 < i
        · have hltz2 : (k : Int) < (i : Int) - 1 := by omega
          go_wp2_with fail
          obtain ⟨jN, hjN⟩ : ∃ q, q = k + 1 := ⟨_, rfl⟩
          have ec : ((k : Int) + 1).toNat = jN := by omega
          have pc : (0 : Int) ≤ (k : Int) + 1 := by omega
          have ba : (k : Int) < (d.size : Int) := by omega
          have bc : (k : Int) + 1 < (d.size : Int) := by omega
          have rc : IntKind.i64.wrap ((k : Int) + 1) = (k : Int) + 1 := by rw [IntKind.wrap_i64]; omega
          obtain ⟨x, hx⟩ : ∃ x, x = dk[k]! := ⟨_, rfl⟩
          obtain ⟨y, hy⟩ : ∃ x, x = dk[k + 1]! := ⟨_, rfl⟩
          have T3 : Hid _ := Lib.hid (dt_sw2 S1.out R k (k + 1) (by omega) (by omega) x y hx hy k jN (by omega) (by omega))
          obtain ⟨c10, c11, c12, c13, c14, c15, c16, c17⟩ := dt_c8 S1.out R (by omega) k (by omega)
          obtain ⟨c20, c21, c22, c23, c24, c25, c26, c27⟩ := dt_c8 S1.out R (by omega) (k + 1) (by omega)
          obtain ⟨f10, f11, f12, f13, f14, f15, f16, f17⟩ := dt_f8 S1.out R (by omega) k (by omega)
          obtain ⟨f20, f21, f22, f23, f24, f25, f26, f27⟩ := dt_f8 S1.out R (by omega) (k + 1) (by omega)
          rw [← hx] at c10 c11 c12 c13 c14 c15 c16 c17
          rw [← hy] at c20 c21 c22 c23 c24 c25 c26 c27
          try simp only [← hjN] at f10 f11 f12 f13 f14 f15 f16 f17 f20 f21 f22 f23 f24 f25 f26 f27 c10 c11 c12 c13 c14 c15 c16 c17 c20 c21 c22 c23 c24 c25 c26 c27
          clear S1 hx hy hjN
          go_wp2_with fail
          go_big_region_o
          clear f10 f11 f12 f13 f14 f15 f16 f17 f20 f21 f22 f23 f24 f25 f26 f27 c10 c11 c12 c13 c14 c15 c16 c17 c20 c21 c22 c23 c24 c25 c26 c27
          generalize hw3 : ((((((((((((((((wr.setCell ⟨blk, off + k * 8, none⟩ (.string y.car)).setCell ⟨blk, off + k * 8 + 1, none⟩ (.int .i64 y.num)).setCell ⟨blk, off + k * 8 + 2, none⟩ (.int .i64 y.day)).setCell ⟨blk, off + k * 8 + 3, none⟩ (.string y.f)).setCell ⟨blk, off + k * 8 + 4, none⟩ (.string y.t)).setCell ⟨blk, off + k * 8 + 5, none⟩ (.int .i64 y.dep)).setCell ⟨blk, off + k * 8 + 6, none⟩ (.int .i64 y.arr)).setCell ⟨blk, off + k * 8 + 7, none⟩ (.string y.eq)).setCell ⟨blk, off + jN * 8, none⟩ (.string x.car)).setCell ⟨blk, off + jN * 8 + 1, none⟩ (.int .i64 x.num)).setCell ⟨blk, off + jN * 8 + 2, none⟩ (.int .i64 x.day)).setCell ⟨blk, off + jN * 8 + 3, none⟩ (.string x.f)).setCell ⟨blk, off + jN * 8 + 4, none⟩ (.string x.t)).setCell ⟨blk, off + jN * 8 + 5, none⟩ (.int .i64 x.dep)).setCell ⟨blk, off + jN * 8 + 6, none⟩ (.int .i64 x.arr)).setCell ⟨blk, off + jN * 8 + 7, none⟩ (.string x.eq)) = w3 at *
          have S3 : Aside (SWK encDt 8 w0 blk off (swp dk k (k + 1)) w3.drew) := T3.out _ (by rw [← hw3]; rfl)
          clear hw3 T3
          clear ec
          go_wp2
          go_roundg (i - 1 - (k + 1))
          case measure => omega
          case rel => exact ⟨k + 1, swp dk k (k + 1), by go_num, by omega, by omega, by omega, by rw [size_swp]; exact hsk, S3, Lib.hid (swp_up a (i - 1) d dk k (by omega) (by omega) (by omega) hsk HA.out),
            Lib.hid (permIn_trans _ _ _ _ _ HP.out (swp_permIn dk a b k (k + 1) (by omega) (by omega) (by omega) (by omega) (by omega)))⟩
        · have hltz2 : ¬ (k : Int) < (i : Int) - 1 := by omega
          have hk : k = i - 1 := by omega
          have Hk := Lib.hid hk
          clear hk
          go_wp2
          go_end0
          have h0 : m = a + 1 := by omega
          have H1 : Halves tot lo a (a + 1) b d := by rw [← h0]; exact HH.out
          refine ⟨rfl, dk, ⟨HP.out, one_left O.swo H1 (by omega) (by omega) (HL.out.imp (fun h => by omega) id) HR.out (fun x => ?_)⟩, S1.out⟩
          rw [HA.out x, Hk.out]
end Go.Proofs.Ytmmpalnalogfnaa

/- The library's stable sort, walked: symMergeCmpFunc where the right row is one element. -/
namespace Go.Proofs.Ytmmpalnalogfnaa
open Go.Shelf Go.RowKit Go.Lib Go.Sort
set_option linter.unusedSimpArgs false
set_option linter.unusedVariables false

theorem ite_at (d : Array Dt) (x m : Nat) : d[x]! = if x = m then d[m]! else d[x]! := by
  by_cases h : x = m
  · rw [if_pos h, h]
  · rw [if_neg h]

set_option maxHeartbeats 16000000 in
set_option maxRecDepth 100000 in
theorem symMerge_right (cf : Dt → Dt → Int) (tot : Dt → Dt → Bool) (lo : Dt → Dt → Prop) (O : Ordd (ltOf cf) tot lo) (g : Nat) (cb : Array Value) (blk off cap a m b : Nat) (d0 d : Array Dt) (w0 w : World)
    (eg : ∀ args w, (callFunc g args).run Try.prog w = .ok (.enter g args) w) (hcmp : CmpLays Try.prog g cb encDt 8 cf blk off d0.size w0) (R : RowK encDt 8 w0 blk off d0)
    (hs : d0.size = d.size) (S : SWK encDt 8 w0 blk off d w) (hb1 : b = m + 1) (ham : a + 1 < m) (hb : b ≤ d.size) (hsz : d.size < 4611686018427387904) (H : Halves tot lo a m b d) :
    Calls Try.prog 79 #[.slice (some ⟨blk, off, none⟩) d.size cap, .int .i64 a, .int .i64 m, .int .i64 b, .func (.func g) #[] cb] w
      (Left w0 blk off fun d' => PermIn a b d d' ∧ SortedIn tot a b d') := by
  have mixed : Try.prog.follows .mixedOrders = true := by kernel_rfl
  have S0 : Aside (SWK encDt 8 w0 blk off d w) := S
  have HC : Aside _ := hcmp
  have HH := Lib.hid H
  clear S hcmp H
  have hm1 : ((m : Int) - (a : Int) == 1) = false := by rw [beq_eq_false_iff_ne]; omega
  have hm4 : ((b : Int) - (m : Int) == 1) = true := by rw [beq_iff_eq]; omega
  have hm2 : m + 1 ≤ b := by omega
  have hm3 : b ≤ m + 1 := by omega
  clear hb1
  go_enter Try.func79, Try.ntmps79
  go_wp2
  go_loopg [14, 15, 16] (m - a) (fun g1 vi vj vh wr => ∃ (i j : Nat), vi = .int .i64 i ∧ vj = .int .i64 j ∧ a ≤ i ∧ i ≤ j ∧ j ≤ m ∧ j - i ≤ g1 ∧ Aside (SWK encDt 8 w0 blk off d wr) ∧ Hid (i = a ∨ tot d[m]! d[i - 1]! = false) ∧ Hid (j = m ∨ tot d[m]! d[j]! = true))
  case atStart => exact ⟨a, m, rfl, rfl, by omega, by omega, by omega, by omega, S0, Lib.hid (Or.inl rfl), Lib.hid (Or.inl rfl)⟩
  case round =>
    clear S0
    obtain ⟨i, j, rfl, rfl, hai, hij, hjb, hg1, S1, HL, HR⟩ := hrel
    by_cases hlt : i < j
    · have hltz : (i : Int) < (j : Int) := by omega
      obtain ⟨h, hh⟩ : ∃ h : Nat, h = (i + j) / 2 := ⟨_, rfl⟩
      have hk := test_lt O (HH.out.asc h m (by omega) (by omega) (by omega) (by omega))
      have h1 : i ≤ h := by omega
      have h2 : h < j := by omega
      have ea : (((i : Int) + (j : Int)) / 2).toNat = h := by omega
      have pa : (0 : Int) ≤ ((i : Int) + (j : Int)) / 2 := by omega
      have ba : ((i : Int) + (j : Int)) / 2 < (d.size : Int) := by omega
      have bc : (m : Int) < (d.size : Int) := by omega
      obtain ⟨l10, l11, l12, l13, l14, l15, l16, l17⟩ := dt_cl S1.out R (by omega) h (by omega)
      obtain ⟨l20, l21, l22, l23, l24, l25, l26, l27⟩ := dt_cl S1.out R (by omega) m (by omega)
      obtain ⟨x, hx⟩ : ∃ x, x = d[h]! := ⟨_, rfl⟩
      obtain ⟨y, hy⟩ : ∃ x, x = d[m]! := ⟨_, rfl⟩
      rw [← hx] at l10 l11 l12 l13 l14 l15 l16 l17
      rw [← hy] at l20 l21 l22 l23 l24 l25 l26 l27
      have hc := dt_cmp S1.out HC.out (by omega) y x
      cases hv : tot d[m]! d[h]!
      · have hd1 : decide (cf y x < 0) = false := by rw [hx, hy, hk]; exact hv
        have hd2 : ¬ cf y x < 0 := of_decide_eq_false hd1
        have HV := Lib.hid hv
        have Heh := Lib.hid ea
        clear hx hy hh hv hk
        go_wp2_with fail
        go_quiet_grown (first | (go_at_fn g; refine Calls.grown_of (hc _ _)))
        have S2 : Aside (SWK encDt 8 w0 blk off d (grow (wr.drewN nq) osq)) := S1.out.grown nq osq
        clear l10 l11 l12 l13 l14 l15 l16 l17 l20 l21 l22 l23 l24 l25 l26 l27 hc S1
        generalize grow (wr.drewN nq) osq = w2 at S2 ⊢
        clear nq osq
        clear ea
        go_wp2
        go_roundg (j - (h + 1))
        case measure => omega
        case rel => exact ⟨h + 1, j, (by congr 1; have := Heh.out; omega), rfl, by omega, by omega, by omega, by omega, S2, Lib.hid (Or.inr (by simpa using HV.out)), HR⟩
      · have hd1 : decide (cf y x < 0) = true := by rw [hx, hy, hk]; exact hv
        have hd2 : cf y x < 0 := of_decide_eq_true hd1
        have HV := Lib.hid hv
        have Heh := Lib.hid ea
        clear hx hy hh hv hk
        go_wp2_with fail
        go_quiet_grown (first | (go_at_fn g; refine Calls.grown_of (hc _ _)))
        have S2 : Aside (SWK encDt 8 w0 blk off d (grow (wr.drewN nq) osq)) := S1.out.grown nq osq
        clear l10 l11 l12 l13 l14 l15 l16 l17 l20 l21 l22 l23 l24 l25 l26 l27 hc S1
        generalize grow (wr.drewN nq) osq = w2 at S2 ⊢
        clear nq osq
        clear ea
        go_wp2
        go_roundg (h - i)
        case measure => omega
        case rel => exact ⟨i, h, rfl, (by congr 1; have := Heh.out; omega), by omega, by omega, by omega, by omega, S2, HL, Lib.hid (Or.inr HV.out)⟩
    · have hltz : ¬ (i : Int) < (j : Int) := by omega
      obtain rfl : i = j := by omega
      go_wp2
      go_loopg [17] (m - i) (fun g1 vk wr => ∃ (k : Nat) (dk : Array Dt), vk = .int .i64 k ∧ i ≤ k ∧ k ≤ m ∧ k - i ≤ g1 ∧ dk.size = d.size ∧ Aside (SWK encDt 8 w0 blk off dk wr) ∧ Hid (∀ x, dk[x]! = if k < x ∧ x ≤ m then d[x - 1]! else if x = k then d[m]! else d[x]!) ∧ Hid (PermIn a b d dk))
      case atStart => exact ⟨m, d, rfl, by omega, by omega, by omega, rfl, S1, Lib.hid (fun x => by rw [if_neg (by omega)]; exact ite_at d x m), Lib.hid (permIn_refl _ _ _)⟩
      case round =>
        clear S1
        obtain ⟨k, dk, rfl, hak, hki, hg2, hsk, S1, HA, HP⟩ := hrel
        by_cases hlt2 : i < k
        · have hltz2 : (k : Int) > (i : Int) := by omega
          obtain ⟨kp, hkp⟩ : ∃ q, q + 1 = k := ⟨k - 1, by omega⟩
          have zkp : (k : Int) - 1 = (kp : Int) := by omega
          go_wp2_with fail
          have ba : (k : Int) < (d.size : Int) := by omega
          have bc : (kp : Int) < (d.size : Int) := by omega
          have rc : IntKind.i64.wrap ((k : Int) - 1) = (kp : Int) := by rw [IntKind.wrap_i64]; omega
          obtain ⟨x, hx⟩ : ∃ x, x = dk[k]! := ⟨_, rfl⟩
          obtain ⟨y, hy⟩ : ∃ x, x = dk[kp]! := ⟨_, rfl⟩
          have T3 : Hid _ := Lib.hid (dt_sw2 S1.out R k kp (by omega) (by omega) x y hx hy k kp (by omega) (by omega))
          obtain ⟨c10, c11, c12, c13, c14, c15, c16, c17⟩ := dt_c8 S1.out R (by omega) k (by omega)
          obtain ⟨c20, c21, c22, c23, c24, c25, c26, c27⟩ := dt_c8 S1.out R (by omega) kp (by omega)
          obtain ⟨f10, f11, f12, f13, f14, f15, f16, f17⟩ := dt_f8 S1.out R (by omega) k (by omega)
          obtain ⟨f20, f21, f22, f23, f24, f25, f26, f27⟩ := dt_f8 S1.out R (by omega) kp (by omega)
          rw [← hx] at c10 c11 c12 c13 c14 c15 c16 c17
          rw [← hy] at c20 c21 c22 c23 c24 c25 c26 c27
          have Hkp := Lib.hid hkp
          clear S1 hx hy hkp
          go_wp2_with fail
          go_big_region_o
          clear f10 f11 f12 f13 f14 f15 f16 f17 f20 f21 f22 f23 f24 f25 f26 f27 c10 c11 c12 c13 c14 c15 c16 c17 c20 c21 c22 c23 c24 c25 c26 c27
          generalize hw3 : ((((((((((((((((wr.setCell ⟨blk, off + k * 8, none⟩ (.string y.car)).setCell ⟨blk, off + k * 8 + 1, none⟩ (.int .i64 y.num)).setCell ⟨blk, off + k * 8 + 2, none⟩ (.int .i64 y.day)).setCell ⟨blk, off + k * 8 + 3, none⟩ (.string y.f)).setCell ⟨blk, off + k * 8 + 4, none⟩ (.string y.t)).setCell ⟨blk, off + k * 8 + 5, none⟩ (.int .i64 y.dep)).setCell ⟨blk, off + k * 8 + 6, none⟩ (.int .i64 y.arr)).setCell ⟨blk, off + k * 8 + 7, none⟩ (.string y.eq)).setCell ⟨blk, off + kp * 8, none⟩ (.string x.car)).setCell ⟨blk, off + kp * 8 + 1, none⟩ (.int .i64 x.num)).setCell ⟨blk, off + kp * 8 + 2, none⟩ (.int .i64 x.day)).setCell ⟨blk, off + kp * 8 + 3, none⟩ (.string x.f)).setCell ⟨blk, off + kp * 8 + 4, none⟩ (.string x.t)).setCell ⟨blk, off + kp * 8 + 5, none⟩ (.int .i64 x.dep)).setCell ⟨blk, off + kp * 8 + 6, none⟩ (.int .i64 x.arr)).setCell ⟨blk, off + kp * 8 + 7, none⟩ (.string x.eq)) = w3 at *
          have S3 : Aside (SWK encDt 8 w0 blk off (swp dk k kp) w3.drew) := T3.out _ (by rw [← hw3]; rfl)
          clear hw3 T3
          go_wp2
          have hkp := Hkp.out
          subst hkp
          go_roundg (kp - i)
          case measure => omega
          case rel => exact ⟨kp, swp dk (kp + 1) kp, rfl, by omega, by omega, by omega, by rw [size_swp]; exact hsk, S3, Lib.hid (swp_down m d dk kp (by omega) (by omega) hsk HA.out),
            Lib.hid (permIn_trans _ _ _ _ _ HP.out (swp_permIn dk a b (kp + 1) kp (by omega) (by omega) (by omega) (by omega) (by omega)))⟩
        · have hltz2 : ¬ (k : Int) > (i : Int) := by omega
          obtain rfl : i = k := by omega
          go_wp2
          go_end0
          have h0 : b = m + 1 := by omega
          have H1 : Halves tot lo a m (m + 1) d := by rw [← h0]; exact HH.out
          refine ⟨rfl, dk, ⟨HP.out, ?_⟩, S1.out⟩
          rw [h0]
          exact one_right O.swo H1 (by omega) (by omega) HL.out HR.out HA.out
end Go.Proofs.Ytmmpalnalogfnaa

/- The library's stable sort, walked: symMergeCmpFunc makes one sorted row of two, at all lengths. -/
namespace Go.Proofs.Ytmmpalnalogfnaa
open Go.Shelf Go.RowKit Go.Lib Go.Sort
set_option linter.unusedSimpArgs false
set_option linter.unusedVariables false

/-- the call on any two rows that lie beside one another, at most N places -/
def Merges (tot : Dt → Dt → Bool) (lo : Dt → Dt → Prop) (g : Nat) (cb : Array Value) (blk off cap : Nat) (d0 : Array Dt) (w0 : World) (N : Nat) : Prop :=
  ∀ (a m b : Nat) (d : Array Dt) (w : World), b - a ≤ N → a < m → m < b → b ≤ d.size → d.size < 4611686018427387904 → d0.size = d.size → SWK encDt 8 w0 blk off d w → Halves tot lo a m b d →
    Calls Try.prog 79 #[.slice (some ⟨blk, off, none⟩) d.size cap, .int .i64 a, .int .i64 m, .int .i64 b, .func (.func g) #[] cb] w
      (Left w0 blk off fun d' => PermIn a b d d' ∧ SortedIn tot a b d')

/-- the binary search for the cut -/
structure Seek (tot : Dt → Dt → Bool) (d : Array Dt) (p s0 r0 s r : Nat) : Prop where
  low : s = s0 ∨ tot d[p - (s - 1)]! d[s - 1]! = false
  high : r = r0 ∨ tot d[p - r]! d[r]! = true

theorem Seek.cut {tot : Dt → Dt → Bool} {d : Array Dt} {a m b mid s s0 r0 : Nat} (h : Seek tot d (mid + m - 1) s0 r0 s s) (ham : a < m) (hmb : m < b) (hmid : mid = (a + b) / 2)
    (h0 : (mid < m ∧ s0 + b = mid + m ∧ r0 = mid) ∨ (m ≤ mid ∧ s0 = a ∧ r0 = m)) (hs1 : s0 ≤ s) (hs2 : s ≤ r0) : Cutt tot a m b mid s (mid + m - s) d := by
  refine ⟨by omega, by omega, by omega, by omega, by omega, ?_, ?_⟩
  · rcases h.low with hl | hl
    · rcases h0 with h0 | h0
      · exact Or.inr (Or.inl (by omega))
      · exact Or.inl (by omega)
    · by_cases hs : s = s0
      · rcases h0 with h0 | h0
        · exact Or.inr (Or.inl (by omega))
        · exact Or.inl (by omega)
      · rw [show mid + m - 1 - (s - 1) = mid + m - s by omega] at hl
        exact Or.inr (Or.inr hl)
  · rcases h.high with hl | hl
    · rcases h0 with h0 | h0
      · exact Or.inr (Or.inl (by omega))
      · exact Or.inl (by omega)
    · by_cases hs : s = r0
      · rcases h0 with h0 | h0
        · exact Or.inr (Or.inl (by omega))
        · exact Or.inl (by omega)
      · rw [show mid + m - 1 - s = mid + m - s - 1 by omega] at hl
        exact Or.inr (Or.inr hl)

set_option maxHeartbeats 16000000 in
set_option maxRecDepth 100000 in
theorem symMerge_main (cf : Dt → Dt → Int) (tot : Dt → Dt → Bool) (lo : Dt → Dt → Prop) (O : Ordd (ltOf cf) tot lo) (g : Nat) (cb : Array Value) (blk off cap a m b : Nat) (d0 d : Array Dt) (w0 w : World)
    (eg : ∀ args w, (callFunc g args).run Try.prog w = .ok (.enter g args) w) (hcmp : CmpLays Try.prog g cb encDt 8 cf blk off d0.size w0) (R : RowK encDt 8 w0 blk off d0)
    (hs : d0.size = d.size) (S : SWK encDt 8 w0 blk off d w) (ham : a + 1 < m) (hmb : m + 1 < b) (hb : b ≤ d.size) (hsz : d.size < 4611686018427387904) (H : Halves tot lo a m b d)
    (IH : Merges tot lo g cb blk off cap d0 w0 (b - a - 1)) :
    Calls Try.prog 79 #[.slice (some ⟨blk, off, none⟩) d.size cap, .int .i64 a, .int .i64 m, .int .i64 b, .func (.func g) #[] cb] w
      (Left w0 blk off fun d' => PermIn a b d d' ∧ SortedIn tot a b d') := by
  have mixed : Try.prog.follows .mixedOrders = true := by kernel_rfl
  have S0 : Aside (SWK encDt 8 w0 blk off d w) := S
  have HC : Aside _ := hcmp
  have HH := Lib.hid H
  have HI := Lib.hid IH
  clear S hcmp H IH
  have hm1 : ((m : Int) - (a : Int) == 1) = false := by rw [beq_eq_false_iff_ne]; omega
  have hm4 : ((b : Int) - (m : Int) == 1) = false := by rw [beq_eq_false_iff_ne]; omega
  obtain ⟨mid, hmid⟩ : ∃ q : Nat, q = (a + b) / 2 := ⟨_, rfl⟩
  have hq : ((a : Int) + (b : Int)) / 2 = (mid : Int) := by omega
  have Hmid := Lib.hid hmid
  have hb1 : a < mid := by omega
  have hb2 : mid < b := by omega
  clear hmid hq
  obtain ⟨s0, r0, h0⟩ : ∃ s0 r0 : Nat, (mid < m ∧ s0 + b = mid + m ∧ r0 = mid) ∨ (m ≤ mid ∧ s0 = a ∧ r0 = m) := by
    by_cases h : mid < m
    · exact ⟨mid + m - b, mid, Or.inl ⟨h, by have := Hmid.out; omega, rfl⟩⟩
    · exact ⟨a, m, Or.inr ⟨by omega, rfl, rfl⟩⟩
  have H0 := Lib.hid h0
  have hs0 : a ≤ s0 := by have := Hmid.out; omega
  have hr0 : r0 ≤ m := by omega
  have hr1 : r0 ≤ mid := by omega
  have hs2 : mid + m ≤ s0 + b := by have := Hmid.out; omega
  have hs3 : s0 ≤ r0 := by have := Hmid.out; omega
  have hq : ((a : Int) + (b : Int)) / 2 = (mid : Int) := by have := Hmid.out; omega
  have hk0 : (mid < m ∧ s0 + b = mid + m) ∨ (m ≤ mid ∧ s0 = a) := by omega
  have Hq := Lib.hid hq
  rcases h0 with ⟨h1, h2, h3⟩ | ⟨h1, h2, h3⟩
  all_goals
    have g2 := Lib.hid h2
    have g3 := Lib.hid h3
    clear h2 h3 hk0
    have z1 : decide (mid < m) = true ∨ decide (mid < m) = false := by cases decide (mid < m) <;> simp
    have z2 : decide ((m : Int) > (mid : Int)) = decide (mid < m) := by simp
    have z3 : decide ((mid : Int) < (m : Int)) = decide (mid < m) := by simp
    rcases z1 with z1 | z1
    all_goals (first | (exfalso; simp at z1; omega) | skip)
    rw [z1] at z2 z3
    go_enter Try.func79, Try.ntmps79
    go_wp2
    go_loopg [20, 21, 23] (r0 - s0) (fun g1 vi vj vh wr => ∃ (i j : Nat), vi = .int .i64 i ∧ vj = .int .i64 j ∧ s0 ≤ i ∧ i ≤ j ∧ j ≤ r0 ∧ j - i ≤ g1 ∧ Aside (SWK encDt 8 w0 blk off d wr) ∧ Hid (Seek tot d (mid + m - 1) s0 r0 i j))
    case atStart => exact ⟨s0, r0, (by congr 1; have := g2.out; omega), (by congr 1; have := g3.out; omega), Nat.le_refl _, hs3, Nat.le_refl _, Nat.le_refl _, S0, Lib.hid ⟨Or.inl rfl, Or.inl rfl⟩⟩
    case round =>
      clear S0
      obtain ⟨i, j, rfl, rfl, hai, hij, hjb, hg1, S1, HL⟩ := hrel
      by_cases hlt : i < j
      · have hltz : (i : Int) < (j : Int) := by omega
        obtain ⟨h, hh⟩ : ∃ h : Nat, h = (i + j) / 2 := ⟨_, rfl⟩
        have k1 : i ≤ h := by omega
        have k2 : h < j := by omega
        obtain ⟨q, hq2⟩ : ∃ q : Nat, q = mid + m - 1 - h := ⟨_, rfl⟩
        have hk := test_lt O (HH.out.asc h q (by omega) (by omega) (by omega) (by omega))
        have ea : (((i : Int) + (j : Int)) / 2).toNat = h := by omega
        have pa : (0 : Int) ≤ ((i : Int) + (j : Int)) / 2 := by omega
        have ba : ((i : Int) + (j : Int)) / 2 < (d.size : Int) := by omega
        have ra : IntKind.i64.wrap ((mid : Int) + (m : Int) - 1 - ((i : Int) + (j : Int)) / 2) = (q : Int) := by rw [IntKind.wrap_i64]; omega
        have rb : (mid : Int) + (m : Int) - 1 - ((i : Int) + (j : Int)) / 2 = (q : Int) := by omega
        have bc : (q : Int) < (d.size : Int) := by omega
        have rc : IntKind.i64.wrap (q : Int) = (q : Int) := by rw [IntKind.wrap_i64]; omega
        obtain ⟨l10, l11, l12, l13, l14, l15, l16, l17⟩ := dt_cl S1.out R (by omega) h (by omega)
        obtain ⟨l20, l21, l22, l23, l24, l25, l26, l27⟩ := dt_cl S1.out R (by omega) q (by omega)
        obtain ⟨x, hx⟩ : ∃ x, x = d[h]! := ⟨_, rfl⟩
        obtain ⟨y, hy⟩ : ∃ x, x = d[q]! := ⟨_, rfl⟩
        rw [← hx] at l10 l11 l12 l13 l14 l15 l16 l17
        rw [← hy] at l20 l21 l22 l23 l24 l25 l26 l27
        have hc := dt_cmp S1.out HC.out (by omega) y x
        have Hq2 := Lib.hid hq2
        cases hv : tot d[q]! d[h]!
        · have hd1 : decide (cf y x < 0) = false := by rw [hx, hy, hk]; exact hv
          have hd2 : ¬ cf y x < 0 := of_decide_eq_false hd1
          have HV := Lib.hid hv
          have Heh := Lib.hid ea
          clear hx hy hh hv hk hq2 Hq
          go_wp2_with fail
          go_quiet_grown (first | (go_at_fn g; refine Calls.grown_of (hc _ _)))
          have S2 : Aside (SWK encDt 8 w0 blk off d (grow (wr.drewN nq) osq)) := S1.out.grown nq osq
          clear l10 l11 l12 l13 l14 l15 l16 l17 l20 l21 l22 l23 l24 l25 l26 l27 hc S1
          generalize grow (wr.drewN nq) osq = w2 at S2 ⊢
          clear nq osq
          clear ea ra rb rc
          go_wp2
          go_roundg (j - (h + 1))
          case measure => omega
          case rel => exact ⟨h + 1, j, (by congr 1; have := Heh.out; omega), rfl, by omega, by omega, by omega, by omega, S2, Lib.hid ⟨Or.inr (by simp only [Nat.add_sub_cancel]; rw [← Hq2.out]; exact HV.out), HL.out.high⟩⟩
        · have hd1 : decide (cf y x < 0) = true := by rw [hx, hy, hk]; exact hv
          have hd2 : cf y x < 0 := of_decide_eq_true hd1
          have HV := Lib.hid hv
          have Heh := Lib.hid ea
          clear hx hy hh hv hk hq2 Hq
          go_wp2_with fail
          go_quiet_grown (first | (go_at_fn g; refine Calls.grown_of (hc _ _)))
          have S2 : Aside (SWK encDt 8 w0 blk off d (grow (wr.drewN nq) osq)) := S1.out.grown nq osq
          clear l10 l11 l12 l13 l14 l15 l16 l17 l20 l21 l22 l23 l24 l25 l26 l27 hc S1
          generalize grow (wr.drewN nq) osq = w2 at S2 ⊢
          clear nq osq
          clear ea ra rb rc
          go_wp2
          go_roundg (h - i)
          case measure => omega
          case rel => exact ⟨i, h, rfl, (by congr 1; have := Heh.out; omega), by omega, by omega, by omega, by omega, S2, Lib.hid ⟨HL.out.low, Or.inr (by rw [← Hq2.out]; exact HV.out)⟩⟩
      · have hltz : ¬ (i : Int) < (j : Int) := by omega
        obtain rfl : i = j := by omega
        obtain ⟨e, he⟩ : ∃ e : Nat, e = mid + m - i := ⟨_, rfl⟩
        have C := Seek.cut HL.out (by omega) (by omega) Hmid.out H0.out hai hjb
        rw [← he] at C
        have CC := Lib.hid C
        obtain ⟨c1, c2, c3, c4, c5, _, _⟩ := C
        have hez : (mid : Int) + (m : Int) - (i : Int) = (e : Int) := by omega
        have Hd := Lib.hid hs
        have c5a : i + e ≤ mid + m := by omega
        have c5b : mid + m ≤ i + e := by omega
        clear he hs c5
        have P1 := Lib.hid (fun w' (S : SWK encDt 8 w0 blk off d w') (h1 : i < m) (h2 : m < e) => rotate_s (.func (.func g) #[] cb) blk off cap i m e d0 d w0 w' R Hd.out S h1 h2 (by omega) hsz)
        have P2 := Lib.hid (fun (d2 : Array Dt) (hd : d2.size = d.size) (hr : ∀ k, d2[k]! = rotAt i m e d k) w' (S : SWK encDt 8 w0 blk off d2 w') (h1 : a < i) (h2 : i < mid) => by
          have C := HI.out a i mid d2 w' (by omega) h1 h2 (by omega) (by omega) (by rw [hd]; exact Hd.out) S (CC.out.lower HH.out hr)
          rw [hd] at C
          exact C)
        have P3 := Lib.hid (fun (d2 d3 : Array Dt) (hd : d2.size = d.size) (hr : ∀ k, d2[k]! = rotAt i m e d k) (hp : PermIn a mid d2 d3) w' (S : SWK encDt 8 w0 blk off d3 w') (h1 : mid < e) (h2 : e < b) => by
          have C := HI.out mid e b d3 w' (by omega) h1 h2 (by rw [hp.1]; omega) (by rw [hp.1]; omega) (by rw [hp.1, hd]; exact Hd.out) S (CC.out.upper HH.out hr hp)
          rw [hp.1, hd] at C
          exact C)
        clear z1 z2 z3 hltz hez
        have hez : (mid : Int) + (m : Int) - (i : Int) = (e : Int) := by omega
        go_upto_region 39 with fail
        go_cut [185] from 178 to 191 (fun v wx => ∃ B : Bool, v = .bool B ∧ Hid (B = decide (i < m ∧ m < e)) ∧ Aside (SWK encDt 8 w0 blk off d wx))
        case first =>
          go_wp2
          all_goals
            go_meet
            case rel => exact ⟨_, rfl, Lib.hid (by rw [Bool.eq_iff_iff]; simp <;> omega), S1⟩
        case rest =>
          obtain ⟨B, rfl, HB, S2⟩ := hcut
          go_upto_if 185 with fail
          go_cut [] from 178 to 191 (fun wx => ∃ d2 : Array Dt, Hid (d2.size = d.size) ∧ Hid (∀ k, d2[k]! = rotAt i m e d k) ∧ Hid (PermIn a b d d2) ∧ Aside (SWK encDt 8 w0 blk off d2 wx))
          case first =>
            cases B
            · have hr : ¬ (i < m ∧ m < e) := of_decide_eq_false HB.out.symm
              have Hr := Lib.hid hr
              clear hr
              go_wp2
              go_meet
              case rel => exact ⟨d, Lib.hid rfl, Lib.hid (rot_none i m e d (by have := Hr.out; omega) c2 c3), Lib.hid (permIn_refl _ _ _), S2⟩
            · have hr : i < m ∧ m < e := of_decide_eq_true HB.out.symm
              obtain ⟨hr1, hr2⟩ := hr
              go_wp2_with fail
              refine (P1.out _ S2.out hr1 hr2).mono ?_
              rintro e' w' ⟨rfl, d2, ⟨q1, q2, q3⟩, S3⟩
              have Q1 := Lib.hid q1
              have Q2 := Lib.hid q2
              have Q3 := Lib.hid (permIn_mono _ _ i e a b c1 c4 hb q3)
              have T2 : Aside _ := S3
              clear q1 q2 q3 S3
              go_wp2
              go_meet
              case rel => exact ⟨d2, Q1, Q2, Q3, T2⟩
          case rest =>
            obtain ⟨d2, Q1, Q2, Q3, T2⟩ := hcut
            clear HB S2
            go_upto_region 41 with fail
            go_cut [199] from 192 to 205 (fun v wx => ∃ B : Bool, v = .bool B ∧ Hid (B = decide (a < i ∧ i < mid)) ∧ Aside (SWK encDt 8 w0 blk off d2 wx))
            case first =>
              go_wp2
              all_goals
                go_meet
                case rel => exact ⟨_, rfl, Lib.hid (by rw [Bool.eq_iff_iff]; simp <;> omega), T2⟩
            case rest =>
              obtain ⟨B2, rfl, HB2, S2⟩ := hcut
              go_upto_if 199 with fail
              go_cut [] from 192 to 205 (fun wx => ∃ d3 : Array Dt, Hid (PermIn a mid d2 d3) ∧ Hid (SortedIn tot a mid d3) ∧ Aside (SWK encDt 8 w0 blk off d3 wx))
              case first =>
                cases B2
                · have hr : ¬ (a < i ∧ i < mid) := of_decide_eq_false HB2.out.symm
                  have Hr := Lib.hid hr
                  clear hr
                  go_wp2
                  go_meet
                  case rel => exact ⟨d2, Lib.hid (permIn_refl _ _ _), Lib.hid ((CC.out.lower HH.out Q2.out).sorted Hr.out), S2⟩
                · have hr : a < i ∧ i < mid := of_decide_eq_true HB2.out.symm
                  obtain ⟨hr1, hr2⟩ := hr
                  go_wp2_with fail
                  refine (P2.out d2 Q1.out Q2.out _ S2.out hr1 hr2).mono ?_
                  rintro e' w' ⟨rfl, d3, ⟨q1, q2⟩, S3⟩
                  have R1 := Lib.hid q1
                  have R2 := Lib.hid q2
                  have T3 : Aside _ := S3
                  clear q1 q2 S3
                  go_wp2
                  go_meet
                  case rel => exact ⟨d3, R1, R2, T3⟩
              case rest =>
                obtain ⟨d3, R1, R2, T3⟩ := hcut
                clear HB2 S2
                have fin : ∀ d4, PermIn mid b d3 d4 → SortedIn tot mid b d4 → PermIn a b d d4 ∧ SortedIn tot a b d4 := fun d4 p4 s4 => by
                  have g := glue a mid b d2 d3 d4 (by omega) (by omega) (by rw [Q1.out]; exact hb) (CC.out.cross O.swo HH.out Q2.out) R1.out R2.out p4 s4
                  exact ⟨permIn_trans _ _ _ _ _ Q3.out g.1, g.2⟩
                have FIN := Lib.hid fin
                clear fin
                go_upto_region 43 with fail
                go_cut [213] from 206 to 219 (fun v wx => ∃ B : Bool, v = .bool B ∧ Hid (B = decide (mid < e ∧ e < b)) ∧ Aside (SWK encDt 8 w0 blk off d3 wx))
                case first =>
                  go_wp2
                  all_goals
                    go_meet
                    case rel => exact ⟨_, rfl, Lib.hid (by rw [Bool.eq_iff_iff]; simp <;> omega), T3⟩
                case rest =>
                  obtain ⟨B3, rfl, HB3, S2⟩ := hcut
                  cases B3
                  · have hr : ¬ (mid < e ∧ e < b) := of_decide_eq_false HB3.out.symm
                    have Hr := Lib.hid hr
                    clear hr
                    go_wp2
                    go_end0
                    exact ⟨rfl, d3, FIN.out d3 (permIn_refl _ _ _) ((CC.out.upper HH.out Q2.out R1.out).sorted Hr.out), S2.out⟩
                  · have hr : mid < e ∧ e < b := of_decide_eq_true HB3.out.symm
                    obtain ⟨hr1, hr2⟩ := hr
                    go_wp2_with fail
                    refine (P3.out d2 d3 Q1.out Q2.out R1.out _ S2.out hr1 hr2).mono ?_
                    rintro e' w' ⟨rfl, d4, ⟨q1, q2⟩, S3⟩
                    have R3 := Lib.hid q1
                    have R4 := Lib.hid q2
                    have T4 : Aside _ := S3
                    clear q1 q2 S3
                    go_wp2
                    go_end0
                    exact ⟨rfl, d4, FIN.out d4 R3.out R4.out, T4.out⟩
end Go.Proofs.Ytmmpalnalogfnaa

/- The library's stable sort, walked: slices.SortStableFunc on at most 160 elements leaves the one stable order. -/
namespace Go.Proofs.Ytmmpalnalogfnaa
open Go.Shelf Go.RowKit Go.Lib Go.Sort
set_option linter.unusedSimpArgs false
set_option linter.unusedVariables false

theorem symMerge_all (cf : Dt → Dt → Int) (tot : Dt → Dt → Bool) (lo : Dt → Dt → Prop) (O : Ordd (ltOf cf) tot lo) (g : Nat) (cb : Array Value) (blk off cap : Nat) (d0 : Array Dt) (w0 : World)
    (eg : ∀ args w, (callFunc g args).run Try.prog w = .ok (.enter g args) w) (hcmp : CmpLays Try.prog g cb encDt 8 cf blk off d0.size w0) (R : RowK encDt 8 w0 blk off d0) :
    ∀ N, Merges tot lo g cb blk off cap d0 w0 N
  | 0 => fun a m b d w h1 h2 h3 _ _ _ _ _ => by omega
  | N + 1 => fun a m b d w h1 h2 h3 h4 h5 h6 S H => by
    have IH := symMerge_all cf tot lo O g cb blk off cap d0 w0 eg hcmp R N
    by_cases hm : m = a + 1
    · exact symMerge_left cf tot lo O g cb blk off cap a m b d0 d w0 w eg hcmp R h6 S hm h3 h4 h5 H
    by_cases hb : b = m + 1
    · exact symMerge_right cf tot lo O g cb blk off cap a m b d0 d w0 w eg hcmp R h6 S hb (by omega) h4 h5 H
    · exact symMerge_main cf tot lo O g cb blk off cap a m b d0 d w0 w eg hcmp R h6 S (by omega) (by omega) h4 h5 H
        (fun a' m' b' d' w' g1 => IH a' m' b' d' w' (by omega))

def insRen : Go.Shelf.Ren := ⟨fun | 20 => 78 | n => n, fun | 0 => 0 | 3 => 3 | 4 => 4 | 22 => 36 | 24 => 50 | 25 => 76 | n => n, fun | n => n⟩
theorem insLays : Go.Proofs.SlLaysF0.n20 Try.prog insRen := {
  mixed := by kernel_rfl
  f20 := ⟨"slices.insertionSortCmpFunc[airline/api.Dated]", by kernel_rfl, Try.func78.trans (congrArg some (by kernel_rfl))⟩
  t0 := Try.underlying0
  a0 := Try.isAgg0
  z0 := Try.sizeOf0
  v0 := Try.zeroValue0
  t3 := Try.underlying3
  a3 := Try.isAgg3
  z3 := Try.sizeOf3
  v3 := Try.zeroValue3
  t4 := Try.underlying4
  a4 := Try.isAgg4
  z4 := Try.sizeOf4
  v4 := Try.zeroValue4
  t22 := Try.underlying36
  a22 := Try.isAgg36
  z22 := Try.sizeOf36
  v22 := Try.zeroValue36
  t25 := Try.underlying76
  a25 := Try.isAgg76
  z25 := Try.sizeOf76
  v25 := Try.zeroValue76 }

/-- the insertion sort on the places a ≤ k < b, which stand in their first order -/
theorem insertion_s (cf : Dt → Dt → Int) (tot : Dt → Dt → Bool) (lo : Dt → Dt → Prop) (O : Ordd (ltOf cf) tot lo) (g : Nat) (cb : Array Value) (blk off cap a b : Nat) (d0 d : Array Dt) (w0 w : World)
    (eg : ∀ args w, (callFunc g args).run Try.prog w = .ok (.enter g args) w) (hcmp : CmpLays Try.prog g cb encDt 8 cf blk off d0.size w0) (R : RowK encDt 8 w0 blk off d0)
    (hs : d0.size = d.size) (S : SWK encDt 8 w0 blk off d w) (hab : a ≤ b) (hb : b ≤ d.size) (hsz : d.size < 4611686018427387904) (H : ∀ k m, a ≤ k → k < m → m < b → lo d[k]! d[m]!) :
    Calls Try.prog 78 #[.slice (some ⟨blk, off, none⟩) d.size cap, .int .i64 a, .int .i64 b, .func (.func g) #[] cb] w
      (Left w0 blk off fun d' => PermIn a b d d' ∧ SortedIn tot a b d') := by
  have hst := insertion_stable O a b d hab hb H
  have hC : CmpLays Try.prog g cb encDt 8 cf blk off d.size w := fun m os dk hdk x y => by
    obtain ⟨n0, os0, rfl⟩ := S
    rw [sortWorldK_on encDt 8 w0 blk off n0 m d dk os0 os R.hblk hdk]
    exact hcmp _ _ dk (by omega) x y
  have h := AnyQ.insertionSortCmpFunc insLays 8 (fun w => Try.isAgg50 w) (fun w => Try.sizeOf50 w) encDt R.hk R.h1 cf g cb blk off cap a b d w eg hC (S.holds R.hblk R.hH hs.symm) (S.lt R.hblk) hab hb hsz
  change Calls Try.prog 78 _ _ _ at h
  refine h.mono ?_
  rintro e w' ⟨rfl, n, os, rfl⟩
  exact ⟨rfl, _, hst, S.on R.hblk n _ os hst.1.1⟩

/-- the labels of the blocks: those below a are sorted in blocks of B, the rest stands as it stood -/
def labI (a : Nat) (i : Nat) : Nat := if i < a then i / 20 else 1000 + i
/-- those below a are sorted in blocks of C, the rest in blocks of B -/
def labM (C B a : Nat) (i : Nat) : Nat := if i < a then i / C else 1000 + i / B

section
variable {tot : Dt → Dt → Bool} {lo : Dt → Dt → Prop}
theorem labI_step {n a b : Nat} {d d' : Array Dt} (h : Lab tot lo n (labI a) d) (ha : a % 20 = 0) (hab : a ≤ b) (hb : b ≤ n) (hb2 : b ≤ a + 20) (hbn : b = a + 20 ∨ b = n) (hn : n ≤ d.size) (h160 : n ≤ 160)
    (p : PermIn a b d d') (s : SortedIn tot a b d') : Lab tot lo n (labI b) d' := by
  refine h.step hb hn p s (fun i j h1 h2 h3 => ?_) (fun i j h1 h2 h3 => ?_) (fun i j h1 h2 h3 => ?_)
  · unfold labI; rw [if_pos (by omega), if_pos (by omega)]; omega
  · unfold labI
    repeat' split
    all_goals omega
  · unfold labI
    repeat' split
    all_goals omega
theorem labI_first {n : Nat} {d : Array Dt} (h : ∀ i j, i < j → j < n → lo d[i]! d[j]!) : Lab tot lo n (labI 0) d := fun i j h1 h2 =>
  ⟨fun h3 => by unfold labI at h3; rw [if_neg (by omega), if_neg (by omega)] at h3; omega, fun _ => h i j h1 h2⟩
theorem labI_asc {n a b : Nat} {d : Array Dt} (h : Lab tot lo n (labI a) d) (hb : b ≤ n) (k m : Nat) (h1 : a ≤ k) (h2 : k < m) (h3 : m < b) : lo d[k]! d[m]! :=
  (h k m h2 (by omega)).2 (by unfold labI; rw [if_neg (by omega), if_neg (by omega)]; omega)
theorem labI_last {n : Nat} {d : Array Dt} (h : Lab tot lo n (labI n) d) : Lab tot lo n (labM 40 20 0) d := by
  refine h.congr (fun i j h1 h2 => ?_)
  unfold labI labM
  rw [if_neg (by omega), if_neg (by omega), if_pos (by omega), if_pos (by omega)]
  omega
theorem labM_step {n a b B : Nat} {d d' : Array Dt} (h : Lab tot lo n (labM (2 * B) B a) d) (hB : B = 20 ∨ B = 40 ∨ B = 80) (ha : a % (2 * B) = 0) (hab : a ≤ b) (hb : b ≤ n) (hb2 : b ≤ a + 2 * B) (hbn : b = a + 2 * B ∨ b = n) (hn : n ≤ d.size) (h160 : n ≤ 160)
    (p : PermIn a b d d') (s : SortedIn tot a b d') : Lab tot lo n (labM (2 * B) B b) d' := by
  rcases hB with rfl | rfl | rfl
  all_goals
    refine h.step hb hn p s (fun i j h1 h2 h3 => ?_) (fun i j h1 h2 h3 => ?_) (fun i j h1 h2 h3 => ?_)
    · unfold labM; rw [if_pos (by omega), if_pos (by omega)]; omega
    · unfold labM
      repeat' split
      all_goals omega
    · unfold labM
      repeat' split
      all_goals omega
theorem labM_halves {n a b B : Nat} {d : Array Dt} (h : Lab tot lo n (labM (2 * B) B a) d) (hB : B = 20 ∨ B = 40 ∨ B = 80) (ha : a % (2 * B) = 0) (hm : a + B ≤ b) (hb : b ≤ n) (hb2 : b ≤ a + 2 * B) (h160 : n ≤ 160) : Halves tot lo a (a + B) b d := by
  rcases hB with rfl | rfl | rfl
  all_goals
    refine h.halves hb (fun i j h1 h2 h3 => ?_) (fun i j h1 h2 h3 => ?_) (fun i j h1 h2 h3 h4 => ?_) hm
    all_goals
      unfold labM
      rw [if_neg (by omega), if_neg (by omega)]
      omega
/-- the row of blocks is through: the next size -/
theorem labM_next {n a B : Nat} {d : Array Dt} (h : Lab tot lo n (labM (2 * B) B a) d) (hB : B = 20 ∨ B = 40 ∨ B = 80) (ha : a % (2 * B) = 0) (hn : n ≤ a + B) (h160 : n ≤ 160) : Lab tot lo n (labM (2 * (2 * B)) (2 * B) 0) d := by
  rcases hB with rfl | rfl | rfl
  all_goals
    refine h.congr (fun i j h1 h2 => ?_)
    unfold labM
    repeat' split
    all_goals omega
theorem labM_whole {n c B : Nat} {d : Array Dt} (h : Lab tot lo n (labM (2 * B) B n) d) (hB : B = 20 ∨ B = 40 ∨ B = 80) (hc : c % (2 * B) = 0) (hn1 : n < c + 2 * B) (hcn : c ≤ n) (h160 : n ≤ 160) : Lab tot lo n (labM (2 * (2 * B)) (2 * B) 0) d := by
  rcases hB with rfl | rfl | rfl
  all_goals
    refine h.congr (fun i j h1 h2 => ?_)
    unfold labM
    repeat' split
    all_goals omega
/-- one block: the row is sorted -/
theorem labM_sorted {n B : Nat} {d : Array Dt} (h : Lab tot lo n (labM (2 * B) B 0) d) (hn : n ≤ B) (hB : 0 < B) : SortedIn tot 0 n d := fun i j _ h1 h2 =>
  (h i j h1 h2).1 (by unfold labM; rw [if_neg (by omega), if_neg (by omega), Nat.div_eq_of_lt (by omega), Nat.div_eq_of_lt (by omega)])
end
end Go.Proofs.Ytmmpalnalogfnaa

/- The library's stable sort, walked: slices.SortStableFunc on at most 160 elements leaves the one stable order. -/
namespace Go.Proofs.Ytmmpalnalogfnaa
open Go.Shelf Go.RowKit Go.Lib Go.Sort
set_option linter.unusedSimpArgs false
set_option linter.unusedVariables false

set_option maxHeartbeats 16000000 in
set_option maxRecDepth 100000 in
theorem stable_s (cf : Dt → Dt → Int) (tot : Dt → Dt → Bool) (lo : Dt → Dt → Prop) (O : Ordd (ltOf cf) tot lo) (g : Nat) (cb : Array Value) (blk off cap n : Nat) (d0 d : Array Dt) (w0 w : World)
    (eg : ∀ args w, (callFunc g args).run Try.prog w = .ok (.enter g args) w) (hcmp : CmpLays Try.prog g cb encDt 8 cf blk off d0.size w0) (R : RowK encDt 8 w0 blk off d0)
    (hs : d0.size = d.size) (S : SWK encDt 8 w0 blk off d w) (hn : n = d.size) (h160 : n ≤ 160) (H : ∀ i j, i < j → j < n → lo d[i]! d[j]!) :
    Calls Try.prog 56 #[.slice (some ⟨blk, off, none⟩) d.size cap, .int .i64 n, .func (.func g) #[] cb] w
      (Left w0 blk off fun d' => PermIn 0 n d d' ∧ SortedIn tot 0 n d') := by
  have INS := Lib.hid (fun (a b : Nat) (dk : Array Dt) (hd : dk.size = d.size) w' (S : SWK encDt 8 w0 blk off dk w') (hab : a ≤ b) (hb : b ≤ n) (hl : Lab tot lo n (labI a) dk) => by
    have C := insertion_s cf tot lo O g cb blk off cap a b d0 dk w0 w' eg hcmp R (by omega) S hab (by omega) (by omega) (labI_asc hl hb)
    rw [hd] at C
    exact C)
  have MRG := Lib.hid (fun (a m b : Nat) (dk : Array Dt) (hd : dk.size = d.size) w' (S : SWK encDt 8 w0 blk off dk w') (h1 : a < m) (h2 : m < b) (hb : b ≤ n) (hl : Halves tot lo a m b dk) => by
    have C := symMerge_all cf tot lo O g cb blk off cap d0 w0 eg hcmp R _ a m b dk w' (Nat.le_refl _) h1 h2 (by omega) (by omega) (by omega) S hl
    rw [hd] at C
    exact C)
  have S0 : Aside (SWK encDt 8 w0 blk off d w) := S
  have HF := Lib.hid (labI_first (tot := tot) H)
  have HN := Lib.hid hn
  clear S H hn hcmp
  go_enter Try.func56, Try.ntmps56
  go_wp2
  go_loopg [7, 8] n (fun g1 va vb wr => ∃ (a : Nat) (dk : Array Dt), va = .int .i64 a ∧ vb = .int .i64 ((a : Int) + 20) ∧ Hid (a % 20 = 0) ∧ a ≤ n ∧ n - a ≤ g1 ∧ Hid (dk.size = d.size) ∧ Aside (SWK encDt 8 w0 blk off dk wr) ∧ Hid (Lab tot lo n (labI a) dk) ∧ Hid (PermIn 0 n d dk))
  case atStart => exact ⟨0, d, rfl, rfl, Lib.hid rfl, by omega, by omega, Lib.hid rfl, S0, HF, Lib.hid (permIn_refl _ _ _)⟩
  case round =>
    clear S0 HF
    obtain ⟨a, dk, rfl, rfl, HA, han, hg1, HD, S1, HL, HP⟩ := hrel
    by_cases hlt : a + 20 ≤ n
    · have hltz : (a : Int) + 20 ≤ (n : Int) := by omega
      have hz : (a : Int) + 20 = ((a + 20 : Nat) : Int) := by omega
      have C := INS.out a (a + 20) dk HD.out
      rw [← hz] at C
      have C' := Lib.hid C
      clear C hz
      go_wp2_with fail
      refine (C'.out _ S1.out (by omega) hlt HL.out).mono ?_
      rintro e' w' ⟨rfl, d2, ⟨q1, q2⟩, S2⟩
      have Q1 := Lib.hid q1
      have Q2 := Lib.hid q2
      have T2 : Aside _ := S2
      clear q1 q2 S2
      go_wp2
      go_roundg (n - (a + 20))
      case measure => omega
      case rel =>
        have hN := HN.out
        have hD := HD.out
        have hA := HA.out
        exact ⟨a + 20, d2, by go_num, (by first | (congr 1; done) | (congr 1; omega)), Lib.hid (by omega), hlt, by omega, Lib.hid (Q1.out.1.trans hD), T2,
          Lib.hid (labI_step HL.out hA (by omega) hlt (by omega) (Or.inl rfl) (by omega) h160 Q1.out Q2.out), Lib.hid (permIn_trans _ _ _ _ _ HP.out (permIn_mono _ _ a (a + 20) 0 n (by omega) hlt (by omega) Q1.out))⟩
    · have hltz : ¬ (a : Int) + 20 ≤ (n : Int) := by omega
      go_wp2_with fail
      refine (INS.out a n dk HD.out _ S1.out han (Nat.le_refl _) HL.out).mono ?_
      rintro e' w' ⟨rfl, d2, ⟨q1, q2⟩, S2⟩
      have Q2 : Hid (Lab tot lo n (labM 40 20 0) d2) := Lib.hid (labI_last (labI_step HL.out HA.out han (Nat.le_refl _) (by omega) (Or.inr rfl) (by have := HN.out; have := HD.out; omega) h160 q1 q2) )
      have Q1 : Hid (PermIn 0 n d d2) := Lib.hid (permIn_trans _ _ _ _ _ HP.out (permIn_mono _ _ a n 0 n (by omega) (Nat.le_refl _) (by have := HN.out; have := HD.out; omega) q1))
      have Q3 : Hid (d2.size = d.size) := Lib.hid (q1.1.trans HD.out)
      have T2 : Aside _ := S2
      clear q1 q2 S2 HL HP HD hltz
      go_wp2_with fail
      go_loopg [6, 7, 8, 9] (160 - 20) (fun g1 vB va vb vm wr => ∃ (B : Nat) (d3 : Array Dt), vB = .int .i64 B ∧ Hid (B = 20 ∨ B = 40 ∨ B = 80 ∨ B = 160) ∧ 20 ≤ B ∧ B ≤ 160 ∧ 160 - B ≤ g1 ∧ Hid (d3.size = d.size) ∧ Aside (SWK encDt 8 w0 blk off d3 wr) ∧ Hid (Lab tot lo n (labM (2 * B) B 0) d3) ∧ Hid (PermIn 0 n d d3))
      case atStart => exact ⟨20, d2, rfl, Lib.hid (Or.inl rfl), by omega, by omega, by omega, Q3, T2, Q2, Q1⟩
      case round =>
        clear Q1 Q2 Q3 T2
        obtain ⟨B, d3, rfl, HB, hB1, hB2, hg2, HD, S1, HL, HP⟩ := hrel
        by_cases hlt : B < n
        · have hltz : (B : Int) < (n : Int) := by omega
          have HB3 : Hid (B = 20 ∨ B = 40 ∨ B = 80) := Lib.hid (by have := HB.out; omega)
          go_wp2
          go_loopg [7, 8] n (fun g3 va vb wr => ∃ (c : Nat) (d4 : Array Dt), va = .int .i64 c ∧ vb = .int .i64 ((c : Int) + 2 * (B : Int)) ∧ Hid (c % (2 * B) = 0) ∧ c ≤ n ∧ n - c ≤ g3 ∧ Hid (d4.size = d.size) ∧ Aside (SWK encDt 8 w0 blk off d4 wr) ∧ Hid (Lab tot lo n (labM (2 * B) B c) d4) ∧ Hid (PermIn 0 n d d4))
          case atStart => exact ⟨0, d3, rfl, by go_num, Lib.hid (by simp), by omega, by omega, HD, S1, HL, HP⟩
          case round =>
            clear HL HP HD S1
            obtain ⟨c, d4, rfl, rfl, HA, hcn, hg3, HD, S1, HL, HP⟩ := hrel
            by_cases hlc : c + 2 * B ≤ n
            · have hlcz : (c : Int) + 2 * (B : Int) ≤ (n : Int) := by omega
              have hz : (c : Int) + 2 * (B : Int) = ((c + 2 * B : Nat) : Int) := by omega
              have hz2 : (c : Int) + (B : Int) = ((c + B : Nat) : Int) := by omega
              have C := MRG.out c (c + B) (c + 2 * B) d4 HD.out
              rw [← hz, ← hz2] at C
              have C' := Lib.hid C
              clear C hz hz2
              go_wp2_with fail
              refine (C'.out _ S1.out (by omega) (by omega) hlc (labM_halves HL.out HB3.out HA.out (by omega) hlc (by omega) h160)).mono ?_
              rintro e' w' ⟨rfl, d5, ⟨q1, q2⟩, S2⟩
              have Q1 := Lib.hid q1
              have Q2 := Lib.hid q2
              have T2 : Aside _ := S2
              clear q1 q2 S2
              go_wp2
              go_roundg (n - (c + 2 * B))
              case measure => omega
              case rel =>
                have hN := HN.out
                have hD := HD.out
                exact ⟨c + 2 * B, d5, (by first | (congr 1; done) | (congr 1; omega)), (by first | (congr 1; done) | (congr 1; omega)), Lib.hid (by rw [Nat.add_mod_right]; exact HA.out), hlc, by omega, Lib.hid (Q1.out.1.trans hD), T2,
                  Lib.hid (labM_step HL.out HB3.out HA.out (by omega) hlc (by omega) (Or.inl rfl) (by omega) h160 Q1.out Q2.out), Lib.hid (permIn_trans _ _ _ _ _ HP.out (permIn_mono _ _ c (c + 2 * B) 0 n (by omega) hlc (by omega) Q1.out))⟩
            · have hlcz : ¬ (c : Int) + 2 * (B : Int) ≤ (n : Int) := by omega
              by_cases hm : c + B < n
              · have hmz : (c : Int) + (B : Int) < (n : Int) := by omega
                have hz2 : (c : Int) + (B : Int) = ((c + B : Nat) : Int) := by omega
                have C := MRG.out c (c + B) n d4 HD.out
                rw [← hz2] at C
                have C' := Lib.hid C
                clear C hz2
                go_wp2_with fail
                refine (C'.out _ S1.out (by omega) hm (Nat.le_refl _) (labM_halves HL.out HB3.out HA.out (by omega) (Nat.le_refl _) (by omega) h160)).mono ?_
                rintro e' w' ⟨rfl, d5, ⟨q1, q2⟩, S2⟩
                have L2 : Hid (Lab tot lo n (labM (2 * (2 * B)) (2 * B) 0) d5) := Lib.hid (by
                  have hN := HN.out
                  have hD := HD.out
                  have L := labM_step HL.out HB3.out HA.out hcn (Nat.le_refl _) (by omega) (Or.inr rfl) (by omega) h160 q1 q2
                  exact labM_whole L HB3.out HA.out (by omega) (by omega) h160)
                have Q1 : Hid (PermIn 0 n d d5) := Lib.hid (permIn_trans _ _ _ _ _ HP.out (permIn_mono _ _ c n 0 n (by omega) (Nat.le_refl _) (by have := HN.out; have := HD.out; omega) q1))
                have Q3 : Hid (d5.size = d.size) := Lib.hid (q1.1.trans HD.out)
                have T2 : Aside _ := S2
                clear q1 q2 S2
                go_wp2
                go_roundg (160 - 2 * B)
                case measure => omega
                case rel => exact ⟨2 * B, d5, (by first | (congr 1; done) | (congr 1; omega)), Lib.hid (by have := HB3.out; omega), by omega, by have := HB3.out; omega, by omega, Q3, T2, L2, Q1⟩
              · have hmz : ¬ (c : Int) + (B : Int) < (n : Int) := by omega
                have L2 : Hid (Lab tot lo n (labM (2 * (2 * B)) (2 * B) 0) d4) := Lib.hid (labM_next HL.out HB3.out HA.out (by omega) h160)
                go_wp2
                go_roundg (160 - 2 * B)
                case measure => omega
                case rel => exact ⟨2 * B, d4, (by first | (congr 1; done) | (congr 1; omega)), Lib.hid (by have := HB3.out; omega), by omega, by have := HB3.out; omega, by omega, HD, S1, L2, HP⟩
        · have hltz : ¬ (B : Int) < (n : Int) := by omega
          go_wp2
          go_end0
          exact ⟨rfl, d3, ⟨HP.out, labM_sorted HL.out (by omega) (by omega)⟩, S1.out⟩

set_option maxHeartbeats 16000000 in
set_option maxRecDepth 100000 in
/-- slices.SortStableFunc -/
theorem sortStable_s (cf : Dt → Dt → Int) (tot : Dt → Dt → Bool) (lo : Dt → Dt → Prop) (O : Ordd (ltOf cf) tot lo) (g : Nat) (cb : Array Value) (blk off cap : Nat) (d : Array Dt) (w : World)
    (eg : ∀ args w, (callFunc g args).run Try.prog w = .ok (.enter g args) w) (hcmp : CmpLays Try.prog g cb encDt 8 cf blk off d.size w) (R : RowK encDt 8 w blk off d)
    (h160 : d.size ≤ 160) (H : ∀ i j, i < j → j < d.size → lo d[i]! d[j]!) :
    Calls Try.prog 32 #[.slice (some ⟨blk, off, none⟩) d.size cap, .func (.func g) #[] cb] w
      (Left w blk off fun d' => PermIn 0 d.size d d' ∧ SortedIn tot 0 d.size d') := by
  have C := Lib.hid (fun w' (S : SWK encDt 8 w blk off d w') => stable_s cf tot lo O g cb blk off cap d.size d d w w' eg hcmp R rfl S rfl h160 H)
  have S0 : Aside (SWK encDt 8 w blk off d w) := SW.start R.hH
  clear H hcmp
  go_enter Try.func32, Try.ntmps32
  go_wp2_with fail
  refine (C.out _ S0.out).mono ?_
  rintro e' w' ⟨rfl, d2, ⟨q1, q2⟩, S2⟩
  have Q1 := Lib.hid q1
  have Q2 := Lib.hid q2
  have T2 : Aside _ := S2
  clear q1 q2 S2
  go_wp2
  go_end0
  exact ⟨rfl, d2, ⟨Q1.out, Q2.out⟩, T2.out⟩
end Go.Proofs.Ytmmpalnalogfnaa

/- Plain words: the order of legs on a day is a strict weak order; a sorted list whose keys differ is the only one. -/
namespace Go.Proofs.Ytmmpalnalogfnaa
open Go.RowKit Go.Shelf Go.Lib Go.Sort
set_option linter.unusedSimpArgs false
set_option linter.unusedVariables false

def LessT (x y : ByteArray) : Prop := Op.bytesLess x.toList y.toList = true
theorem lessT_irrefl (x : ByteArray) : ¬ LessT x x := fun h => by
  have h2 := less_asym _ _ h
  unfold LessT at h
  rw [h] at h2
  cases h2
theorem lessT_trans {x y z : ByteArray} (h1 : LessT x y) (h2 : LessT y z) : LessT x z := by
  unfold LessT at *
  rw [bytesLess_eq, decide_eq_true_eq] at *
  exact List.lt_trans h1 h2
theorem lessT_tri (x y : ByteArray) : LessT x y ∨ x = y ∨ LessT y x := by
  by_cases e : x = y
  · exact .inr (.inl e)
  · cases h : Op.bytesLess x.toList y.toList with
    | true => exact .inl h
    | false => exact .inr (.inr (less_total _ _ h (toList_ne e)))
theorem dtLt_iff (a b : Dt) : dtLt a b = true ↔ a.dep < b.dep ∨ (a.dep = b.dep ∧ (LessT a.car b.car ∨ (a.car = b.car ∧ a.num < b.num))) := by
  unfold dtLt LessT
  simp only [Bool.or_eq_true, Bool.and_eq_true, decide_eq_true_eq]
theorem dtLt_irrefl (a : Dt) : dtLt a a = false := by
  rw [← Bool.not_eq_true, dtLt_iff]
  rintro (h | ⟨_, h | ⟨_, h⟩⟩)
  · omega
  · exact lessT_irrefl _ h
  · omega
theorem dtLt_trans {a b c : Dt} (h1 : dtLt a b = true) (h2 : dtLt b c = true) : dtLt a c = true := by
  rw [dtLt_iff] at *
  rcases h1 with h1 | ⟨e1, h1⟩
  · rcases h2 with h2 | ⟨e2, _⟩
    · exact .inl (by omega)
    · exact .inl (by omega)
  · rcases h2 with h2 | ⟨e2, h2⟩
    · exact .inl (by omega)
    · refine .inr ⟨e1.trans e2, ?_⟩
      rcases h1 with h1 | ⟨f1, h1⟩
      · rcases h2 with h2 | ⟨f2, _⟩
        · exact .inl (lessT_trans h1 h2)
        · exact .inl (f2 ▸ h1)
      · rcases h2 with h2 | ⟨f2, h2⟩
        · exact .inl (f1 ▸ h2)
        · exact .inr ⟨f1.trans f2, by omega⟩
theorem dtLt_split {a c : Dt} (b : Dt) (h : dtLt a c = true) : dtLt a b = true ∨ dtLt b c = true := by
  simp only [dtLt_iff] at *
  rcases Int.lt_trichotomy a.dep b.dep with g | g | g
  · exact .inl (.inl g)
  · rcases h with h | ⟨e, h⟩
    · exact .inr (.inl (by omega))
    · rcases lessT_tri a.car b.car with k | k | k
      · exact .inl (.inr ⟨g, .inl k⟩)
      · rcases h with h | ⟨f, h⟩
        · exact .inr (.inr ⟨by omega, .inl (k ▸ h)⟩)
        · by_cases q : a.num < b.num
          · exact .inl (.inr ⟨g, .inr ⟨k, q⟩⟩)
          · exact .inr (.inr ⟨by omega, .inr ⟨k ▸ f, by omega⟩⟩)
      · refine .inr (.inr ⟨by omega, .inl ?_⟩)
        rcases h with h | ⟨f, h⟩
        · exact lessT_trans k h
        · exact f ▸ k
  · rcases h with h | ⟨e, h⟩
    · exact .inr (.inl (by omega))
    · exact .inr (.inl (by omega))
theorem dtSWO : SWO dtLt where
  irrefl := dtLt_irrefl
  trans := fun x y z h1 h2 => dtLt_trans h1 h2
  ntrans := fun x y z h1 h2 => by
    rw [← Bool.not_eq_true]
    intro h
    rcases dtLt_split y h with h | h
    · rw [h] at h1; cases h1
    · rw [h] at h2; cases h2
/-- what the program's comparison of legs returns -/
def cmT (x y : ByteArray) : Int := if Op.bytesLess x.toList y.toList then -1 else if Op.bytesLess y.toList x.toList then 1 else 0
def cmD (a b : Dt) : Int := if Lib.compareInt a.dep b.dep ≠ 0 then Lib.compareInt a.dep b.dep else if cmT a.car b.car ≠ 0 then cmT a.car b.car else Lib.compareInt a.num b.num
theorem cmp_int (x y : Int) : (x < y ∧ Lib.compareInt x y = -1) ∨ (x = y ∧ Lib.compareInt x y = 0) ∨ (y < x ∧ Lib.compareInt x y = 1) := by
  unfold Lib.compareInt
  by_cases h1 : x < y
  · exact .inl ⟨h1, by rw [if_pos h1]⟩
  · by_cases h2 : y < x
    · exact .inr (.inr ⟨h2, by rw [if_neg h1, if_pos h2]⟩)
    · exact .inr (.inl ⟨by omega, by rw [if_neg h1, if_neg h2]⟩)
theorem cmp_txt (x y : ByteArray) : (LessT x y ∧ cmT x y = -1) ∨ (x = y ∧ cmT x y = 0) ∨ (LessT y x ∧ cmT x y = 1) := by
  unfold cmT
  rcases lessT_tri x y with h | h | h
  · have h1 : Op.bytesLess x.toList y.toList = true := h
    exact .inl ⟨h, by rw [if_pos h1]⟩
  · subst h
    have := lessT_irrefl x
    unfold LessT at this
    exact .inr (.inl ⟨rfl, by rw [if_neg this, if_neg this]⟩)
  · have h2 := less_asym _ _ h
    have h1 : Op.bytesLess y.toList x.toList = true := h
    exact .inr (.inr ⟨h, by rw [if_neg (by rw [h2]; simp), if_pos h1]⟩)
theorem cmD_lt (a b : Dt) : decide (cmD a b < 0) = dtLt a b := by
  rw [Bool.eq_iff_iff, decide_eq_true_eq, dtLt_iff]
  unfold cmD
  rcases cmp_int a.dep b.dep with ⟨h, e⟩ | ⟨h, e⟩ | ⟨h, e⟩ <;> rw [e]
  · simp; exact .inl h
  · rcases cmp_txt a.car b.car with ⟨g, e2⟩ | ⟨g, e2⟩ | ⟨g, e2⟩ <;> rw [e2]
    · simp; exact .inr ⟨h, .inl g⟩
    · have ni : ¬ LessT a.car b.car := by rw [g]; exact lessT_irrefl _
      rcases cmp_int a.num b.num with ⟨k, e3⟩ | ⟨k, e3⟩ | ⟨k, e3⟩ <;> rw [e3] <;> simp [h, g, k, lessT_irrefl] <;> omega
    · have ni : ¬ LessT a.car b.car := fun h2 => lessT_irrefl _ (lessT_trans g h2)
      have ne : a.car ≠ b.car := fun h2 => by rw [h2] at g; exact lessT_irrefl _ g
      simp [ni, ne]; omega
  · simp; omega
theorem dtOrd : Ordd (ltOf cmD) dtLt (fun _ _ => True) where
  swo := dtSWO
  key := fun x y _ => cmD_lt y x

/-! ### the only sorted list -/
/-- legs at different places have different keys -/
def KeysD (L : List Dt) : Prop := L.Pairwise fun x y => dtLt x y = true ∨ dtLt y x = true
theorem KeysD.perm {L L' : List Dt} (h : KeysD L) (hp : L'.Perm L) : KeysD L' :=
  hp.symm.pairwise h (fun h => h.symm)
theorem SortedD.pair {L : List Dt} (h : SortedD L) : L.Pairwise fun x y => dtLt y x = false := by
  rw [List.pairwise_iff_getElem]
  intro i j hi hj hij
  exact h i j _ _ hij (List.getElem?_eq_getElem hi) (List.getElem?_eq_getElem hj)
theorem strict_of {L : List Dt} (h : SortedD L) (k : KeysD L) : L.Pairwise fun x y => dtLt x y = true := by
  have h1 := h.pair
  exact (h1.and k).imp (fun {x y} ⟨a, b⟩ => by
    rcases b with b | b
    · exact b
    · rw [a] at b; cases b)
theorem strict_unique : ∀ {L M : List Dt}, L.Perm M → (L.Pairwise fun x y => dtLt x y = true) → (M.Pairwise fun x y => dtLt x y = true) → L = M
  | [], M, hp, _, _ => (List.nil_perm.1 hp).symm
  | x :: L, [], hp, _, _ => by have := hp.length_eq; simp at this
  | x :: L, y :: M, hp, hl, hm => by
    have e : x = y := by
      have h1 : x ∈ y :: M := hp.mem_iff.1 (List.mem_cons_self)
      have h2 : y ∈ x :: L := hp.mem_iff.2 (List.mem_cons_self)
      rcases List.mem_cons.1 h1 with h1 | h1
      · exact h1
      · rcases List.mem_cons.1 h2 with h2 | h2
        · exact h2.symm
        · have a := (List.pairwise_cons.1 hm).1 x h1
          have b := (List.pairwise_cons.1 hl).1 y h2
          have := dtLt_trans a b
          rw [dtLt_irrefl] at this
          cases this
    subst e
    rw [strict_unique (hp.cons_inv) (List.pairwise_cons.1 hl).2 (List.pairwise_cons.1 hm).2]
theorem sorted_unique {L M N : List Dt} (k : KeysD N) (h1 : L.Perm N) (h2 : M.Perm N) (s1 : SortedD L) (s2 : SortedD M) : L = M :=
  strict_unique (h1.trans h2.symm) (strict_of s1 (k.perm h1)) (strict_of s2 (k.perm h2))

end Go.Proofs.Ytmmpalnalogfnaa

/- Plain words for TopTimes: local times of departures, airports of legs, the legs of a flight that is alone on a day. -/
namespace Go.Proofs.Ytmmpalnalogfnaa
open Go.RowKit Go.Shelf
set_option linter.unusedSimpArgs false
set_option linter.unusedVariables false

theorem utcZ_ge {o : Int} {l : Shs} (h : OkZ o l) (x : Int) (hn : utcN o l x ≠ 0) : shA l (utcN o l x - 1) ≤ utcZ o l x := by
  unfold utcZ
  rw [if_neg hn]
  omega
theorem utcZ_lt {o : Int} {l : Shs} (h : OkZ o l) (x : Int) (hn : utcN o l x < l.length) : utcZ o l x < shA l (utcN o l x) := by
  obtain ⟨_, _, h3⟩ := utcN_spec h x
  have h4 := h3 _ (Nat.le_refl _) hn
  unfold utcZ
  split
  · omega
  · rename_i h0
    have := h.asc' (utcN o l x - 1) (utcN o l x) (by omega) hn
    omega
theorem off_utc {o : Int} {l : Shs} (h : OkZ o l) (x : Int) : offN l (utcZ o l x) = utcN o l x := by
  obtain ⟨u1, u2, u3⟩ := utcN_spec h x
  obtain ⟨o1, o2, o3⟩ := offN_spec h (utcZ o l x)
  rcases Nat.lt_trichotomy (offN l (utcZ o l x)) (utcN o l x) with g | g | g
  · exfalso
    have h1 := o3 _ (Nat.le_refl _) (by omega)
    have h2 := utcZ_ge h x (by omega)
    by_cases e : offN l (utcZ o l x) = utcN o l x - 1
    · rw [e] at h1; omega
    · have := h.asc' (offN l (utcZ o l x)) (utcN o l x - 1) (by omega) (by omega)
      omega
  · exact g
  · exfalso
    have h1 := o2 _ g
    have h2 := utcZ_lt h x (by omega)
    omega
/-- the local minute of the moment of a local minute -/
theorem loc_utc {o : Int} {l : Shs} (h : OkZ o l) (x : Int) : utcZ o l x + offZ o l (utcZ o l x) = if utcN o l x = 0 then x else max x (shA l (utcN o l x - 1) + shB o l (utcN o l x)) := by
  unfold offZ
  rw [off_utc h x]
  unfold utcZ
  split <;> omega
theorem loc_ge {o : Int} {l : Shs} (h : OkZ o l) (x : Int) : x ≤ utcZ o l x + offZ o l (utcZ o l x) := by
  rw [loc_utc h x]
  split <;> omega
theorem loc_eq {o : Int} {l : Shs} (h : OkZ o l) (x : Int) (he : utcZ o l x ≤ lastZ o l x) : utcZ o l x + offZ o l (utcZ o l x) = x := by
  rw [loc_utc h x]
  split
  · rfl
  · rename_i h0
    have h1 := (ends h x).1.1 he
    obtain ⟨_, l2, _⟩ := lastN_spec h x
    have h2 := l2 (utcN o l x - 1) (by omega)
    have h3 : shB o l (utcN o l x) = shF l (utcN o l x - 1) := by
      have := shB_succ o l (utcN o l x - 1)
      rwa [show utcN o l x - 1 + 1 = utcN o l x by omega] at this
    omega
theorem lgs_found {l : List Air} {lg : List Lg} (h : lgsF l lg lg.length = []) {k : Nat} {x : Lg} (hk : lg[k]? = some x) : (findC l x.f).isSome = true := by
  have h3 := lgs_at h hk
  have h4 : (if (!((findC l x.f).isSome && (findC l x.t).isSome)) = true then (14 : Int) else 0) = 0 := by
    have := List.filter_eq_nil_iff.1 h3 (if (!((findC l x.f).isSome && (findC l x.t).isSome)) = true then (14 : Int) else 0) (by simp [lgEs])
    simpa using this
  cases h5 : (findC l x.f).isSome with
  | true => rfl
  | false => rw [h5] at h4; simp at h4
theorem dt_dep {x y : Dt} (h : x.dep < y.dep) : dtLt x y = true := (dtLt_iff x y).2 (.inl h)
theorem leg_up {l : List Air} {f : FV} (h : chF l f = []) {day : Int} (hd : Per.hasQ (f.pf, f.pt, f.pd) day = true) : ∀ (j i : Nat) (x y : Lg), i < j → f.lg[i]? = some x → f.lg[j]? = some y → depL l x day < depL l y day
  | 0, i, x, y, hij, _, _ => by omega
  | j + 1, i, x, y, hij, hx, hy => by
    obtain ⟨z, hz⟩ : ∃ z, f.lg[j]? = some z := ⟨_, List.getElem?_eq_getElem (by have := (List.getElem?_eq_some_iff.1 hy).1; omega)⟩
    have h1 := (chF_ord h hd hy).2 z (by omega) hz
    have h2 := (chF_ord h hd hz).1
    by_cases e : i = j
    · subst e; rw [hx] at hz; cases hz; omega
    · have := leg_up h hd j i x z (by omega) hx hz
      omega
theorem day_one (l : List Air) (f : FV) (day : Int) : dayF l [f] day = legF l f day := by simp [dayF]
/-- the legs of a flight without violations are in order -/
theorem legs_up {l : List Air} {f : FV} (h : chF l f = []) {day : Int} (hd : Per.hasQ (f.pf, f.pt, f.pd) day = true) {i j : Nat} {x y : Dt} (hij : i < j) (hx : (legF l f day)[i]? = some x) (hy : (legF l f day)[j]? = some y) : dtLt x y = true := by
  unfold legF at hx hy
  rw [if_pos hd, List.getElem?_map] at hx hy
  cases h1 : f.lg[i]? with
  | none => rw [h1] at hx; cases hx
  | some a =>
    cases h2 : f.lg[j]? with
    | none => rw [h2] at hy; cases hy
    | some b =>
      rw [h1] at hx; rw [h2] at hy
      cases hx; cases hy
      exact dt_dep (leg_up h hd j i a b hij h1 h2)
theorem legs_key {l : List Air} {f : FV} (h : chF l f = []) {day : Int} (hd : Per.hasQ (f.pf, f.pt, f.pd) day = true) : KeysD (legF l f day) := by
  unfold KeysD
  rw [List.pairwise_iff_getElem]
  intro i j hi hj hij
  exact .inl (legs_up h hd hij (List.getElem?_eq_getElem hi) (List.getElem?_eq_getElem hj))
theorem legs_sort {l : List Air} {f : FV} (h : chF l f = []) {day : Int} (hd : Per.hasQ (f.pf, f.pt, f.pd) day = true) : SortedD (legF l f day) := by
  intro i j x y hij hx hy
  have h1 := legs_up h hd hij hx hy
  cases hb : dtLt y x with
  | false => rfl
  | true =>
    exfalso
    unfold legF at hx hy
    rw [if_pos hd, List.getElem?_map] at hx hy
    cases g1 : f.lg[i]? with
    | none => rw [g1] at hx; cases hx
    | some a =>
      cases g2 : f.lg[j]? with
      | none => rw [g2] at hy; cases hy
      | some b =>
        rw [g1] at hx; rw [g2] at hy
        cases hx; cases hy
        have h3 := leg_up h hd j i a b hij g1 g2
        rw [dtLt_iff] at hb
        have e1 : (datL l f day a).dep = depL l a day := rfl
        have e2 : (datL l f day b).dep = depL l b day := rfl
        rw [e1, e2] at hb
        omega
/-- alone on a day, a flight without violations has its legs in their order -/
theorem day_alone {l : List Air} {f : FV} (h : chF l f = []) {day : Int} (hd : Per.hasQ (f.pf, f.pt, f.pd) day = true) {L : List Dt} (hp : L.Perm (dayF l [f] day)) (hs : SortedD L) : L = legF l f day := by
  rw [day_one] at hp
  exact sorted_unique (legs_key h hd) hp (List.Perm.refl _) hs (legs_sort h hd)

end Go.Proofs.Ytmmpalnalogfnaa

/- Walks of the reference's Find and town. -/
namespace Go.Proofs.Ytmmpalnalogfnaa
open Go.RowKit Go.Shelf
set_option linter.unusedSimpArgs false
set_option linter.unusedVariables false

theorem find_at {q : Air → Bool} {l : List Air} {k : Nat} {a : Air} (h : (l.take k).find? q = none) (hk : l[k]? = some a) : (q a = true → l.find? q = some a) ∧ (q a = false → (l.take (k + 1)).find? q = none) := by
  obtain ⟨hlt, rfl⟩ := List.getElem?_eq_some_iff.1 hk
  constructor
  · intro hp
    have e : l.take k ++ l.drop k = l := List.take_append_drop k l
    rw [List.drop_eq_getElem_cons hlt] at e
    have e2 : (l.take k ++ l[k] :: l.drop (k + 1)).find? q = some l[k] := by rw [List.find?_append, h, List.find?_cons, hp]; rfl
    rwa [e] at e2
  · intro hp
    rw [List.take_add_one, hk, List.find?_append, h]
    simp [hp]

set_option maxRecDepth 100000 in
set_option maxHeartbeats 4000000 in
theorem rfind_any (p : PV) (s : ByteArray) (w : World) (hl : p.l.length ≤ 40) (hL : AirL w p.A p.l) :
    Calls Try.prog 17 #[encP p, .string s] w fun e w' => e = .returned (.tuple #[encA ((findC p.l s).getD airZ), .bool (findC p.l s).isSome]) ∧ Below w.heap.size w w' := by
  obtain ⟨A, ca, l, D, cd, ds⟩ := p
  dsimp only at *
  have hb1 := bel_alloc w (.cells #[.slice A l.length ca, .slice D ds.length cd] placesT)
  have hb0 : Below w.heap.size w ((w.alloc (.cells #[.slice A l.length ca, .slice D ds.length cd] placesT)).alloc (.cells #[.string noB, .string noB, .string noB, .int .i64 0, .slice none 0 0] airT)) := hb1.alloc hb1.size _
  have hb2 := bel_alloc (w.alloc (.cells #[.slice A l.length ca, .slice D ds.length cd] placesT)) (.cells #[.string noB, .string noB, .string noB, .int .i64 0, .slice none 0 0] airT)
  have p0 := bel_cell hb2 ((cells_new w #[.slice A l.length ca, .slice D ds.length cd] placesT 0).trans (show _ = some _ from rfl))
  have p1 := bel_cell hb2 ((cells_new w #[.slice A l.length ca, .slice D ds.length cd] placesT 1).trans (show _ = some _ from rfl))
  have hN := heap_alloc_new (w.alloc (.cells #[.slice A l.length ca, .slice D ds.length cd] placesT)) (.cells #[.string noB, .string noB, .string noB, .int .i64 0, .slice none 0 0] airT)
  simp only [World.size_alloc] at hN
  have hL5 := hL.more hb0
  go_enter Try.func17, Try.ntmps17
  generalize hw5 : (w.alloc (.cells #[.slice A l.length ca, .slice D ds.length cd] placesT)).alloc (.cells #[.string noB, .string noB, .string noB, .int .i64 0, .slice none 0 0] airT) = w5 at *
  have hNl : w.heap.size + 1 < w5.heap.size := (Array.getElem?_eq_some_iff.1 hN).1
  have n0 := (cell_of_row w5 _ 0 _ _ (0, 0) hN).trans (show _ = some _ from rfl)
  have n1 := (cell_of_row w5 _ 1 _ _ (0, 0) hN).trans (show _ = some _ from rfl)
  have n2 := (cell_of_row w5 _ 2 _ _ (0, 0) hN).trans (show _ = some _ from rfl)
  have n3 := (cell_of_row w5 _ 3 _ _ (0, 0) hN).trans (show _ = some _ from rfl)
  have n4 := (cell_of_row w5 _ 4 _ _ (0, 0) hN).trans (show _ = some _ from rfl)
  have z0 := frozen_of_row w5 _ 0 _ _ hN
  have z1 := frozen_of_row w5 _ 1 _ _ hN
  have z2 := frozen_of_row w5 _ 2 _ _ hN
  have z3 := frozen_of_row w5 _ 3 _ _ hN
  have z4 := frozen_of_row w5 _ 4 _ _ hN
  have HN := Lib.hid hN
  have HB := Lib.hid hb0
  clear hb1 hb2 hN hb0 hL
  go_wp2
  go_loop [6] (fun vi => ∃ k : Nat, k ≤ l.length ∧ vi = .int .i64 k ∧ Hid ((l.take k).find? (fun a => eqS a.code s) = none)) (fun vi => l.length - (intOf vi).toNat)
  case atStart => exact ⟨0, Nat.zero_le _, rfl, Lib.hid rfl⟩
  case round =>
    obtain ⟨k, hk, rfl, HK⟩ := hrel
    by_cases hlt : k < l.length
    · obtain ⟨b, o, a, rfl, hgl, hka, ha⟩ := hL5.at hlt
      have i2 : (k : Int) < (l.length : Int) := by omega
      obtain ⟨a0, a1, a2, a3, a4, ash⟩ := ha
      have hf := Lib.hid (find_at HK.out hka)
      cases he : (a.code.toList == s.toList)
      · have HX := Lib.hid (hf.out.2 he)
        clear hka ash
        go_wp2
        go_round
        case rel => exact ⟨k + 1, by omega, by go_num, HX⟩
        case measure => simp [intOf]; omega
      · have HR : Hid (findC l s = some a) := Lib.hid (hf.out.1 he)
        clear hka ash hL5
        go_wp2
        have hx := S5.heap HN.out (.string a.code) (.string a.city) (.string a.land) (.int .i64 a.off) (.slice a.A a.shs.length a.c)
        have hbt := S5.but w5 (w.heap.size + 1) (.string a.code) (.string a.city) (.string a.land) (.int .i64 a.off) (.slice a.A a.shs.length a.c)
        have c0 := (cell_of_row _ _ 0 _ _ (0, 0) hx).trans (show _ = some _ from rfl)
        have c1 := (cell_of_row _ _ 1 _ _ (0, 0) hx).trans (show _ = some _ from rfl)
        have c2 := (cell_of_row _ _ 2 _ _ (0, 0) hx).trans (show _ = some _ from rfl)
        have c3 := (cell_of_row _ _ 3 _ _ (0, 0) hx).trans (show _ = some _ from rfl)
        have c4 := (cell_of_row _ _ 4 _ _ (0, 0) hx).trans (show _ = some _ from rfl)
        have hbw : Below w.heap.size w (S5 w5 (w.heap.size + 1) (.string a.code) (.string a.city) (.string a.land) (.int .i64 a.off) (.slice a.A a.shs.length a.c)) := HB.out.trans (hbt.below HB.out.size (fun k hk => by omega))
        refine bodyPost_ret (v := .tuple #[encA a, .bool true]) ?_ rfl ⟨by rw [HR.out]; rfl, hbw⟩
        change (results _ _).run Try.prog (S5 w5 (w.heap.size + 1) (.string a.code) (.string a.city) (.string a.land) (.int .i64 a.off) (.slice a.A a.shs.length a.c)) = .ok _ (S5 w5 (w.heap.size + 1) (.string a.code) (.string a.city) (.string a.land) (.int .i64 a.off) (.slice a.A a.shs.length a.c))
        generalize S5 w5 (w.heap.size + 1) (.string a.code) (.string a.city) (.string a.land) (.int .i64 a.off) (.slice a.A a.shs.length a.c) = W at c0 c1 c2 c3 c4 ⊢
        simp [results, Try.results17, go_sem, c0, c1, c2, c3, c4]
    · have HR : Hid (findC l s = none) := Lib.hid (by have h := HK.out; rwa [List.take_of_length_le (by omega)] at h)
      clear hL5
      go_wp2
      have hx := S5.heap HN.out (.string noB) (.string noB) (.string noB) (.int .i64 0) (.slice none 0 0)
      have hbt := S5.but w5 (w.heap.size + 1) (.string noB) (.string noB) (.string noB) (.int .i64 0) (.slice none 0 0)
      have c0 := (cell_of_row _ _ 0 _ _ (0, 0) hx).trans (show _ = some _ from rfl)
      have c1 := (cell_of_row _ _ 1 _ _ (0, 0) hx).trans (show _ = some _ from rfl)
      have c2 := (cell_of_row _ _ 2 _ _ (0, 0) hx).trans (show _ = some _ from rfl)
      have c3 := (cell_of_row _ _ 3 _ _ (0, 0) hx).trans (show _ = some _ from rfl)
      have c4 := (cell_of_row _ _ 4 _ _ (0, 0) hx).trans (show _ = some _ from rfl)
      have hbw : Below w.heap.size w (S5 w5 (w.heap.size + 1) (.string noB) (.string noB) (.string noB) (.int .i64 0) (.slice none 0 0)) := HB.out.trans (hbt.below HB.out.size (fun k hk => by omega))
      refine bodyPost_ret (v := .tuple #[encA airZ, .bool false]) ?_ rfl ⟨by rw [HR.out]; rfl, hbw⟩
      change (results _ _).run Try.prog (S5 w5 (w.heap.size + 1) (.string noB) (.string noB) (.string noB) (.int .i64 0) (.slice none 0 0)) = .ok _ (S5 w5 (w.heap.size + 1) (.string noB) (.string noB) (.string noB) (.int .i64 0) (.slice none 0 0))
      generalize S5 w5 (w.heap.size + 1) (.string noB) (.string noB) (.string noB) (.int .i64 0) (.slice none 0 0) = W at c0 c1 c2 c3 c4 ⊢
      simp [results, Try.results17, go_sem, c0, c1, c2, c3, c4, airZ]

set_option maxRecDepth 100000 in
set_option maxHeartbeats 4000000 in
theorem rtown_any (p : PV) (s : ByteArray) (w : World) (hl : p.l.length ≤ 40) (hL : AirL w p.A p.l) :
    Calls Try.prog 70 #[encP p, .string s] w fun e w' => e = .returned (.tuple #[encA ((findT p.l s).getD airZ), .bool (findT p.l s).isSome]) ∧ Below w.heap.size w w' := by
  obtain ⟨A, ca, l, D, cd, ds⟩ := p
  dsimp only at *
  have hb1 := bel_alloc w (.cells #[.slice A l.length ca, .slice D ds.length cd] placesT)
  have hb0 : Below w.heap.size w ((w.alloc (.cells #[.slice A l.length ca, .slice D ds.length cd] placesT)).alloc (.cells #[.string noB, .string noB, .string noB, .int .i64 0, .slice none 0 0] airT)) := hb1.alloc hb1.size _
  have hb2 := bel_alloc (w.alloc (.cells #[.slice A l.length ca, .slice D ds.length cd] placesT)) (.cells #[.string noB, .string noB, .string noB, .int .i64 0, .slice none 0 0] airT)
  have p0 := bel_cell hb2 ((cells_new w #[.slice A l.length ca, .slice D ds.length cd] placesT 0).trans (show _ = some _ from rfl))
  have p1 := bel_cell hb2 ((cells_new w #[.slice A l.length ca, .slice D ds.length cd] placesT 1).trans (show _ = some _ from rfl))
  have hN := heap_alloc_new (w.alloc (.cells #[.slice A l.length ca, .slice D ds.length cd] placesT)) (.cells #[.string noB, .string noB, .string noB, .int .i64 0, .slice none 0 0] airT)
  simp only [World.size_alloc] at hN
  have hL5 := hL.more hb0
  go_enter Try.func70, Try.ntmps70
  generalize hw5 : (w.alloc (.cells #[.slice A l.length ca, .slice D ds.length cd] placesT)).alloc (.cells #[.string noB, .string noB, .string noB, .int .i64 0, .slice none 0 0] airT) = w5 at *
  have hNl : w.heap.size + 1 < w5.heap.size := (Array.getElem?_eq_some_iff.1 hN).1
  have n0 := (cell_of_row w5 _ 0 _ _ (0, 0) hN).trans (show _ = some _ from rfl)
  have n1 := (cell_of_row w5 _ 1 _ _ (0, 0) hN).trans (show _ = some _ from rfl)
  have n2 := (cell_of_row w5 _ 2 _ _ (0, 0) hN).trans (show _ = some _ from rfl)
  have n3 := (cell_of_row w5 _ 3 _ _ (0, 0) hN).trans (show _ = some _ from rfl)
  have n4 := (cell_of_row w5 _ 4 _ _ (0, 0) hN).trans (show _ = some _ from rfl)
  have z0 := frozen_of_row w5 _ 0 _ _ hN
  have z1 := frozen_of_row w5 _ 1 _ _ hN
  have z2 := frozen_of_row w5 _ 2 _ _ hN
  have z3 := frozen_of_row w5 _ 3 _ _ hN
  have z4 := frozen_of_row w5 _ 4 _ _ hN
  have HN := Lib.hid hN
  have HB := Lib.hid hb0
  clear hb1 hb2 hN hb0 hL
  go_wp2
  go_loop [6] (fun vi => ∃ k : Nat, k ≤ l.length ∧ vi = .int .i64 k ∧ Hid ((l.take k).find? (fun a => eqS a.city s) = none)) (fun vi => l.length - (intOf vi).toNat)
  case atStart => exact ⟨0, Nat.zero_le _, rfl, Lib.hid rfl⟩
  case round =>
    obtain ⟨k, hk, rfl, HK⟩ := hrel
    by_cases hlt : k < l.length
    · obtain ⟨b, o, a, rfl, hgl, hka, ha⟩ := hL5.at hlt
      have i2 : (k : Int) < (l.length : Int) := by omega
      obtain ⟨a0, a1, a2, a3, a4, ash⟩ := ha
      have hf := Lib.hid (find_at HK.out hka)
      cases he : (a.city.toList == s.toList)
      · have HX := Lib.hid (hf.out.2 he)
        clear hka ash
        go_wp2
        go_round
        case rel => exact ⟨k + 1, by omega, by go_num, HX⟩
        case measure => simp [intOf]; omega
      · have HR : Hid (findT l s = some a) := Lib.hid (hf.out.1 he)
        clear hka ash hL5
        go_wp2
        have hx := S5.heap HN.out (.string a.code) (.string a.city) (.string a.land) (.int .i64 a.off) (.slice a.A a.shs.length a.c)
        have hbt := S5.but w5 (w.heap.size + 1) (.string a.code) (.string a.city) (.string a.land) (.int .i64 a.off) (.slice a.A a.shs.length a.c)
        have c0 := (cell_of_row _ _ 0 _ _ (0, 0) hx).trans (show _ = some _ from rfl)
        have c1 := (cell_of_row _ _ 1 _ _ (0, 0) hx).trans (show _ = some _ from rfl)
        have c2 := (cell_of_row _ _ 2 _ _ (0, 0) hx).trans (show _ = some _ from rfl)
        have c3 := (cell_of_row _ _ 3 _ _ (0, 0) hx).trans (show _ = some _ from rfl)
        have c4 := (cell_of_row _ _ 4 _ _ (0, 0) hx).trans (show _ = some _ from rfl)
        have hbw : Below w.heap.size w (S5 w5 (w.heap.size + 1) (.string a.code) (.string a.city) (.string a.land) (.int .i64 a.off) (.slice a.A a.shs.length a.c)) := HB.out.trans (hbt.below HB.out.size (fun k hk => by omega))
        refine bodyPost_ret (v := .tuple #[encA a, .bool true]) ?_ rfl ⟨by rw [HR.out]; rfl, hbw⟩
        change (results _ _).run Try.prog (S5 w5 (w.heap.size + 1) (.string a.code) (.string a.city) (.string a.land) (.int .i64 a.off) (.slice a.A a.shs.length a.c)) = .ok _ (S5 w5 (w.heap.size + 1) (.string a.code) (.string a.city) (.string a.land) (.int .i64 a.off) (.slice a.A a.shs.length a.c))
        generalize S5 w5 (w.heap.size + 1) (.string a.code) (.string a.city) (.string a.land) (.int .i64 a.off) (.slice a.A a.shs.length a.c) = W at c0 c1 c2 c3 c4 ⊢
        simp [results, Try.results70, go_sem, c0, c1, c2, c3, c4]
    · have HR : Hid (findT l s = none) := Lib.hid (by have h := HK.out; rwa [List.take_of_length_le (by omega)] at h)
      clear hL5
      go_wp2
      have hx := S5.heap HN.out (.string noB) (.string noB) (.string noB) (.int .i64 0) (.slice none 0 0)
      have hbt := S5.but w5 (w.heap.size + 1) (.string noB) (.string noB) (.string noB) (.int .i64 0) (.slice none 0 0)
      have c0 := (cell_of_row _ _ 0 _ _ (0, 0) hx).trans (show _ = some _ from rfl)
      have c1 := (cell_of_row _ _ 1 _ _ (0, 0) hx).trans (show _ = some _ from rfl)
      have c2 := (cell_of_row _ _ 2 _ _ (0, 0) hx).trans (show _ = some _ from rfl)
      have c3 := (cell_of_row _ _ 3 _ _ (0, 0) hx).trans (show _ = some _ from rfl)
      have c4 := (cell_of_row _ _ 4 _ _ (0, 0) hx).trans (show _ = some _ from rfl)
      have hbw : Below w.heap.size w (S5 w5 (w.heap.size + 1) (.string noB) (.string noB) (.string noB) (.int .i64 0) (.slice none 0 0)) := HB.out.trans (hbt.below HB.out.size (fun k hk => by omega))
      refine bodyPost_ret (v := .tuple #[encA airZ, .bool false]) ?_ rfl ⟨by rw [HR.out]; rfl, hbw⟩
      change (results _ _).run Try.prog (S5 w5 (w.heap.size + 1) (.string noB) (.string noB) (.string noB) (.int .i64 0) (.slice none 0 0)) = .ok _ (S5 w5 (w.heap.size + 1) (.string noB) (.string noB) (.string noB) (.int .i64 0) (.slice none 0 0))
      generalize S5 w5 (w.heap.size + 1) (.string noB) (.string noB) (.string noB) (.int .i64 0) (.slice none 0 0) = W at c0 c1 c2 c3 c4 ⊢
      simp [results, Try.results70, go_sem, c0, c1, c2, c3, c4, airZ]

end Go.Proofs.Ytmmpalnalogfnaa

/- Walk of the reference's City. -/
namespace Go.Proofs.Ytmmpalnalogfnaa
open Go.RowKit Go.Shelf
set_option linter.unusedSimpArgs false
set_option linter.unusedVariables false

end Go.Proofs.Ytmmpalnalogfnaa
