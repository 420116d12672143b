/- Plain facts of the shares: they add up to the amount, bear its sign, a weight of 0 has none, a greater weight no smaller one, and the opposite amount has the opposite shares. -/
import Derived.Test.YtalnocdgmcchaaaDoorLawsS
namespace Go.Proofs.YtalnocdgmcchaaaDoor
open Go.RowKit Go.Sort
set_option linter.unusedSimpArgs false
set_option linter.unusedVariables false

def isum (f : Nat → Int) : Nat → Int
  | 0 => 0
  | k + 1 => isum f k + f k
theorem isum_congr {f g : Nat → Int} : ∀ n, (∀ i, i < n → f i = g i) → isum f n = isum g n
  | 0, _ => rfl
  | n + 1, h => by rw [isum, isum, isum_congr n (fun i hi => h i (by omega)), h n (by omega)]
theorem isum_add (f g : Nat → Int) : ∀ n, isum (fun i => f i + g i) n = isum f n + isum g n
  | 0 => rfl
  | n + 1 => by simp only [isum, isum_add f g n]; omega
theorem isum_nat (f : Nat → Nat) : ∀ n, isum (fun i => (f i : Int)) n = (psum f n : Int)
  | 0 => rfl
  | n + 1 => by simp only [isum, psum, isum_nat f n]; omega
theorem isum_neg (f : Nat → Int) : ∀ n, isum (fun i => -f i) n = -isum f n
  | 0 => rfl
  | n + 1 => by simp only [isum, isum_neg f n]; omega
theorem isum_one (x : Nat) : ∀ n, isum (fun i => if i = x then 1 else 0) n = if x < n then 1 else 0
  | 0 => by simp [isum]
  | n + 1 => by
    simp only [isum, isum_one x n]
    by_cases h : x < n
    · rw [if_pos h, if_neg (by omega), if_pos (by omega)]; rfl
    · by_cases h2 : n = x
      · rw [if_neg h, if_pos h2, if_pos (by omega)]; rfl
      · rw [if_neg h, if_neg h2, if_neg (by omega)]; rfl
theorem isum_in : ∀ (t : List Nat) (n : Nat), t.Nodup → (∀ x ∈ t, x < n) → isum (fun i => if i ∈ t then 1 else 0) n = (t.length : Int)
  | [], n, _, _ => by
    rw [isum_congr (g := fun i => ((fun _ => 0 : Nat → Nat) i : Int)) n (fun i _ => by simp)]
    rw [isum_nat]
    have : ∀ n, psum (fun _ => 0) n = 0 := fun n => by
      induction n with
      | zero => rfl
      | succ n ih => rw [psum, ih]
    rw [this]; rfl
  | x :: t, n, hn, hl => by
    rw [List.nodup_cons] at hn
    have h1 := isum_in t n hn.2 (fun y hy => hl y (List.mem_cons_of_mem _ hy))
    have h2 := isum_one x n
    rw [if_pos (hl x (List.mem_cons_self ..))] at h2
    have h3 := isum_add (fun i => if i ∈ t then 1 else 0) (fun i => if i = x then 1 else 0) n
    rw [h1, h2] at h3
    rw [isum_congr (g := fun i => (if i ∈ t then 1 else 0) + (if i = x then 1 else 0)) n (fun i _ => ?_), h3]
    · simp
    · by_cases e : i = x
      · subst e; simp [hn.1]
      · simp [e]
theorem isum_mono {f : Nat → Int} (h : ∀ i, 0 ≤ f i) : ∀ n k, k ≤ n → isum f k ≤ isum f n
  | 0, k, hk => by obtain rfl : k = 0 := by omega
                   exact Int.le_refl _
  | n + 1, k, hk => by
    by_cases e : k = n + 1
    · subst e; exact Int.le_refl _
    · have h1 := isum_mono h n k (by omega)
      have h2 := h n
      rw [isum]; omega
theorem isum_nonneg {f : Nat → Int} (h : ∀ i, 0 ≤ f i) (n : Nat) : 0 ≤ isum f n := isum_mono h n 0 (by omega)

section
variable {ws : List Int} {ord : List Nat}
theorem up_nonneg (a : Int) (ws : List Int) (ord : List Nat) (k i : Nat) : 0 ≤ upN a ws ord k i := by
  unfold upN; split <;> omega
theorem remL_get (a : Int) (ws : List Int) (i : Nat) (h : i < ws.length) : (remL a ws).getD i 0 = (rN a ws i : Int) := by
  rw [List.getD_eq_getElem?_getD, List.getElem?_eq_getElem (by rw [remL, tab_len]; exact h)]
  simp [remL, tab_get]
theorem ord_len (a : Int) (O : Ordered (remL a ws) ord) : ord.length = ws.length := by rw [O.len, remL, tab_len]
theorem up_sum (G : Good ws) (a : Int) (O : Ordered (remL a ws) ord) : isum (upN a ws ord (lN a ws)) ws.length = (a.natAbs : Int) := by
  have h1 := isum_add (fun i => (qN a ws i : Int)) (fun i => if i ∈ ord.take (lN a ws) then 1 else 0) ws.length
  rw [isum_nat, isum_in _ _ ((ordered_nodup O).sublist (List.take_sublist _ _)) (fun x hx => by
    obtain ⟨k, hk, rfl⟩ := List.getElem_of_mem (List.mem_of_mem_take hx)
    have := ordered_lt O k hk
    rwa [remL, tab_len] at this)] at h1
  have h2 := l_lt G a
  have h3 := l_eq G a
  have h4 := ord_len a O
  rw [List.length_take] at h1
  have h5 : isum (upN a ws ord (lN a ws)) ws.length = isum (fun i => (qN a ws i : Int) + if i ∈ ord.take (lN a ws) then 1 else 0) ws.length := rfl
  rw [h5, h1]
  omega
theorem share_sum (G : Good ws) (a : Int) (O : Ordered (remL a ws) ord) : isum (shareF a ws ord) ws.length = a ∧ ∀ k, k ≤ ws.length → (isum (shareF a ws ord) k).natAbs ≤ a.natAbs := by
  have h1 := up_sum G a O
  by_cases h : a < 0
  · have e : ∀ k, isum (shareF a ws ord) k = -isum (upN a ws ord (lN a ws)) k := fun k => by
      rw [← isum_neg]
      exact isum_congr k (fun i _ => by rw [shareF, sg, if_pos h])
    refine ⟨by rw [e, h1]; omega, fun k hk => ?_⟩
    have h2 := isum_mono (up_nonneg a ws ord (lN a ws)) ws.length k hk
    have h3 := isum_nonneg (up_nonneg a ws ord (lN a ws)) k
    rw [e]; omega
  · have e : ∀ k, isum (shareF a ws ord) k = isum (upN a ws ord (lN a ws)) k := fun k => isum_congr k (fun i _ => by rw [shareF, sg, if_neg h])
    refine ⟨by rw [e, h1]; omega, fun k hk => ?_⟩
    have h2 := isum_mono (up_nonneg a ws ord (lN a ws)) ws.length k hk
    have h3 := isum_nonneg (up_nonneg a ws ord (lN a ws)) k
    rw [e]; omega
theorem up_le (G : Good ws) (a : Int) (O : Ordered (remL a ws) ord) (i : Nat) (hi : i < ws.length) : upN a ws ord (lN a ws) i ≤ (a.natAbs : Int) := by
  have h1 := up_sum G a O
  have h2 := isum_mono (up_nonneg a ws ord (lN a ws)) ws.length (i + 1) hi
  have h3 := isum_nonneg (up_nonneg a ws ord (lN a ws)) i
  rw [isum] at h2; omega
theorem share_sign (a : Int) (i : Nat) : (a < 0 → shareF a ws ord i ≤ 0) ∧ (0 ≤ a → 0 ≤ shareF a ws ord i) := by
  have h := up_nonneg a ws ord (lN a ws) i
  unfold shareF sg
  constructor
  · intro h1; rw [if_pos h1]; omega
  · intro h1; rw [if_neg (by omega)]; exact h
theorem psum_list (f : Nat → Nat) : ∀ n, psum f n = ((List.range n).map f).sum
  | 0 => rfl
  | n + 1 => by rw [psum, psum_list f n, List.range_succ, List.map_append, List.sum_append]; simp
theorem sum_few (f : Nat → Nat) (t : Nat) (ht : ∀ i, f i ≤ t) : ∀ (l : List Nat) (p : Nat), (∀ k (h : k < l.length), p ≤ k → f l[k] = 0) → (l.map f).sum ≤ p * t
  | [], p, _ => by simp
  | x :: r, p, h => by
    rw [List.map_cons, List.sum_cons]
    cases p with
    | zero =>
      have h1 := h 0 (by simp) (by omega)
      have h2 := sum_few f t ht r 0 (fun k hk _ => by have := h (k + 1) (by simp; omega) (by omega); simpa using this)
      simp at h1
      omega
    | succ p =>
      have h1 := ht x
      have h2 := sum_few f t ht r p (fun k hk hp => by have := h (k + 1) (by simp; omega) (by omega); simpa using this)
      rw [Nat.add_mul]; omega
theorem share_none (G : Good ws) (a : Int) (O : Ordered (remL a ws) ord) (i : Nat) (hi : i < ws.length) (h0 : ws.getD i 0 = 0) : shareF a ws ord i = 0 := by
  have hw : wN ws i = 0 := by unfold wN; rw [h0]; rfl
  have hq : qN a ws i = 0 := by unfold qN; rw [hw]; simp
  have hr : rN a ws i = 0 := by unfold rN; rw [hw]; simp
  have hno : ¬ i ∈ ord.take (lN a ws) := by
    intro hin
    obtain ⟨p, hp, he⟩ := List.getElem_of_mem hin
    rw [List.length_take] at hp
    rw [List.getElem_take] at he
    have ht := G.tpos
    have hs : psum (rN a ws) ws.length = (ord.map (rN a ws)).sum := by
      rw [psum_list]
      have h1 := O.perm
      rw [remL, tab_len] at h1
      exact ((h1.map (rN a ws)).sum_nat).symm
    have hf := sum_few (rN a ws) (tN ws - 1) (fun j => by
      have : rN a ws j < tN ws := Nat.mod_lt _ ht
      omega) ord p (fun k hk hpk => by
      have hkl := ordered_lt O k hk
      rw [remL, tab_len] at hkl
      by_cases e : p = k
      · subst e; rw [he]; exact hr
      · have h1 := O.sorted p k (by omega) hk
        rw [remL_get a ws _ hkl, he, remL_get a ws i hi, hr] at h1
        omega)
    have hl := l_rem G a
    rw [hs] at hl
    have h2 : (p + 1) * tN ws ≤ lN a ws * tN ws := Nat.mul_le_mul_right _ (by omega)
    rw [Nat.add_mul, Nat.mul_comm (lN a ws)] at h2
    have h3 : p * (tN ws - 1) ≤ p * tN ws := Nat.mul_le_mul_left _ (by omega)
    omega
  rw [shareF, upN, hq, if_neg hno, sg]
  simp
theorem share_more (G : Good ws) (a : Int) (ha : 0 < a) (O : Ordered (remL a ws) ord) (i k : Nat) (hi : i < ws.length) (hk : k < ws.length) (h : ws.getD k 0 < ws.getD i 0) : shareF a ws ord k ≤ shareF a ws ord i := by
  have hk0 : ws.getD k 0 = (wN ws k : Int) := by rw [← wN_get G k hk, List.getD_eq_getElem?_getD, List.getElem?_eq_getElem hk]; rfl
  have hi0 : ws.getD i 0 = (wN ws i : Int) := by rw [← wN_get G i hi, List.getD_eq_getElem?_getD, List.getElem?_eq_getElem hi]; rfl
  have hw : wN ws k < wN ws i := by omega
  have hm : a.natAbs * wN ws k < a.natAbs * wN ws i := Nat.mul_lt_mul_of_pos_left hw (by omega)
  have ht := G.tpos
  have hq : qN a ws k ≤ qN a ws i := Nat.div_le_div_right (by omega)
  have dk := Nat.div_add_mod (a.natAbs * wN ws k) (tN ws)
  have di := Nat.div_add_mod (a.natAbs * wN ws i) (tN ws)
  have e1 : shareF a ws ord k = upN a ws ord (lN a ws) k := by rw [shareF, sg, if_neg (by omega)]
  have e2 : shareF a ws ord i = upN a ws ord (lN a ws) i := by rw [shareF, sg, if_neg (by omega)]
  rw [e1, e2]
  by_cases he : qN a ws k = qN a ws i
  · have hr : rN a ws k < rN a ws i := by
      unfold qN at he
      rw [he] at dk
      unfold rN
      omega
    have him : k ∈ ord.take (lN a ws) → i ∈ ord.take (lN a ws) := by
      intro hin
      obtain ⟨p, hp, hpe⟩ := List.getElem_of_mem hin
      rw [List.length_take] at hp
      rw [List.getElem_take] at hpe
      have hio : i ∈ ord := by
        have h1 := O.perm
        rw [remL, tab_len] at h1
        exact h1.mem_iff.2 (List.mem_range.2 hi)
      obtain ⟨q, hq2, hqe⟩ := List.getElem_of_mem hio
      rcases Nat.lt_or_ge p q with hpq | hpq
      · exfalso
        have h1 := O.sorted p q hpq hq2
        rw [hpe, hqe, remL_get a ws i hi, remL_get a ws k hk] at h1
        omega
      · rw [← hqe]
        have h2 : q < (ord.take (lN a ws)).length := by rw [List.length_take]; omega
        have h3 := List.getElem_mem h2
        rwa [List.getElem_take] at h3
    unfold upN
    by_cases h1 : k ∈ ord.take (lN a ws)
    · rw [if_pos h1, if_pos (him h1)]; omega
    · rw [if_neg h1]; split <;> omega
  · unfold upN
    split <;> split <;> omega
theorem share_opposite (G : Good ws) (a : Int) (O : Ordered (remL a ws) ord) (i : Nat) (hi : i < ws.length) : shareF (-a) ws ord i = -shareF a ws ord i := by
  have hu := up_le G a O i hi
  have hn := up_nonneg a ws ord (lN a ws) i
  have e1 : (-a).natAbs = a.natAbs := Int.natAbs_neg a
  have e2 : upN (-a) ws ord (lN (-a) ws) i = upN a ws ord (lN a ws) i := by
    have e3 : qN (-a) ws = qN a ws := by funext j; unfold qN; rw [e1]
    unfold upN lN
    rw [e3, e1]
  rw [shareF, shareF, e2, sg, sg]
  split <;> split <;> omega
theorem remL_neg (a : Int) : remL (-a) ws = remL a ws := by
  unfold remL rN
  rw [Int.natAbs_neg]
end
end Go.Proofs.YtalnocdgmcchaaaDoor
