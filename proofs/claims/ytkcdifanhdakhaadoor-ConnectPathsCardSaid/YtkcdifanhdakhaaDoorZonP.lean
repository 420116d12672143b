/- Plain facts on time zones: the error, offsets, the search for the first place, local minutes; the reference's ways. -/
namespace Go.Proofs.YtkcdifanhdakhaaDoor
set_option linter.unusedSimpArgs false
set_option linter.unusedVariables false

abbrev Shs := List (Int × Int)
def shA (l : Shs) (k : Nat) : Int := (l.getD k (0, 0)).1
def shF (l : Shs) (k : Nat) : Int := (l.getD k (0, 0)).2
/-- the offset before shift k -/
def shB (o : Int) (l : Shs) (k : Nat) : Int := if k = 0 then o else shF l (k - 1)
def offB (n : Int) : Bool := decide (-840 ≤ n) && decide (n ≤ 840)
/-- shift k is outside the time, or too early -/
def badT (l : Shs) (k : Nat) : Bool := decide (shA l k < 0) || decide (52596000 ≤ shA l k) || (decide (0 < k) && decide (shA l k - shA l (k - 1) < 2880))
def errAt (l : Shs) : Nat → Nat → Int
  | 0, _ => 0
  | n + 1, k => if badT l k then 13 else if offB (shF l k) then errAt l n (k + 1) else 2
def errZ (o : Int) (l : Shs) : Int := if 256 < l.length then 4 else if offB o then errAt l l.length 0 else 2
theorem errAt_step (l : Shs) (k n : Nat) (h : n = l.length - k) (hk : k < l.length) : errAt l n k = if badT l k then 13 else if offB (shF l k) then errAt l (l.length - (k + 1)) (k + 1) else 2 := by
  obtain ⟨m, rfl⟩ : ∃ m, n = m + 1 := ⟨n - 1, by omega⟩
  rw [errAt, show l.length - (k + 1) = m by omega]
structure OkZ (o : Int) (l : Shs) : Prop where
  len : l.length ≤ 256
  off : -840 ≤ o ∧ o ≤ 840
  at' : ∀ k, k < l.length → 0 ≤ shA l k ∧ shA l k < 52596000
  gap : ∀ k, k + 1 < l.length → shA l k + 2880 ≤ shA l (k + 1)
  shift : ∀ k, k < l.length → -840 ≤ shF l k ∧ shF l k ≤ 840
theorem offB_iff (n : Int) : offB n = true ↔ -840 ≤ n ∧ n ≤ 840 := by simp [offB]
theorem errAt_ok (l : Shs) : ∀ n k, k + n = l.length → errAt l n k = 0 → ∀ j, k ≤ j → j < l.length → badT l j = false ∧ offB (shF l j) = true
  | 0, k, h, _, j, h1, h2 => by omega
  | n + 1, k, h, he, j, h1, h2 => by
    rw [errAt] at he
    cases hb : badT l k <;> rw [hb] at he
    · cases ho : offB (shF l k) <;> rw [ho] at he
      · simp at he
      · by_cases hj : j = k
        · subst hj; exact ⟨hb, ho⟩
        · exact errAt_ok l n (k + 1) (by omega) (by simpa using he) j (by omega) h2
    · simp at he
theorem errZ_ok {o : Int} {l : Shs} (h : errZ o l = 0) : OkZ o l := by
  rw [errZ] at h
  by_cases h1 : 256 < l.length
  · rw [if_pos h1] at h; omega
  rw [if_neg h1] at h
  cases ho : offB o <;> rw [ho] at h
  · simp at h
  have h2 := errAt_ok l l.length 0 (by omega) (by simpa using h)
  refine ⟨by omega, (offB_iff o).1 ho, fun k hk => ?_, fun k hk => ?_, fun k hk => (offB_iff _).1 (h2 k (by omega) hk).2⟩
  · have := (h2 k (by omega) hk).1
    simp [badT] at this
    omega
  · have := (h2 (k + 1) (by omega) hk).1
    simp [badT] at this
    omega
theorem OkZ.before {o : Int} {l : Shs} (h : OkZ o l) (k : Nat) (hk : k ≤ l.length) : -840 ≤ shB o l k ∧ shB o l k ≤ 840 := by
  unfold shB
  split
  · exact h.off
  · exact h.shift _ (by omega)
theorem shB_succ (o : Int) (l : Shs) (k : Nat) : shB o l (k + 1) = shF l k := by simp [shB]
theorem OkZ.asc {o : Int} {l : Shs} (h : OkZ o l) : ∀ j k, j + k < l.length → shA l j + 2880 * k ≤ shA l (j + k)
  | j, 0, _ => by simp
  | j, k + 1, hk => by
    have := h.asc j k (by omega)
    have := h.gap (j + k) (by omega)
    rw [show j + (k + 1) = j + k + 1 by omega]
    omega
theorem OkZ.asc' {o : Int} {l : Shs} (h : OkZ o l) (j k : Nat) (hj : j < k) (hk : k < l.length) : shA l j + 2880 ≤ shA l k := by
  have := h.asc j (k - j) (by omega)
  rw [show j + (k - j) = k by omega] at this
  have : (1 : Int) ≤ ((k - j : Nat) : Int) := by omega
  omega

/-! ### the first place of which p says true -/
def fstP (p : Nat → Bool) : Nat → Nat → Nat
  | 0, k => k
  | n + 1, k => if p k then k else fstP p n (k + 1)
theorem fstP_is (p : Nat → Bool) (c m : Nat) : ∀ n k, k ≤ c → k + n = m → c ≤ m → (∀ t, t < c → p t = false) → (∀ t, c ≤ t → t < m → p t = true) → fstP p n k = c
  | 0, k, h1, h2, h3, _, _ => by rw [fstP]; omega
  | n + 1, k, h1, h2, h3, h4, h5 => by
    rw [fstP]
    by_cases hk : k = c
    · subst hk; rw [h5 k (by omega) (by omega)]; rfl
    · rw [h4 k (by omega)]; exact fstP_is p c m n (k + 1) (by omega) (by omega) h3 h4 h5
theorem fstP_spec (p : Nat → Bool) (m : Nat) (mono : ∀ a b, a ≤ b → b < m → p a = true → p b = true) : ∀ n k, k + n = m → (∀ t, t < k → p t = false) →
    fstP p n k ≤ m ∧ (∀ t, t < fstP p n k → p t = false) ∧ (∀ t, fstP p n k ≤ t → t < m → p t = true)
  | 0, k, h, h1 => ⟨by rw [fstP]; omega, by rw [fstP]; exact h1, by rw [fstP]; intros; omega⟩
  | n + 1, k, h, h1 => by
    rw [fstP]
    cases hp : p k
    · simp only [Bool.false_eq_true, if_false]
      exact fstP_spec p m mono n (k + 1) (by omega) (fun t ht => if h2 : t = k then h2 ▸ hp else h1 t (by omega))
    · simp only [if_true]
      exact ⟨by omega, h1, fun t ht hm => mono k t ht hm hp⟩

/-! ### what the program finds -/
def offN (l : Shs) (u : Int) : Nat := fstP (fun i => decide (u < shA l i)) l.length 0
def utcN (o : Int) (l : Shs) (x : Int) : Nat := fstP (fun i => decide (x < shA l i + shB o l i)) l.length 0
def lastN (l : Shs) (x : Int) : Nat := fstP (fun i => decide (x < shA l i + shF l i)) l.length 0
def offZ (o : Int) (l : Shs) (u : Int) : Int := shB o l (offN l u)
def utcZ (o : Int) (l : Shs) (x : Int) : Int := if utcN o l x = 0 then x - shB o l (utcN o l x) else max (x - shB o l (utcN o l x)) (shA l (utcN o l x - 1))
def lastZ (o : Int) (l : Shs) (x : Int) : Int := if lastN l x < l.length then min (x - shB o l (lastN l x)) (shA l (lastN l x) - 1) else x - shB o l (lastN l x)
theorem off_mono {o : Int} {l : Shs} (h : OkZ o l) (u : Int) (a b : Nat) (hab : a ≤ b) (hb : b < l.length) (hp : decide (u < shA l a) = true) : decide (u < shA l b) = true := by
  simp only [decide_eq_true_eq] at hp ⊢
  by_cases he : a = b
  · subst he; exact hp
  · have := h.asc' a b (by omega) hb; omega
theorem utc_mono {o : Int} {l : Shs} (h : OkZ o l) (x : Int) (a b : Nat) (hab : a ≤ b) (hb : b < l.length) (hp : decide (x < shA l a + shB o l a) = true) : decide (x < shA l b + shB o l b) = true := by
  simp only [decide_eq_true_eq] at hp ⊢
  by_cases he : a = b
  · subst he; exact hp
  · have := h.asc' a b (by omega) hb
    have := h.before a (by omega)
    have := h.before b (by omega)
    omega
theorem last_mono {o : Int} {l : Shs} (h : OkZ o l) (x : Int) (a b : Nat) (hab : a ≤ b) (hb : b < l.length) (hp : decide (x < shA l a + shF l a) = true) : decide (x < shA l b + shF l b) = true := by
  simp only [decide_eq_true_eq] at hp ⊢
  by_cases he : a = b
  · subst he; exact hp
  · have := h.asc' a b (by omega) hb
    have := h.shift a (by omega)
    have := h.shift b (by omega)
    omega
theorem offN_spec {o : Int} {l : Shs} (h : OkZ o l) (u : Int) : offN l u ≤ l.length ∧ (∀ t, t < offN l u → shA l t ≤ u) ∧ (∀ t, offN l u ≤ t → t < l.length → u < shA l t) := by
  obtain ⟨h1, h2, h3⟩ := fstP_spec _ l.length (off_mono h u) l.length 0 (by omega) (by intros; omega)
  exact ⟨h1, fun t ht => by have := h2 t ht; simp at this; omega, fun t ht hm => by have := h3 t ht hm; simpa using this⟩
theorem utcN_spec {o : Int} {l : Shs} (h : OkZ o l) (x : Int) : utcN o l x ≤ l.length ∧ (∀ t, t < utcN o l x → shA l t + shB o l t ≤ x) ∧ (∀ t, utcN o l x ≤ t → t < l.length → x < shA l t + shB o l t) := by
  obtain ⟨h1, h2, h3⟩ := fstP_spec _ l.length (utc_mono h x) l.length 0 (by omega) (by intros; omega)
  exact ⟨h1, fun t ht => by have := h2 t ht; simp at this; omega, fun t ht hm => by have := h3 t ht hm; simpa using this⟩
theorem lastN_spec {o : Int} {l : Shs} (h : OkZ o l) (x : Int) : lastN l x ≤ l.length ∧ (∀ t, t < lastN l x → shA l t + shF l t ≤ x) ∧ (∀ t, lastN l x ≤ t → t < l.length → x < shA l t + shF l t) := by
  obtain ⟨h1, h2, h3⟩ := fstP_spec _ l.length (last_mono h x) l.length 0 (by omega) (by intros; omega)
  exact ⟨h1, fun t ht => by have := h2 t ht; simp at this; omega, fun t ht hm => by have := h3 t ht hm; simpa using this⟩

/-! ### the reference's ways -/
def roff (o : Int) (l : Shs) (u : Int) : Nat → Int
  | 0 => o
  | k + 1 => if shA l k ≤ u then shF l k else roff o l u k
theorem roff_is {o : Int} {l : Shs} (h : OkZ o l) (u : Int) : roff o l u l.length = offZ o l u := by
  obtain ⟨h1, h2, h3⟩ := offN_spec h u
  unfold offZ
  generalize offN l u = c at *
  have : ∀ k, k ≤ l.length → roff o l u k = shB o l (min k c) := by
    intro k
    induction k with
    | zero => intro _; simp [roff, shB]
    | succ k ih =>
      intro hk
      rw [roff]
      by_cases hc : k < c
      · rw [if_pos (h2 k hc), show min (k + 1) c = k + 1 by omega, shB_succ]
      · have := h3 k (by omega) (by omega)
        rw [if_neg (by omega), ih (by omega), show min (k + 1) c = min k c by omega]
  rw [this l.length (Nat.le_refl _), Nat.min_eq_right h1]
def rut (l : Shs) (x : Int) : Nat → Nat → Int → Int
  | 0, _, u => u
  | n + 1, k, u => if u < shA l k then u else rut l x n (k + 1) (max (shA l k) (x - shF l k))
theorem rut_step (l : Shs) (x u : Int) (k n : Nat) (h : n = l.length - k) (hk : k < l.length) : rut l x n k u = if u < shA l k then u else rut l x (l.length - (k + 1)) (k + 1) (max (shA l k) (x - shF l k)) := by
  obtain ⟨m, rfl⟩ : ∃ m, n = m + 1 := ⟨n - 1, by omega⟩
  rw [rut, show l.length - (k + 1) = m by omega]
theorem rut_end (l : Shs) (x u : Int) (k n : Nat) (h : n = 0) : rut l x n k u = u := by subst h; rfl
/-- the reference's minute before it looks at shift k -/
def utcAt (o : Int) (l : Shs) (x : Int) (k : Nat) : Int := if k = 0 then x - shB o l k else max (x - shB o l k) (shA l (k - 1))
theorem rut_is {o : Int} {l : Shs} (h : OkZ o l) (x : Int) : rut l x l.length 0 (x - o) = utcZ o l x := by
  obtain ⟨h1, h2, h3⟩ := utcN_spec h x
  have hz : utcZ o l x = utcAt o l x (utcN o l x) := rfl
  rw [hz]
  generalize utcN o l x = c at *
  have : ∀ n k, k + n = l.length → k ≤ c → rut l x n k (utcAt o l x k) = utcAt o l x c := by
    intro n
    induction n with
    | zero => intro k hk hc; rw [rut, show k = c by omega]
    | succ n ih =>
      intro k hk hc
      rw [rut]
      by_cases hkc : k = c
      · subst hkc
        have h4 := h3 k (Nat.le_refl _) (by omega)
        rw [if_pos]
        unfold utcAt
        split
        · omega
        · have := h.asc' (k - 1) k (by omega) (by omega)
          omega
      · have h4 := h2 k (by omega)
        rw [if_neg]
        · have e : utcAt o l x (k + 1) = max (shA l k) (x - shF l k) := by
            unfold utcAt
            rw [if_neg (by omega), shB_succ, show k + 1 - 1 = k by omega]
            omega
          rw [← e]
          exact ih (k + 1) (by omega) (by omega)
        · unfold utcAt
          split <;> omega
  exact this l.length 0 (by omega) (by omega)
/-- the reference sees the local minute behind shift k -/
def seen (l : Shs) (x : Int) (k : Nat) : Bool := decide (shA l k ≤ x - shF l k) && (decide (k + 1 = l.length) || decide (x - shF l k < shA l (k + 1)))
def seen0 (o : Int) (l : Shs) (x : Int) : Bool := decide (l.length = 0) || decide (x - o < shA l 0)
def tms (o : Int) (l : Shs) (x : Int) : Nat → Nat
  | 0 => if seen0 o l x then 1 else 0
  | k + 1 => tms o l x k + if seen l x k then 1 else 0
theorem tms_le (o : Int) (l : Shs) (x : Int) (k : Nat) : tms o l x k ≤ k + 1 := by
  induction k with
  | zero => rw [tms]; split <;> omega
  | succ k ih => rw [tms]; split <;> omega
theorem tms_is {o : Int} {l : Shs} (h : OkZ o l) (x : Int) : tms o l x l.length = lastN l x + 1 - utcN o l x := by
  obtain ⟨h1, h2, h3⟩ := utcN_spec h x
  obtain ⟨g1, g2, g3⟩ := lastN_spec h x
  generalize utcN o l x = c at *
  generalize lastN l x = d at *
  have : ∀ k, k ≤ l.length → tms o l x k = min k d + 1 - c := by
    intro k
    induction k with
    | zero =>
      intro _
      rw [tms]
      by_cases hc : c = 0
      · subst hc
        rw [if_pos (by
          simp only [seen0, Bool.or_eq_true, decide_eq_true_eq]
          by_cases hl : l.length = 0
          · exact .inl hl
          · have h4 := h3 0 (by omega) (by omega)
            simp only [shB, if_true] at h4
            exact .inr (by omega))]
        omega
      · have h4 := h2 0 (by omega)
        simp only [shB, if_true] at h4
        rw [if_neg (by
          simp only [seen0, Bool.or_eq_true, decide_eq_true_eq]
          omega)]
        omega
    | succ k ih =>
      intro hk
      rw [tms, ih (by omega)]
      have hs : seen l x k = true ↔ c ≤ k + 1 ∧ k + 1 ≤ d := by
        simp only [seen, Bool.or_eq_true, Bool.and_eq_true, decide_eq_true_eq]
        constructor
        · rintro ⟨e1, e2⟩
          constructor
          · by_cases hc : c ≤ k + 1
            · exact hc
            · have h4 := h2 (k + 1) (by omega)
              rw [shB_succ] at h4
              omega
          · by_cases hd : k + 1 ≤ d
            · exact hd
            · have := g3 k (by omega) (by omega)
              omega
        · rintro ⟨e1, e2⟩
          have h4 := g2 k (by omega)
          refine ⟨by omega, ?_⟩
          by_cases hl : k + 1 = l.length
          · exact .inl hl
          · have h5 := h3 (k + 1) (by omega) (by omega)
            rw [shB_succ] at h5
            exact .inr (by omega)
      cases hq : seen l x k
      · rw [hq] at hs
        simp at hs
        simp
        omega
      · rw [hq] at hs
        simp at hs
        simp
        omega
  rw [this l.length (Nat.le_refl _), Nat.min_eq_right g1]
theorem near {o : Int} {l : Shs} (h : OkZ o l) (x : Int) : utcN o l x ≤ lastN l x + 1 ∧ lastN l x ≤ utcN o l x + 1 := by
  obtain ⟨h1, h2, h3⟩ := utcN_spec h x
  obtain ⟨g1, g2, g3⟩ := lastN_spec h x
  generalize utcN o l x = c at *
  generalize lastN l x = d at *
  constructor
  · apply Nat.le_of_not_lt
    intro hlt
    have a1 := g3 d (Nat.le_refl _) (by omega)
    have a2 := h2 (d + 1) (by omega)
    rw [shB_succ] at a2
    have := h.gap d (by omega)
    omega
  · apply Nat.le_of_not_lt
    intro hlt
    have a1 := h3 c (Nat.le_refl _) (by omega)
    have a2 := g2 (c + 1) (by omega)
    have := h.gap c (by omega)
    have := h.before c (by omega)
    have := h.shift (c + 1) (by omega)
    omega
theorem ends {o : Int} {l : Shs} (h : OkZ o l) (x : Int) : (utcZ o l x ≤ lastZ o l x ↔ utcN o l x ≤ lastN l x) ∧ (utcZ o l x < lastZ o l x ↔ utcN o l x < lastN l x) := by
  obtain ⟨n1, n2⟩ := near h x
  obtain ⟨h1, h2, h3⟩ := utcN_spec h x
  obtain ⟨g1, g2, g3⟩ := lastN_spec h x
  unfold utcZ lastZ
  generalize utcN o l x = c at *
  generalize lastN l x = d at *
  have hcase : c = d + 1 ∨ c = d ∨ d = c + 1 := by omega
  rcases hcase with rfl | rfl | rfl
  · have a1 := g3 d (Nat.le_refl _) (by omega)
    have a2 := h2 d (by omega)
    rw [if_neg (by omega), if_pos (by omega), shB_succ, show d + 1 - 1 = d by omega]
    omega
  · have e1 : c = 0 ∨ shA l (c - 1) ≤ x - shB o l c := by
      by_cases hc : c = 0
      · exact .inl hc
      · have a2 := g2 (c - 1) (by omega)
        refine .inr ?_
        unfold shB
        rw [if_neg hc]
        omega
    have e2 : c < l.length → x - shB o l c < shA l c := fun hc => by have := h3 c (Nat.le_refl _) hc; omega
    split <;> split <;> omega
  · have e1 : c = 0 ∨ shA l (c - 1) ≤ x - shB o l c := by
      by_cases hc : c = 0
      · exact .inl hc
      · have a2 := g2 (c - 1) (by omega)
        refine .inr ?_
        unfold shB
        rw [if_neg hc]
        omega
    have a1 := h3 c (Nat.le_refl _) (by omega)
    have a2 := g2 c (by omega)
    have e3 : c + 1 < l.length → x - shB o l (c + 1) < shA l (c + 1) := fun hc => by have := h3 (c + 1) (by omega) hc; omega
    rw [shB_succ] at *
    split <;> split <;> omega
theorem ex_is {o : Int} {l : Shs} (h : OkZ o l) (x : Int) : decide (utcZ o l x ≤ lastZ o l x) = decide (0 < tms o l x l.length) := by
  rw [decide_eq_decide, (ends h x).1, tms_is h x]; omega
theorem tw_is {o : Int} {l : Shs} (h : OkZ o l) (x : Int) : decide (utcZ o l x < lastZ o l x) = decide (1 < tms o l x l.length) := by
  rw [decide_eq_decide, (ends h x).2, tms_is h x]; omega

end Go.Proofs.YtkcdifanhdakhaaDoor
