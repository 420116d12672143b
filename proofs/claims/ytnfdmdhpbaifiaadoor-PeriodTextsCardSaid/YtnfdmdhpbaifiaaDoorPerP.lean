/- Plain facts on periods: sets of days as ascending lists; nothing of the program. -/
namespace Go.Proofs.YtnfdmdhpbaifiaaDoor
set_option linter.unusedSimpArgs false
set_option linter.unusedVariables false

abbrev Per := Int × Int × Int
def okQ (p : Per) : Bool := decide (0 ≤ p.1 ∧ p.1 ≤ p.2.1 ∧ p.2.1 < 36525 ∧ p.2.1 - p.1 < 800 ∧ 1 ≤ p.2.2 ∧ p.2.2 ≤ 127)
def errQ (p : Per) : Int := if p.1 < 0 ∨ p.2.1 < p.1 ∨ 36525 ≤ p.2.1 then 12 else if 800 ≤ p.2.1 - p.1 then 4 else if p.2.2 < 1 ∨ 127 < p.2.2 then 2 else 0
theorem okQ_yes {p : Per} (h : okQ p = true) : 0 ≤ p.1 ∧ p.1 ≤ p.2.1 ∧ p.2.1 < 36525 ∧ p.2.1 - p.1 < 800 ∧ 1 ≤ p.2.2 ∧ p.2.2 ≤ 127 := by simpa [okQ] using h
theorem okQ_mk {p : Per} (h : 0 ≤ p.1 ∧ p.1 ≤ p.2.1 ∧ p.2.1 < 36525 ∧ p.2.1 - p.1 < 800 ∧ 1 ≤ p.2.2 ∧ p.2.2 ≤ 127) : okQ p = true := by simpa [okQ] using h
theorem errQ_ok {p : Per} (h : okQ p = true) : errQ p = 0 := by
  have := okQ_yes h
  rw [errQ, if_neg (by omega), if_neg (by omega), if_neg (by omega)]
theorem errQ_no {p : Per} (h : okQ p = false) : errQ p ≠ 0 := by
  intro e
  have : okQ p = true := by
    unfold errQ at e
    split at e
    · omega
    · split at e
      · omega
      · split at e
        · omega
        · exact okQ_mk (by omega)
  rw [h] at this
  cases this
theorem errQ_two {p : Per} (h : okQ p = false) : (errQ p == 0) = false := beq_eq_false_iff_ne.2 (errQ_no h)

/-- the place of a day's weekday -/
def wkN (n : Int) : Nat := ((n + 5) % 7).toNat
theorem wkN_lt (n : Int) : wkN n < 7 := by unfold wkN; omega
theorem wkN_int (n : Int) : ((wkN n : Nat) : Int) = (n + 5) % 7 := by unfold wkN; omega
theorem wkN_week (n : Int) : wkN (n + 7) = wkN n := by unfold wkN; omega
def wdB (d : Int) (n : Int) : Bool := d.toNat.testBit (wkN n)
def hasQ (p : Per) (n : Int) : Bool := okQ p && (decide (p.1 ≤ n) && (decide (n ≤ p.2.1) && wdB p.2.2 n))
theorem hasQ_iff (p : Per) (n : Int) : hasQ p n = true ↔ okQ p = true ∧ p.1 ≤ n ∧ n ≤ p.2.1 ∧ wdB p.2.2 n = true := by simp [hasQ]

/-! ### lists that ascend -/
def Asc (l : List Int) : Prop := l.Pairwise (· < ·)
theorem asc_ext : ∀ {l m : List Int}, Asc l → Asc m → (∀ n, n ∈ l ↔ n ∈ m) → l = m
  | [], [], _, _, _ => rfl
  | [], y :: m, _, _, h => by have := (h y).2 (by simp); simp at this
  | x :: l, [], _, _, h => by have := (h x).1 (by simp); simp at this
  | x :: l, y :: m, hl, hm, h => by
    have hl' := List.pairwise_cons.1 hl
    have hm' := List.pairwise_cons.1 hm
    have e : x = y := by
      have h1 := (h x).1 (by simp)
      have h2 := (h y).2 (by simp)
      rcases List.mem_cons.1 h1 with e | h1
      · exact e
      · rcases List.mem_cons.1 h2 with e | h2
        · exact e.symm
        · have := hl'.1 y h2; have := hm'.1 x h1; omega
    subst e
    congr 1
    refine asc_ext hl'.2 hm'.2 fun n => ⟨fun hn => ?_, fun hn => ?_⟩
    · rcases List.mem_cons.1 ((h n).1 (List.mem_cons_of_mem _ hn)) with e | h2
      · subst e; have := hl'.1 n hn; omega
      · exact h2
    · rcases List.mem_cons.1 ((h n).2 (List.mem_cons_of_mem _ hn)) with e | h2
      · subst e; have := hm'.1 n hn; omega
      · exact h2
theorem asc_filter {l : List Int} (h : Asc l) (q : Int → Bool) : Asc (l.filter q) := List.Pairwise.filter q h

/-- k days from f on -/
def fromR (f : Int) (k : Nat) : List Int := (List.range k).map fun (i : Nat) => f + (i : Int)
theorem fromR_succ (f : Int) (k : Nat) : fromR f (k + 1) = fromR f k ++ [f + (k : Int)] := by simp [fromR, List.range_succ]
theorem fromR_length (f : Int) (k : Nat) : (fromR f k).length = k := by simp [fromR]
theorem fromR_mem (f : Int) (k : Nat) (n : Int) : n ∈ fromR f k ↔ f ≤ n ∧ n < f + k := by
  simp only [fromR, List.mem_map, List.mem_range]
  constructor
  · rintro ⟨i, hi, rfl⟩; omega
  · rintro ⟨h1, h2⟩; exact ⟨(n - f).toNat, by omega, by omega⟩
theorem fromR_asc (f : Int) (k : Nat) : Asc (fromR f k) := by
  unfold Asc fromR
  rw [List.pairwise_map]
  exact List.pairwise_lt_range.imp (by intro a b h; omega)

/-- the days of a set: the first k days looked at; all -/
def daysTo (p : Per) (k : Nat) : List Int := (fromR p.1 k).filter fun n => wdB p.2.2 n
def lenQ (p : Per) : Nat := (p.2.1 - p.1 + 1).toNat
def daysQ (p : Per) : List Int := if okQ p then daysTo p (lenQ p) else []
theorem daysTo_zero (p : Per) : daysTo p 0 = [] := rfl
theorem daysTo_hit (p : Per) (k : Nat) (h : wdB p.2.2 (p.1 + k) = true) : daysTo p (k + 1) = daysTo p k ++ [p.1 + (k : Int)] := by
  rw [daysTo, fromR_succ, List.filter_append]; simp [daysTo, h]
theorem daysTo_miss (p : Per) (k : Nat) (h : wdB p.2.2 (p.1 + k) = false) : daysTo p (k + 1) = daysTo p k := by
  rw [daysTo, fromR_succ, List.filter_append]; simp [daysTo, h]
theorem daysTo_len (p : Per) (k : Nat) : (daysTo p k).length ≤ k := by
  have := List.length_filter_le (fun n => wdB p.2.2 n) (fromR p.1 k)
  rw [fromR_length] at this
  exact this
theorem daysQ_yes {p : Per} (h : okQ p = true) : daysQ p = daysTo p (lenQ p) := by rw [daysQ, if_pos h]
theorem daysQ_no {p : Per} (h : okQ p = false) : daysQ p = [] := by rw [daysQ, if_neg (by simp [h])]
theorem daysQ_mem (p : Per) (n : Int) : n ∈ daysQ p ↔ hasQ p n = true := by
  rw [hasQ_iff]
  cases h : okQ p
  · rw [daysQ_no h]; simp
  · rw [daysQ_yes h, daysTo, List.mem_filter, fromR_mem, lenQ]
    have := okQ_yes h
    constructor
    · rintro ⟨⟨h1, h2⟩, h3⟩; exact ⟨rfl, h1, by omega, h3⟩
    · rintro ⟨_, h1, h2, h3⟩; exact ⟨⟨h1, by omega⟩, h3⟩
theorem daysQ_asc (p : Per) : Asc (daysQ p) := by
  cases h : okQ p
  · rw [daysQ_no h]; exact List.Pairwise.nil
  · rw [daysQ_yes h]; exact asc_filter (fromR_asc _ _) _
theorem daysQ_len (p : Per) : (daysQ p).length ≤ 800 := by
  cases h : okQ p
  · rw [daysQ_no h]; simp
  · rw [daysQ_yes h]
    have h1 := daysTo_len p (lenQ p)
    have h2 := okQ_yes h
    unfold lenQ at h1 ⊢
    omega
theorem daysQ_range (p : Per) (n : Int) (h : n ∈ daysQ p) : 0 ≤ n ∧ n < 36525 := by
  rw [daysQ_mem, hasQ_iff] at h
  have := okQ_yes h.1
  omega
theorem daysQ_has (p : Per) (k : Nat) (h : okQ p = true) (hk : k < lenQ p) : hasQ p (p.1 + k) = wdB p.2.2 (p.1 + k) := by
  have h2 := okQ_yes h
  unfold lenQ at hk
  have e1 : p.1 ≤ p.1 + (k : Int) := by omega
  have e2 : p.1 + (k : Int) ≤ p.2.1 := by omega
  simp [hasQ, h, e1, e2]

/-! ### the canonical period of a list -/
def maskN (l : List Int) : Nat := l.foldl (fun m n => m ||| 2 ^ wkN n) 0
theorem maskN_snoc (l : List Int) (x : Int) : maskN (l ++ [x]) = maskN l ||| 2 ^ wkN x := by simp [maskN]
theorem mask_lt : ∀ (l : List Int) (m : Nat), m < 128 → l.foldl (fun m n => m ||| 2 ^ wkN n) m < 128
  | [], m, h => h
  | x :: r, m, h => mask_lt r _ (Nat.or_lt_two_pow (n := 7) h (Nat.pow_lt_pow_right (by omega) (wkN_lt x)))
theorem maskN_lt (l : List Int) : maskN l < 128 := mask_lt l 0 (by omega)
theorem mask_bit : ∀ (l : List Int) (m k : Nat), (l.foldl (fun m n => m ||| 2 ^ wkN n) m).testBit k = true ↔ m.testBit k = true ∨ ∃ x ∈ l, wkN x = k
  | [], m, k => by simp
  | x :: r, m, k => by
    rw [List.foldl_cons, mask_bit r _ k, Nat.testBit_or, Nat.testBit_two_pow]
    simp only [Bool.or_eq_true, decide_eq_true_eq, List.mem_cons, or_assoc]
    constructor
    · rintro (h | h | ⟨y, hy, h⟩)
      · exact .inl h
      · exact .inr ⟨x, .inl rfl, h⟩
      · exact .inr ⟨y, .inr hy, h⟩
    · rintro (h | ⟨y, rfl | hy, h⟩)
      · exact .inl h
      · exact .inr (.inl h)
      · exact .inr (.inr ⟨y, hy, h⟩)
theorem maskN_bit (l : List Int) (k : Nat) : (maskN l).testBit k = true ↔ ∃ x ∈ l, wkN x = k := by
  rw [maskN, mask_bit]; simp
theorem maskN_pos {l : List Int} {x : Int} (h : x ∈ l) : 0 < maskN l := by
  rcases Nat.eq_zero_or_pos (maskN l) with h0 | h0
  · have := (maskN_bit l (wkN x)).2 ⟨x, h, rfl⟩
    rw [h0] at this; simp at this
  · exact h0
theorem maskN_zero (l : List Int) : maskN l = 0 ↔ l = [] := by
  cases l with
  | nil => simp [maskN]
  | cons x r => have := maskN_pos (l := x :: r) (x := x) (by simp); simp; omega
/-- the period that has been gathered -/
def accQ (l : List Int) : Per := (l.headD 0, l.getLastD 0, (maskN l : Int))
def ofQ (l : List Int) : Per × Bool := (accQ l, decide (l ≠ []))
theorem accQ_nil : accQ [] = (0, 0, 0) := rfl
theorem accQ_snoc (l : List Int) (x : Int) : accQ (l ++ [x]) = (if maskN l = 0 then x else l.headD 0, x, ((maskN l ||| 2 ^ wkN x : Nat) : Int)) := by
  rw [accQ, maskN_snoc]
  cases l with
  | nil => simp [maskN]
  | cons y r =>
    have := maskN_pos (l := y :: r) (x := y) (by simp)
    rw [if_neg (by omega)]
    have e : ((y :: r) ++ [x]).getLastD 0 = x := by rw [List.getLastD_eq_getLast?, List.getLast?_append]; simp
    rw [e]
    simp
/-- the same, told as the reference does -/
theorem or_add : ∀ m, m < 128 → ∀ k, k < 7 → (m ||| 2 ^ k) = if m / 2 ^ k % 2 = 0 then m + 2 ^ k else m := by decide

theorem head_mem {l : List Int} (h : l ≠ []) : l.headD 0 ∈ l := by cases l with
  | nil => exact absurd rfl h
  | cons x r => simp
theorem last_mem {l : List Int} (h : l ≠ []) : l.getLastD 0 ∈ l := by
  rw [List.getLastD_eq_getLast?, List.getLast?_eq_some_getLast h]
  exact List.getLast_mem h
theorem head_le {l : List Int} (h : Asc l) {n : Int} (hn : n ∈ l) : l.headD 0 ≤ n := by
  cases l with
  | nil => simp at hn
  | cons x r =>
    rcases List.mem_cons.1 hn with e | hn
    · simp [e]
    · have := (List.pairwise_cons.1 h).1 n hn; simp; omega
theorem le_last : ∀ {l : List Int}, Asc l → ∀ {n : Int}, n ∈ l → n ≤ l.getLastD 0
  | [x], _, n, hn => by simp at hn; simp [hn]
  | x :: y :: r, h, n, hn => by
    have h' := List.pairwise_cons.1 h
    have e : (x :: y :: r).getLastD 0 = (y :: r).getLastD 0 := by simp [List.getLastD_eq_getLast?, List.getLast?_cons_cons]
    rw [e]
    rcases List.mem_cons.1 hn with e | hn
    · have := le_last h'.2 (n := y) (by simp)
      have := h'.1 y (by simp)
      omega
    · exact le_last h'.2 hn
/-- the canonical period of a set has this set -/
theorem canon_days (p : Per) : daysQ (accQ (daysQ p)) = daysQ p := by
  by_cases h0 : daysQ p = []
  · rw [h0]; rfl
  · refine asc_ext (daysQ_asc _) (daysQ_asc _) fun n => ?_
    have hh := head_mem h0
    have hl := last_mem h0
    have hr1 := daysQ_range p _ hh
    have hr2 := daysQ_range p _ hl
    have hm := maskN_lt (daysQ p)
    have hp := maskN_pos hh
    have hle := le_last (daysQ_asc p) hh
    have a1 := (hasQ_iff p _).1 ((daysQ_mem p _).1 hh)
    have a2 := (hasQ_iff p _).1 ((daysQ_mem p _).1 hl)
    have a3 := okQ_yes a1.1
    have hok : okQ (accQ (daysQ p)) = true := okQ_mk ⟨hr1.1, hle, hr2.2, by show (daysQ p).getLastD 0 - (daysQ p).headD 0 < 800; omega, by show (1 : Int) ≤ (maskN (daysQ p) : Nat); omega, by show ((maskN (daysQ p) : Nat) : Int) ≤ 127; omega⟩
    rw [daysQ_mem, hasQ_iff]
    constructor
    · rintro ⟨_, h1, h2, h3⟩
      have h3' : (maskN (daysQ p)).testBit (wkN n) = true := h3
      obtain ⟨x, hx, hw⟩ := (maskN_bit _ _).1 h3'
      have a4 := (hasQ_iff p _).1 ((daysQ_mem p _).1 hx)
      rw [daysQ_mem, hasQ_iff]
      have h1' : (daysQ p).headD 0 ≤ n := h1
      have h2' : n ≤ (daysQ p).getLastD 0 := h2
      refine ⟨a1.1, by omega, by omega, ?_⟩
      have := a4.2.2.2
      unfold wdB at this ⊢
      rw [← hw]; exact this
    · intro hn
      exact ⟨hok, head_le (daysQ_asc p) hn, le_last (daysQ_asc p) hn, (maskN_bit _ _).2 ⟨n, hn, rfl⟩⟩
theorem canon_has (p : Per) (n : Int) : hasQ (accQ (daysQ p)) n = hasQ p n := by
  have h1 := daysQ_mem (accQ (daysQ p)) n
  have h2 := daysQ_mem p n
  rw [canon_days] at h1
  cases ha : hasQ (accQ (daysQ p)) n <;> cases hb : hasQ p n <;> simp_all

/-! ### the intersection, the difference -/
def btw (p : Per) (f t : Int) : Per := (if f < p.1 then p.1 else f, if p.2.1 < t then p.2.1 else t, p.2.2)
def meetQ (a b : Per) : Per := ((btw a b.1 b.2.1).1, (btw a b.1 b.2.1).2.1, ((a.2.2.toNat &&& b.2.2.toNat : Nat) : Int))
def durQ (a b : Per) : Per := ((btw a b.1 b.2.1).1, (btw a b.1 b.2.1).2.1, ((a.2.2.toNat &&& (127 - b.2.2.toNat) : Nat) : Int))
theorem testBit_pos {m k : Nat} (h : m.testBit k = true) : 0 < m := by
  rcases Nat.eq_zero_or_pos m with h0 | h0
  · rw [h0] at h; simp at h
  · exact h0
theorem meet_mem (a b : Per) (ha : okQ a = true) (hb : okQ b = true) (n : Int) : hasQ (meetQ a b) n = true ↔ hasQ a n = true ∧ hasQ b n = true := by
  have a1 := okQ_yes ha
  have b1 := okQ_yes hb
  simp only [hasQ_iff]
  have e1 : (meetQ a b).1 = if b.1 < a.1 then a.1 else b.1 := rfl
  have e2 : (meetQ a b).2.1 = if a.2.1 < b.2.1 then a.2.1 else b.2.1 := rfl
  have e3 : wdB (meetQ a b).2.2 n = (wdB a.2.2 n && wdB b.2.2 n) := by
    show (a.2.2.toNat &&& b.2.2.toNat).testBit (wkN n) = _
    rw [Nat.testBit_and]; rfl
  rw [e1, e2, e3, Bool.and_eq_true]
  constructor
  · rintro ⟨h0, h1, h2, h3⟩
    refine ⟨⟨ha, ?_, ?_, h3.1⟩, hb, ?_, ?_, h3.2⟩ <;> (split at h1 <;> split at h2 <;> omega)
  · rintro ⟨⟨_, h1, h2, h3⟩, _, h4, h5, h6⟩
    refine ⟨okQ_mk ?_, ?_, ?_, h3, h6⟩
    · rw [e1, e2]
      have hm : 0 < (a.2.2.toNat &&& b.2.2.toNat) := testBit_pos (k := wkN n) (by rw [Nat.testBit_and]; exact Bool.and_eq_true _ _ ▸ ⟨h3, h6⟩)
      have hm2 : (a.2.2.toNat &&& b.2.2.toNat) ≤ a.2.2.toNat := Nat.and_le_left
      have e4 : (meetQ a b).2.2 = ((a.2.2.toNat &&& b.2.2.toNat : Nat) : Int) := rfl
      rw [e4]
      refine ⟨?_, ?_, ?_, ?_, ?_, ?_⟩ <;> (first | omega | (split <;> (first | omega | (split <;> omega))))
    · split <;> omega
    · split <;> omega
theorem not_bit : ∀ d, d < 128 → ∀ k, k < 7 → (127 - d).testBit k = !d.testBit k := by decide
theorem dur_mem (a b : Per) (ha : okQ a = true) (hb : okQ b = true) (n : Int) : hasQ (durQ a b) n = true ↔ hasQ a n = true ∧ b.1 ≤ n ∧ n ≤ b.2.1 ∧ hasQ b n = false := by
  have a1 := okQ_yes ha
  have b1 := okQ_yes hb
  have e1 : (durQ a b).1 = if b.1 < a.1 then a.1 else b.1 := rfl
  have e2 : (durQ a b).2.1 = if a.2.1 < b.2.1 then a.2.1 else b.2.1 := rfl
  have e3 : wdB (durQ a b).2.2 n = (wdB a.2.2 n && !wdB b.2.2 n) := by
    show (a.2.2.toNat &&& (127 - b.2.2.toNat)).testBit (wkN n) = _
    rw [Nat.testBit_and, not_bit _ (by omega) _ (wkN_lt n)]; rfl
  have hbn : b.1 ≤ n → n ≤ b.2.1 → (hasQ b n = false ↔ wdB b.2.2 n = false) := fun h1 h2 => by simp [hasQ, hb, h1, h2]
  simp only [hasQ_iff a, hasQ_iff (durQ a b)]
  rw [e1, e2, e3, Bool.and_eq_true, Bool.not_eq_true']
  constructor
  · rintro ⟨h0, h1, h2, h3⟩
    have k1 : b.1 ≤ n := by split at h1 <;> omega
    have k2 : n ≤ b.2.1 := by split at h2 <;> omega
    refine ⟨⟨ha, ?_, ?_, h3.1⟩, k1, k2, (hbn k1 k2).2 h3.2⟩ <;> (split at h1 <;> split at h2 <;> omega)
  · rintro ⟨⟨_, h1, h2, h3⟩, h4, h5, h6⟩
    have h6 := (hbn h4 h5).1 h6
    refine ⟨okQ_mk ?_, ?_, ?_, h3, h6⟩
    · rw [e1, e2]
      have hm : 0 < (a.2.2.toNat &&& (127 - b.2.2.toNat)) := testBit_pos (k := wkN n) (by
        have : (a.2.2.toNat &&& (127 - b.2.2.toNat)).testBit (wkN n) = (wdB a.2.2 n && !wdB b.2.2 n) := e3
        rw [this, h3, h6]; rfl)
      have hm2 : (a.2.2.toNat &&& (127 - b.2.2.toNat)) ≤ a.2.2.toNat := Nat.and_le_left
      have e4 : (durQ a b).2.2 = ((a.2.2.toNat &&& (127 - b.2.2.toNat) : Nat) : Int) := rfl
      rw [e4]
      refine ⟨?_, ?_, ?_, ?_, ?_, ?_⟩ <;> (first | omega | (split <;> (first | omega | (split <;> omega))))
    · split <;> omega
    · split <;> omega
theorem btw_mem (a : Per) (f t : Int) (ha : okQ a = true) (hf : -1 ≤ f) (n : Int) : hasQ (btw a f t) n = true ↔ hasQ a n = true ∧ f ≤ n ∧ n ≤ t := by
  have a1 := okQ_yes ha
  have e1 : (btw a f t).1 = if f < a.1 then a.1 else f := rfl
  have e2 : (btw a f t).2.1 = if a.2.1 < t then a.2.1 else t := rfl
  have e3 : (btw a f t).2.2 = a.2.2 := rfl
  simp only [hasQ_iff]
  rw [e1, e2, e3]
  constructor
  · rintro ⟨h0, h1, h2, h3⟩
    refine ⟨⟨ha, ?_, ?_, h3⟩, ?_, ?_⟩ <;> (split at h1 <;> split at h2 <;> omega)
  · rintro ⟨⟨_, h1, h2, h3⟩, h4, h5⟩
    refine ⟨okQ_mk ?_, ?_, ?_, h3⟩
    · rw [e1, e2, e3]
      refine ⟨?_, ?_, ?_, ?_, ?_, ?_⟩ <;> (first | omega | (split <;> (first | omega | (split <;> omega))))
    · split <;> omega
    · split <;> omega

/-- what the reference gathers -/
def partQ (l : List Int) (f t : Int) (b : Per) : List Int := l.filter fun n => decide (f ≤ n) && (decide (n ≤ t) && !hasQ b n)
theorem meet_days (a b : Per) (ha : okQ a = true) (hb : okQ b = true) : (daysQ a).filter (fun n => hasQ b n) = daysQ (meetQ a b) :=
  asc_ext (asc_filter (daysQ_asc a) _) (daysQ_asc _) fun n => by
    rw [List.mem_filter, daysQ_mem, daysQ_mem, meet_mem a b ha hb]
theorem dur_days (a b : Per) (ha : okQ a = true) (hb : okQ b = true) : partQ (daysQ a) b.1 b.2.1 b = daysQ (durQ a b) :=
  asc_ext (asc_filter (daysQ_asc a) _) (daysQ_asc _) fun n => by
    rw [partQ, List.mem_filter, daysQ_mem, daysQ_mem, dur_mem a b ha hb]
    simp
theorem before_days (a b : Per) (ha : okQ a = true) (hb : okQ b = true) : partQ (daysQ a) 0 (b.1 - 1) b = daysQ (btw a a.1 (b.1 - 1)) :=
  asc_ext (asc_filter (daysQ_asc a) _) (daysQ_asc _) fun n => by
    have a1 := okQ_yes ha
    have b1 := okQ_yes hb
    rw [partQ, List.mem_filter, daysQ_mem, daysQ_mem, btw_mem a _ _ ha (by omega), hasQ_iff a]
    simp only [Bool.and_eq_true, decide_eq_true_eq, Bool.not_eq_true']
    constructor
    · rintro ⟨h, h1, h2, h3⟩; exact ⟨h, h.2.1, h2⟩
    · rintro ⟨h, h1, h2⟩
      refine ⟨h, by omega, h2, ?_⟩
      cases hb2 : hasQ b n
      · rfl
      · have := (hasQ_iff b n).1 hb2; omega
theorem after_days (a b : Per) (ha : okQ a = true) (hb : okQ b = true) : partQ (daysQ a) (b.2.1 + 1) 36525 b = daysQ (btw a (b.2.1 + 1) a.2.1) :=
  asc_ext (asc_filter (daysQ_asc a) _) (daysQ_asc _) fun n => by
    have a1 := okQ_yes ha
    have b1 := okQ_yes hb
    rw [partQ, List.mem_filter, daysQ_mem, daysQ_mem, btw_mem a _ _ ha (by omega), hasQ_iff a]
    simp only [Bool.and_eq_true, decide_eq_true_eq, Bool.not_eq_true']
    constructor
    · rintro ⟨h, h1, h2, h3⟩; exact ⟨h, by omega, h.2.2.1⟩
    · rintro ⟨h, h1, h2⟩
      refine ⟨h, by omega, by omega, ?_⟩
      cases hb2 : hasQ b n
      · rfl
      · have := (hasQ_iff b n).1 hb2; omega

/-- a list's canonical periods, parts without days omitted -/
def normsQ (l : List Per) : List Per := ((l.map daysQ).filter fun x => decide (x ≠ [])).map accQ
/-- what the difference is -/
def withQ (a b : Per) : List Per := if okQ a then (if okQ b then normsQ [btw a a.1 (b.1 - 1), durQ a b, btw a (b.2.1 + 1) a.2.1] else normsQ [a]) else []
def mtQ (a b : Per) : List Int := if okQ a && okQ b then daysQ (meetQ a b) else []
theorem mtQ_filter (a b : Per) : (daysQ a).filter (fun n => hasQ b n) = mtQ a b := by
  unfold mtQ
  cases ha : okQ a
  · simp [daysQ_no ha]
  · cases hb : okQ b
    · simp [hasQ, hb]
    · simp [meet_days a b ha hb]
theorem mtQ_days (a b : Per) : ∃ q, mtQ a b = daysQ q := by
  unfold mtQ
  split
  · exact ⟨_, rfl⟩
  · exact ⟨(0, 0, 0), rfl⟩
theorem mtQ_mem (a b : Per) (n : Int) : n ∈ mtQ a b ↔ hasQ a n = true ∧ hasQ b n = true := by
  rw [← mtQ_filter, List.mem_filter, daysQ_mem]
theorem mtQ_comm (a b : Per) : mtQ a b = mtQ b a := by
  obtain ⟨q, hq⟩ := mtQ_days a b
  obtain ⟨r, hr⟩ := mtQ_days b a
  refine asc_ext (hq ▸ daysQ_asc q) (hr ▸ daysQ_asc r) fun n => ?_
  rw [mtQ_mem, mtQ_mem, And.comm]
theorem mtQ_self (a : Per) : mtQ a a = daysQ a := by
  obtain ⟨q, hq⟩ := mtQ_days a a
  refine asc_ext (hq ▸ daysQ_asc q) (daysQ_asc a) fun n => ?_
  rw [mtQ_mem, daysQ_mem, and_self]
theorem mt_has (a b : Per) (n : Int) : hasQ (accQ (mtQ a b)) n = (hasQ a n && hasQ b n) := by
  obtain ⟨q, hq⟩ := mtQ_days a b
  have h1 := mtQ_mem a b n
  rw [hq] at h1 ⊢
  rw [canon_has]
  rw [daysQ_mem] at h1
  cases h2 : hasQ q n <;> cases h3 : hasQ a n <;> cases h4 : hasQ b n <;> simp_all
/-- equal sets, equal canonical periods -/
theorem canon_iff (a b : Per) : ofQ (daysQ a) = ofQ (daysQ b) ↔ daysQ a = daysQ b := by
  constructor
  · intro h
    have h1 : accQ (daysQ a) = accQ (daysQ b) := congrArg Prod.fst h
    rw [← canon_days a, h1, canon_days]
  · intro h; rw [h]

/-- how many of a list's periods have a day -/
def cntQ (l : List Per) (n : Int) : Nat := (l.filter fun p => hasQ p n).length
theorem cnt_norms : ∀ (l : List Per) (n : Int), cntQ (normsQ l) n = cntQ l n
  | [], n => rfl
  | p :: r, n => by
    have ih := cnt_norms r n
    unfold cntQ normsQ at ih ⊢
    by_cases h0 : daysQ p = []
    · have hp : hasQ p n = false := by
        cases h : hasQ p n
        · rfl
        · rw [← daysQ_mem, h0] at h; simp at h
      simp [h0, hp] at ih ⊢
      exact ih
    · have hp := canon_has p n
      simp only [List.map_cons, List.filter_cons, ne_eq, h0, not_false_eq_true, decide_true, if_true, hp]
      cases hasQ p n
      · simpa using ih
      · simpa using ih
theorem norms_len (l : List Per) : (normsQ l).length ≤ l.length := by
  unfold normsQ
  rw [List.length_map]
  exact Nat.le_trans (List.length_filter_le _ _) (by simp)
theorem with_len (a b : Per) : (withQ a b).length ≤ 3 := by
  unfold withQ
  split
  · split
    · exact norms_len _
    · exact Nat.le_trans (norms_len _) (by simp)
  · simp
theorem with_cnt (a b : Per) (n : Int) : cntQ (withQ a b) n = if hasQ a n = true ∧ hasQ b n = false then 1 else 0 := by
  unfold withQ
  cases ha : okQ a
  · have : hasQ a n = false := by simp [hasQ, ha]
    simp [cntQ, this]
  · cases hb : okQ b
    · have : hasQ b n = false := by simp [hasQ, hb]
      simp only [if_true, Bool.false_eq_true, if_false]
      rw [cnt_norms, this]
      unfold cntQ
      cases h : hasQ a n <;> simp [h]
    · simp only [if_true]
      rw [cnt_norms]
      have a1 := okQ_yes ha
      have b1 := okQ_yes hb
      have h1 := btw_mem a a.1 (b.1 - 1) ha (by omega) n
      have h2 := dur_mem a b ha hb n
      have h3 := btw_mem a (b.2.1 + 1) a.2.1 ha (by omega) n
      have h4 := hasQ_iff a n
      have h5 := hasQ_iff b n
      unfold cntQ
      cases e1 : hasQ (btw a a.1 (b.1 - 1)) n <;> cases e2 : hasQ (durQ a b) n <;> cases e3 : hasQ (btw a (b.2.1 + 1) a.2.1) n <;> cases e4 : hasQ a n <;> cases e5 : hasQ b n <;> simp [e1, e2, e3, e4, e5] at h1 h2 h3 h4 h5 ⊢ <;> omega

/-! ### moved by a week -/
def weekQ (p : Per) : Per := (p.1 + 7, p.2.1 + 7, p.2.2)
theorem week_has (p : Per) (n : Int) (hp : okQ p = true) (hq : okQ (weekQ p) = true) : hasQ (weekQ p) (n + 7) = hasQ p n := by
  have e1 : (weekQ p).1 = p.1 + 7 := rfl
  have e2 : (weekQ p).2.1 = p.2.1 + 7 := rfl
  have e3 : (weekQ p).2.2 = p.2.2 := rfl
  have w : wdB p.2.2 (n + 7) = wdB p.2.2 n := by unfold wdB; rw [wkN_week]
  have i1 : (p.1 + 7 ≤ n + 7) = (p.1 ≤ n) := by simp
  have i2 : (n + 7 ≤ p.2.1 + 7) = (n ≤ p.2.1) := by simp
  rw [hasQ, hasQ, hp, hq, e1, e2, e3, w]
  simp only [i1, i2]
theorem week_cnt (p : Per) (hp : okQ p = true) (hq : okQ (weekQ p) = true) : (daysQ (weekQ p)).length = (daysQ p).length := by
  have h : daysQ (weekQ p) = (daysQ p).map (· + 7) := by
    refine asc_ext (daysQ_asc _) ?_ fun n => ?_
    · unfold Asc
      rw [List.pairwise_map]
      exact (daysQ_asc p).imp (by intro a b h; omega)
    · rw [daysQ_mem, List.mem_map]
      constructor
      · intro h
        refine ⟨n - 7, ?_, by omega⟩
        rw [daysQ_mem, ← week_has p _ hp hq]
        have : n - 7 + 7 = n := by omega
        rw [this]; exact h
      · rintro ⟨m, hm, rfl⟩
        rw [week_has p m hp hq, ← daysQ_mem]; exact hm
  rw [h, List.length_map]

end Go.Proofs.YtnfdmdhpbaifiaaDoor
