/- Plain facts on days and dates: integers alone; nothing of the program. -/
namespace Go.Proofs.YtkcdifanhdakhaaDoor

/-- the days of a month, before a year, before a month of a year -/
def lenP (y m : Int) : Int := if m = 4 ∨ m = 6 ∨ m = 9 ∨ m = 11 then 30 else if m = 2 then (if y % 4 = 0 then 29 else 28) else 31
def ysP (y : Int) : Int := (1461 * (y - 2000) + 3) / 4
def lp (y : Int) : Int := if y % 4 = 0 then 1 else 0
def befP (y m : Int) : Int := if m ≤ 1 then 0 else if m = 2 then 31 else (153 * (m - 3) + 2) / 5 + 59 + lp y
theorem lp_two (y : Int) : lp y = 0 ∨ lp y = 1 := by unfold lp; split <;> simp
theorem len_lp (y m : Int) : lenP y m = if m = 4 ∨ m = 6 ∨ m = 9 ∨ m = 11 then 30 else if m = 2 then 28 + lp y else 31 := by
  unfold lenP lp; split
  · rfl
  · split
    · split <;> rfl
    · rfl
theorem len_range (y m : Int) : 28 ≤ lenP y m ∧ lenP y m ≤ 31 := by
  rw [len_lp]; have := lp_two y
  split
  · omega
  · split <;> omega
theorem bef_one (y : Int) : befP y 1 = 0 := by simp [befP]
theorem bef_next (y m : Int) (h1 : 1 ≤ m) (h2 : m ≤ 12) : befP y (m + 1) = befP y m + lenP y m := by
  have h : m = 1 ∨ m = 2 ∨ m = 3 ∨ m = 4 ∨ m = 5 ∨ m = 6 ∨ m = 7 ∨ m = 8 ∨ m = 9 ∨ m = 10 ∨ m = 11 ∨ m = 12 := by omega
  rw [len_lp]
  rcases h with rfl | rfl | rfl | rfl | rfl | rfl | rfl | rfl | rfl | rfl | rfl | rfl <;> simp [befP] <;> omega
theorem bef_all (y : Int) : befP y 13 = 365 + lp y := by
  have e : befP y 13 = (153 * (13 - 3) + 2) / 5 + 59 + lp y := by simp [befP]
  rw [e]; omega
theorem ys_next (y : Int) : ysP (y + 1) = ysP y + befP y 13 := by
  rw [bef_all]
  have h : y % 4 = 0 ∨ y % 4 = 1 ∨ y % 4 = 2 ∨ y % 4 = 3 := by omega
  unfold ysP lp
  rcases h with h | h | h | h <;> simp only [h] <;> simp <;> omega
theorem ys_first : ysP 2000 = 0 := by decide
theorem ys_last : ysP 2100 = 36525 := by decide
theorem ys_mono (y z : Int) (h : y ≤ z) : ysP y ≤ ysP z := by unfold ysP; omega
theorem bef_mono (y m k : Int) (h1 : 1 ≤ m) (h2 : m ≤ k) (h3 : k ≤ 13) : befP y m ≤ befP y k := by
  have := lp_two y
  unfold befP
  split <;> split <;> (try split) <;> (try split) <;> omega
theorem bef_lt (y m k : Int) (h1 : 1 ≤ m) (h2 : m < k) (h3 : k ≤ 13) : befP y m + lenP y m ≤ befP y k := by
  rw [← bef_next y m h1 (by omega)]
  exact bef_mono y _ _ (by omega) (by omega) h3

/-- a date that there is; its day; the day of a date or the error -/
def okP (y m d : Int) : Bool := decide (2000 ≤ y ∧ y ≤ 2099 ∧ 1 ≤ m ∧ m ≤ 12 ∧ 1 ≤ d ∧ d ≤ lenP y m)
def numP (y m d : Int) : Int := ysP y + befP y m + d - 1
def dayR (y m d : Int) : Int × Int := if okP y m d then (numP y m d, 0) else (0, 12)
theorem ok_yes {y m d : Int} (h : okP y m d = true) : 2000 ≤ y ∧ y ≤ 2099 ∧ 1 ≤ m ∧ m ≤ 12 ∧ 1 ≤ d ∧ d ≤ lenP y m := by simpa [okP] using h
theorem ok_mk {y m d : Int} (h : 2000 ≤ y ∧ y ≤ 2099 ∧ 1 ≤ m ∧ m ≤ 12 ∧ 1 ≤ d ∧ d ≤ lenP y m) : okP y m d = true := by simpa [okP] using h
theorem ok_not {y m d : Int} (h : y < 2000 ∨ 2099 < y ∨ m < 1 ∨ 12 < m ∨ d < 1 ∨ lenP y m < d) : okP y m d = false := by
  cases hk : okP y m d
  · rfl
  · have := ok_yes hk; omega
/-- where a date's day lies: in its year, in its month -/
theorem num_in {y m d : Int} (h : okP y m d = true) : ysP y ≤ numP y m d ∧ numP y m d < ysP (y + 1) ∧ befP y m ≤ numP y m d - ysP y ∧ numP y m d - ysP y < befP y m + lenP y m ∧ 0 ≤ numP y m d ∧ numP y m d < 36525 := by
  obtain ⟨h1, h2, h3, h4, h5, h6⟩ := ok_yes h
  have a := bef_lt y m 13 h3 (by omega) (by omega)
  have b := bef_mono y 1 m (by omega) h3 (by omega)
  rw [bef_one] at b
  have c := ys_next y
  have e := ys_mono 2000 y h1
  have f := ys_mono (y + 1) 2100 (by omega)
  rw [ys_first] at e
  rw [ys_last] at f
  unfold numP
  omega
theorem num_inj {y m d y' m' d' : Int} (h : okP y m d = true) (h' : okP y' m' d' = true) (he : numP y m d = numP y' m' d') : y = y' ∧ m = m' ∧ d = d' := by
  have a := num_in h
  have a' := num_in h'
  obtain ⟨h1, h2, h3, h4, h5, h6⟩ := ok_yes h
  obtain ⟨h1', h2', h3', h4', h5', h6'⟩ := ok_yes h'
  have ey : y = y' := by
    rcases Int.lt_trichotomy y y' with c | c | c
    · have := ys_mono (y + 1) y' (by omega); omega
    · exact c
    · have := ys_mono (y' + 1) y (by omega); omega
  subst ey
  have em : m = m' := by
    rcases Int.lt_trichotomy m m' with c | c | c
    · have := bef_lt y m m' h3 c (by omega); omega
    · exact c
    · have := bef_lt y m' m h3' c (by omega); omega
  subst em
  unfold numP at he
  exact ⟨rfl, rfl, by omega⟩
/-- the year, the month and the day of the month of a day -/
def yOf (n : Int) : Int := 2000 + 4 * n / 1461
def mOf (y r : Int) : Int := if r < befP y 2 then 1 else if r < befP y 3 then 2 else if r < befP y 4 then 3 else if r < befP y 5 then 4 else if r < befP y 6 then 5 else if r < befP y 7 then 6
  else if r < befP y 8 then 7 else if r < befP y 9 then 8 else if r < befP y 10 then 9 else if r < befP y 11 then 10 else if r < befP y 12 then 11 else 12
theorem yOf_in (n : Int) : ysP (yOf n) ≤ n ∧ n < ysP (yOf n + 1) := by unfold ysP yOf; omega
theorem mOf_in (y r : Int) (h0 : 0 ≤ r) (h1 : r < befP y 13) : 1 ≤ mOf y r ∧ mOf y r ≤ 12 ∧ befP y (mOf y r) ≤ r ∧ r < befP y (mOf y r + 1) := by
  unfold mOf
  repeat' split
  all_goals first | (refine ⟨by omega, by omega, ?_, ?_⟩ <;> simp [befP] at * <;> omega) | skip
def dateOf (n : Int) : Int × Int × Int := (yOf n, mOf (yOf n) (n - ysP (yOf n)), n - ysP (yOf n) - befP (yOf n) (mOf (yOf n) (n - ysP (yOf n))) + 1)
def isDayB (n : Int) : Bool := decide (0 ≤ n ∧ n < 36525)
def dateR (n : Int) : Int × Int × Int := if isDayB n then dateOf n else (0, 0, 0)
theorem date_ok (n : Int) (h0 : 0 ≤ n) (h1 : n < 36525) : okP (dateOf n).1 (dateOf n).2.1 (dateOf n).2.2 = true ∧ numP (dateOf n).1 (dateOf n).2.1 (dateOf n).2.2 = n := by
  have a := yOf_in n
  rw [ys_next] at a
  have b := mOf_in (yOf n) (n - ysP (yOf n)) (by omega) (by omega)
  have c := bef_next (yOf n) (mOf (yOf n) (n - ysP (yOf n))) b.1 b.2.1
  refine ⟨ok_mk ?_, ?_⟩
  · simp only [dateOf]
    have : 2000 ≤ yOf n ∧ yOf n ≤ 2099 := by unfold yOf; omega
    omega
  · simp only [dateOf, numP]; omega
theorem date_of {n y m d : Int} (h : okP y m d = true) (hn : numP y m d = n) : dateR n = (y, m, d) := by
  have a := num_in h
  have h0 : 0 ≤ n ∧ n < 36525 := by omega
  obtain ⟨h1, h2⟩ := date_ok n h0.1 h0.2
  obtain ⟨e1, e2, e3⟩ := num_inj h1 h (by rw [h2, hn])
  rw [dateR, if_pos (by simp [isDayB, h0])]
  exact Prod.ext e1 (Prod.ext e2 e3)
theorem date_in {n : Int} (h : isDayB n = true) : okP (dateR n).1 (dateR n).2.1 (dateR n).2.2 = true ∧ numP (dateR n).1 (dateR n).2.1 (dateR n).2.2 = n := by
  have h' : 0 ≤ n ∧ n < 36525 := by simpa [isDayB] using h
  rw [dateR, if_pos h]
  exact date_ok n h'.1 h'.2
theorem date_out {n : Int} (h : isDayB n = false) : dateR n = (0, 0, 0) := by simp [dateR, h]
theorem day_date (n : Int) : dayR (dateR n).1 (dateR n).2.1 (dateR n).2.2 = if isDayB n then (n, 0) else (0, 12) := by
  cases h : isDayB n
  · rw [date_out h]; rfl
  · obtain ⟨a, b⟩ := date_in h
    rw [dayR, if_pos a, b]; rfl
theorem day_back {n : Int} {y m d : Int} (h : dayR y m d = (n, 0)) : isDayB n = true ∧ dateR n = (y, m, d) := by
  unfold dayR at h
  split at h
  · rename_i hk
    have e : numP y m d = n := by simpa using h
    have a := num_in hk
    exact ⟨by simp [isDayB]; omega, date_of hk e⟩
  · simp at h

end Go.Proofs.YtkcdifanhdakhaaDoor
