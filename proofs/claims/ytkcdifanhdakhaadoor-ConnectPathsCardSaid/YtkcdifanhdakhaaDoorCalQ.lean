/- Plain facts on digits, dates and times as text: lists of bytes alone; nothing of the program. -/
import Derived.Test.YtkcdifanhdakhaaDoorCalP
namespace Go.Proofs.YtkcdifanhdakhaaDoor
set_option linter.unusedSimpArgs false
set_option linter.unusedVariables false

def digB (c : UInt8) : Bool := decide (48 ≤ (c.toNat : Int) ∧ (c.toNat : Int) ≤ 57)
theorem dig_nat {c : UInt8} (h : digB c = true) : 48 ≤ (c.toNat : Int) ∧ (c.toNat : Int) ≤ 57 := by simpa [digB] using h
/-- whether a text is like a pattern, in which 48 stands for any digit -/
def oneB (c q : UInt8) : Bool := if q = 48 then digB c else c == q
def fitsB : List UInt8 → List UInt8 → Bool
  | [], [] => true
  | c :: r, q :: t => oneB c q && fitsB r t
  | _, _ => false
theorem fits_len : ∀ (l p : List UInt8), fitsB l p = true → l.length = p.length
  | [], [], _ => rfl
  | [], _ :: _, h => by simp [fitsB] at h
  | _ :: _, [], h => by simp [fitsB] at h
  | c :: r, q :: t, h => by
    have h' : oneB c q = true ∧ fitsB r t = true := by simpa [fitsB] using h
    simp [fits_len r t h'.2]
theorem fits_no (l p : List UInt8) (h : l.length ≠ p.length) : fitsB l p = false := by
  cases hf : fitsB l p
  · rfl
  · exact absurd (fits_len l p hf) h
theorem fits_step (l p : List UInt8) (k : Nat) (h : k < l.length) (h2 : k < p.length) : fitsB (l.drop k) (p.drop k) = (oneB l[k] p[k] && fitsB (l.drop (k + 1)) (p.drop (k + 1))) := by
  rw [List.drop_eq_getElem_cons h, List.drop_eq_getElem_cons h2, fitsB]
theorem fits_end (l p : List UInt8) (h : l.length = p.length) (k : Nat) (hk : l.length ≤ k) : fitsB (l.drop k) (p.drop k) = true := by
  rw [List.drop_eq_nil_of_le hk, List.drop_eq_nil_of_le (by omega), fitsB]
/-- the number of a few digits -/
def numL (a : Int) (l : List UInt8) : Int := l.foldl (fun a c => 10 * a + ((c.toNat : Int) - 48)) a
theorem numL_nil (a : Int) : numL a [] = a := rfl
theorem numL_cons (a : Int) (c : UInt8) (r : List UInt8) : numL a (c :: r) = numL (10 * a + ((c.toNat : Int) - 48)) r := rfl
theorem numL_step (a : Int) (l : List UInt8) (k : Nat) (h : k < l.length) : numL a (l.drop k) = numL (10 * a + ((l[k].toNat : Int) - 48)) (l.drop (k + 1)) := by
  rw [List.drop_eq_getElem_cons h, numL_cons]
theorem numL_end (a : Int) (l : List UInt8) (k : Nat) (h : l.length ≤ k) : numL a (l.drop k) = a := by
  rw [List.drop_eq_nil_of_le h, numL_nil]

/-- two digits -/
def d1 (n : Int) : UInt8 := UInt8.ofNat (48 + n / 10).toNat
def d2 (n : Int) : UInt8 := UInt8.ofNat (48 + n % 10).toNat
def twoL (n : Int) : List UInt8 := [d1 n, d2 n]
theorem d1_nat (n : Int) (h0 : 0 ≤ n) (h1 : n ≤ 99) : ((d1 n).toNat : Int) = 48 + n / 10 := by
  rw [d1, UInt8.toNat_ofNat']; omega
theorem d2_nat (n : Int) (h0 : 0 ≤ n) (h1 : n ≤ 99) : ((d2 n).toNat : Int) = 48 + n % 10 := by
  rw [d2, UInt8.toNat_ofNat']; omega
theorem dig_d1 (n : Int) (h0 : 0 ≤ n) (h1 : n ≤ 99) : digB (d1 n) = true := by
  have := d1_nat n h0 h1; simp [digB]; omega
theorem dig_d2 (n : Int) (h0 : 0 ≤ n) (h1 : n ≤ 99) : digB (d2 n) = true := by
  have := d2_nat n h0 h1; simp [digB]; omega
theorem two_back {a b : UInt8} (ha : digB a = true) (hb : digB b = true) (n : Int) (hn : n = 10 * ((a.toNat : Int) - 48) + ((b.toNat : Int) - 48)) : twoL n = [a, b] := by
  have h1 := dig_nat ha
  have h2 := dig_nat hb
  have e1 := d1_nat n (by omega) (by omega)
  have e2 := d2_nat n (by omega) (by omega)
  have f1 : d1 n = a := UInt8.toNat_inj.1 (by omega)
  have f2 : d2 n = b := UInt8.toNat_inj.1 (by omega)
  rw [twoL, f1, f2]
/-- a day's date as text, a minute as text -/
def dateL (y m d : Int) : List UInt8 := twoL (y / 100) ++ twoL (y % 100) ++ [45] ++ twoL m ++ [45] ++ twoL d
def printL (n : Int) : List UInt8 := if isDayB n then dateL (dateR n).1 (dateR n).2.1 (dateR n).2.2 else []
def isMinB (n : Int) : Bool := decide (0 ≤ n ∧ n < 1440)
def clockL (n : Int) : List UInt8 := if isMinB n then twoL (n / 60) ++ [58] ++ twoL (n % 60) else []
/-- the texts' patterns; how they are read -/
def patD : List UInt8 := [48, 48, 48, 48, 45, 48, 48, 45, 48, 48]
def patM : List UInt8 := [48, 48, 58, 48, 48]
def parseP (l : List UInt8) : Int × Int := if fitsB l patD then dayR (numL 0 (l.take 4)) (numL 0 ((l.drop 5).take 2)) (numL 0 (l.drop 8)) else (0, 3)
def minP (l : List UInt8) : Int × Int :=
  if fitsB l patM then (if numL 0 (l.take 2) ≤ 23 ∧ numL 0 (l.drop 3) ≤ 59 then (numL 0 (l.take 2) * 60 + numL 0 (l.drop 3), 0) else (0, 13)) else (0, 3)
theorem len_ten (l : List UInt8) (h : l.length = 10) : ∃ a b c d e f g h i j, l = [a, b, c, d, e, f, g, h, i, j] := by
  match l, h with
  | [a, b, c, d, e, f, g, h, i, j], _ => exact ⟨a, b, c, d, e, f, g, h, i, j, rfl⟩
theorem len_five (l : List UInt8) (h : l.length = 5) : ∃ a b c d e, l = [a, b, c, d, e] := by
  match l, h with
  | [a, b, c, d, e], _ => exact ⟨a, b, c, d, e, rfl⟩
theorem fits_date {a b c d e f g h i j : UInt8} : fitsB [a, b, c, d, e, f, g, h, i, j] patD = (digB a && (digB b && (digB c && (digB d && (e == 45 && (digB f && (digB g && (h == 45 && (digB i && digB j))))))))) := by
  simp [fitsB, patD, oneB]
theorem fits_min {a b c d e : UInt8} : fitsB [a, b, c, d, e] patM = (digB a && (digB b && (c == 58 && (digB d && digB e)))) := by
  simp [fitsB, patM, oneB]
/-- what is read is what is written -/
theorem parse_back {l : List UInt8} {n : Int} (h : parseP l = (n, 0)) : printL n = l := by
  unfold parseP at h
  split at h
  · rename_i hf
    have hl : l.length = 10 := fits_len _ _ hf
    obtain ⟨a, b, c, d, e, f, g, h', i, j, rfl⟩ := len_ten l hl
    rw [fits_date] at hf
    simp only [Bool.and_eq_true, beq_iff_eq] at hf
    obtain ⟨ha, hb, hc, hd, rfl, hf', hg, rfl, hi, hj⟩ := hf
    obtain ⟨hn, hR⟩ := day_back h
    have := dig_nat ha
    have := dig_nat hb
    have := dig_nat hc
    have := dig_nat hd
    rw [printL, if_pos hn, hR]
    simp only [List.take_succ_cons, List.take_zero, List.drop_succ_cons, List.drop_zero, numL_cons, numL_nil, dateL]
    rw [two_back ha hb _ (by omega), two_back hc hd _ (by omega), two_back hf' hg _ (by omega), two_back hi hj _ (by omega)]
    rfl
  · simp at h
theorem num_two (n : Int) (h0 : 0 ≤ n) (h1 : n ≤ 99) : numL 0 (twoL n) = n := by
  have := d1_nat n h0 h1
  have := d2_nat n h0 h1
  simp only [twoL, numL_cons, numL_nil]
  omega
theorem parse_print (n : Int) : parseP (printL n) = if isDayB n then (n, 0) else (0, 3) := by
  cases hn : isDayB n
  · rw [printL, hn]; rfl
  · obtain ⟨hk, hN⟩ := date_in hn
    obtain ⟨y, m, d, hR⟩ : ∃ y m d, dateR n = (y, m, d) := ⟨_, _, _, rfl⟩
    have hD := day_date n
    rw [hR] at hk hD
    rw [if_pos hn] at hD
    obtain ⟨y0, y1, m0, m1, d0, d1'⟩ : 2000 ≤ y ∧ y ≤ 2099 ∧ 1 ≤ m ∧ m ≤ 12 ∧ 1 ≤ d ∧ d ≤ lenP y m := ok_yes hk
    have hl := len_range y m
    have a1 := d1_nat (y / 100) (by omega) (by omega)
    have a2 := d2_nat (y / 100) (by omega) (by omega)
    have a3 := d1_nat (y % 100) (by omega) (by omega)
    have a4 := d2_nat (y % 100) (by omega) (by omega)
    have hf : fitsB (dateL y m d) patD = true := by
      show fitsB [d1 (y / 100), d2 (y / 100), d1 (y % 100), d2 (y % 100), 45, d1 m, d2 m, 45, d1 d, d2 d] patD = true
      rw [fits_date, dig_d1 _ (by omega) (by omega), dig_d2 _ (by omega) (by omega), dig_d1 _ (by omega) (by omega), dig_d2 _ (by omega) (by omega), dig_d1 _ (by omega) (by omega), dig_d2 _ (by omega) (by omega), dig_d1 _ (by omega) (by omega), dig_d2 _ (by omega) (by omega)]
      rfl
    have e1 : (dateL y m d).take 4 = [d1 (y / 100), d2 (y / 100), d1 (y % 100), d2 (y % 100)] := rfl
    have e2 : ((dateL y m d).drop 5).take 2 = twoL m := rfl
    have e3 : (dateL y m d).drop 8 = twoL d := rfl
    have e4 : numL 0 [d1 (y / 100), d2 (y / 100), d1 (y % 100), d2 (y % 100)] = y := by simp only [numL_cons, numL_nil]; omega
    rw [printL, if_pos hn, hR]
    show parseP (dateL y m d) = _
    rw [parseP, if_pos hf, e1, e2, e3, e4, num_two m (by omega) (by omega), num_two d (by omega) (by omega)]
    exact hD
theorem min_back {l : List UInt8} {n : Int} (h : minP l = (n, 0)) : clockL n = l := by
  unfold minP at h
  split at h
  · rename_i hf
    have hl : l.length = 5 := fits_len _ _ hf
    obtain ⟨a, b, c, d, e, rfl⟩ := len_five l hl
    rw [fits_min] at hf
    simp only [Bool.and_eq_true, beq_iff_eq] at hf
    obtain ⟨ha, hb, rfl, hd, he⟩ := hf
    have := dig_nat ha
    have := dig_nat hb
    have := dig_nat hd
    have := dig_nat he
    split at h
    · rename_i hk
      simp only [List.take_succ_cons, List.take_zero, List.drop_succ_cons, List.drop_zero, numL_cons, numL_nil] at hk h
      have hn : n = (10 * (10 * 0 + ((a.toNat : Int) - 48)) + ((b.toNat : Int) - 48)) * 60 + (10 * (10 * 0 + ((d.toNat : Int) - 48)) + ((e.toNat : Int) - 48)) := (congrArg Prod.fst h).symm
      rw [clockL, if_pos (by simp [isMinB]; omega), two_back ha hb _ (by omega), two_back hd he _ (by omega)]
      rfl
    · simp at h
  · simp at h
theorem min_clock (n : Int) : minP (clockL n) = if isMinB n then (n, 0) else (0, 3) := by
  cases hn : isMinB n
  · rw [clockL, hn]; rfl
  · have h : 0 ≤ n ∧ n < 1440 := by simpa [isMinB] using hn
    have hf : fitsB (twoL (n / 60) ++ [58] ++ twoL (n % 60)) patM = true := by
      show fitsB [d1 (n / 60), d2 (n / 60), 58, d1 (n % 60), d2 (n % 60)] patM = true
      rw [fits_min, dig_d1 _ (by omega) (by omega), dig_d2 _ (by omega) (by omega), dig_d1 _ (by omega) (by omega), dig_d2 _ (by omega) (by omega)]
      rfl
    have e1 : (twoL (n / 60) ++ [58] ++ twoL (n % 60)).take 2 = twoL (n / 60) := rfl
    have e2 : (twoL (n / 60) ++ [58] ++ twoL (n % 60)).drop 3 = twoL (n % 60) := rfl
    rw [clockL, if_pos hn, minP, if_pos hf, e1, e2, num_two _ (by omega) (by omega), num_two _ (by omega) (by omega), if_pos (by omega)]
    simp
    omega

/-- the reference's number of digits, or -1 -/
def digR (l : List UInt8) (a n : Nat) : Int := if ((l.drop a).take n).all digB then numL 0 ((l.drop a).take n) else -1
theorem numL_pos : ∀ (l : List UInt8) (a : Int), 0 ≤ a → l.all digB = true → 0 ≤ numL a l
  | [], a, h, _ => h
  | c :: r, a, h, hd => by
    have hd' : digB c = true ∧ r.all digB = true := by simpa using hd
    have := dig_nat hd'.1
    rw [numL_cons]
    exact numL_pos r _ (by omega) hd'.2
theorem digR_neg (l : List UInt8) (a n : Nat) : digR l a n < 0 ↔ ((l.drop a).take n).all digB = false := by
  unfold digR
  split
  · rename_i h
    have := numL_pos _ 0 (by omega) h
    rw [h]
    simp
    omega
  · rename_i h
    simp only [Bool.not_eq_true] at h
    rw [h]
    simp
theorem digR_ge (l : List UInt8) (a n : Nat) : -1 ≤ digR l a n := by
  unfold digR
  split
  · rename_i h
    have := numL_pos _ 0 (by omega) h
    omega
  · omega
theorem digR_yes {l : List UInt8} {a n : Nat} (h : ¬ digR l a n < 0) : ((l.drop a).take n).all digB = true ∧ digR l a n = numL 0 ((l.drop a).take n) := by
  have h1 : ((l.drop a).take n).all digB = true := by
    cases hc : ((l.drop a).take n).all digB
    · exact absurd ((digR_neg l a n).2 hc) h
    · rfl
  exact ⟨h1, by rw [digR, if_pos h1]⟩
theorem rparse_len {l : List UInt8} (h : l.length ≠ 10) : parseP l = (0, 3) := by
  rw [parseP, fits_no _ _ (by simpa [patD] using h)]; rfl
theorem rparse_hy {l : List UInt8} (h : l.length = 10) (h2 : l[4] ≠ 45 ∨ l[7] ≠ 45) : parseP l = (0, 3) := by
  obtain ⟨a, b, c, d, e, f, g, h', i, j, rfl⟩ := len_ten l h
  have hf : fitsB [a, b, c, d, e, f, g, h', i, j] patD = false := by
    rw [fits_date]
    rcases h2 with h2 | h2
    · have : (e == 45) = false := by rw [beq_eq_false_iff_ne]; exact h2
      simp [this]
    · have : (h' == 45) = false := by rw [beq_eq_false_iff_ne]; exact h2
      simp [this]
  rw [parseP, hf]; rfl
theorem rparse_neg {l : List UInt8} (h : l.length = 10) (h2 : digR l 0 4 < 0 ∨ digR l 5 2 < 0 ∨ digR l 8 2 < 0) : parseP l = (0, 3) := by
  simp only [digR_neg] at h2
  obtain ⟨a, b, c, d, e, f, g, h', i, j, rfl⟩ := len_ten l h
  have hf : fitsB [a, b, c, d, e, f, g, h', i, j] patD = false := by
    rw [fits_date]
    cases hc : (digB a && (digB b && (digB c && (digB d && (e == 45 && (digB f && (digB g && (h' == 45 && (digB i && digB j)))))))))
    · rfl
    · simp only [Bool.and_eq_true] at hc
      obtain ⟨ha, hb, hc, hd, _, hf, hg, _, hi, hj⟩ := hc
      rcases h2 with h2 | h2 | h2 <;> simp [ha, hb, hc, hd, hf, hg, hi, hj] at h2
  rw [parseP, hf]; rfl
theorem rparse_ok {l : List UInt8} (h : l.length = 10) (h4 : l[4] = 45) (h7 : l[7] = 45) (hy : ¬ digR l 0 4 < 0) (hm : ¬ digR l 5 2 < 0) (hd : ¬ digR l 8 2 < 0) :
    parseP l = dayR (digR l 0 4) (digR l 5 2) (digR l 8 2) := by
  obtain ⟨y1, y2⟩ := digR_yes hy
  obtain ⟨m1, m2⟩ := digR_yes hm
  obtain ⟨d1, d2⟩ := digR_yes hd
  rw [y2, m2, d2]
  clear hy hm hd y2 m2 d2
  obtain ⟨a, b, c, d, e, f, g, h', i, j, rfl⟩ := len_ten l h
  simp at y1 m1 d1 h4 h7
  have hf : fitsB [a, b, c, d, e, f, g, h', i, j] patD = true := by
    rw [fits_date]; simp [y1, m1, d1, h4, h7]
  rw [parseP, if_pos hf]; rfl
theorem rmin_len {l : List UInt8} (h : l.length ≠ 5) : minP l = (0, 3) := by
  rw [minP, fits_no _ _ (by simpa [patM] using h)]; rfl
theorem rmin_hy {l : List UInt8} (h : l.length = 5) (h2 : l[2] ≠ 58) : minP l = (0, 3) := by
  obtain ⟨a, b, c, d, e, rfl⟩ := len_five l h
  have hf : fitsB [a, b, c, d, e] patM = false := by
    rw [fits_min]
    have : (c == 58) = false := by rw [beq_eq_false_iff_ne]; exact h2
    simp [this]
  rw [minP, hf]; rfl
theorem rmin_neg {l : List UInt8} (h : l.length = 5) (h2 : digR l 0 2 < 0 ∨ digR l 3 2 < 0) : minP l = (0, 3) := by
  simp only [digR_neg] at h2
  obtain ⟨a, b, c, d, e, rfl⟩ := len_five l h
  have hf : fitsB [a, b, c, d, e] patM = false := by
    rw [fits_min]
    cases hc : (digB a && (digB b && (c == 58 && (digB d && digB e))))
    · rfl
    · simp only [Bool.and_eq_true] at hc
      obtain ⟨ha, hb, _, hd, he⟩ := hc
      rcases h2 with h2 | h2 <;> simp [ha, hb, hd, he] at h2
  rw [minP, hf]; rfl
theorem rmin_ok {l : List UInt8} (h : l.length = 5) (h4 : l[2] = 58) (hy : ¬ digR l 0 2 < 0) (hm : ¬ digR l 3 2 < 0) :
    minP l = if digR l 0 2 ≤ 23 ∧ digR l 3 2 ≤ 59 then (digR l 0 2 * 60 + digR l 3 2, 0) else (0, 13) := by
  obtain ⟨y1, y2⟩ := digR_yes hy
  obtain ⟨m1, m2⟩ := digR_yes hm
  rw [y2, m2]
  clear hy hm y2 m2
  obtain ⟨a, b, c, d, e, rfl⟩ := len_five l h
  simp at y1 m1 h4
  have hf : fitsB [a, b, c, d, e] patM = true := by
    rw [fits_min]; simp [y1, m1, h4]
  rw [minP, if_pos hf]; rfl

theorem part_next (l : List UInt8) (a k : Nat) (h : a + k < l.length) : (l.drop a).take (k + 1) = (l.drop a).take k ++ [l[a + k]] := by
  rw [List.take_succ_eq_append_getElem (by simp; omega)]
  simp
theorem part_all (l : List UInt8) (a k : Nat) (h : a + k < l.length) (h1 : ((l.drop a).take k).all digB = true) (h2 : digB l[a + k] = true) : ((l.drop a).take (k + 1)).all digB = true := by
  rw [part_next l a k h, List.all_append, h1]
  simpa using h2
theorem part_num (l : List UInt8) (a k : Nat) (h : a + k < l.length) : numL 0 ((l.drop a).take (k + 1)) = 10 * numL 0 ((l.drop a).take k) + ((l[a + k].toNat : Int) - 48) := by
  rw [part_next l a k h, numL, numL, List.foldl_append]
  rfl
theorem part_bad (l : List UInt8) (a k n : Nat) (hk : k < n) (h : a + k < l.length) (h2 : digB l[a + k] = false) : digR l a n = -1 := by
  have h3 : ((l.drop a).take n).all digB = false := by
    rw [List.all_eq_false]
    refine ⟨l[a + k], ?_, by simp [h2]⟩
    rw [List.mem_iff_getElem]
    exact ⟨k, by simp; omega, by simp⟩
  rw [digR, if_neg (by simp [h3])]

end Go.Proofs.YtkcdifanhdakhaaDoor
